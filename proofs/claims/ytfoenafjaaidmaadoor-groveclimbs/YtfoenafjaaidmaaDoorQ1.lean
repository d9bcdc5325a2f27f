/-
  What Size, head, sum and Digest of package seal answer.
-/
import Derived.Test.YtfoenafjaaidmaaDoorQ0
namespace Go.Proofs.YtfoenafjaaidmaaDoor
open Go.RowKit
set_option linter.unusedVariables false
set_option linter.unusedSimpArgs false
set_option maxRecDepth 100000

theorem Size7_any (z : Int) (w : World) : Calls Tryd.prog 34 #[.int .i64 z] w fun e w' => e = .returned (.int .i64 (sizeOfAlg z : Nat)) ∧ w = w' := by
  unfold sizeOfAlg
  by_cases h1 : z = 1
  · subst h1
    go_enter Tryd.func34, Tryd.ntmps34
    go_wp2
    go_ret
    exact ⟨rfl, rfl⟩
  · by_cases h2 : z = 2
    · subst h2
      go_enter Tryd.func34, Tryd.ntmps34
      go_wp2
      go_ret
      exact ⟨rfl, rfl⟩
    · rw [if_neg h1, if_neg h2]
      have d1 : (z == 1) = false := by simp [h1]
      have d2 : (z == 2) = false := by simp [h2]
      go_enter Tryd.func34, Tryd.ntmps34
      go_wp2
      go_ret
      exact ⟨rfl, rfl⟩
/-- An answer: a digest. -/
def GivesDg (w : World) (s : Nat) (l : List Nat) (e : Ending) (w' : World) : Prop := ∃ g, e = .returned (.slice (some ⟨g, 0, none⟩) s s) ∧ w.heap.size ≤ g ∧ Blk w' g 5 (cn .u8 l) ∧ Below w.heap.size w w'
/-- An answer: a digest, and no error. -/
def GivesDgT (w : World) (s : Nat) (l : List Nat) (e : Ending) (w' : World) : Prop := ∃ g, e = .returned (.tuple #[.slice (some ⟨g, 0, none⟩) s s, .int .i64 0]) ∧ w.heap.size ≤ g ∧ Blk w' g 5 (cn .u8 l) ∧ Below w.heap.size w w'
/-- An answer: nothing, and an error. -/
def NoBs (w : World) (er : Int) (e : Ending) (w' : World) : Prop := e = .returned (.tuple #[.slice none 0 0, .int .i64 er]) ∧ Below w.heap.size w w'
set_option maxHeartbeats 1000000 in
theorem sum7_any (z : Nat) (hz : z = 1 ∨ z = 2) (s : Nat) (hs : sizeOfAlg z = s) (A : Option Addr) (n cap : Nat) (ps : List Bt) (w : World) (hP : PartsR w A n ps) (hn : n ≤ 1000) (hl : (flat ps).length ≤ 50000) (ht : Both w) :
    Calls Tryd.prog 61 #[.int .i64 (z : Int), .slice A n cap] w (GivesDg w s (sumOf z (flat ps))) := by
  have HP := Lib.hid hP
  have HT := Lib.hid ht
  have HL := Lib.hid hl
  clear hP ht hl
  rcases hz with rfl | rfl
  · obtain rfl : 32 = s := hs
    go_enter Tryd.func61, Tryd.ntmps61
    go_wp2_with fail
    refine (YtfoenafjaaidmaaDoorSh.Of_any A n cap _ w HP.out.sh (by omega) (by rw [textSh, List.length_map]; have := HL.out; omega) HT.out.1).mono ?_
    rintro e w1 ⟨g, rfl, hg, hB, hb⟩
    rw [textSh, cb_to] at hB
    have HB : Hid (Blk w1 g 5 (cn .u8 (sumOf 1 (flat ps)))) := hB
    clear hB
    go_wp2
    go_ret
    exact ⟨g, rfl, hg, HB.out, hb⟩
  · obtain rfl : 64 = s := hs
    go_enter Tryd.func61, Tryd.ntmps61
    go_wp2_with fail
    refine (YtfoenafjaaidmaaDoorLn.Of_any A n cap _ w HP.out.ln (by omega) (by rw [textLn, List.length_map]; have := HL.out; omega) HT.out.2).mono ?_
    rintro e w1 ⟨g, rfl, hg, hB, hb⟩
    rw [textLn, cb_toL] at hB
    have HB : Hid (Blk w1 g 5 (cn .u8 (sumOf 2 (flat ps)))) := hB
    clear hB
    go_wp2
    go_ret
    exact ⟨g, rfl, hg, HB.out, hb⟩

theorem slInfo : (Tryd.prog.info? 22).map (fun i => (i.zero, i.size, i.bytes)) = some (some (.slice none 0 0), 1, 24) := by kernel_rfl
def cells_ (ps : List Bt) : List Value := ps.map fun p => .slice p.A p.n p.cap
theorem cells_one (ps : List Bt) : ∀ v ∈ cells_ ps, v.oneCell' = true := by intro v hv; obtain ⟨p, _, rfl⟩ := List.mem_map.1 hv; rfl
theorem Row.parts {w : World} {B : Nat} {A : Option Addr} {n cap : Nat} {ps : List Bt} (h : Row w B 22 A n cap (cells_ ps)) (hp : ∀ p ∈ ps, Rd .u8 w p.A p.n p.l ∧ Fit 256 p.l ∧ p.n ≤ p.cap) : PartsR w A n ps := by
  refine ⟨by have := h.length; rwa [cells_, List.length_map] at this, fun hn => ?_, hp⟩
  obtain ⟨g, rfl, hg, hlt, hc⟩ := h.cells hn
  refine ⟨_, rfl, hlt, fun j p hj => ?_⟩
  rw [addr_add, Nat.zero_add]
  exact hc j _ (by rw [cells_, List.getElem?_map, hj]; rfl)
/-- Parts behind one part that was just laid. -/
theorem run_appParts (ty : TypeId) (p : Bt) (A : Option Addr) (n cap : Nat) (ps : List Bt) (w : World) (h : Rd .u8 w p.A p.n p.l ∧ Fit 256 p.l ∧ p.n ≤ p.cap) (hP : PartsR w A n ps) (hnil : A = none → cap = 0) (hn : n ≤ 1000) :
    ∃ A' cap' w', (Builtin.append_ #[41, 41] ty #[.slice (some ⟨w.heap.size, 0, none⟩) 1 1, .slice A n cap]).run Tryd.prog (w.alloc (.cells #[.slice p.A p.n p.cap] 22)) = .ok (.slice A' (1 + n) cap') w' ∧ PartsR w' A' (1 + n) (p :: ps) ∧ Below w.heap.size w w' := by
  obtain ⟨i0, hi, hz0, hz1, hz2⟩ := info_parts slInfo
  have hbl : Blk (w.alloc (.cells #[.slice p.A p.n p.cap] 22)) w.heap.size 22 (cells_ [p]) := Blk.new w 22 (cells_ [p])
  have hrow : Row (w.alloc (.cells #[.slice p.A p.n p.cap] 22)) w.heap.size 22 (some ⟨w.heap.size, 0, none⟩) 1 1 (cells_ [p]) :=
    ⟨rfl, .inr ⟨w.heap.size, 1, (cells_ [p]).toArray, rfl, Nat.le_refl _, hbl, Nat.le_refl _, by unfold maxLen; omega, rfl, rfl⟩⟩
  have hb1 : Below w.heap.size w (w.alloc (.cells #[.slice p.A p.n p.cap] 22)) := (Below.refl _ _).alloc (Nat.le_refl _) _
  have hP1 := hP.below hb1
  generalize hW : w.alloc (.cells #[.slice p.A p.n p.cap] 22) = W at *
  have hWs : w.heap.size ≤ W.heap.size := hb1.size
  rcases A with _ | ad
  · obtain rfl := hnil rfl
    have hn0 : n = 0 := by
      rcases Nat.eq_zero_or_pos n with h0 | h0
      · exact h0
      · obtain ⟨_, e, _⟩ := hP.2.1 h0; cases e
    subst hn0
    obtain rfl : ps = [] := List.eq_nil_of_length_eq_zero hP.1
    have hrun := run_append_owned_none (P := Tryd.prog) (w := W) w.heap.size 41 ty 22 i0 1 Tryd.underlying41 hi _ 1 _ hrow
    refine ⟨_, _, W, hrun, hrow.parts (fun q hq => ?_), hb1⟩
    rw [List.mem_singleton.1 hq]
    exact ⟨h.1.below hb1, h.2⟩
  · have hsrc : ∀ j u, (cells_ ps)[j]? = some u → W.cell? (ad.add j) = some u := by
      intro j u hu
      have hj := (List.getElem?_eq_some_iff.1 hu).1
      rw [cells_, List.length_map, hP.1] at hj
      obtain ⟨ad', e, hlt, hc⟩ := hP1.2.1 (by omega)
      injection e with e
      subst e
      rw [cells_, List.getElem?_map] at hu
      cases hq : ps[j]? with
      | none => rw [hq] at hu; cases hu
      | some q =>
        rw [hq] at hu
        injection hu with hu
        rw [← hu]
        exact hc j q hq
    obtain ⟨v', w', hrun, hown, hg, hnil2, hat⟩ := run_append_own_at (P := Tryd.prog) W w.heap.size 41 ty 22 i0 _ 1 24 Tryd.underlying41 hi hz0 hz1 hz2 rfl (by omega) _ 1 _ hrow ad n cap (cells_ ps) (by rw [cells_, List.length_map, hP.1]; omega) hsrc (cells_one ps) (by unfold maxLen; omega) (by omega) hWs
    have hform : ∃ A' cap', v' = .slice A' (1 + n) cap' := by
      rcases hown.2 with ⟨rfl, h0⟩ | ⟨g, cap', cur, rfl, _⟩
      · omega
      · exact ⟨_, _, rfl⟩
    obtain ⟨A', cap', rfl⟩ := hform
    have hb2 : Below w.heap.size w w' := below_only hb1 hg hWs (fun j hj => by
      have : j = w.heap.size := by simpa [Value.ownBlock] using hj.symm
      omega)
    refine ⟨A', cap', w', hrun, Row.parts (ps := p :: ps) (B := w.heap.size) hown (fun q hq => ?_), hb2⟩
    rcases List.mem_cons.1 hq with rfl | hq
    · exact ⟨h.1.below hb2, h.2⟩
    · exact ⟨(hP.2.2 q hq).1.below hb2, (hP.2.2 q hq).2⟩
theorem wpList_appParts {ops : Array Oper} {rest : List Oper} {o : Oper} {a : Act} {w : World} {Q : Exit → Act → World → Prop} (hgd : o.guard = none) (s x : Operand) (ho : o.op = .call { callee := .builtin .append, args := #[s, x], argTypes := #[41, 41] })
    (p : Bt) (A : Option Addr) (n cap : Nat) (ps : List Bt) (hs : a.eval s = .slice (some ⟨w.heap.size, 0, none⟩) 1 1) (hx : a.eval x = .slice A n cap) (hh : Rd .u8 w p.A p.n p.l ∧ Fit 256 p.l ∧ p.n ≤ p.cap) (hP : PartsR w A n ps) (hnil : A = none → cap = 0) (hn : n ≤ 1000) (N : Nat) (hN : 1 + n = N)
    (h : ∀ A' cap' w', Hid (PartsR w' A' N (p :: ps)) → Below w.heap.size w w' → wpList Tryd.prog ops Q rest (a.put o.dst (.slice A' N cap')) w') : wpList Tryd.prog ops Q (o :: rest) a (w.alloc (.cells #[.slice p.A p.n p.cap] 22)) := by
  subst hN
  obtain ⟨A', cap', w', hrun, hp, hb⟩ := run_appParts o.type p A n cap ps w hh hP hnil hn
  refine wpList_plain hgd fun K hK => ?_
  unfold Oper.wp
  simp [execOp, ho, resolve, invoke, builtin, hs, hx, hrun, Result.andThen]
  exact hK _ _ (h A' cap' w' hp hb)

theorem Digest_alg (z : Int) (h1 : z ≠ 1) (h2 : z ≠ 2) (A : Option Addr) (n cap : Nat) (Ap : Option Addr) (np cp : Nat) (w : World) :
    Calls Tryd.prog 46 #[.int .i64 z, .slice A n cap, .slice Ap np cp] w (NoBs w 20) := by
  go_enter Tryd.func46, Tryd.ntmps46
  go_wp2_with fail
  refine (Size7_any z w).mono ?_
  rintro e w1 ⟨rfl, rfl⟩
  rw [sizeOfAlg, if_neg h1, if_neg h2]
  go_wp2
  go_ret2
  exact ⟨rfl, Below.refl _ _⟩
theorem Digest_big (z : Nat) (hz : z = 1 ∨ z = 2) (A : Option Addr) (n cap : Nat) (hn : 64 < n) (Ap : Option Addr) (np cp : Nat) (w : World) :
    Calls Tryd.prog 46 #[.int .i64 (z : Int), .slice A n cap, .slice Ap np cp] w (NoBs w 11) := by
  obtain ⟨s, hs⟩ : ∃ s, sizeOfAlg z = s := ⟨_, rfl⟩
  have hs2 : s = 32 ∨ s = 64 := by have := sizeAlg_cases hz; omega
  have d0 : ((s : Int) == 0) = false := by simp; omega
  have hn2 : (64 : Int) < n := by omega
  have HS := Lib.hid hs
  clear hs hs2
  go_enter Tryd.func46, Tryd.ntmps46
  go_wp2_with fail
  refine (Size7_any z w).mono ?_
  rintro e w1 ⟨rfl, rfl⟩
  rw [HS.out]
  go_wp2
  go_ret2
  exact ⟨rfl, Below.refl _ _⟩
set_option maxHeartbeats 1000000 in
theorem Digest_ok (z : Nat) (hz : z = 1 ∨ z = 2) (s : Nat) (hs : sizeOfAlg z = s) (A : Option Addr) (n cap : Nat) (l : List Nat) (Ap : Option Addr) (np cp : Nat) (ps : List Bt) (w : World) (h : Rd .u8 w A n l) (hf : Fit 256 l) (hc : n ≤ cap) (hn : n ≤ 64)
    (hP : PartsR w Ap np ps) (hnil : Ap = none → cp = 0) (hnp : np ≤ 500) (hl : (flat ps).length ≤ 40000) (ht : Both w) :
    Calls Tryd.prog 46 #[.int .i64 (z : Int), .slice A n cap, .slice Ap np cp] w (GivesDgT w s (sumOf z (l ++ flat ps))) := by
  have hs2 : s = 32 ∨ s = 64 := by have := sizeAlg_cases hz; omega
  have d0 : ((s : Int) == 0) = false := by simp; omega
  have hn2 : ¬ (64 : Int) < n := by omega
  have HH : Hid (Rd .u8 w (Bt.mk A n cap l).A (Bt.mk A n cap l).n (Bt.mk A n cap l).l ∧ Fit 256 (Bt.mk A n cap l).l ∧ (Bt.mk A n cap l).n ≤ (Bt.mk A n cap l).cap) := ⟨h, hf, hc⟩
  have HP := Lib.hid hP
  have HT := Lib.hid ht
  have HS := Lib.hid hs
  have HZ := Lib.hid hz
  have HNIL := Lib.hid hnil
  obtain ⟨M, hM⟩ : ∃ M, 1 + np = M := ⟨_, rfl⟩
  have HM := Lib.hid hM
  have M2 : M ≤ 501 := by omega
  have HL : Hid ((flat (Bt.mk A n cap l :: ps)).length ≤ 50000) := by
    show _ ≤ _
    have := h.1
    simp only [flat, List.flatMap_cons, List.length_append] at hl ⊢
    omega
  have HE : Hid (flat (Bt.mk A n cap l :: ps) = l ++ flat ps) := by show _ = _; simp [flat]
  clear h hf hc hP ht hs hz hnil hM hl hs2
  go_enter Tryd.func46, Tryd.ntmps46
  go_wp2_with fail
  refine (Size7_any z w).mono ?_
  rintro e w1 ⟨rfl, rfl⟩
  rw [HS.out]
  go_wp2_with (first
    | ((with_reducible refine at_dst (some 18) ?_); refine wpList_appParts (o := ⟨some 18, _, _, _, _, _⟩) rfl (.tmp 16) (.tmp 17) rfl ⟨A, n, cap, l⟩ Ap np cp ps rfl rfl HH.out HP.out HNIL.out (by omega) M HM.out ?_; intro A3 c3 w3 HP3 hb3))
  refine (sum7_any z HZ.out s HS.out A3 M c3 _ w3 HP3.out (by omega) HL.out (HT.out.below hb3)).mono ?_
  rw [HE.out]
  rintro e w4 ⟨g4, rfl, hg4, hB4, hb4⟩
  have HB4 := Lib.hid hB4
  have bel4 := below_then hb3 hb4
  have hg5 := Nat.le_trans hb3.size hg4
  clear hB4
  go_wp2
  go_ret2
  exact ⟨g4, rfl, hg5, HB4.out, bel4⟩
end Go.Proofs.YtfoenafjaaidmaaDoor
