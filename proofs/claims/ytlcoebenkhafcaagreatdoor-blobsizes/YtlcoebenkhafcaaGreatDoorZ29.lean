/-
  The document's long sum: what it answers. The document's Size, Digest and Block. Lists of parts, as both sums read them; a signature's number. No condition. What Size, head, sum and Digest of package seal answer. Buffers that are filled from the front: what the calls of bytes.Repeat and bytes.Join need. What bytes.Repeat of one byte answers. What bytes.Join without a separator answers. What Block of package seal answers.
-/
import Derived.Test.YtlcoebenkhafcaaGreatDoorZ28
import Derived.Laws.AppendOwnNone
import Derived.StillTailTactics
import Derived.Test.YtlcoebenkhafcaaGreatDoorZ08
import Derived.Test.YtlcoebenkhafcaaGreatDoorZ25
import Derived.Test.YtlcoebenkhafcaaGreatDoorZ27
import Derived.Test.YtlcoebenkhafcaaGreatDoorZ13
import Derived.Lib.SlBuf
import Derived.Lib.MakeNoZero
import Derived.Laws.Bits64b
import Derived.Laws.Externs
import Derived.Laws.Append
namespace Go.Proofs.YtlcoebenkhafcaaGreatDoorLn
set_option maxRecDepth 100000
open Go.RowKit
set_option linter.unusedVariables false
end Go.Proofs.YtlcoebenkhafcaaGreatDoorLn
namespace Go.Proofs.YtlcoebenkhafcaaGreatDoorLn
set_option maxRecDepth 100000
open Go.RowKit
set_option linter.unusedVariables false
end Go.Proofs.YtlcoebenkhafcaaGreatDoorLn
namespace Go.Proofs.YtlcoebenkhafcaaGreatDoorLn
set_option maxRecDepth 100000
open Go.RowKit
set_option linter.unusedVariables false
end Go.Proofs.YtlcoebenkhafcaaGreatDoorLn
namespace Go.Proofs.YtlcoebenkhafcaaGreatDoorLn
set_option maxRecDepth 100000
open Go.RowKit
set_option linter.unusedVariables false
end Go.Proofs.YtlcoebenkhafcaaGreatDoorLn
namespace Go.Proofs.YtlcoebenkhafcaaGreatDoorLn
set_option maxRecDepth 100000
open Go.RowKit
set_option linter.unusedVariables false
end Go.Proofs.YtlcoebenkhafcaaGreatDoorLn
namespace Go.Proofs.YtlcoebenkhafcaaGreatDoorLn
set_option maxRecDepth 100000
open Go.RowKit
set_option linter.unusedVariables false
end Go.Proofs.YtlcoebenkhafcaaGreatDoorLn
namespace Go.Proofs.YtlcoebenkhafcaaGreatDoor
open Go.RowKit
set_option linter.unusedVariables false
set_option linter.unusedSimpArgs false
set_option maxRecDepth 100000
theorem cb_ofL {l : List Nat} (h : Fit 256 l) : YtlcoebenkhafcaaGreatDoorLn.cb (l.map UInt8.ofNat) = cn .u8 l := by
  simp only [YtlcoebenkhafcaaGreatDoorLn.cb, cn, List.map_map]
  apply List.map_congr_left
  intro x hx
  have := h x hx
  simp only [Function.comp_apply, YtlcoebenkhafcaaGreatDoorLn.ub, UInt8.toNat_ofNat']
  congr 1
  omega
theorem cb_toL (L : List UInt8) : YtlcoebenkhafcaaGreatDoorLn.cb L = cn .u8 (L.map UInt8.toNat) := by
  simp [YtlcoebenkhafcaaGreatDoorLn.cb, cn, YtlcoebenkhafcaaGreatDoorLn.ub, Function.comp_def]
theorem Rd.seg8L {w : World} {A : Option Addr} {n : Nat} {l : List Nat} (h : Rd .u8 w A n l) (hf : Fit 256 l) : YtlcoebenkhafcaaGreatDoorLn.Seg w A n (l.map UInt8.ofNat) :=
  ⟨by simp [h.1], fun hn => by
    obtain ⟨ad, e, hlt, hc⟩ := h.2 hn
    refine ⟨ad, e, hlt, fun j v hv => ?_⟩
    rw [cb_ofL hf] at hv
    have hj := (List.getElem?_eq_some_iff.1 hv).1
    rw [cn_length] at hj
    obtain ⟨x, hx⟩ := get_some hj
    rw [cn_get hx] at hv
    injection hv with hv
    rw [← hv]
    exact hc j x hx⟩
def sizeOfAlg (alg : Int) : Nat := if alg = 1 then 32 else if alg = 2 then 64 else 0
def sumOf (alg : Nat) (l : List Nat) : List Nat := if alg = 1 then (YtlcoebenkhafcaaGreatDoorSh.sha (l.map UInt8.ofNat)).map UInt8.toNat else (YtlcoebenkhafcaaGreatDoorLn.sha (l.map UInt8.ofNat)).map UInt8.toNat
theorem sumOf_fit (alg : Nat) (l : List Nat) : Fit 256 (sumOf alg l) := by
  intro x hx
  unfold sumOf at hx
  split at hx
  · obtain ⟨y, _, rfl⟩ := List.mem_map.1 hx
    exact y.toNat_lt
  · obtain ⟨y, _, rfl⟩ := List.mem_map.1 hx
    exact y.toNat_lt
theorem sumOf_length1 (l : List Nat) : (sumOf 1 l).length = 32 := by
  simp only [sumOf, if_true, List.length_map]
  exact YtlcoebenkhafcaaGreatDoorSh.sha_length _
theorem sumOf_length2 (l : List Nat) : (sumOf 2 l).length = 64 := by
  rw [sumOf, if_neg (by omega), List.length_map]
  exact YtlcoebenkhafcaaGreatDoorLn.sha_length _
end Go.Proofs.YtlcoebenkhafcaaGreatDoor
namespace Go.Proofs.YtlcoebenkhafcaaGreatDoor
open Go.RowKit
set_option linter.unusedVariables false
set_option linter.unusedSimpArgs false
set_option maxRecDepth 100000
def Bt.sh (p : Bt) : YtlcoebenkhafcaaGreatDoorSh.Part := ⟨p.A, p.n, p.cap, p.l.map UInt8.ofNat⟩
def Bt.ln (p : Bt) : YtlcoebenkhafcaaGreatDoorLn.Part := ⟨p.A, p.n, p.cap, p.l.map UInt8.ofNat⟩
theorem textSh (ps : List Bt) : YtlcoebenkhafcaaGreatDoorSh.textOf (ps.map Bt.sh) = (flat ps).map UInt8.ofNat := by
  simp only [YtlcoebenkhafcaaGreatDoorSh.textOf, flat, List.flatMap_map, List.map_flatMap]
  rfl
theorem textLn (ps : List Bt) : YtlcoebenkhafcaaGreatDoorLn.textOf (ps.map Bt.ln) = (flat ps).map UInt8.ofNat := by
  simp only [YtlcoebenkhafcaaGreatDoorLn.textOf, flat, List.flatMap_map, List.map_flatMap]
  rfl
theorem PartsR.sh {w : World} {A : Option Addr} {n : Nat} {ps : List Bt} (h : PartsR w A n ps) : YtlcoebenkhafcaaGreatDoorSh.Parts w A n (ps.map Bt.sh) := by
  refine ⟨by rw [List.length_map]; exact h.1, fun hn => ?_, fun p hp => ?_⟩
  · obtain ⟨ad, e, hlt, hc⟩ := h.2.1 hn
    refine ⟨ad, e, hlt, fun j p hj => ?_⟩
    rw [List.getElem?_map] at hj
    cases hq : ps[j]? with
    | none => rw [hq] at hj; cases hj
    | some q =>
      rw [hq] at hj
      injection hj with hj
      rw [← hj]
      exact hc j q hq
  · obtain ⟨q, hq, rfl⟩ := List.mem_map.1 hp
    obtain ⟨h1, h2, h3⟩ := h.2.2 q hq
    exact ⟨h1.seg8 h2, h3, Nat.zero_le _⟩
theorem PartsR.ln {w : World} {A : Option Addr} {n : Nat} {ps : List Bt} (h : PartsR w A n ps) : YtlcoebenkhafcaaGreatDoorLn.Parts w A n (ps.map Bt.ln) := by
  refine ⟨by rw [List.length_map]; exact h.1, fun hn => ?_, fun p hp => ?_⟩
  · obtain ⟨ad, e, hlt, hc⟩ := h.2.1 hn
    refine ⟨ad, e, hlt, fun j p hj => ?_⟩
    rw [List.getElem?_map] at hj
    cases hq : ps[j]? with
    | none => rw [hq] at hj; cases hj
    | some q =>
      rw [hq] at hj
      injection hj with hj
      rw [← hj]
      exact hc j q hq
  · obtain ⟨q, hq, rfl⟩ := List.mem_map.1 hp
    obtain ⟨h1, h2, h3⟩ := h.2.2 q hq
    exact ⟨h1.seg8L h2, h3, Nat.zero_le _⟩
theorem sizeAlg {z : Nat} (hz : z = 1 ∨ z = 2) (l : List Nat) : (sumOf z l).length = sizeOfAlg z := by
  rcases hz with rfl | rfl
  · exact sumOf_length1 l
  · exact sumOf_length2 l
theorem sizeAlg_cases {z : Nat} (hz : z = 1 ∨ z = 2) : (sizeOfAlg z = 32 ∧ z = 1) ∨ (sizeOfAlg z = 64 ∧ z = 2) := by
  rcases hz with rfl | rfl
  · exact .inl ⟨rfl, rfl⟩
  · exact .inr ⟨rfl, rfl⟩
def Both (w : World) : Prop := YtlcoebenkhafcaaGreatDoorSh.Tabs w ∧ YtlcoebenkhafcaaGreatDoorLn.Tabs w
theorem Both.below {w w' : World} (h : Both w) (hb : Below w.heap.size w w') : Both w' := ⟨h.1.below hb, h.2.below hb⟩
end Go.Proofs.YtlcoebenkhafcaaGreatDoor
namespace Go.Proofs.YtlcoebenkhafcaaGreatDoor
open Go.RowKit
set_option linter.unusedVariables false
set_option linter.unusedSimpArgs false
set_option maxRecDepth 100000
theorem Size7_any (z : Int) (w : World) : Calls Tryz.prog 38 #[.int .i64 z] w fun e w' => e = .returned (.int .i64 (sizeOfAlg z : Nat)) ∧ w = w' := by
  unfold sizeOfAlg
  by_cases h1 : z = 1
  · subst h1
    go_enter Tryz.func38, Tryz.ntmps38
    go_wp2
    go_ret
    exact ⟨rfl, rfl⟩
  · by_cases h2 : z = 2
    · subst h2
      go_enter Tryz.func38, Tryz.ntmps38
      go_wp2
      go_ret
      exact ⟨rfl, rfl⟩
    · rw [if_neg h1, if_neg h2]
      have d1 : (z == 1) = false := by simp [h1]
      have d2 : (z == 2) = false := by simp [h2]
      go_enter Tryz.func38, Tryz.ntmps38
      go_wp2
      go_ret
      exact ⟨rfl, rfl⟩
theorem head7_any (z : Nat) (hz : z = 1 ∨ z = 2) (w : World) : Calls Tryz.prog 171 #[.int .i64 (z : Int)] w fun e w' => e = .returned (.slice (some ⟨w.heap.size, 0, none⟩) 19 19) ∧ Blk w' w.heap.size 5 (cn .u8 (headOf z)) ∧ Below w.heap.size w w' := by
  rcases hz with rfl | rfl
  · go_enter Tryz.func171, Tryz.ntmps171
    go_wp2
    go_ret
    exact ⟨rfl, Blk.new w 5 (cn .u8 (headOf 1)), (Below.refl _ _).alloc (Nat.le_refl _) _⟩
  · go_enter Tryz.func171, Tryz.ntmps171
    go_wp2
    go_ret
    exact ⟨rfl, Blk.new w 5 (cn .u8 (headOf 2)), (Below.refl _ _).alloc (Nat.le_refl _) _⟩
def GivesDg (w : World) (s : Nat) (l : List Nat) (e : Ending) (w' : World) : Prop := ∃ g, e = .returned (.slice (some ⟨g, 0, none⟩) s s) ∧ w.heap.size ≤ g ∧ Blk w' g 5 (cn .u8 l) ∧ Below w.heap.size w w'
def GivesDgT (w : World) (s : Nat) (l : List Nat) (e : Ending) (w' : World) : Prop := ∃ g, e = .returned (.tuple #[.slice (some ⟨g, 0, none⟩) s s, .int .i64 0]) ∧ w.heap.size ≤ g ∧ Blk w' g 5 (cn .u8 l) ∧ Below w.heap.size w w'
def NoBs (w : World) (er : Int) (e : Ending) (w' : World) : Prop := e = .returned (.tuple #[.slice none 0 0, .int .i64 er]) ∧ Below w.heap.size w w'
set_option maxHeartbeats 1000000 in
theorem sum7_any (z : Nat) (hz : z = 1 ∨ z = 2) (s : Nat) (hs : sizeOfAlg z = s) (A : Option Addr) (n cap : Nat) (ps : List Bt) (w : World) (hP : PartsR w A n ps) (hn : n ≤ 1000) (hl : (flat ps).length ≤ 70000) (ht : Both w) :
    Calls Tryz.prog 107 #[.int .i64 (z : Int), .slice A n cap] w (GivesDg w s (sumOf z (flat ps))) := by
  have HP := Lib.hid hP
  have HT := Lib.hid ht
  have HL := Lib.hid hl
  clear hP ht hl
  rcases hz with rfl | rfl
  · obtain rfl : 32 = s := hs
    go_enter Tryz.func107, Tryz.ntmps107
    go_wp2_with fail
    refine (YtlcoebenkhafcaaGreatDoorSh.Of_any A n cap _ w HP.out.sh (by omega) (by rw [textSh, List.length_map]; have := HL.out; omega) HT.out.1).mono ?_
    rintro e w1 ⟨g, rfl, hg, hB, hb⟩
    rw [textSh, cb_to] at hB
    have HB : Hid (Blk w1 g 5 (cn .u8 (sumOf 1 (flat ps)))) := hB
    clear hB
    go_wp2
    go_ret
    exact ⟨g, rfl, hg, HB.out, hb⟩
  · obtain rfl : 64 = s := hs
    go_enter Tryz.func107, Tryz.ntmps107
    go_wp2_with fail
    refine (YtlcoebenkhafcaaGreatDoorLn.Of_any A n cap _ w HP.out.ln (by omega) (by rw [textLn, List.length_map]; have := HL.out; omega) HT.out.2).mono ?_
    rintro e w1 ⟨g, rfl, hg, hB, hb⟩
    rw [textLn, cb_toL] at hB
    have HB : Hid (Blk w1 g 5 (cn .u8 (sumOf 2 (flat ps)))) := hB
    clear hB
    go_wp2
    go_ret
    exact ⟨g, rfl, hg, HB.out, hb⟩
theorem slInfo : (Tryz.prog.info? 25).map (fun i => (i.zero, i.size, i.bytes)) = some (some (.slice none 0 0), 1, 24) := by kernel_rfl
def cells_ (ps : List Bt) : List Value := ps.map fun p => .slice p.A p.n p.cap
theorem cells_one (ps : List Bt) : ∀ v ∈ cells_ ps, v.oneCell' = true := by intro v hv; obtain ⟨p, _, rfl⟩ := List.mem_map.1 hv; rfl
theorem Row.parts {w : World} {B : Nat} {A : Option Addr} {n cap : Nat} {ps : List Bt} (h : Row w B 25 A n cap (cells_ ps)) (hp : ∀ p ∈ ps, Rd .u8 w p.A p.n p.l ∧ Fit 256 p.l ∧ p.n ≤ p.cap) : PartsR w A n ps := by
  refine ⟨by have := h.length; rwa [cells_, List.length_map] at this, fun hn => ?_, hp⟩
  obtain ⟨g, rfl, hg, hlt, hc⟩ := h.cells hn
  refine ⟨_, rfl, hlt, fun j p hj => ?_⟩
  rw [addr_add, Nat.zero_add]
  exact hc j _ (by rw [cells_, List.getElem?_map, hj]; rfl)
theorem run_appParts (ty : TypeId) (p : Bt) (A : Option Addr) (n cap : Nat) (ps : List Bt) (w : World) (h : Rd .u8 w p.A p.n p.l ∧ Fit 256 p.l ∧ p.n ≤ p.cap) (hP : PartsR w A n ps) (hnil : A = none → cap = 0) (hn : n ≤ 1000) :
    ∃ A' cap' w', (Builtin.append_ #[128, 128] ty #[.slice (some ⟨w.heap.size, 0, none⟩) 1 1, .slice A n cap]).run Tryz.prog (w.alloc (.cells #[.slice p.A p.n p.cap] 25)) = .ok (.slice A' (1 + n) cap') w' ∧ PartsR w' A' (1 + n) (p :: ps) ∧ Below w.heap.size w w' := by
  obtain ⟨i0, hi, hz0, hz1, hz2⟩ := info_parts slInfo
  have hbl : Blk (w.alloc (.cells #[.slice p.A p.n p.cap] 25)) w.heap.size 25 (cells_ [p]) := Blk.new w 25 (cells_ [p])
  have hrow : Row (w.alloc (.cells #[.slice p.A p.n p.cap] 25)) w.heap.size 25 (some ⟨w.heap.size, 0, none⟩) 1 1 (cells_ [p]) :=
    ⟨rfl, .inr ⟨w.heap.size, 1, (cells_ [p]).toArray, rfl, Nat.le_refl _, hbl, Nat.le_refl _, by unfold maxLen; omega, rfl, rfl⟩⟩
  have hb1 : Below w.heap.size w (w.alloc (.cells #[.slice p.A p.n p.cap] 25)) := (Below.refl _ _).alloc (Nat.le_refl _) _
  have hP1 := hP.below hb1
  generalize hW : w.alloc (.cells #[.slice p.A p.n p.cap] 25) = W at *
  have hWs : w.heap.size ≤ W.heap.size := hb1.size
  rcases A with _ | ad
  · obtain rfl := hnil rfl
    have hn0 : n = 0 := by
      rcases Nat.eq_zero_or_pos n with h0 | h0
      · exact h0
      · obtain ⟨_, e, _⟩ := hP.2.1 h0; cases e
    subst hn0
    obtain rfl : ps = [] := List.eq_nil_of_length_eq_zero hP.1
    have hrun := run_append_owned_none (P := Tryz.prog) (w := W) w.heap.size 128 ty 25 i0 1 Tryz.underlying128 hi _ 1 _ hrow
    refine ⟨_, _, W, hrun, hrow.parts (fun q hq => ?_), hb1⟩
    rw [List.mem_singleton.1 hq]
    exact ⟨h.1.below hb1, h.2⟩
  · have hsrc : ∀ j u, (cells_ ps)[j]? = some u → W.cell? (ad.add j) = some u := by
      intro j u hu
      have hj := (List.getElem?_eq_some_iff.1 hu).1
      rw [cells_, List.length_map, hP.1] at hj
      obtain ⟨ad', e, hlt, hc⟩ := hP1.2.1 (by omega)
      injection e with e
      subst e
      rw [cells_, List.getElem?_map] at hu
      cases hq : ps[j]? with
      | none => rw [hq] at hu; cases hu
      | some q =>
        rw [hq] at hu
        injection hu with hu
        rw [← hu]
        exact hc j q hq
    obtain ⟨v', w', hrun, hown, hg, hnil2, hat⟩ := run_append_own_at (P := Tryz.prog) W w.heap.size 128 ty 25 i0 _ 1 24 Tryz.underlying128 hi hz0 hz1 hz2 rfl (by omega) _ 1 _ hrow ad n cap (cells_ ps) (by rw [cells_, List.length_map, hP.1]; omega) hsrc (cells_one ps) (by unfold maxLen; omega) (by omega) hWs
    have hform : ∃ A' cap', v' = .slice A' (1 + n) cap' := by
      rcases hown.2 with ⟨rfl, h0⟩ | ⟨g, cap', cur, rfl, _⟩
      · omega
      · exact ⟨_, _, rfl⟩
    obtain ⟨A', cap', rfl⟩ := hform
    have hb2 : Below w.heap.size w w' := below_only hb1 hg hWs (fun j hj => by
      have : j = w.heap.size := by simpa [Value.ownBlock] using hj.symm
      omega)
    refine ⟨A', cap', w', hrun, Row.parts (ps := p :: ps) (B := w.heap.size) hown (fun q hq => ?_), hb2⟩
    rcases List.mem_cons.1 hq with rfl | hq
    · exact ⟨h.1.below hb2, h.2⟩
    · exact ⟨(hP.2.2 q hq).1.below hb2, (hP.2.2 q hq).2⟩
theorem wpList_appParts {ops : Array Oper} {rest : List Oper} {o : Oper} {a : Act} {w : World} {Q : Exit → Act → World → Prop} (hgd : o.guard = none) (s x : Operand) (ho : o.op = .call { callee := .builtin .append, args := #[s, x], argTypes := #[128, 128] })
    (p : Bt) (A : Option Addr) (n cap : Nat) (ps : List Bt) (hs : a.eval s = .slice (some ⟨w.heap.size, 0, none⟩) 1 1) (hx : a.eval x = .slice A n cap) (hh : Rd .u8 w p.A p.n p.l ∧ Fit 256 p.l ∧ p.n ≤ p.cap) (hP : PartsR w A n ps) (hnil : A = none → cap = 0) (hn : n ≤ 1000) (N : Nat) (hN : 1 + n = N)
    (h : ∀ A' cap' w', Hid (PartsR w' A' N (p :: ps)) → Below w.heap.size w w' → wpList Tryz.prog ops Q rest (a.put o.dst (.slice A' N cap')) w') : wpList Tryz.prog ops Q (o :: rest) a (w.alloc (.cells #[.slice p.A p.n p.cap] 25)) := by
  subst hN
  obtain ⟨A', cap', w', hrun, hp, hb⟩ := run_appParts o.type p A n cap ps w hh hP hnil hn
  refine wpList_plain hgd fun K hK => ?_
  unfold Oper.wp
  simp [execOp, ho, resolve, invoke, builtin, hs, hx, hrun, Result.andThen]
  exact hK _ _ (h A' cap' w' hp hb)
set_option maxHeartbeats 1000000 in
theorem Digest_ok (z : Nat) (hz : z = 1 ∨ z = 2) (s : Nat) (hs : sizeOfAlg z = s) (A : Option Addr) (n cap : Nat) (l : List Nat) (Ap : Option Addr) (np cp : Nat) (ps : List Bt) (w : World) (h : Rd .u8 w A n l) (hf : Fit 256 l) (hc : n ≤ cap) (hn : n ≤ 64)
    (hP : PartsR w Ap np ps) (hnil : Ap = none → cp = 0) (hnp : np ≤ 500) (hl : (flat ps).length ≤ 60000) (ht : Both w) :
    Calls Tryz.prog 65 #[.int .i64 (z : Int), .slice A n cap, .slice Ap np cp] w (GivesDgT w s (sumOf z (l ++ flat ps))) := by
  have hs2 : s = 32 ∨ s = 64 := by have := sizeAlg_cases hz; omega
  have d0 : ((s : Int) == 0) = false := by simp; omega
  have hn2 : ¬ (64 : Int) < n := by omega
  have HH : Hid (Rd .u8 w (Bt.mk A n cap l).A (Bt.mk A n cap l).n (Bt.mk A n cap l).l ∧ Fit 256 (Bt.mk A n cap l).l ∧ (Bt.mk A n cap l).n ≤ (Bt.mk A n cap l).cap) := ⟨h, hf, hc⟩
  have HP := Lib.hid hP
  have HT := Lib.hid ht
  have HS := Lib.hid hs
  have HZ := Lib.hid hz
  have HNIL := Lib.hid hnil
  obtain ⟨M, hM⟩ : ∃ M, 1 + np = M := ⟨_, rfl⟩
  have HM := Lib.hid hM
  have M2 : M ≤ 501 := by omega
  have HL : Hid ((flat (Bt.mk A n cap l :: ps)).length ≤ 70000) := by
    show _ ≤ _
    have := h.1
    simp only [flat, List.flatMap_cons, List.length_append] at hl ⊢
    omega
  have HE : Hid (flat (Bt.mk A n cap l :: ps) = l ++ flat ps) := by show _ = _; simp [flat]
  clear h hf hc hP ht hs hz hnil hM hl hs2
  go_enter Tryz.func65, Tryz.ntmps65
  go_wp2_with fail
  refine (Size7_any z w).mono ?_
  rintro e w1 ⟨rfl, rfl⟩
  rw [HS.out]
  go_wp2_with (first
    | ((with_reducible refine at_dst (some 18) ?_); refine wpList_appParts (o := ⟨some 18, _, _, _, _, _⟩) rfl (.tmp 16) (.tmp 17) rfl ⟨A, n, cap, l⟩ Ap np cp ps rfl rfl HH.out HP.out HNIL.out (by omega) M HM.out ?_; intro A3 c3 w3 HP3 hb3))
  refine (sum7_any z HZ.out s HS.out A3 M c3 _ w3 HP3.out (by omega) HL.out (HT.out.below hb3)).mono ?_
  rw [HE.out]
  rintro e w4 ⟨g4, rfl, hg4, hB4, hb4⟩
  have HB4 := Lib.hid hB4
  have bel4 := below_then hb3 hb4
  have hg5 := Nat.le_trans hb3.size hg4
  clear hB4
  go_wp2
  go_ret2
  exact ⟨g4, rfl, hg5, HB4.out, bel4⟩
end Go.Proofs.YtlcoebenkhafcaaGreatDoor
namespace Go.Proofs.YtlcoebenkhafcaaGreatDoor
open Go.RowKit
set_option linter.unusedVariables false
set_option linter.unusedSimpArgs false
set_option maxRecDepth 100000
set_option maxHeartbeats 1000000 in
theorem Mul64_one (y : Nat) (hy : y ≤ 100000) (w : World) : Calls Tryz.prog 209 #[.int .u64 1, .int .u64 (y : Int)] w fun e w' => e = .returned (.tuple #[.int .u64 0, .int .u64 (y : Int)]) ∧ w = w' := by
  have hm : bits .and .u64 (y : Int) 4294967295 = (y : Int) := by
    have h := bits_and_u64_nat y 4294967295 (by omega) (by omega)
    have e : y &&& 4294967295 = y % 4294967296 := Nat.and_two_pow_sub_one_eq_mod y 32
    rw [e, Nat.mod_eq_of_lt (by omega)] at h
    exact h
  have hd : (y : Int) / 4294967296 = 0 := by omega
  have hb1 : bits .and .u64 1 4294967295 = 1 := by kernel_rfl
  have hb0 : bits .and .u64 0 4294967295 = 0 := by kernel_rfl
  have hw0 : IntKind.u64.wrap 0 = 0 := by kernel_rfl
  have hw : IntKind.u64.wrap (y : Int) = (y : Int) := by rw [IntKind.wrap_u64]; omega
  go_enter Tryz.func209, Tryz.ntmps209
  go_wp2
  go_ret2
  exact ⟨rfl, rfl⟩
set_option maxHeartbeats 1000000 in
theorem Mul_one (y : Nat) (hy : y ≤ 100000) (w : World) : Calls Tryz.prog 193 #[.int .u64 1, .int .u64 (y : Int)] w fun e w' => e = .returned (.tuple #[.int .u64 0, .int .u64 (y : Int)]) ∧ w = w' := by
  have hw : IntKind.u64.wrap (y : Int) = (y : Int) := by rw [IntKind.wrap_u64]; omega
  go_enter Tryz.func193, Tryz.ntmps193
  go_wp2_with fail
  refine (Mul64_one y hy w).mono ?_
  rintro e w1 ⟨rfl, rfl⟩
  go_wp2
  go_ret2
  exact ⟨rfl, rfl⟩
theorem copy_self (ty : TypeId) (w0 wr : World) (g T q m : Nat) (y : UInt8) (hb : Lib.Buf w0 wr g T (List.replicate q y)) (h1 : 1 ≤ q) (h2 : q < T) (hg : w0.heap.size ≤ g) (hm : Nat.min q (T - q) = m) :
    ∃ wr', (Builtin.copy_ #[25, 25] ty #[Lib.tailV g T q, .slice (some ⟨g, 0, none⟩) q T]).run Tryz.prog wr = .ok (.int .i64 (m : Int)) wr' ∧ Lib.Buf w0 wr' g T (List.replicate (q + m) y) := by
  have hmq : m ≤ q ∧ m ≤ T - q := by rw [← hm]; exact ⟨Nat.min_le_left _ _, Nat.min_le_right _ _⟩
  have hl : ((List.replicate m y).map fun x => Value.int .u8 (x.toNat : Int)).length = m := by simp
  have hr := run_copy_cells (P := Tryz.prog) wr 25 25 ty 5 g q (T - q) (T - q) ⟨g, 0, none⟩ q T ((List.replicate m y).map fun x => Value.int .u8 (x.toNat : Int)) Tryz.underlying25 byteSize (by rw [hl]; exact hm.symm)
    (fun j u hj => by
      rw [List.getElem?_map] at hj
      obtain ⟨x, hx, rfl⟩ := Option.map_eq_some_iff.1 hj
      rw [addr_add, Nat.zero_add]
      refine hb.holds j x ?_
      rw [List.getElem?_replicate] at hx ⊢
      split at hx
      · rw [if_pos (by omega)]; exact hx
      · cases hx)
    (fun j hj => by rw [hl] at hj; exact hb.there _ (by omega)) (fun j hj => by rw [hl] at hj; exact hb.free _ (by omega))
    (fun u hu' => by obtain ⟨x, _, rfl⟩ := List.mem_map.1 hu'; rfl)
  rw [hl] at hr
  refine ⟨_, by unfold Lib.tailV; rw [if_neg (by omega)]; exact hr, ?_⟩
  have hin := World.cell?_setCells_in g ((List.replicate m y).map fun x => Value.int .u8 (x.toNat : Int)) q wr (fun j hj => by rw [hl] at hj; exact hb.there _ (by omega))
  have hout := World.cell?_setCells_out g ((List.replicate m y).map fun x => Value.int .u8 (x.toNat : Int)) q wr
  refine ⟨Lib.below_setCells g (Nat.le_refl _) _ _ hb.below, fun j hj => ?_, fun j hj => ?_, fun j x hx => ?_, by simp; omega⟩
  · by_cases h3 : q ≤ j ∧ j < q + m
    · obtain ⟨d, rfl⟩ : ∃ d, j = q + d := ⟨j - q, by omega⟩
      rw [hin d (by rw [hl]; omega)]
      rfl
    · rw [hout ⟨g, j, none⟩ (fun _ _ => by rw [hl]; show j < _ ∨ _ ≤ j; omega)]
      exact hb.there j hj
  · rw [World.frozen?_setCells]
    exact hb.free j hj
  · rw [List.getElem?_replicate] at hx
    split at hx
    · injection hx with hx
      subst hx
      by_cases h3 : j < q
      · rw [hout ⟨g, j, none⟩ (fun _ _ => Or.inl h3)]
        exact hb.holds j y (by rw [List.getElem?_replicate, if_pos h3])
      · obtain ⟨d, rfl⟩ : ∃ d, j = q + d := ⟨j - q, by omega⟩
        rw [hin d (by rw [hl]; omega)]
        simp
    · cases hx
theorem step_copy7 {ops : Array Oper} {o : Oper} {a : Act} {w : World} {K : Act → World → Prop} {Q : Exit → Act → World → Prop} {E : Prop} (hgd : o.guard = none) (d s : Operand) (ho : o.op = .call { callee := .builtin .copy, args := #[d, s], argTypes := #[25, 25] })
    (v u : Value) (hd : a.eval d = v) (hs : a.eval s = u) {v' : Value} {w' : World} (hr : (Builtin.copy_ #[25, 25] o.type #[v, u]).run Tryz.prog w = .ok v' w') (h : K (a.put o.dst v') w') :
    if Region.wanted o (yielded ops a.tmps) = true then Oper.wp Tryz.prog o a w K Q else E := by
  have hw : Region.wanted o (yielded ops a.tmps) = true := by simp [Region.wanted, hgd]
  rw [if_pos hw]
  unfold Oper.wp
  simp [execOp, ho, resolve, invoke, builtin, hd, hs, hr, Result.andThen]
  exact h
end Go.Proofs.YtlcoebenkhafcaaGreatDoor
namespace Go.Proofs.YtlcoebenkhafcaaGreatDoor
open Go.RowKit
set_option linter.unusedVariables false
set_option linter.unusedSimpArgs false
set_option maxRecDepth 100000
set_option maxHeartbeats 1000000 in
theorem Repeat_any (A : Option Addr) (cap y T : Nat) (w : World) (hr : Rd .u8 w A 1 [y]) (hy : y < 256) (h1 : 1 ≤ T) (h2 : T ≤ 1000) :
    Calls Tryz.prog 172 #[.slice A 1 cap, .int .i64 (T : Int)] w (GivesOwn w T (List.replicate T y)) := by
  have d0 : ((T : Int) == 0) = false := by simp; omega
  have d1 : ¬ (T : Int) < 0 := by omega
  have d2 : ¬ (9223372036854775807 : Int) < T := by omega
  have d3 : ¬ (8192 : Int) < T := by omega
  have hw : IntKind.u64.wrap (T : Int) = (T : Int) := by rw [IntKind.wrap_u64]; omega
  obtain ⟨cs, hcall, hle⟩ := noZero_any w T (by omega)
  have i0 : (0 : Int) ≤ (T : Int) := by omega
  have i1 : (T : Int) ≤ (cs.size : Int) := by omega
  have B0 := Lib.Buf.start w cs 5 T 2 hle
  obtain ⟨w1, hr1, B1⟩ := Lib.copy_part (P := Tryz.prog) w _ w.heap.size T [] [UInt8.ofNat y] (.slice A 1 cap) 25 3 5 Tryz.underlying25 byteSize (Nat.le_refl _) B0 (hr.holds (l := [y]) (by intro x hx; rw [List.mem_singleton.1 hx]; exact hy)) (by simp; omega)
  rw [List.length_nil, Lib.tailV_zero] at hr1
  have HB1 : Hid (Lib.Buf w w1 w.heap.size T (List.replicate 1 (UInt8.ofNat y))) := B1
  clear B0 B1 hr
  go_enter Tryz.func172, Tryz.ntmps172
  go_wp2_with (first
    | (go_at_call 193; refine (Mul_one T (by omega) w).mono ?_; rintro e w2 ⟨rfl, rfl⟩)
    | (at_builtin; refine Lib.wpList_copy_run _ rfl _ _ 25 25 rfl _ _ rfl rfl hr1 ?_))
  clear hcall hr1
  go_loopw [10] (fun o wr => ∃ q : Nat, 1 ≤ q ∧ q ≤ T ∧ o = .int .i64 (q : Int) ∧ Hid (Lib.Buf w wr w.heap.size T (List.replicate q (UInt8.ofNat y)))) (fun o _ => T - (intOf o).toNat)
  case atStart => exact ⟨1, by omega, by omega, rfl, HB1⟩
  case round =>
    obtain ⟨q, q1, q2, rfl, HB⟩ := hrel
    by_cases hlt : q < T
    · have hmin : min (q : Int) (T : Int) = q := by omega
      have hlz : (q : Int) < T := by omega
      obtain ⟨m, hm⟩ : ∃ m, Nat.min q (T - q) = m := ⟨_, rfl⟩
      have hm1 : 1 ≤ m ∧ q + m ≤ T := by
        rw [← hm]
        show 1 ≤ min q (T - q) ∧ q + min q (T - q) ≤ T
        omega
      obtain ⟨w3, hr3, B3⟩ := copy_self 3 w wr.drew w.heap.size T q m (UInt8.ofNat y) (Buf.drew HB.out) q1 hlt (Nat.le_refl _) hm
      have HB3 := Lib.hid B3
      have hsl1 : ∀ W, (Instr.slice 25 (.slice (some ⟨w.heap.size, 0, none⟩) T T) (some (.int .i64 (q : Int))) none none).run Tryz.prog W = .ok (Lib.tailV w.heap.size T q) W := fun W => Lib.run_slice_tailV W 25 5 Tryz.underlying25 byteSz _ T q (by omega)
      have hwr : IntKind.i64.wrap ((q : Int) + (m : Int)) = (q : Int) + (m : Int) := by rw [IntKind.wrap_i64]; omega
      clear B3 hm
      go_wp2
      go_region_law (refine step_copy7 rfl (.tmp 70) (.tmp 73) rfl (Lib.tailV w.heap.size T q) (.slice (some ⟨w.heap.size, 0, none⟩) q T) (by simp [Act.eval, Act.put]) (by simp [Act.eval, Act.put]) hr3 ?_)
      go_simp
      go_wp2
      go_roundw
      case rel => exact ⟨q + m, by omega, by omega, by go_num, HB3⟩
      case measure => simp [intOf]; omega
    · obtain rfl : q = T := by omega
      have hlz : ¬ (q : Int) < q := by omega
      go_wp2
      go_ret
      have b := HB.out
      rw [← List.map_replicate] at b
      have hfit : Fit 256 (List.replicate q y) := Fit.replicate _ _ _ hy
      exact ⟨_, rfl, Nat.le_refl _, Buf.rd b hfit (by simp), b.below⟩
end Go.Proofs.YtlcoebenkhafcaaGreatDoor
namespace Go.Proofs.YtlcoebenkhafcaaGreatDoor
open Go.RowKit
set_option linter.unusedVariables false
set_option linter.unusedSimpArgs false
set_option maxRecDepth 100000
end Go.Proofs.YtlcoebenkhafcaaGreatDoor
namespace Go.Proofs.YtlcoebenkhafcaaGreatDoor
open Go.RowKit
set_option linter.unusedVariables false
set_option linter.unusedSimpArgs false
set_option maxRecDepth 100000
set_option maxHeartbeats 1000000 in
theorem Block_bits (z : Nat) (hz : z = 1 ∨ z = 2) (A : Option Addr) (n cap : Nat) (hn : sizeOfAlg z = n) (sz : Int) (hs1 : -9223372036854775808 ≤ sz) (hs2 : sz ≤ 9223372036854775807) (h : 512 < sz ∨ sz < 30 + n) (w : World) :
    Calls Tryz.prog 142 #[.int .i64 (z : Int), .slice A n cap, .int .i64 sz] w (NoBs w 21) := by
  have hn2 : n = 32 ∨ n = 64 := by have := sizeAlg_cases hz; omega
  have d0 : ((n : Int) == 0) = false := by simp; omega
  have HS := Lib.hid hn
  have HZ := Lib.hid hz
  clear hn hz
  by_cases q1 : sz < 0
  · go_enter Tryz.func142, Tryz.ntmps142
    go_wp2_with fail
    refine (Size7_any z w).mono ?_
    rintro e w1 ⟨rfl, rfl⟩
    rw [HS.out]
    go_wp2_with fail
    refine (Size7_any z w).mono ?_
    rintro e w1 ⟨rfl, rfl⟩
    rw [HS.out]
    go_wp2_with fail
    refine (head7_any z HZ.out _).mono ?_
    rintro e w2 ⟨rfl, hB2, hb2⟩
    have bel2 := below_then ((Below.refl w.heap.size w).alloc (Nat.le_refl _) _) hb2
    clear hB2
    go_wp2
    go_ret2
    exact ⟨rfl, bel2⟩
  · by_cases q2 : 512 < sz
    · go_enter Tryz.func142, Tryz.ntmps142
      go_wp2_with fail
      refine (Size7_any z w).mono ?_
      rintro e w1 ⟨rfl, rfl⟩
      rw [HS.out]
      go_wp2_with fail
      refine (Size7_any z w).mono ?_
      rintro e w1 ⟨rfl, rfl⟩
      rw [HS.out]
      go_wp2_with fail
      refine (head7_any z HZ.out _).mono ?_
      rintro e w2 ⟨rfl, hB2, hb2⟩
      have bel2 := below_then ((Below.refl w.heap.size w).alloc (Nat.le_refl _) _) hb2
      clear hB2
      go_wp2
      go_ret2
      exact ⟨rfl, bel2⟩
    · have q3 : sz - 2 - 1 - 19 - (n : Int) < 8 := by omega
      go_enter Tryz.func142, Tryz.ntmps142
      go_wp2_with fail
      refine (Size7_any z w).mono ?_
      rintro e w1 ⟨rfl, rfl⟩
      rw [HS.out]
      go_wp2_with fail
      refine (Size7_any z w).mono ?_
      rintro e w1 ⟨rfl, rfl⟩
      rw [HS.out]
      go_wp2_with fail
      refine (head7_any z HZ.out _).mono ?_
      rintro e w2 ⟨rfl, hB2, hb2⟩
      have bel2 := below_then ((Below.refl w.heap.size w).alloc (Nat.le_refl _) _) hb2
      clear hB2
      go_wp2
      go_ret2
      exact ⟨rfl, bel2⟩
theorem run_appGrow (ty : TypeId) (g T y : Nat) (l : List Nat) (w : World) (h : Rd .u8 w (some ⟨g, 0, none⟩) T l) (h1 : 1 ≤ T) (hT : T ≤ 100000) :
    ∃ c w', (Builtin.append_ #[25, 25] ty #[.slice (some ⟨g, 0, none⟩) T T, .slice (some ⟨w.heap.size, 0, none⟩) 1 1]).run Tryz.prog (w.alloc (.cells #[.int .u8 (y : Int)] 5)) = .ok (.slice (some ⟨w.heap.size + 1, 0, none⟩) (T + 1) c) w' ∧ T + 1 ≤ c ∧ Rd .u8 w' (some ⟨w.heap.size + 1, 0, none⟩) (T + 1) (l ++ [y]) ∧ Below w.heap.size w w' := by
  obtain ⟨i0, hi, hz0, hz1, hz2⟩ := info_parts byteInfo
  have hb1 : Below w.heap.size w (w.alloc (.cells #[.int .u8 (y : Int)] 5)) := (Below.refl _ _).alloc (Nat.le_refl _) _
  have hr := h.below hb1
  have hB : Blk (w.alloc (.cells #[.int .u8 (y : Int)] 5)) w.heap.size 5 (cn .u8 [y]) := Blk.new w 5 (cn .u8 [y])
  have hsz : (w.alloc (.cells #[.int .u8 (y : Int)] 5)).heap.size = w.heap.size + 1 := by simp
  generalize w.alloc (.cells #[.int .u8 (y : Int)] 5) = W at *
  obtain ⟨ad, e, hlt, hc⟩ := hr.2 (by omega)
  injection e with e
  subst e
  have hrun := run_append_grow (P := Tryz.prog) W 25 ty 5 i0 (.int .u8 0) Tryz.underlying25 hi hz0 ⟨g, 0, none⟩ T T (cn .u8 l) (by rw [cn_length, hr.1, hz1]; omega)
    (fun j v hv => by
      have hj := (List.getElem?_eq_some_iff.1 hv).1
      rw [cn_length] at hj
      obtain ⟨x, hx⟩ := get_some hj
      rw [cn_get hx] at hv
      injection hv with hv
      rw [← hv]
      exact hc j x hx)
    ⟨w.heap.size, 0, none⟩ 1 1 (cn .u8 [y]) (by rw [cn_length, hz1]; rfl)
    (fun j v hv => by rw [addr_add, Nat.zero_add, hB.cell]; exact hv)
    (by omega) (by omega) (growslice_fits (by omega) (by rw [hz2]; omega))
  have hge := grownCap_ge W (T + 1) T 5
  rw [hsz] at hrun
  generalize grownCap W (T + 1) T 5 = c at hrun hge
  refine ⟨c, _, hrun, hge, ?_, ?_⟩
  · have hb : (W.drew.alloc (.cells ((cn .u8 l).toArray ++ (cn .u8 [y]).toArray ++ Builtin.zeroCells (Value.int IntKind.u8 0).cells (c - (T + 1))) 5)).heap[w.heap.size + 1]? = some (.cells ((cn .u8 l).toArray ++ (cn .u8 [y]).toArray ++ Builtin.zeroCells (Value.int IntKind.u8 0).cells (c - (T + 1))) 5) := by
      have := heap_alloc_new W.drew (.cells ((cn .u8 l).toArray ++ (cn .u8 [y]).toArray ++ Builtin.zeroCells (Value.int IntKind.u8 0).cells (c - (T + 1))) 5)
      rwa [show W.drew.heap.size = w.heap.size + 1 from hsz] at this
    refine ⟨by rw [List.length_append, hr.1]; rfl, fun _ => ⟨_, rfl, ?_, fun j x hj => ?_⟩⟩
    · show w.heap.size + 1 < _
      have e2 : W.drew.heap.size = w.heap.size + 1 := hsz
      simp [e2]
    · rw [addr_add, Nat.zero_add]
      have hc2 := cell_of_row _ (w.heap.size + 1) j _ 5 (0, 0) hb
      rw [hc2]
      have hjl := (List.getElem?_eq_some_iff.1 hj).1
      have := cn_get (k := .u8) hj
      rw [cn_append] at this
      rw [Array.getElem?_append_left (by rw [Array.size_append]; simp only [List.size_toArray, cn_length]; rw [List.length_append] at hjl; exact hjl)]
      simpa using this
  · have hb3 : Below W.heap.size W (W.drew.alloc (.cells ((cn .u8 l).toArray ++ (cn .u8 [y]).toArray ++ Builtin.zeroCells (Value.int IntKind.u8 0).cells (c - (T + 1))) 5)) :=
      ⟨rfl, rfl, rfl, by show W.heap.size ≤ _; have : W.drew.heap.size = W.heap.size := rfl; simp [this], fun k hk => heap_alloc_old W.drew _ hk⟩
    exact below_then hb1 hb3
def GivesOwnT (w : World) (n : Nat) (l : List Nat) (e : Ending) (w' : World) : Prop := ∃ g, e = .returned (.tuple #[.slice (some ⟨g, 0, none⟩) n n, .int .i64 0]) ∧ w.heap.size ≤ g ∧ Rd .u8 w' (some ⟨g, 0, none⟩) n l ∧ Below w.heap.size w w'
theorem wpList_appGrow {ops : Array Oper} {rest : List Oper} {o : Oper} {a : Act} {w : World} {Q : Exit → Act → World → Prop} (hgd : o.guard = none) (s x : Operand) (ho : o.op = .call { callee := .builtin .append, args := #[s, x], argTypes := #[25, 25] })
    (g T y : Nat) (l : List Nat) (hs : a.eval s = .slice (some ⟨g, 0, none⟩) T T) (hx : a.eval x = .slice (some ⟨w.heap.size, 0, none⟩) 1 1) (hr : Rd .u8 w (some ⟨g, 0, none⟩) T l) (h1 : 1 ≤ T) (hT : T ≤ 100000) (N : Nat) (hN : T + 1 = N) (yy : Int) (hy : yy = (y : Int))
    (h : ∀ A' c w', N ≤ c → Hid (Rd .u8 w' A' N (l ++ [y])) → Below w.heap.size w w' → wpList Tryz.prog ops Q rest (a.put o.dst (.slice A' N c)) w') : wpList Tryz.prog ops Q (o :: rest) a (w.alloc (.cells #[.int .u8 yy] 5)) := by
  subst hN hy
  obtain ⟨c, w', hrun, hc, hrd, hb⟩ := run_appGrow o.type g T y l w hr h1 hT
  refine wpList_plain hgd fun K hK => ?_
  unfold Oper.wp
  simp [execOp, ho, resolve, invoke, builtin, hs, hx, hrun, Result.andThen]
  exact hK _ _ (h _ c w' hc hrd hb)
theorem parts_four (p0 p1 p2 p3 : Bt) (w : World) (h : ∀ p ∈ [p0, p1, p2, p3], Rd .u8 w p.A p.n p.l ∧ Fit 256 p.l ∧ p.n ≤ p.cap) :
    PartsR (w.alloc (.cells #[.slice p0.A p0.n p0.cap, .slice p1.A p1.n p1.cap, .slice p2.A p2.n p2.cap, .slice p3.A p3.n p3.cap] 25)) (some ⟨w.heap.size, 0, none⟩) 4 [p0, p1, p2, p3] := by
  have hbl : Blk (w.alloc (.cells #[.slice p0.A p0.n p0.cap, .slice p1.A p1.n p1.cap, .slice p2.A p2.n p2.cap, .slice p3.A p3.n p3.cap] 25)) w.heap.size 25 (cells_ [p0, p1, p2, p3]) := Blk.new w 25 (cells_ [p0, p1, p2, p3])
  have hb1 : Below w.heap.size w (w.alloc (.cells #[.slice p0.A p0.n p0.cap, .slice p1.A p1.n p1.cap, .slice p2.A p2.n p2.cap, .slice p3.A p3.n p3.cap] 25)) := (Below.refl _ _).alloc (Nat.le_refl _) _
  refine ⟨rfl, fun _ => ⟨_, rfl, hbl.lt, fun j p hj => ?_⟩, fun p hp => ⟨(h p hp).1.below hb1, (h p hp).2⟩⟩
  rw [addr_add, Nat.zero_add, hbl.cell, cells_, List.getElem?_map, hj]
  rfl
set_option maxHeartbeats 2000000 in
theorem Block_ok (z : Nat) (hz : z = 1 ∨ z = 2) (A : Option Addr) (n cap : Nat) (l : List Nat) (hn : sizeOfAlg z = n) (hc : n ≤ cap) (sz : Nat) (w : World) (hr : Rd .u8 w A n l) (hf : Fit 256 l) (h1 : 30 + n ≤ sz) (h2 : sz ≤ 512) :
    Calls Tryz.prog 142 #[.int .i64 (z : Int), .slice A n cap, .int .i64 (sz : Int)] w (GivesOwnT w sz (blockOf z l sz)) := by
  have hn2 : n = 32 ∨ n = 64 := by have := sizeAlg_cases hz; omega
  have d0 : ((n : Int) == 0) = false := by simp; omega
  obtain ⟨T, hT⟩ : ∃ T, sz = T + 22 + n := ⟨sz - 22 - n, by omega⟩
  have HTT := Lib.hid hT
  have q1 : ¬ (sz : Int) < 0 := by omega
  have q2 : ¬ (512 : Int) < sz := by omega
  have q3 : (sz : Int) - 2 - 1 - 19 - (n : Int) = (T : Int) := by omega
  have q4 : ¬ (T : Int) < 8 := by omega
  have HS := Lib.hid hn
  have HZ := Lib.hid hz
  have HR := Lib.hid hr
  have hT1 : 1 ≤ T ∧ T ≤ 1000 := by omega
  obtain ⟨T1, hT1'⟩ : ∃ T1, T + 1 = T1 := ⟨_, rfl⟩
  have HT1 := Lib.hid hT1'
  clear hn hz hr hT hT1'
  go_enter Tryz.func142, Tryz.ntmps142
  go_wp2_with fail
  refine (Size7_any z w).mono ?_
  rintro e w1 ⟨rfl, rfl⟩
  rw [HS.out]
  go_wp2_with fail
  refine (Size7_any z w).mono ?_
  rintro e w1 ⟨rfl, rfl⟩
  rw [HS.out]
  have HF : Hid (Rd .u8 (w.alloc (.cells #[.int .u8 0, .int .u8 1] 5)) (some ⟨w.heap.size, 0, none⟩) 2 [0, 1]) := Blk.rd (k := .u8) (l := [0, 1]) (Blk.new w 5 (cn .u8 [0, 1])) 2 rfl
  have hba : Below w.heap.size w (w.alloc (.cells #[.int .u8 0, .int .u8 1] 5)) := (Below.refl w.heap.size w).alloc (Nat.le_refl _) _
  go_wp2_with fail
  generalize hg0 : w.heap.size = g0 at *
  generalize w.alloc (.cells #[.int .u8 0, .int .u8 1] 5) = w1 at *
  rw [← hg0] at hba
  refine (head7_any z HZ.out w1).mono ?_
  rintro e w2 ⟨rfl, hB2, hb2⟩
  have HH := Lib.hid (hB2.rd 19 (headOf_length z))
  have bel2 := below_then hba hb2
  generalize hg1 : w1.heap.size = g1 at *
  have HG1 := Lib.hid hg1
  have HG0 := Lib.hid hg0
  rw [← hg1] at hb2
  clear hB2 hg0 hg1
  have HY : Hid (Rd .u8 (w2.alloc (.cells #[.int .u8 255] 5)) (some ⟨w2.heap.size, 0, none⟩) 1 [255]) := Blk.rd (k := .u8) (l := [255]) (Blk.new w2 5 (cn .u8 [255])) 1 rfl
  have hby : Below w2.heap.size w2 (w2.alloc (.cells #[.int .u8 255] 5)) := (Below.refl _ _).alloc (Nat.le_refl _) _
  go_wp2_with fail
  generalize hg2 : w2.heap.size = g2 at *
  generalize w2.alloc (.cells #[.int .u8 255] 5) = w3 at *
  rw [← hg2] at hby
  refine (Repeat_any _ 1 255 T w3 HY.out (by omega) hT1.1 hT1.2).mono ?_
  rintro e w4 ⟨g4, rfl, hg4, hR4, hb4⟩
  have HR4 := Lib.hid hR4
  have HB24 := Lib.hid (below_then hby hb4)
  clear hR4 hg4 hby hb4 HY
  go_wp2_with (first
    | ((with_reducible refine at_dst (some 46) ?_); refine wpList_appGrow (o := ⟨some 46, _, _, _, _, _⟩) rfl (.tmp 44) (.tmp 45) rfl g4 T 0 _ rfl rfl HR4.out hT1.1 (by omega) T1 HT1.out _ (by first | rfl | omega) ?_; intro A5 c5 w5 hc5 HR5 hb5))
  have bel4 := below_then bel2 HB24.out
  have bel5 := below_then bel4 hb5
  have HPP := Lib.hid (parts_four ⟨some ⟨g0, 0, none⟩, 2, 2, [0, 1]⟩ ⟨A5, T1, c5, List.replicate T 255 ++ [0]⟩ ⟨some ⟨g1, 0, none⟩, 19, 19, headOf z⟩ ⟨A, n, cap, l⟩ w5 (by
    intro p hp
    simp only [List.mem_cons, List.not_mem_nil, or_false] at hp
    rcases hp with rfl | rfl | rfl | rfl
    · exact ⟨((HF.out.below hb2).below HB24.out).below hb5, (show Fit 256 [0, 1] from by unfold Fit; decide), Nat.le_refl _⟩
    · exact ⟨HR5.out, (Fit.replicate _ _ _ (by omega)).append (Fit.one (by omega)), hc5⟩
    · exact ⟨(HH.out.below HB24.out).below hb5, headOf_fit z, Nat.le_refl _⟩
    · exact ⟨HR.out.below bel5, hf, hc⟩))
  have hbj : Below w5.heap.size w5 (w5.alloc (.cells #[.slice (some ⟨g0, 0, none⟩) 2 2, .slice A5 T1 c5, .slice (some ⟨g1, 0, none⟩) 19 19, .slice A n cap] 25)) := (Below.refl _ _).alloc (Nat.le_refl _) _
  have bel6 := below_then bel5 hbj
  have hfl : flat [⟨some ⟨g0, 0, none⟩, 2, 2, [0, 1]⟩, ⟨A5, T1, c5, List.replicate T 255 ++ [0]⟩, ⟨some ⟨g1, 0, none⟩, 19, 19, headOf z⟩, ⟨A, n, cap, l⟩] = blockOf z l sz := by
    have e : sz - (22 + l.length) = T := by rw [HR.out.1]; have := HTT.out; omega
    rw [blockOf, e]
    simp [flat]
  have hlen : (blockOf z l sz).length = sz := blockOf_length (by rw [HR.out.1]; omega)
  have HFL := Lib.hid hfl
  have HLEN := Lib.hid hlen
  clear hbj hfl hlen
  refine (Join_any w5.heap.size 4 4 _ _ HPP.out (by omega) (by omega) (by omega) (by omega) sz (by rw [HFL.out]; exact HLEN.out) (by omega)).mono ?_
  rw [HFL.out]
  rintro e w7 ⟨g7, rfl, hg7, hR7, hb7⟩
  have HR7 := Lib.hid hR7
  have bel7 := below_then bel6 hb7
  have hg8 := Nat.le_trans bel6.size hg7
  clear hR7 hg7 hb7 HPP
  go_wp2
  go_ret2
  exact ⟨g7, rfl, hg8, HR7.out, bel7⟩
end Go.Proofs.YtlcoebenkhafcaaGreatDoor
