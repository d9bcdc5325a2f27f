/-
  What Block of package seal answers.
-/
import Derived.Test.YtppoikamenbckaaGreatDoorQ3
import Derived.Test.YtppoikamenbckaaGreatDoorQ4
import Derived.Laws.Append
namespace Go.Proofs.YtppoikamenbckaaGreatDoor
open Go.RowKit
set_option linter.unusedVariables false
set_option linter.unusedSimpArgs false
set_option maxRecDepth 100000

theorem Block_alg (z : Int) (h1 : z ≠ 1) (h2 : z ≠ 2) (A : Option Addr) (n cap : Nat) (sz : Int) (w : World) :
    Calls Tryz.prog 18 #[.int .i64 z, .slice A n cap, .int .i64 sz] w (NoBs w 20) := by
  go_enter Tryz.func18, Tryz.ntmps18
  go_wp2_with fail
  refine (Size7_any z w).mono ?_
  rintro e w1 ⟨rfl, rfl⟩
  rw [sizeOfAlg, if_neg h1, if_neg h2]
  go_wp2
  go_ret2
  exact ⟨rfl, Below.refl _ _⟩
theorem Block_form (z : Nat) (hz : z = 1 ∨ z = 2) (A : Option Addr) (n cap : Nat) (hn : n ≠ sizeOfAlg z) (sz : Int) (w : World) :
    Calls Tryz.prog 18 #[.int .i64 (z : Int), .slice A n cap, .int .i64 sz] w (NoBs w 12) := by
  obtain ⟨s, hs⟩ : ∃ s, sizeOfAlg z = s := ⟨_, rfl⟩
  have hs2 : s = 32 ∨ s = 64 := by have := sizeAlg_cases hz; omega
  have d0 : ((s : Int) == 0) = false := by simp; omega
  rw [hs] at hn
  have d1 : ((n : Int) != (s : Int)) = true := by simp; omega
  have d2 : (n != s) = true := by simp [hn]
  have HS := Lib.hid hs
  clear hs hs2
  go_enter Tryz.func18, Tryz.ntmps18
  go_wp2_with fail
  refine (Size7_any z w).mono ?_
  rintro e w1 ⟨rfl, rfl⟩
  rw [HS.out]
  go_wp2_with fail
  refine (Size7_any z w).mono ?_
  rintro e w1 ⟨rfl, rfl⟩
  rw [HS.out]
  go_wp2
  go_ret2
  exact ⟨rfl, Below.refl _ _⟩
set_option maxHeartbeats 1000000 in
theorem Block_bits (z : Nat) (hz : z = 1 ∨ z = 2) (A : Option Addr) (n cap : Nat) (hn : sizeOfAlg z = n) (sz : Int) (hs1 : -9223372036854775808 ≤ sz) (hs2 : sz ≤ 9223372036854775807) (h : 512 < sz ∨ sz < 30 + n) (w : World) :
    Calls Tryz.prog 18 #[.int .i64 (z : Int), .slice A n cap, .int .i64 sz] w (NoBs w 21) := by
  have hn2 : n = 32 ∨ n = 64 := by have := sizeAlg_cases hz; omega
  have d0 : ((n : Int) == 0) = false := by simp; omega
  have HS := Lib.hid hn
  have HZ := Lib.hid hz
  clear hn hz
  by_cases q1 : sz < 0
  · go_enter Tryz.func18, Tryz.ntmps18
    go_wp2_with fail
    refine (Size7_any z w).mono ?_
    rintro e w1 ⟨rfl, rfl⟩
    rw [HS.out]
    go_wp2_with fail
    refine (Size7_any z w).mono ?_
    rintro e w1 ⟨rfl, rfl⟩
    rw [HS.out]
    go_wp2_with fail
    refine (head7_any z HZ.out _).mono ?_
    rintro e w2 ⟨rfl, hB2, hb2⟩
    have bel2 := below_then ((Below.refl w.heap.size w).alloc (Nat.le_refl _) _) hb2
    clear hB2
    go_wp2
    go_ret2
    exact ⟨rfl, bel2⟩
  · by_cases q2 : 512 < sz
    · go_enter Tryz.func18, Tryz.ntmps18
      go_wp2_with fail
      refine (Size7_any z w).mono ?_
      rintro e w1 ⟨rfl, rfl⟩
      rw [HS.out]
      go_wp2_with fail
      refine (Size7_any z w).mono ?_
      rintro e w1 ⟨rfl, rfl⟩
      rw [HS.out]
      go_wp2_with fail
      refine (head7_any z HZ.out _).mono ?_
      rintro e w2 ⟨rfl, hB2, hb2⟩
      have bel2 := below_then ((Below.refl w.heap.size w).alloc (Nat.le_refl _) _) hb2
      clear hB2
      go_wp2
      go_ret2
      exact ⟨rfl, bel2⟩
    · have q3 : sz - 2 - 1 - 19 - (n : Int) < 8 := by omega
      go_enter Tryz.func18, Tryz.ntmps18
      go_wp2_with fail
      refine (Size7_any z w).mono ?_
      rintro e w1 ⟨rfl, rfl⟩
      rw [HS.out]
      go_wp2_with fail
      refine (Size7_any z w).mono ?_
      rintro e w1 ⟨rfl, rfl⟩
      rw [HS.out]
      go_wp2_with fail
      refine (head7_any z HZ.out _).mono ?_
      rintro e w2 ⟨rfl, hB2, hb2⟩
      have bel2 := below_then ((Below.refl w.heap.size w).alloc (Nat.le_refl _) _) hb2
      clear hB2
      go_wp2
      go_ret2
      exact ⟨rfl, bel2⟩
/-- One byte behind bytes that have no room left: a new row. -/
theorem run_appGrow (ty : TypeId) (g T y : Nat) (l : List Nat) (w : World) (h : Rd .u8 w (some ⟨g, 0, none⟩) T l) (h1 : 1 ≤ T) (hT : T ≤ 100000) :
    ∃ c w', (Builtin.append_ #[22, 22] ty #[.slice (some ⟨g, 0, none⟩) T T, .slice (some ⟨w.heap.size, 0, none⟩) 1 1]).run Tryz.prog (w.alloc (.cells #[.int .u8 (y : Int)] 5)) = .ok (.slice (some ⟨w.heap.size + 1, 0, none⟩) (T + 1) c) w' ∧ T + 1 ≤ c ∧ Rd .u8 w' (some ⟨w.heap.size + 1, 0, none⟩) (T + 1) (l ++ [y]) ∧ Below w.heap.size w w' := by
  obtain ⟨i0, hi, hz0, hz1, hz2⟩ := info_parts byteInfo
  have hb1 : Below w.heap.size w (w.alloc (.cells #[.int .u8 (y : Int)] 5)) := (Below.refl _ _).alloc (Nat.le_refl _) _
  have hr := h.below hb1
  have hB : Blk (w.alloc (.cells #[.int .u8 (y : Int)] 5)) w.heap.size 5 (cn .u8 [y]) := Blk.new w 5 (cn .u8 [y])
  have hsz : (w.alloc (.cells #[.int .u8 (y : Int)] 5)).heap.size = w.heap.size + 1 := by simp
  generalize w.alloc (.cells #[.int .u8 (y : Int)] 5) = W at *
  obtain ⟨ad, e, hlt, hc⟩ := hr.2 (by omega)
  injection e with e
  subst e
  have hrun := run_append_grow (P := Tryz.prog) W 22 ty 5 i0 (.int .u8 0) Tryz.underlying22 hi hz0 ⟨g, 0, none⟩ T T (cn .u8 l) (by rw [cn_length, hr.1, hz1]; omega)
    (fun j v hv => by
      have hj := (List.getElem?_eq_some_iff.1 hv).1
      rw [cn_length] at hj
      obtain ⟨x, hx⟩ := get_some hj
      rw [cn_get hx] at hv
      injection hv with hv
      rw [← hv]
      exact hc j x hx)
    ⟨w.heap.size, 0, none⟩ 1 1 (cn .u8 [y]) (by rw [cn_length, hz1]; rfl)
    (fun j v hv => by rw [addr_add, Nat.zero_add, hB.cell]; exact hv)
    (by omega) (by omega) (growslice_fits (by omega) (by rw [hz2]; omega))
  have hge := grownCap_ge W (T + 1) T 5
  rw [hsz] at hrun
  generalize grownCap W (T + 1) T 5 = c at hrun hge
  refine ⟨c, _, hrun, hge, ?_, ?_⟩
  · have hb : (W.drew.alloc (.cells ((cn .u8 l).toArray ++ (cn .u8 [y]).toArray ++ Builtin.zeroCells (Value.int IntKind.u8 0).cells (c - (T + 1))) 5)).heap[w.heap.size + 1]? = some (.cells ((cn .u8 l).toArray ++ (cn .u8 [y]).toArray ++ Builtin.zeroCells (Value.int IntKind.u8 0).cells (c - (T + 1))) 5) := by
      have := heap_alloc_new W.drew (.cells ((cn .u8 l).toArray ++ (cn .u8 [y]).toArray ++ Builtin.zeroCells (Value.int IntKind.u8 0).cells (c - (T + 1))) 5)
      rwa [show W.drew.heap.size = w.heap.size + 1 from hsz] at this
    refine ⟨by rw [List.length_append, hr.1]; rfl, fun _ => ⟨_, rfl, ?_, fun j x hj => ?_⟩⟩
    · show w.heap.size + 1 < _
      have e2 : W.drew.heap.size = w.heap.size + 1 := hsz
      simp [e2]
    · rw [addr_add, Nat.zero_add]
      have hc2 := cell_of_row _ (w.heap.size + 1) j _ 5 (0, 0) hb
      rw [hc2]
      have hjl := (List.getElem?_eq_some_iff.1 hj).1
      have := cn_get (k := .u8) hj
      rw [cn_append] at this
      rw [Array.getElem?_append_left (by rw [Array.size_append]; simp only [List.size_toArray, cn_length]; rw [List.length_append] at hjl; exact hjl)]
      simpa using this
  · have hb3 : Below W.heap.size W (W.drew.alloc (.cells ((cn .u8 l).toArray ++ (cn .u8 [y]).toArray ++ Builtin.zeroCells (Value.int IntKind.u8 0).cells (c - (T + 1))) 5)) :=
      ⟨rfl, rfl, rfl, by show W.heap.size ≤ _; have : W.drew.heap.size = W.heap.size := rfl; simp [this], fun k hk => heap_alloc_old W.drew _ hk⟩
    exact below_then hb1 hb3
/-- An answer: bytes to be read, in a block of the call's own, and no error. -/
def GivesOwnT (w : World) (n : Nat) (l : List Nat) (e : Ending) (w' : World) : Prop := ∃ g, e = .returned (.tuple #[.slice (some ⟨g, 0, none⟩) n n, .int .i64 0]) ∧ w.heap.size ≤ g ∧ Rd .u8 w' (some ⟨g, 0, none⟩) n l ∧ Below w.heap.size w w'
theorem wpList_appGrow {ops : Array Oper} {rest : List Oper} {o : Oper} {a : Act} {w : World} {Q : Exit → Act → World → Prop} (hgd : o.guard = none) (s x : Operand) (ho : o.op = .call { callee := .builtin .append, args := #[s, x], argTypes := #[22, 22] })
    (g T y : Nat) (l : List Nat) (hs : a.eval s = .slice (some ⟨g, 0, none⟩) T T) (hx : a.eval x = .slice (some ⟨w.heap.size, 0, none⟩) 1 1) (hr : Rd .u8 w (some ⟨g, 0, none⟩) T l) (h1 : 1 ≤ T) (hT : T ≤ 100000) (N : Nat) (hN : T + 1 = N) (yy : Int) (hy : yy = (y : Int))
    (h : ∀ A' c w', N ≤ c → Hid (Rd .u8 w' A' N (l ++ [y])) → Below w.heap.size w w' → wpList Tryz.prog ops Q rest (a.put o.dst (.slice A' N c)) w') : wpList Tryz.prog ops Q (o :: rest) a (w.alloc (.cells #[.int .u8 yy] 5)) := by
  subst hN hy
  obtain ⟨c, w', hrun, hc, hrd, hb⟩ := run_appGrow o.type g T y l w hr h1 hT
  refine wpList_plain hgd fun K hK => ?_
  unfold Oper.wp
  simp [execOp, ho, resolve, invoke, builtin, hs, hx, hrun, Result.andThen]
  exact hK _ _ (h _ c w' hc hrd hb)
/-- Four parts that were just laid. -/
theorem parts_four (p0 p1 p2 p3 : Bt) (w : World) (h : ∀ p ∈ [p0, p1, p2, p3], Rd .u8 w p.A p.n p.l ∧ Fit 256 p.l ∧ p.n ≤ p.cap) :
    PartsR (w.alloc (.cells #[.slice p0.A p0.n p0.cap, .slice p1.A p1.n p1.cap, .slice p2.A p2.n p2.cap, .slice p3.A p3.n p3.cap] 22)) (some ⟨w.heap.size, 0, none⟩) 4 [p0, p1, p2, p3] := by
  have hbl : Blk (w.alloc (.cells #[.slice p0.A p0.n p0.cap, .slice p1.A p1.n p1.cap, .slice p2.A p2.n p2.cap, .slice p3.A p3.n p3.cap] 22)) w.heap.size 22 (cells_ [p0, p1, p2, p3]) := Blk.new w 22 (cells_ [p0, p1, p2, p3])
  have hb1 : Below w.heap.size w (w.alloc (.cells #[.slice p0.A p0.n p0.cap, .slice p1.A p1.n p1.cap, .slice p2.A p2.n p2.cap, .slice p3.A p3.n p3.cap] 22)) := (Below.refl _ _).alloc (Nat.le_refl _) _
  refine ⟨rfl, fun _ => ⟨_, rfl, hbl.lt, fun j p hj => ?_⟩, fun p hp => ⟨(h p hp).1.below hb1, (h p hp).2⟩⟩
  rw [addr_add, Nat.zero_add, hbl.cell, cells_, List.getElem?_map, hj]
  rfl
set_option maxHeartbeats 2000000 in
theorem Block_ok (z : Nat) (hz : z = 1 ∨ z = 2) (A : Option Addr) (n cap : Nat) (l : List Nat) (hn : sizeOfAlg z = n) (hc : n ≤ cap) (sz : Nat) (w : World) (hr : Rd .u8 w A n l) (hf : Fit 256 l) (h1 : 30 + n ≤ sz) (h2 : sz ≤ 512) :
    Calls Tryz.prog 18 #[.int .i64 (z : Int), .slice A n cap, .int .i64 (sz : Int)] w (GivesOwnT w sz (blockOf z l sz)) := by
  have hn2 : n = 32 ∨ n = 64 := by have := sizeAlg_cases hz; omega
  have d0 : ((n : Int) == 0) = false := by simp; omega
  obtain ⟨T, hT⟩ : ∃ T, sz = T + 22 + n := ⟨sz - 22 - n, by omega⟩
  have HTT := Lib.hid hT
  have q1 : ¬ (sz : Int) < 0 := by omega
  have q2 : ¬ (512 : Int) < sz := by omega
  have q3 : (sz : Int) - 2 - 1 - 19 - (n : Int) = (T : Int) := by omega
  have q4 : ¬ (T : Int) < 8 := by omega
  have HS := Lib.hid hn
  have HZ := Lib.hid hz
  have HR := Lib.hid hr
  have hT1 : 1 ≤ T ∧ T ≤ 1000 := by omega
  obtain ⟨T1, hT1'⟩ : ∃ T1, T + 1 = T1 := ⟨_, rfl⟩
  have HT1 := Lib.hid hT1'
  clear hn hz hr hT hT1'
  go_enter Tryz.func18, Tryz.ntmps18
  go_wp2_with fail
  refine (Size7_any z w).mono ?_
  rintro e w1 ⟨rfl, rfl⟩
  rw [HS.out]
  go_wp2_with fail
  refine (Size7_any z w).mono ?_
  rintro e w1 ⟨rfl, rfl⟩
  rw [HS.out]
  have HF : Hid (Rd .u8 (w.alloc (.cells #[.int .u8 0, .int .u8 1] 5)) (some ⟨w.heap.size, 0, none⟩) 2 [0, 1]) := Blk.rd (k := .u8) (l := [0, 1]) (Blk.new w 5 (cn .u8 [0, 1])) 2 rfl
  have hba : Below w.heap.size w (w.alloc (.cells #[.int .u8 0, .int .u8 1] 5)) := (Below.refl w.heap.size w).alloc (Nat.le_refl _) _
  go_wp2_with fail
  generalize hg0 : w.heap.size = g0 at *
  generalize w.alloc (.cells #[.int .u8 0, .int .u8 1] 5) = w1 at *
  rw [← hg0] at hba
  refine (head7_any z HZ.out w1).mono ?_
  rintro e w2 ⟨rfl, hB2, hb2⟩
  have HH := Lib.hid (hB2.rd 19 (headOf_length z))
  have bel2 := below_then hba hb2
  generalize hg1 : w1.heap.size = g1 at *
  have HG1 := Lib.hid hg1
  have HG0 := Lib.hid hg0
  rw [← hg1] at hb2
  clear hB2 hg0 hg1
  have HY : Hid (Rd .u8 (w2.alloc (.cells #[.int .u8 255] 5)) (some ⟨w2.heap.size, 0, none⟩) 1 [255]) := Blk.rd (k := .u8) (l := [255]) (Blk.new w2 5 (cn .u8 [255])) 1 rfl
  have hby : Below w2.heap.size w2 (w2.alloc (.cells #[.int .u8 255] 5)) := (Below.refl _ _).alloc (Nat.le_refl _) _
  go_wp2_with fail
  generalize hg2 : w2.heap.size = g2 at *
  generalize w2.alloc (.cells #[.int .u8 255] 5) = w3 at *
  rw [← hg2] at hby
  refine (Repeat_any _ 1 255 T w3 HY.out (by omega) hT1.1 hT1.2).mono ?_
  rintro e w4 ⟨g4, rfl, hg4, hR4, hb4⟩
  have HR4 := Lib.hid hR4
  have HB24 := Lib.hid (below_then hby hb4)
  clear hR4 hg4 hby hb4 HY
  go_wp2_with (first
    | ((with_reducible refine at_dst (some 46) ?_); refine wpList_appGrow (o := ⟨some 46, _, _, _, _, _⟩) rfl (.tmp 44) (.tmp 45) rfl g4 T 0 _ rfl rfl HR4.out hT1.1 (by omega) T1 HT1.out _ (by first | rfl | omega) ?_; intro A5 c5 w5 hc5 HR5 hb5))
  have bel4 := below_then bel2 HB24.out
  have bel5 := below_then bel4 hb5
  have HPP := Lib.hid (parts_four ⟨some ⟨g0, 0, none⟩, 2, 2, [0, 1]⟩ ⟨A5, T1, c5, List.replicate T 255 ++ [0]⟩ ⟨some ⟨g1, 0, none⟩, 19, 19, headOf z⟩ ⟨A, n, cap, l⟩ w5 (by
    intro p hp
    simp only [List.mem_cons, List.not_mem_nil, or_false] at hp
    rcases hp with rfl | rfl | rfl | rfl
    · exact ⟨((HF.out.below hb2).below HB24.out).below hb5, (show Fit 256 [0, 1] from by unfold Fit; decide), Nat.le_refl _⟩
    · exact ⟨HR5.out, (Fit.replicate _ _ _ (by omega)).append (Fit.one (by omega)), hc5⟩
    · exact ⟨(HH.out.below HB24.out).below hb5, headOf_fit z, Nat.le_refl _⟩
    · exact ⟨HR.out.below bel5, hf, hc⟩))
  have hbj : Below w5.heap.size w5 (w5.alloc (.cells #[.slice (some ⟨g0, 0, none⟩) 2 2, .slice A5 T1 c5, .slice (some ⟨g1, 0, none⟩) 19 19, .slice A n cap] 22)) := (Below.refl _ _).alloc (Nat.le_refl _) _
  have bel6 := below_then bel5 hbj
  have hfl : flat [⟨some ⟨g0, 0, none⟩, 2, 2, [0, 1]⟩, ⟨A5, T1, c5, List.replicate T 255 ++ [0]⟩, ⟨some ⟨g1, 0, none⟩, 19, 19, headOf z⟩, ⟨A, n, cap, l⟩] = blockOf z l sz := by
    have e : sz - (22 + l.length) = T := by rw [HR.out.1]; have := HTT.out; omega
    rw [blockOf, e]
    simp [flat]
  have hlen : (blockOf z l sz).length = sz := blockOf_length (by rw [HR.out.1]; omega)
  have HFL := Lib.hid hfl
  have HLEN := Lib.hid hlen
  clear hbj hfl hlen
  refine (Join_any w5.heap.size 4 4 _ _ HPP.out (by omega) (by omega) (by omega) (by omega) sz (by rw [HFL.out]; exact HLEN.out) (by omega)).mono ?_
  rw [HFL.out]
  rintro e w7 ⟨g7, rfl, hg7, hR7, hb7⟩
  have HR7 := Lib.hid hR7
  have bel7 := below_then bel6 hb7
  have hg8 := Nat.le_trans bel6.size hg7
  clear hR7 hg7 hb7 HPP
  go_wp2
  go_ret2
  exact ⟨g7, rfl, hg8, HR7.out, bel7⟩
end Go.Proofs.YtppoikamenbckaaGreatDoor
