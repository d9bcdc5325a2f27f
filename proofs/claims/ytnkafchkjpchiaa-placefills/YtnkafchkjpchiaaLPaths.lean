/-
  PlacePaths returns true for every shape and every number: its walk, by the answers of the program's functions.
-/
import Derived.Test.YtnkafchkjpchiaaLCounts
namespace Go.Proofs.Ytnkafchkjpchiaa
open Go.RowKit
set_option linter.unusedVariables false
set_option linter.unusedSimpArgs false
set_option maxRecDepth 100000

set_option maxHeartbeats 2000000 in
theorem paths_bad (C : Code) (S B D i : Int) (w : World) (hS : I64 S) (hB : I64 B) (hD : I64 D) (hi : I64 i) (h : ¬ Rgt S B D) : Calls Try.prog 4 #[.agg #[.int .i64 S, .int .i64 B, .int .i64 D], .int .i64 i] w fun e w' => e = .returned (.bool true) ∧ Below w.heap.size w w' := by
  have HA : Hid (∀ w : World, _) := fun w => anchor_of C w
  have HP : Hid (∀ w : World, _) := fun w => C.pathBad S B D i w hS hB hD hi h
  have HRR : Hid (∀ w : World, Calls Try.prog 13 #[.agg #[.int .i64 S, .int .i64 B, .int .i64 D]] w fun e w' => e = .returned (.bool false) ∧ Below w.heap.size w w') := fun w => by have := RefRight_any S B D w; rwa [decide_eq_false h] at this
  clear C hS hB hD hi h
  have HB1 : Hid (Below w.heap.size w (w.alloc (.cells #[.int .i64 S, .int .i64 B, .int .i64 D] 23))) := (Below.refl _ _).alloc (Nat.le_refl _) _
  have HBK := Lib.hid (Blk.new w 23 [.int .i64 S, .int .i64 B, .int .i64 D])
  go_enter Try.func4, Try.ntmps4
  go_wp2_with fail
  generalize w.alloc (.cells #[.int .i64 S, .int .i64 B, .int .i64 D] 23) = W at *
  refine (HA.out W).mono ?_
  rintro e w1 ⟨rfl, hb1⟩
  have bk1 := HBK.out.below hb1 HBK.out.lt
  have BEL1 := Lib.hid (below_then HB1.out hb1)
  have c0 : w1.cell? ⟨w.heap.size, 0, none⟩ = some (.int .i64 S) := bk1.cell 0
  have c1 : w1.cell? ⟨w.heap.size, 1, none⟩ = some (.int .i64 B) := bk1.cell 1
  have c2 : w1.cell? ⟨w.heap.size, 2, none⟩ = some (.int .i64 D) := bk1.cell 2
  have BK1 := Lib.hid bk1
  clear bk1 hb1
  go_wp2_with fail
  refine (shape_any S B D w1).mono ?_
  rintro e w2 ⟨rfl, hb2⟩
  have bk2 := BK1.out.below hb2 BK1.out.lt
  have BEL2 := Lib.hid (below_then BEL1.out hb2)
  have hlt2 : w.heap.size < w2.heap.size := bk2.lt
  clear c0 c1 c2
  have c0 : w2.cell? ⟨w.heap.size, 0, none⟩ = some (.int .i64 S) := bk2.cell 0
  have c1 : w2.cell? ⟨w.heap.size, 1, none⟩ = some (.int .i64 B) := bk2.cell 1
  have c2 : w2.cell? ⟨w.heap.size, 2, none⟩ = some (.int .i64 D) := bk2.cell 2
  have BK2 := Lib.hid bk2
  clear bk2 hb2
  go_wp2_with fail
  have BEL3 : Hid (Below w.heap.size w (w2.alloc (.cells #[.int .i64 S, .int .i64 B, .int .i64 D] 25))) := BEL2.out.alloc (Nat.le_of_lt hlt2) _
  have T3 : Hid (Two (w2.alloc (.cells #[.int .i64 S, .int .i64 B, .int .i64 D] 25)) w.heap.size w2.heap.size S B D) := ⟨BK2.out.alloc _, Blk.new w2 25 [.int .i64 S, .int .i64 B, .int .i64 D]⟩
  generalize w2.heap.size = g at *
  clear c0 c1 c2
  generalize w2.alloc (.cells #[.int .i64 S, .int .i64 B, .int .i64 D] 25) = w3 at *
  refine (HP.out w3).mono ?_
  rintro e w4 ⟨A, c, rfl, hcm, hb4⟩
  have T4 := Lib.hid (T3.out.below hb4)
  have BEL4 := Lib.hid (below_then BEL3.out hb4)
  obtain ⟨⟨c0, c1, c2⟩, d0, d1, d2⟩ := T4.out.six
  clear hb4
  go_wp2_with fail
  refine (HRR.out w4).mono ?_
  rintro e w5 ⟨rfl, hb5⟩
  have T5 := Lib.hid (T4.out.below hb5)
  have BEL5 := Lib.hid (below_then BEL4.out hb5)
  go_wp2
  go_ret
  exact ⟨rfl, BEL5.out⟩
set_option maxHeartbeats 2000000 in
theorem paths_range (C : Code) (S B D a n : Nat) (i : Int) (w : World) (hi : I64 i) (h : Shp S B D a n) (ho : i < 0 ∨ (n : Int) ≤ i) : Calls Try.prog 4 #[.agg #[.int .i64 (S : Int), .int .i64 (B : Int), .int .i64 (D : Int)], .int .i64 i] w fun e w' => e = .returned (.bool true) ∧ Below w.heap.size w w' := by
  have hb := h.b
  have HSH := Lib.hid h
  have HA : Hid (∀ w : World, _) := fun w => anchor_of C w
  have HP : Hid (∀ w : World, _) := fun w => C.pathRange S B D a n i w h hi ho
  have HRR : Hid (∀ w : World, Calls Try.prog 13 #[.agg #[.int .i64 (S : Int), .int .i64 (B : Int), .int .i64 (D : Int)]] w fun e w' => e = .returned (.bool true) ∧ Below w.heap.size w w') := fun w => by have := RefRight_any S B D w; rwa [decide_eq_true h.rgt] at this
  clear C h
  have HB1 : Hid (Below w.heap.size w (w.alloc (.cells #[.int .i64 (S : Int), .int .i64 (B : Int), .int .i64 (D : Int)] 23))) := (Below.refl _ _).alloc (Nat.le_refl _) _
  have HBK := Lib.hid (Blk.new w 23 [.int .i64 (S : Int), .int .i64 (B : Int), .int .i64 (D : Int)])
  go_enter Try.func4, Try.ntmps4
  go_wp2_with fail
  generalize w.alloc (.cells #[.int .i64 (S : Int), .int .i64 (B : Int), .int .i64 (D : Int)] 23) = W at *
  refine (HA.out W).mono ?_
  rintro e w1 ⟨rfl, hb1⟩
  have bk1 := HBK.out.below hb1 HBK.out.lt
  have BEL1 := Lib.hid (below_then HB1.out hb1)
  have c0 : w1.cell? ⟨w.heap.size, 0, none⟩ = some (.int .i64 S) := bk1.cell 0
  have c1 : w1.cell? ⟨w.heap.size, 1, none⟩ = some (.int .i64 B) := bk1.cell 1
  have c2 : w1.cell? ⟨w.heap.size, 2, none⟩ = some (.int .i64 D) := bk1.cell 2
  have BK1 := Lib.hid bk1
  clear bk1 hb1
  go_wp2_with fail
  refine (shape_any S B D w1).mono ?_
  rintro e w2 ⟨rfl, hb2⟩
  have bk2 := BK1.out.below hb2 BK1.out.lt
  have BEL2 := Lib.hid (below_then BEL1.out hb2)
  have hlt2 : w.heap.size < w2.heap.size := bk2.lt
  clear c0 c1 c2
  have c0 : w2.cell? ⟨w.heap.size, 0, none⟩ = some (.int .i64 S) := bk2.cell 0
  have c1 : w2.cell? ⟨w.heap.size, 1, none⟩ = some (.int .i64 B) := bk2.cell 1
  have c2 : w2.cell? ⟨w.heap.size, 2, none⟩ = some (.int .i64 D) := bk2.cell 2
  have BK2 := Lib.hid bk2
  clear bk2 hb2
  go_wp2_with fail
  have BEL3 : Hid (Below w.heap.size w (w2.alloc (.cells #[.int .i64 (S : Int), .int .i64 (B : Int), .int .i64 (D : Int)] 25))) := BEL2.out.alloc (Nat.le_of_lt hlt2) _
  have T3 : Hid (Two (w2.alloc (.cells #[.int .i64 (S : Int), .int .i64 (B : Int), .int .i64 (D : Int)] 25)) w.heap.size w2.heap.size S B D) := ⟨BK2.out.alloc _, Blk.new w2 25 [.int .i64 (S : Int), .int .i64 (B : Int), .int .i64 (D : Int)]⟩
  generalize w2.heap.size = g at *
  clear c0 c1 c2
  generalize w2.alloc (.cells #[.int .i64 (S : Int), .int .i64 (B : Int), .int .i64 (D : Int)] 25) = w3 at *
  refine (HP.out w3).mono ?_
  rintro e w4 ⟨A, c, rfl, hcm, hb4⟩
  have T4 := Lib.hid (T3.out.below hb4)
  have BEL4 := Lib.hid (below_then BEL3.out hb4)
  obtain ⟨⟨c0, c1, c2⟩, d0, d1, d2⟩ := T4.out.six
  clear hb4
  go_wp2_with fail
  refine (HRR.out w4).mono ?_
  rintro e w5 ⟨rfl, hb5⟩
  have T5 := Lib.hid (T4.out.below hb5)
  have BEL5 := Lib.hid (below_then BEL4.out hb5)
  clear hb5 c0 c1 c2 d0 d1 d2
  obtain ⟨⟨c0, c1, c2⟩, d0, d1, d2⟩ := T5.out.six
  go_wp2_with fail
  refine (RefCounts_any S B D a n _ HSH.out).mono ?_
  rintro e w6 ⟨A', m', c', rfl, hrow, hb6⟩
  have T6 := Lib.hid (T5.out.below hb6)
  have BEL6 := Lib.hid (below_then BEL5.out hb6)
  have RD6 := Lib.hid hrow.rd
  have hmc' := hrow.le
  have hl1 := cs_len a n
  rw [RD6.out.1] at hl1
  clear hrow c0 c1 c2 d0 d1 d2
  obtain ⟨ad', x', rfl, hx', hc'⟩ := RD6.out.get (show 0 < m' by omega)
  obtain ⟨ex', hxl'⟩ := cs_le HSH.out hx'
  obtain rfl : x' = n := ex'
  have hc0' : w6.cell? ad' = some (.int .i64 (x' : Int)) := hc'
  have q1 : (0 : Int) < (m' : Int) := by omega
  have q3 : 0 < m' := by omega
  clear hx' hc'
  by_cases h0 : i < 0
  · go_wp2
    go_ret
    exact ⟨rfl, BEL6.out⟩
  · have h1 : (x' : Int) ≤ i := by omega
    go_wp2
    go_ret
    exact ⟨rfl, BEL6.out⟩
set_option maxHeartbeats 2000000 in
theorem paths_ok (C : Code) (S B D a n i : Nat) (w : World) (h : Shp S B D a n) (ho : i < n) : Calls Try.prog 4 #[.agg #[.int .i64 (S : Int), .int .i64 (B : Int), .int .i64 (D : Int)], .int .i64 (i : Int)] w fun e w' => e = .returned (.bool true) ∧ Below w.heap.size w w' := by
  have hb := h.b
  have HSH := Lib.hid h
  have HA : Hid (∀ w : World, _) := fun w => anchor_of C w
  have HP : Hid (∀ w : World, _) := fun w => C.pathOk S B D a n i w h ho
  have HRR : Hid (∀ w : World, Calls Try.prog 13 #[.agg #[.int .i64 (S : Int), .int .i64 (B : Int), .int .i64 (D : Int)]] w fun e w' => e = .returned (.bool true) ∧ Below w.heap.size w w') := fun w => by have := RefRight_any S B D w; rwa [decide_eq_true h.rgt] at this
  clear C h
  have HB1 : Hid (Below w.heap.size w (w.alloc (.cells #[.int .i64 (S : Int), .int .i64 (B : Int), .int .i64 (D : Int)] 23))) := (Below.refl _ _).alloc (Nat.le_refl _) _
  have HBK := Lib.hid (Blk.new w 23 [.int .i64 (S : Int), .int .i64 (B : Int), .int .i64 (D : Int)])
  go_enter Try.func4, Try.ntmps4
  go_wp2_with fail
  generalize w.alloc (.cells #[.int .i64 (S : Int), .int .i64 (B : Int), .int .i64 (D : Int)] 23) = W at *
  refine (HA.out W).mono ?_
  rintro e w1 ⟨rfl, hb1⟩
  have bk1 := HBK.out.below hb1 HBK.out.lt
  have BEL1 := Lib.hid (below_then HB1.out hb1)
  have c0 : w1.cell? ⟨w.heap.size, 0, none⟩ = some (.int .i64 S) := bk1.cell 0
  have c1 : w1.cell? ⟨w.heap.size, 1, none⟩ = some (.int .i64 B) := bk1.cell 1
  have c2 : w1.cell? ⟨w.heap.size, 2, none⟩ = some (.int .i64 D) := bk1.cell 2
  have BK1 := Lib.hid bk1
  clear bk1 hb1
  go_wp2_with fail
  refine (shape_any S B D w1).mono ?_
  rintro e w2 ⟨rfl, hb2⟩
  have bk2 := BK1.out.below hb2 BK1.out.lt
  have BEL2 := Lib.hid (below_then BEL1.out hb2)
  have hlt2 : w.heap.size < w2.heap.size := bk2.lt
  clear c0 c1 c2
  have c0 : w2.cell? ⟨w.heap.size, 0, none⟩ = some (.int .i64 S) := bk2.cell 0
  have c1 : w2.cell? ⟨w.heap.size, 1, none⟩ = some (.int .i64 B) := bk2.cell 1
  have c2 : w2.cell? ⟨w.heap.size, 2, none⟩ = some (.int .i64 D) := bk2.cell 2
  have BK2 := Lib.hid bk2
  clear bk2 hb2
  go_wp2_with fail
  have BEL3 : Hid (Below w.heap.size w (w2.alloc (.cells #[.int .i64 (S : Int), .int .i64 (B : Int), .int .i64 (D : Int)] 25))) := BEL2.out.alloc (Nat.le_of_lt hlt2) _
  have T3 : Hid (Two (w2.alloc (.cells #[.int .i64 (S : Int), .int .i64 (B : Int), .int .i64 (D : Int)] 25)) w.heap.size w2.heap.size S B D) := ⟨BK2.out.alloc _, Blk.new w2 25 [.int .i64 (S : Int), .int .i64 (B : Int), .int .i64 (D : Int)]⟩
  generalize w2.heap.size = g at *
  clear c0 c1 c2
  generalize w2.alloc (.cells #[.int .i64 (S : Int), .int .i64 (B : Int), .int .i64 (D : Int)] 25) = w3 at *
  refine (HP.out w3).mono ?_
  rintro e w4 ⟨A, m, c, rfl, hml, hpth, hmc, hcm, hb4⟩
  have T4 := Lib.hid (T3.out.below hb4)
  have PT4 := Lib.hid hpth
  have HML := Lib.hid hml
  clear hpth hml
  have BEL4 := Lib.hid (below_then BEL3.out hb4)
  obtain ⟨⟨c0, c1, c2⟩, d0, d1, d2⟩ := T4.out.six
  clear hb4
  go_wp2_with fail
  refine (HRR.out w4).mono ?_
  rintro e w5 ⟨rfl, hb5⟩
  have T5 := Lib.hid (T4.out.below hb5)
  have PT5 := Lib.hid (PT4.out.below hb5)
  have BEL5 := Lib.hid (below_then BEL4.out hb5)
  clear hb5 c0 c1 c2 d0 d1 d2
  obtain ⟨⟨c0, c1, c2⟩, d0, d1, d2⟩ := T5.out.six
  go_wp2_with fail
  refine (RefCounts_any S B D a n _ HSH.out).mono ?_
  rintro e w6 ⟨A', m', c', rfl, hrow, hb6⟩
  have T6 := Lib.hid (T5.out.below hb6)
  have BEL6 := Lib.hid (below_then BEL5.out hb6)
  have RD6 := Lib.hid hrow.rd
  have hmc' := hrow.le
  have hl1 := cs_len a n
  rw [RD6.out.1] at hl1
  clear hrow c0 c1 c2 d0 d1 d2
  obtain ⟨ad', x', rfl, hx', hc'⟩ := RD6.out.get (show 0 < m' by omega)
  obtain ⟨ex', hxl'⟩ := cs_le HSH.out hx'
  obtain rfl : x' = n := ex'
  have hc0' : w6.cell? ad' = some (.int .i64 (x' : Int)) := hc'
  have q1 : (0 : Int) < (m' : Int) := by omega
  have q3 : 0 < m' := by omega
  clear hx' hc'
  have PT6 := Lib.hid (PT5.out.below hb6)
  have e1 : m' = m := by rw [← RD6.out.1, HML.out]
  subst e1
  have h0 : ¬ (i : Int) < 0 := by omega
  have h1 : ¬ (x' : Int) ≤ i := by omega
  have h2 : (i : Int) < x' := by omega
  have h3 : ¬ x' ≤ i := by omega
  clear hb6
  go_wp2
  have INV0 : Hid (Below w6.heap.size w6 (w6.alloc (.cells #[.int .i64 (i : Int), .int .i64 0] 40)) ∧ Blk (w6.alloc (.cells #[.int .i64 (i : Int), .int .i64 0] 40)) w6.heap.size 40 [.int .i64 ((i / a ^ (min 0 (m' - 1)) : Nat) : Int), .int .i64 ((min 0 (m' - 1) : Nat) : Int)]) :=
    ⟨(Below.refl _ _).alloc (Nat.le_refl _) _, by rw [Nat.zero_min, Nat.pow_zero, Nat.div_one]; exact Blk.new w6 40 [.int .i64 (i : Int), .int .i64 0]⟩
  have HI := Lib.hid ho
  have HTOP := Lib.hid (cnts_top a HSH.out.a2.1 40 x' HSH.out.n1.1 HSH.out.n1.2)
  clear ho h0 h1 h2 h3 hc0' q1
  go_loopw [63] (fun o wr => ∃ j : Nat, j ≤ m' ∧ o = .int .i64 (j : Int) ∧ Hid (Below w6.heap.size w6 wr ∧ Blk wr w6.heap.size 40 [.int .i64 ((i / a ^ (min j (m' - 1)) : Nat) : Int), .int .i64 ((min j (m' - 1) : Nat) : Int)])) (fun o _ => m' - (intOf o).toNat)
  case atStart => exact ⟨0, by omega, rfl, INV0⟩
  case round =>
    obtain ⟨j, hj, rfl, INV⟩ := hrel
    clear INV0
    obtain ⟨l, hl⟩ : ∃ l, min j (m' - 1) = l := ⟨_, rfl⟩
    obtain ⟨q, hq⟩ : ∃ q, i / a ^ l = q := ⟨_, rfl⟩
    have hqi : q ≤ 1099511627776 := by
      have h1 : q ≤ i := by rw [← hq]; exact Nat.div_le_self _ _
      have h2 := HI.out
      have h3 := HSH.out.n1.2
      omega
    have hqn : q < lev a x' l := by rw [← hq]; exact above_lt (by have := HSH.out.a2; omega) HI.out l
    rw [hl, hq] at INV
    have HQ := Lib.hid hq
    have bk := INV.out.2
    have p0 : wr.cell? ⟨w6.heap.size, 0, none⟩ = some (.int .i64 (q : Int)) := bk.cell 0
    have p1 : wr.cell? ⟨w6.heap.size, 1, none⟩ = some (.int .i64 (l : Int)) := bk.cell 1
    have HQN := Lib.hid hqn
    clear hq bk hqn
    by_cases hjm : j < m'
    · obtain rfl : j = l := by omega
      clear hl
      obtain ⟨ad, x, y, rfl, hc, HX, HY⟩ := PT6.out.below INV.out.1 j hjm
      have HX2 := Lib.hid HX
      have HY2 := Lib.hid HY
      clear HX HY
      go_wp2_with fail
      refine (Number_any (q : Int) (j : Int) wr).mono ?_
      rintro e w7 ⟨rfl, hb7⟩
      have e1 := is_eq HX2.out (is_ofInt (q : Int) (by omega) (by omega))
      have e2 := is_eq HY2.out (is_ofInt (j : Int) (by omega) (by omega))
      rw [HQ.out, decide_eq_true rfl] at e1
      rw [decide_eq_true rfl] at e2
      have BE7 : Hid (Below w6.heap.size w6 w7) := INV.out.1.trans (hb7.mono INV.out.1.size)
      have bk7 := INV.out.2.below hb7 INV.out.2.lt
      obtain ⟨⟨c0, c1, c2⟩, d0, d1, d2⟩ := (T6.out.below BE7.out).six
      have BK7 := Lib.hid bk7
      clear p0 p1 hb7
      have p0 : w7.cell? ⟨w6.heap.size, 0, none⟩ = some (.int .i64 (q : Int)) := bk7.cell 0
      have p1 : w7.cell? ⟨w6.heap.size, 1, none⟩ = some (.int .i64 (j : Int)) := bk7.cell 1
      clear bk7
      go_wp2_with fail
      refine (RefIn_yes S B D a x' q j w7 HSH.out (by rw [HML.out]; exact hjm) HQN.out).mono ?_
      rintro e w8 ⟨rfl, hb8⟩
      have BE8 : Hid (Below w6.heap.size w6 w8) := BE7.out.trans (hb8.mono BE7.out.size)
      have bk8 := BK7.out.below hb8 BK7.out.lt
      clear p0 p1 hb8 c0 c1 c2 d0 d1 d2 e1 e2
      obtain ⟨⟨c0, c1, c2⟩, d0, d1, d2⟩ := (T6.out.below BE8.out).six
      have p0 : w8.cell? ⟨w6.heap.size, 0, none⟩ = some (.int .i64 (q : Int)) := bk8.cell 0
      have p1 : w8.cell? ⟨w6.heap.size, 1, none⟩ = some (.int .i64 (j : Int)) := bk8.cell 1
      have BK8 := Lib.hid bk8
      clear bk8
      by_cases hj1 : j + 1 < m'
      · have hz : (j : Int) + 1 < m' := by omega
        go_wp2_with fail
        refine (RefAbove_any S B D a x' q j w8 HSH.out (by omega) (by omega)).mono ?_
        rintro e w9 ⟨rfl, hb9⟩
        have BE9 : Hid (Below w6.heap.size w6 w9) := BE8.out.trans (hb9.mono BE8.out.size)
        have bk9 := BK8.out.below hb9 BK8.out.lt
        clear p0 p1 hb9 c0 c1 c2 d0 d1 d2
        have hfz0 := bk9.frozen 0
        have hfz1 := bk9.frozen 1
        have p0 : w9.cell? ⟨w6.heap.size, 0, none⟩ = some (.int .i64 (q : Int)) := bk9.cell 0
        have p1 : w9.cell? ⟨w6.heap.size, 1, none⟩ = some (.int .i64 (j : Int)) := bk9.cell 1
        have BK9 := Lib.hid bk9
        clear bk9
        obtain ⟨q2, hq2⟩ : ∃ q2, q / a = q2 := ⟨_, rfl⟩
        obtain ⟨j2, hj2⟩ : ∃ j2, j + 1 = j2 := ⟨_, rfl⟩
        obtain ⟨t2, ht2⟩ : ∃ t2, q % a * D = t2 := ⟨_, rfl⟩
        rw [hq2, hj2, ht2]
        have HQ2 := Lib.hid hq2
        have HJ2 := Lib.hid hj2
        clear hq2 ht2 hj2
        go_wp2
        go_roundw
        case rel =>
          refine ⟨j + 1, by omega, by go_num, (BE9.out.setCell (Nat.le_refl _) _).setCell (Nat.le_refl _) _, ?_⟩
          rw [show min (j + 1) (m' - 1) = j + 1 by omega, Nat.pow_succ, ← Nat.div_div_eq_div_mul, HQ.out, HQ2.out, HJ2.out]
          exact (BK9.out.set_ 0 _).set_ 1 _
        case measure => simp [intOf]; omega
      · have hz : ¬ (j : Int) + 1 < m' := by omega
        go_wp2
        go_roundw
        case rel => exact ⟨j + 1, by omega, by go_num, BE8.out, by rw [show min (j + 1) (m' - 1) = j by omega, HQ.out]; exact BK8.out⟩
        case measure => simp [intOf]; omega
    · obtain rfl : j = m' := by omega
      have HL2 : Hid (l = j - 1) := by show _ = _; omega
      have hlj : l < j := by omega
      have RDr := RD6.out.below INV.out.1
      obtain ⟨ad2, x2, hA, hx2, hc2⟩ := RDr.get hlj
      obtain rfl : ad' = ad2 := by injection hA
      have ex2 : x2 = 1 := by
        rw [(cs_le HSH.out hx2).1, HL2.out, ← HML.out]
        exact HTOP.out.1
      subst ex2
      clear RDr hA hx2 hl hj hjm
      have z1 : (0 : Int) ≤ l := by omega
      have z2 : (l : Int) < j := by omega
      go_wp2
      go_ret
      exact ⟨rfl, BEL6.out.trans (INV.out.1.mono BEL6.out.size)⟩
/-- PlacePaths returns true for every shape and every number. -/
theorem paths_walk (C : Code) (S B D i : Int) (w : World) (wS : (Lit.int .i64 S).wf = true) (wB : (Lit.int .i64 B).wf = true) (wD : (Lit.int .i64 D).wf = true) (wi : (Lit.int .i64 i).wf = true) : Calls Try.prog 4 #[.agg #[.int .i64 S, .int .i64 B, .int .i64 D], .int .i64 i] w fun e w' => e = .returned (.bool true) ∧ Below w.heap.size w w' := by
  by_cases h : Rgt S B D
  · obtain ⟨s, b, d, a, n, rfl, rfl, rfl, hs⟩ := h.shp
    by_cases ho : i < 0 ∨ (n : Int) ≤ i
    · exact paths_range C s b d a n i w (i64_wf wi) hs ho
    · obtain ⟨j, rfl⟩ : ∃ j : Nat, i = j := ⟨i.toNat, by omega⟩
      exact paths_ok C s b d a n j w hs (by omega)
  · exact paths_bad C S B D i w (i64_wf wS) (i64_wf wB) (i64_wf wD) (i64_wf wi) h
end Go.Proofs.Ytnkafchkjpchiaa
