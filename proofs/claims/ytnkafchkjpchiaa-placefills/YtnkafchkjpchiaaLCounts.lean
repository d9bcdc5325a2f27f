/-
  PlaceCounts returns true for every shape: its walk, by the answers of the program's functions.
-/
import Derived.Test.YtnkafchkjpchiaaLGrows
namespace Go.Proofs.Ytnkafchkjpchiaa
open Go.RowKit
set_option linter.unusedVariables false
set_option linter.unusedSimpArgs false
set_option maxRecDepth 100000

/-- The program's shape and the document's, in their blocks. -/
def Two (w : World) (g h : Nat) (S B D : Int) : Prop := Blk w g 23 [.int .i64 S, .int .i64 B, .int .i64 D] ∧ Blk w h 25 [.int .i64 S, .int .i64 B, .int .i64 D]
theorem Two.below {w w' : World} {g h : Nat} {S B D : Int} (k : Two w g h S B D) (hb : Below w.heap.size w w') : Two w' g h S B D := ⟨k.1.below hb k.1.lt, k.2.below hb k.2.lt⟩
theorem Two.six {w : World} {g h : Nat} {S B D : Int} (k : Two w g h S B D) : (w.cell? ⟨g, 0, none⟩ = some (.int .i64 S) ∧ w.cell? ⟨g, 1, none⟩ = some (.int .i64 B) ∧ w.cell? ⟨g, 2, none⟩ = some (.int .i64 D)) ∧ (w.cell? ⟨h, 0, none⟩ = some (.int .i64 S) ∧ w.cell? ⟨h, 1, none⟩ = some (.int .i64 B) ∧ w.cell? ⟨h, 2, none⟩ = some (.int .i64 D)) :=
  ⟨⟨k.1.cell 0, k.1.cell 1, k.1.cell 2⟩, ⟨k.2.cell 0, k.2.cell 1, k.2.cell 2⟩⟩
set_option maxHeartbeats 2000000 in
theorem counts_bad (C : Code) (S B D : Int) (w : World) (hS : I64 S) (hB : I64 B) (hD : I64 D) (h : ¬ Rgt S B D) : Calls Try.prog 3 #[.agg #[.int .i64 S, .int .i64 B, .int .i64 D]] w fun e w' => e = .returned (.bool true) ∧ Below w.heap.size w w' := by
  have HA : Hid (∀ w : World, _) := fun w => anchor_of C w
  have HC : Hid (∀ w : World, _) := fun w => C.countsBad S B D w hS hB hD h
  have HT : Hid (∀ w : World, _) := fun w => C.totalBad S B D w hS hB hD h
  have HR : Hid (∀ w : World, Calls Try.prog 12 #[.agg #[.int .i64 S, .int .i64 B, .int .i64 D]] w fun e w' => e = .returned (.bool false) ∧ Below w.heap.size w w') := fun w => by have := C.right S B D w hS hB hD; rwa [decide_eq_false h] at this
  have HRR : Hid (∀ w : World, Calls Try.prog 13 #[.agg #[.int .i64 S, .int .i64 B, .int .i64 D]] w fun e w' => e = .returned (.bool false) ∧ Below w.heap.size w w') := fun w => by have := RefRight_any S B D w; rwa [decide_eq_false h] at this
  have HB1 : Hid (Below w.heap.size w (w.alloc (.cells #[.int .i64 S, .int .i64 B, .int .i64 D] 23))) := (Below.refl _ _).alloc (Nat.le_refl _) _
  have HBK := Lib.hid (Blk.new w 23 [.int .i64 S, .int .i64 B, .int .i64 D])
  clear C hS hB hD h
  go_enter Try.func3, Try.ntmps3
  go_wp2_with fail
  generalize w.alloc (.cells #[.int .i64 S, .int .i64 B, .int .i64 D] 23) = W at *
  refine (HA.out W).mono ?_
  rintro e w1 ⟨rfl, hb1⟩
  have bk1 := HBK.out.below hb1 HBK.out.lt
  have BEL1 := Lib.hid (below_then HB1.out hb1)
  have c0 : w1.cell? ⟨w.heap.size, 0, none⟩ = some (.int .i64 S) := bk1.cell 0
  have c1 : w1.cell? ⟨w.heap.size, 1, none⟩ = some (.int .i64 B) := bk1.cell 1
  have c2 : w1.cell? ⟨w.heap.size, 2, none⟩ = some (.int .i64 D) := bk1.cell 2
  have BK1 := Lib.hid bk1
  clear bk1 hb1
  go_wp2_with fail
  refine (shape_any S B D w1).mono ?_
  rintro e w2 ⟨rfl, hb2⟩
  have bk2 := BK1.out.below hb2 BK1.out.lt
  have BEL2 := Lib.hid (below_then BEL1.out hb2)
  have hlt2 : w.heap.size < w2.heap.size := bk2.lt
  clear c0 c1 c2
  have c0 : w2.cell? ⟨w.heap.size, 0, none⟩ = some (.int .i64 S) := bk2.cell 0
  have c1 : w2.cell? ⟨w.heap.size, 1, none⟩ = some (.int .i64 B) := bk2.cell 1
  have c2 : w2.cell? ⟨w.heap.size, 2, none⟩ = some (.int .i64 D) := bk2.cell 2
  have BK2 := Lib.hid bk2
  clear bk2 hb2
  go_wp2_with fail
  have BEL3 : Hid (Below w.heap.size w (w2.alloc (.cells #[.int .i64 S, .int .i64 B, .int .i64 D] 25))) := BEL2.out.alloc (Nat.le_of_lt hlt2) _
  have T3 : Hid (Two (w2.alloc (.cells #[.int .i64 S, .int .i64 B, .int .i64 D] 25)) w.heap.size w2.heap.size S B D) := ⟨BK2.out.alloc _, Blk.new w2 25 [.int .i64 S, .int .i64 B, .int .i64 D]⟩
  generalize w2.heap.size = g at *
  clear c0 c1 c2
  generalize w2.alloc (.cells #[.int .i64 S, .int .i64 B, .int .i64 D] 25) = w3 at *
  refine (HC.out w3).mono ?_
  rintro e w4 ⟨A, c, rfl, hcm, hb4⟩
  have T4 := Lib.hid (T3.out.below hb4)
  have BEL4 := Lib.hid (below_then BEL3.out hb4)
  obtain ⟨⟨c0, c1, c2⟩, d0, d1, d2⟩ := T4.out.six
  clear hb4
  go_wp2_with fail
  refine (HT.out w4).mono ?_
  rintro e w5 ⟨rfl, hb5⟩
  have T5 := Lib.hid (T4.out.below hb5)
  have BEL5 := Lib.hid (below_then BEL4.out hb5)
  clear hb5 c0 c1 c2 d0 d1 d2
  obtain ⟨⟨c0, c1, c2⟩, d0, d1, d2⟩ := T5.out.six
  go_wp2
  have T6 : Hid (Two w5.drew w.heap.size g S B D) := T5.out.below (below_drew1 below_self)
  have BEL6 := Lib.hid (below_drew1 BEL5.out)
  clear c0 c1 c2 d0 d1 d2
  obtain ⟨⟨c0, c1, c2⟩, d0, d1, d2⟩ := T6.out.six
  go_region_held3 (fun w' => (w'.cell? ⟨w.heap.size, 0, none⟩ = some (.int .i64 S) ∧ w'.cell? ⟨w.heap.size, 1, none⟩ = some (.int .i64 B) ∧ w'.cell? ⟨w.heap.size, 2, none⟩ = some (.int .i64 D)) ∧ (w'.cell? ⟨g, 0, none⟩ = some (.int .i64 S) ∧ w'.cell? ⟨g, 1, none⟩ = some (.int .i64 B) ∧ w'.cell? ⟨g, 2, none⟩ = some (.int .i64 D))) (first | assumption | (refine ⟨⟨?_, ?_, ?_⟩, ?_, ?_, ?_⟩ <;> first | assumption | go_keep)) (first
    | (go_at_call 12; refine (HR.out _).mono ?_; rintro e w7 ⟨rfl, hb7⟩; have T7 := Lib.hid (T6.out.below hb7); have BEL7 := Lib.hid (below_then BEL6.out hb7); obtain ⟨⟨k0, k1, k2⟩, k3, k4, k5⟩ := T7.out.six)
    | (go_at_call 13; refine (HRR.out _).mono ?_; rintro e w8 ⟨rfl, hb8⟩; have T8 := Lib.hid (T7.out.below hb8); have BEL8 := Lib.hid (below_then BEL7.out hb8); obtain ⟨⟨m0, m1, m2⟩, m3, m4, m5⟩ := T8.out.six))
  clear c0 c1 c2 d0 d1 d2 k0 k1 k2 k3 k4 k5
  go_wp2_with fail
  refine (HRR.out _).mono ?_
  rintro e w9 ⟨rfl, hb9⟩
  go_wp2
  go_ret
  exact ⟨rfl, below_then BEL8.out hb9⟩
set_option maxHeartbeats 2000000 in
theorem counts_ok (C : Code) (S B D a n : Nat) (w : World) (h : Shp S B D a n) : Calls Try.prog 3 #[.agg #[.int .i64 (S : Int), .int .i64 (B : Int), .int .i64 (D : Int)]] w fun e w' => e = .returned (.bool true) ∧ Below w.heap.size w w' := by
  have hb := h.b
  have htot := h.total
  have HSH := Lib.hid h
  have HA : Hid (∀ w : World, _) := fun w => anchor_of C w
  have HC : Hid (∀ w : World, _) := fun w => C.countsOk S B D a n w h
  have HT : Hid (∀ w : World, _) := fun w => C.totalOk S B D a n w h
  have HR : Hid (∀ w : World, Calls Try.prog 12 #[.agg #[.int .i64 (S : Int), .int .i64 (B : Int), .int .i64 (D : Int)]] w fun e w' => e = .returned (.bool true) ∧ Below w.heap.size w w') := fun w => by have := C.right S B D w (by unfold I64; omega) (by unfold I64; omega) (by unfold I64; omega); rwa [decide_eq_true h.rgt] at this
  have HRR : Hid (∀ w : World, Calls Try.prog 13 #[.agg #[.int .i64 (S : Int), .int .i64 (B : Int), .int .i64 (D : Int)]] w fun e w' => e = .returned (.bool true) ∧ Below w.heap.size w w') := fun w => by have := RefRight_any S B D w; rwa [decide_eq_true h.rgt] at this
  have HB1 : Hid (Below w.heap.size w (w.alloc (.cells #[.int .i64 (S : Int), .int .i64 (B : Int), .int .i64 (D : Int)] 23))) := (Below.refl _ _).alloc (Nat.le_refl _) _
  have HBK := Lib.hid (Blk.new w 23 [.int .i64 (S : Int), .int .i64 (B : Int), .int .i64 (D : Int)])
  clear C h
  go_enter Try.func3, Try.ntmps3
  go_wp2_with fail
  generalize w.alloc (.cells #[.int .i64 (S : Int), .int .i64 (B : Int), .int .i64 (D : Int)] 23) = W at *
  refine (HA.out W).mono ?_
  rintro e w1 ⟨rfl, hb1⟩
  have bk1 := HBK.out.below hb1 HBK.out.lt
  have BEL1 := Lib.hid (below_then HB1.out hb1)
  have c0 : w1.cell? ⟨w.heap.size, 0, none⟩ = some (.int .i64 (S : Int)) := bk1.cell 0
  have c1 : w1.cell? ⟨w.heap.size, 1, none⟩ = some (.int .i64 (B : Int)) := bk1.cell 1
  have c2 : w1.cell? ⟨w.heap.size, 2, none⟩ = some (.int .i64 (D : Int)) := bk1.cell 2
  have BK1 := Lib.hid bk1
  clear bk1 hb1
  go_wp2_with fail
  refine (shape_any S B D w1).mono ?_
  rintro e w2 ⟨rfl, hb2⟩
  have bk2 := BK1.out.below hb2 BK1.out.lt
  have BEL2 := Lib.hid (below_then BEL1.out hb2)
  have hlt2 : w.heap.size < w2.heap.size := bk2.lt
  clear c0 c1 c2
  have c0 : w2.cell? ⟨w.heap.size, 0, none⟩ = some (.int .i64 (S : Int)) := bk2.cell 0
  have c1 : w2.cell? ⟨w.heap.size, 1, none⟩ = some (.int .i64 (B : Int)) := bk2.cell 1
  have c2 : w2.cell? ⟨w.heap.size, 2, none⟩ = some (.int .i64 (D : Int)) := bk2.cell 2
  have BK2 := Lib.hid bk2
  clear bk2 hb2
  go_wp2_with fail
  have BEL3 : Hid (Below w.heap.size w (w2.alloc (.cells #[.int .i64 (S : Int), .int .i64 (B : Int), .int .i64 (D : Int)] 25))) := BEL2.out.alloc (Nat.le_of_lt hlt2) _
  have T3 : Hid (Two (w2.alloc (.cells #[.int .i64 (S : Int), .int .i64 (B : Int), .int .i64 (D : Int)] 25)) w.heap.size w2.heap.size S B D) := ⟨BK2.out.alloc _, Blk.new w2 25 [.int .i64 (S : Int), .int .i64 (B : Int), .int .i64 (D : Int)]⟩
  generalize w2.heap.size = g at *
  clear c0 c1 c2
  generalize w2.alloc (.cells #[.int .i64 (S : Int), .int .i64 (B : Int), .int .i64 (D : Int)] 25) = w3 at *
  refine (HC.out w3).mono ?_
  rintro e w4 ⟨A, m, c, rfl, hrd, hmc, hcm, hb4⟩
  have RD4 := Lib.hid hrd
  clear hrd
  have T4 := Lib.hid (T3.out.below hb4)
  have BEL4 := Lib.hid (below_then BEL3.out hb4)
  obtain ⟨⟨c0, c1, c2⟩, d0, d1, d2⟩ := T4.out.six
  clear hb4
  go_wp2_with fail
  refine (HT.out w4).mono ?_
  rintro e w5 ⟨rfl, hb5⟩
  have RD5 := Lib.hid (RD4.out.below hb5)
  obtain ⟨t, ht⟩ : ∃ t, above a n * B = t := ⟨_, rfl⟩
  rw [ht] at htot
  rw [ht]
  have HTT := Lib.hid ht
  clear ht
  have T5 := Lib.hid (T4.out.below hb5)
  have BEL5 := Lib.hid (below_then BEL4.out hb5)
  clear hb5 c0 c1 c2 d0 d1 d2
  obtain ⟨⟨c0, c1, c2⟩, d0, d1, d2⟩ := T5.out.six
  go_wp2
  have T6 : Hid (Two w5.drew w.heap.size g S B D) := T5.out.below (below_drew1 below_self)
  have BEL6 := Lib.hid (below_drew1 BEL5.out)
  clear c0 c1 c2 d0 d1 d2
  obtain ⟨⟨c0, c1, c2⟩, d0, d1, d2⟩ := T6.out.six
  go_region_held3 (fun w' => (w'.cell? ⟨w.heap.size, 0, none⟩ = some (.int .i64 (S : Int)) ∧ w'.cell? ⟨w.heap.size, 1, none⟩ = some (.int .i64 (B : Int)) ∧ w'.cell? ⟨w.heap.size, 2, none⟩ = some (.int .i64 (D : Int))) ∧ (w'.cell? ⟨g, 0, none⟩ = some (.int .i64 (S : Int)) ∧ w'.cell? ⟨g, 1, none⟩ = some (.int .i64 (B : Int)) ∧ w'.cell? ⟨g, 2, none⟩ = some (.int .i64 (D : Int)))) (first | assumption | (refine ⟨⟨?_, ?_, ?_⟩, ?_, ?_, ?_⟩ <;> first | assumption | go_keep)) (first
    | (go_at_call 12; refine (HR.out _).mono ?_; rintro e w7 ⟨rfl, hb7⟩; have T7 := Lib.hid (T6.out.below hb7); have BEL7 := Lib.hid (below_then BEL6.out hb7); have RD7 := Lib.hid ((RD5.out.below (below_drew1 below_self)).below hb7); obtain ⟨⟨k0, k1, k2⟩, k3, k4, k5⟩ := T7.out.six)
    | (go_at_call 13; refine (HRR.out _).mono ?_; rintro e w8 ⟨rfl, hb8⟩; have T8 := Lib.hid (T7.out.below hb8); have BEL8 := Lib.hid (below_then BEL7.out hb8); have RD8 := Lib.hid (RD7.out.below hb8); obtain ⟨⟨m0, m1, m2⟩, m3, m4, m5⟩ := T8.out.six))
  clear c0 c1 c2 d0 d1 d2 k0 k1 k2 k3 k4 k5
  go_wp2_with fail
  refine (HRR.out _).mono ?_
  rintro e w9 ⟨rfl, hb9⟩
  have T9 := Lib.hid (T8.out.below hb9)
  have BEL9 := Lib.hid (below_then BEL8.out hb9)
  have RD9 := Lib.hid (RD8.out.below hb9)
  clear hb9 m0 m1 m2 m3 m4 m5
  obtain ⟨⟨c0, c1, c2⟩, d0, d1, d2⟩ := T9.out.six
  go_wp2_with fail
  refine (RefCounts_any S B D a n _ HSH.out).mono ?_
  rintro e w10 ⟨A', m', c', rfl, hrow, hb10⟩
  have T10 := Lib.hid (T9.out.below hb10)
  have BEL10 := Lib.hid (below_then BEL9.out hb10)
  have RD10 := Lib.hid (RD9.out.below hb10)
  have RR10 := Lib.hid hrow.rd
  have hmc' := hrow.le
  have e1 : m' = m := by rw [← hrow.rd.1, RD10.out.1]
  subst e1
  have hl1 := cs_len a n
  rw [RD10.out.1] at hl1
  clear hb10 hrow c0 c1 c2 d0 d1 d2
  obtain ⟨⟨c0, c1, c2⟩, d0, d1, d2⟩ := T10.out.six
  go_wp2_with fail
  refine (RefTotal_any S B D a n _ HSH.out).mono ?_
  rw [HTT.out]
  rintro e w11 ⟨rfl, hb11⟩
  have BEL11 := Lib.hid (below_then BEL10.out hb11)
  have RD11 := Lib.hid (RD10.out.below hb11)
  have RR11 := Lib.hid (RR10.out.below hb11)
  clear hb11 c0 c1 c2 d0 d1 d2
  go_wp2
  go_loopw [71] (fun o wr => ∃ j : Nat, j ≤ m' ∧ o = .int .i64 (j : Int) ∧ w11 = wr) (fun o _ => m' - (intOf o).toNat)
  case atStart => exact ⟨0, by omega, rfl, rfl⟩
  case round =>
    obtain ⟨j, hj, rfl, rfl⟩ := hrel
    by_cases hjm : j < m'
    · obtain ⟨ad, x, rfl, hx, hc⟩ := RD11.out.get hjm
      obtain ⟨ad', x', rfl, hx', hc'⟩ := RR11.out.get hjm
      obtain rfl : x' = x := by rw [hx] at hx'; injection hx' with hx'; exact hx'.symm
      clear hx hx'
      go_wp2
      go_roundw
      case rel => exact ⟨j + 1, by omega, by go_num, trivial⟩
      case measure => simp [intOf]; omega
    · obtain rfl : j = m' := by omega
      go_wp2
      go_ret
      exact ⟨rfl, BEL11.out⟩
/-- PlaceCounts returns true for every shape. -/
theorem counts_walk (C : Code) (S B D : Int) (w : World) (wS : (Lit.int .i64 S).wf = true) (wB : (Lit.int .i64 B).wf = true) (wD : (Lit.int .i64 D).wf = true) : Calls Try.prog 3 #[.agg #[.int .i64 S, .int .i64 B, .int .i64 D]] w fun e w' => e = .returned (.bool true) ∧ Below w.heap.size w w' := by
  by_cases h : Rgt S B D
  · obtain ⟨s, b, d, a, n, rfl, rfl, rfl, hs⟩ := h.shp
    exact counts_ok C s b d a n w hs
  · exact counts_bad C S B D w (i64_wf wS) (i64_wf wB) (i64_wf wD) h
end Go.Proofs.Ytnkafchkjpchiaa
