/-
  PlaceFills returns true for every shape: its walk, by the answers of the program's functions.
-/
import Derived.Test.YtnkafchkjpchiaaLPaths
namespace Go.Proofs.Ytnkafchkjpchiaa
open Go.RowKit
set_option linter.unusedVariables false
set_option linter.unusedSimpArgs false
set_option maxRecDepth 100000

theorem drop_sum {l : List Nat} {L x : Nat} (h : l[L]? = some x) : (l.drop L).sum = x + (l.drop (L + 1)).sum := by
  obtain ⟨hk, rfl⟩ := List.getElem?_eq_some_iff.1 h
  rw [List.drop_eq_getElem_cons hk, List.sum_cons]
theorem drop_sum_le (l : List Nat) {a b : Nat} (h : a ≤ b) : (l.drop b).sum ≤ (l.drop a).sum := by
  have e : l.drop b = (l.drop a).drop (b - a) := by rw [List.drop_drop]; congr 1; omega
  have : (l.drop a).sum = ((l.drop a).take (b - a)).sum + ((l.drop a).drop (b - a)).sum := by rw [← List.sum_append, List.take_append_drop]
  rw [e]
  omega
set_option maxHeartbeats 2000000 in
theorem fills_big (C : Code) (S B D : Int) (w : World) (h : 20000 < S) : Calls Try.prog 7 #[.agg #[.int .i64 S, .int .i64 B, .int .i64 D]] w fun e w' => e = .returned (.bool true) ∧ Below w.heap.size w w' := by
  have HA : Hid (∀ w : World, _) := fun w => anchor_of C w
  clear C
  have HB1 : Hid (Below w.heap.size w (w.alloc (.cells #[.int .i64 S, .int .i64 B, .int .i64 D] 23))) := (Below.refl _ _).alloc (Nat.le_refl _) _
  have HBK := Lib.hid (Blk.new w 23 [.int .i64 S, .int .i64 B, .int .i64 D])
  go_enter Try.func7, Try.ntmps7
  go_wp2_with fail
  generalize w.alloc (.cells #[.int .i64 S, .int .i64 B, .int .i64 D] 23) = W at *
  refine (HA.out W).mono ?_
  rintro e w1 ⟨rfl, hb1⟩
  have bk1 := HBK.out.below hb1 HBK.out.lt
  have BEL1 := Lib.hid (below_then HB1.out hb1)
  have c0 : w1.cell? ⟨w.heap.size, 0, none⟩ = some (.int .i64 S) := bk1.cell 0
  have c1 : w1.cell? ⟨w.heap.size, 1, none⟩ = some (.int .i64 B) := bk1.cell 1
  have c2 : w1.cell? ⟨w.heap.size, 2, none⟩ = some (.int .i64 D) := bk1.cell 2
  have BK1 := Lib.hid bk1
  clear bk1 hb1
  go_wp2
  go_ret
  exact ⟨rfl, BEL1.out⟩
set_option maxHeartbeats 2000000 in
theorem fills_bad (C : Code) (S B D : Int) (w : World) (hS : I64 S) (hB : I64 B) (hD : I64 D) (h : ¬ Rgt S B D) (h2 : ¬ 20000 < S) : Calls Try.prog 7 #[.agg #[.int .i64 S, .int .i64 B, .int .i64 D]] w fun e w' => e = .returned (.bool true) ∧ Below w.heap.size w w' := by
  have HA : Hid (∀ w : World, _) := fun w => anchor_of C w
  have HC : Hid (∀ w : World, _) := fun w => C.countsBad S B D w hS hB hD h
  have HT : Hid (∀ w : World, _) := fun w => C.totalBad S B D w hS hB hD h
  clear C hS hB hD h
  have HB1 : Hid (Below w.heap.size w (w.alloc (.cells #[.int .i64 S, .int .i64 B, .int .i64 D] 23))) := (Below.refl _ _).alloc (Nat.le_refl _) _
  have HBK := Lib.hid (Blk.new w 23 [.int .i64 S, .int .i64 B, .int .i64 D])
  go_enter Try.func7, Try.ntmps7
  go_wp2_with fail
  generalize w.alloc (.cells #[.int .i64 S, .int .i64 B, .int .i64 D] 23) = W at *
  refine (HA.out W).mono ?_
  rintro e w1 ⟨rfl, hb1⟩
  have bk1 := HBK.out.below hb1 HBK.out.lt
  have BEL1 := Lib.hid (below_then HB1.out hb1)
  have c0 : w1.cell? ⟨w.heap.size, 0, none⟩ = some (.int .i64 S) := bk1.cell 0
  have c1 : w1.cell? ⟨w.heap.size, 1, none⟩ = some (.int .i64 B) := bk1.cell 1
  have c2 : w1.cell? ⟨w.heap.size, 2, none⟩ = some (.int .i64 D) := bk1.cell 2
  have BK1 := Lib.hid bk1
  clear bk1 hb1
  go_wp2_with fail
  refine (HC.out w1).mono ?_
  rintro e w2 ⟨A, c, rfl, hcm, hb2⟩
  have bk2 := BK1.out.below hb2 BK1.out.lt
  have BEL2 := Lib.hid (below_then BEL1.out hb2)
  clear c0 c1 c2 hb2
  have c0 : w2.cell? ⟨w.heap.size, 0, none⟩ = some (.int .i64 S) := bk2.cell 0
  have c1 : w2.cell? ⟨w.heap.size, 1, none⟩ = some (.int .i64 B) := bk2.cell 1
  have c2 : w2.cell? ⟨w.heap.size, 2, none⟩ = some (.int .i64 D) := bk2.cell 2
  have BK2 := Lib.hid bk2
  clear bk2
  go_wp2_with fail
  refine (HT.out w2).mono ?_
  rintro e w3 ⟨rfl, hb3⟩
  have BK3 := Lib.hid (BK2.out.below hb3 BK2.out.lt)
  have BEL3 := Lib.hid (below_then BEL2.out hb3)
  clear c0 c1 c2
  go_wp2
  go_ret
  exact ⟨rfl, BEL3.out⟩
set_option maxHeartbeats 4000000 in
theorem fills_ok (C : Code) (S B D a n : Nat) (w : World) (h : Shp S B D a n) (hs : ¬ (20000 : Int) < S) : Calls Try.prog 7 #[.agg #[.int .i64 (S : Int), .int .i64 (B : Int), .int .i64 (D : Int)]] w fun e w' => e = .returned (.bool true) ∧ Below w.heap.size w w' := by
  have hb := h.b
  have htot := h.total
  have HSH := Lib.hid h
  have HA : Hid (∀ w : World, _) := fun w => anchor_of C w
  have HC : Hid (∀ w : World, _) := fun w => C.countsOk S B D a n w h
  have HT : Hid (∀ w : World, _) := fun w => C.totalOk S B D a n w h
  have HO : Hid (∀ (i l x y : Nat) (w : World), _) := fun i l x y w => C.offsetOk S B D a n i l x y w h
  obtain ⟨t, ht⟩ : ∃ t, above a n * B = t := ⟨_, rfl⟩
  rw [ht] at htot
  have HTT := Lib.hid ht
  clear C h ht
  have HB1 : Hid (Below w.heap.size w (w.alloc (.cells #[.int .i64 (S : Int), .int .i64 (B : Int), .int .i64 (D : Int)] 23))) := (Below.refl _ _).alloc (Nat.le_refl _) _
  have HBK := Lib.hid (Blk.new w 23 [.int .i64 (S : Int), .int .i64 (B : Int), .int .i64 (D : Int)])
  go_enter Try.func7, Try.ntmps7
  go_wp2_with fail
  generalize w.alloc (.cells #[.int .i64 (S : Int), .int .i64 (B : Int), .int .i64 (D : Int)] 23) = W at *
  refine (HA.out W).mono ?_
  rintro e w1 ⟨rfl, hb1⟩
  have bk1 := HBK.out.below hb1 HBK.out.lt
  have BEL1 := Lib.hid (below_then HB1.out hb1)
  have c0 : w1.cell? ⟨w.heap.size, 0, none⟩ = some (.int .i64 S) := bk1.cell 0
  have c1 : w1.cell? ⟨w.heap.size, 1, none⟩ = some (.int .i64 B) := bk1.cell 1
  have c2 : w1.cell? ⟨w.heap.size, 2, none⟩ = some (.int .i64 D) := bk1.cell 2
  have BK1 := Lib.hid bk1
  clear bk1 hb1
  go_wp2_with fail
  refine (HC.out w1).mono ?_
  rintro e w2 ⟨A, m, c, rfl, hrd, hmc, hcm, hb2⟩
  have RD2 := Lib.hid hrd
  clear hrd
  have bk2 := BK1.out.below hb2 BK1.out.lt
  have BEL2 := Lib.hid (below_then BEL1.out hb2)
  clear c0 c1 c2 hb2
  have c0 : w2.cell? ⟨w.heap.size, 0, none⟩ = some (.int .i64 S) := bk2.cell 0
  have c1 : w2.cell? ⟨w.heap.size, 1, none⟩ = some (.int .i64 B) := bk2.cell 1
  have c2 : w2.cell? ⟨w.heap.size, 2, none⟩ = some (.int .i64 D) := bk2.cell 2
  have BK2 := Lib.hid bk2
  clear bk2
  go_wp2_with fail
  refine (HT.out w2).mono ?_
  rw [HTT.out]
  rintro e w3 ⟨rfl, hb3⟩
  have BK3 := Lib.hid (BK2.out.below hb3 BK2.out.lt)
  have BEL3 := Lib.hid (below_then BEL2.out hb3)
  clear c0 c1 c2
  have RD3 := Lib.hid (RD2.out.below hb3)
  have hl1 := cs_len a n
  rw [RD3.out.1] at hl1
  clear hb3
  go_wp2
  go_loopw [7, 8] (fun at_ o wr => ∃ L : Nat, L < m ∧ o = .int .i64 (L : Int) ∧ at_ = .int .i64 ((((cs a n).drop (L + 1)).sum * B : Nat) : Int) ∧ Hid (Below w3.heap.size w3 wr)) (fun _ o _ => (intOf o).toNat)
  case atStart => exact ⟨m - 1, by omega, by rw [show ((m - 1 : Nat) : Int) = (m : Int) - 1 by omega], by rw [show m - 1 + 1 = m by omega, List.drop_of_length_le (by rw [RD3.out.1]; omega)]; simp, below_self⟩
  case round =>
    obtain ⟨L, hL, rfl, rfl, BE⟩ := hrel
    obtain ⟨p, hp⟩ : ∃ p, ((cs a n).drop (L + 1)).sum * B = p := ⟨_, rfl⟩
    have hpt : p ≤ t := by rw [← hp, ← HTT.out]; exact Nat.mul_le_mul_right _ (drop_sum_le _ (by omega))
    have HPP := Lib.hid hp
    rw [hp]
    clear hp
    by_cases hL1 : 1 ≤ L
    · have z1 : (1 : Int) ≤ L := by omega
      obtain ⟨ad, x, rfl, hx, hc⟩ := (RD3.out.below BE.out).get hL
      have hxl := (cs_le HSH.out hx).2
      have HXV := Lib.hid (cs_le HSH.out hx).1
      have HX := Lib.hid hx
      clear hx
      go_wp2
      go_loopw [7, 43] (fun at_ o wr => ∃ i : Nat, i ≤ x ∧ o = .int .i64 (i : Int) ∧ at_ = .int .i64 (((((cs a n).drop (L + 1)).sum + i) * B : Nat) : Int) ∧ Hid (Below w3.heap.size w3 wr)) (fun _ o _ => x - (intOf o).toNat)
      case atStart => exact ⟨0, by omega, rfl, by rw [Nat.add_zero, HPP.out], BE⟩
      case round =>
        obtain ⟨i, hi, rfl, rfl, BE2⟩ := hrel
        obtain ⟨p2, hp2⟩ : ∃ p2, (((cs a n).drop (L + 1)).sum + i) * B = p2 := ⟨_, rfl⟩
        have hpt2 : p2 ≤ t := by
          rw [← hp2, ← HTT.out]
          refine Nat.mul_le_mul_right _ (Nat.le_trans ?_ (drop_sum_le (cs a n) hL1))
          rw [drop_sum HX.out]
          omega
        have HP2 := Lib.hid hp2
        rw [hp2]
        clear hp2
        by_cases hix : i < x
        · have z2 : (i : Int) < x := by omega
          have bk := BK3.out.below BE2.out BK3.out.lt
          have c0 : wr.cell? ⟨w.heap.size, 0, none⟩ = some (.int .i64 S) := bk.cell 0
          have c1 : wr.cell? ⟨w.heap.size, 1, none⟩ = some (.int .i64 B) := bk.cell 1
          have c2 : wr.cell? ⟨w.heap.size, 2, none⟩ = some (.int .i64 D) := bk.cell 2
          clear bk hc
          go_wp2_with fail
          refine (HO.out i L _ _ _ hL1 (by rw [RD3.out.1]; exact hL) (by rw [← HXV.out]; exact hix) (is_ofInt _ (by omega) (by omega)) (is_ofInt _ (by omega) (by omega))).mono ?_
          rw [HP2.out]
          rintro e w4 ⟨rfl, hb4⟩
          have BE4 : Hid (Below w3.heap.size w3 w4) := BE2.out.trans (hb4.mono BE2.out.size)
          clear c0 c1 c2 hb4
          have c1 : w4.cell? ⟨w.heap.size, 1, none⟩ = some (.int .i64 B) := (BK3.out.below BE4.out BK3.out.lt).cell 1
          go_wp2
          go_roundw
          case rel => exact ⟨i + 1, by omega, by go_num, by rw [← Nat.add_assoc, Nat.add_mul, HP2.out, Nat.one_mul]; go_num, BE4⟩
          case measure => simp [intOf]; omega
        · obtain rfl : i = x := by omega
          go_wp2
          go_roundw
          case rel => exact ⟨L - 1, by omega, by rw [show ((L - 1 : Nat) : Int) = (L : Int) - 1 by omega], by rw [show L - 1 + 1 = L by omega, drop_sum HX.out, Nat.add_comm, HP2.out], BE2⟩
          case measure => simp [intOf]; omega
    · obtain rfl : L = 0 := by omega
      obtain rfl : p = t := by rw [← HPP.out, ← HTT.out]; rfl
      go_wp2
      go_ret
      exact ⟨rfl, BEL3.out.trans (BE.out.mono BEL3.out.size)⟩
/-- PlaceFills returns true for every shape. -/
theorem fills_walk (C : Code) (S B D : Int) (w : World) (wS : (Lit.int .i64 S).wf = true) (wB : (Lit.int .i64 B).wf = true) (wD : (Lit.int .i64 D).wf = true) : Calls Try.prog 7 #[.agg #[.int .i64 S, .int .i64 B, .int .i64 D]] w fun e w' => e = .returned (.bool true) ∧ Below w.heap.size w w' := by
  by_cases h2 : 20000 < S
  · exact fills_big C S B D w h2
  · by_cases h : Rgt S B D
    · obtain ⟨s, b, d, a, n, rfl, rfl, rfl, hs⟩ := h.shp
      exact fills_ok C s b d a n w hs h2
    · exact fills_bad C S B D w (i64_wf wS) (i64_wf wB) (i64_wf wD) h h2
end Go.Proofs.Ytnkafchkjpchiaa
