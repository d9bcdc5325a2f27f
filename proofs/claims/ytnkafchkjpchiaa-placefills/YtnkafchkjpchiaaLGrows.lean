/-
  PlaceGrows returns true for every shape and every number: its walk, by the answers of the program's functions.
-/
import Derived.Test.YtnkafchkjpchiaaAn
namespace Go.Proofs.Ytnkafchkjpchiaa
open Go.RowKit
set_option linter.unusedVariables false
set_option linter.unusedSimpArgs false
set_option maxRecDepth 100000

set_option maxHeartbeats 1000000 in
theorem grows_early (C : Code) (S B D k : Int) (w : World) (hS : I64 S) (hk : I64 k) (h : ¬ Rgt S B D ∨ k < 0 ∨ 1099511627776 - S < k) : Calls Try.prog 5 #[.agg #[.int .i64 S, .int .i64 B, .int .i64 D], .int .i64 k] w fun e w' => e = .returned (.bool true) ∧ Below w.heap.size w w' := by
  have HA : Hid (∀ w : World, _) := fun w => anchor_of C w
  have HB1 : Hid (Below w.heap.size w (w.alloc (.cells #[.int .i64 S, .int .i64 B, .int .i64 D] 23))) := (Below.refl _ _).alloc (Nat.le_refl _) _
  have HBK := Lib.hid (Blk.new w 23 [.int .i64 S, .int .i64 B, .int .i64 D])
  clear C
  go_enter Try.func5, Try.ntmps5
  go_wp2_with fail
  generalize w.alloc (.cells #[.int .i64 S, .int .i64 B, .int .i64 D] 23) = W at *
  refine (HA.out W).mono ?_
  rintro e w1 ⟨rfl, hb1⟩
  have bk1 := HBK.out.below hb1 HBK.out.lt
  have BEL1 := Lib.hid (below_then HB1.out hb1)
  have c0 : w1.cell? ⟨w.heap.size, 0, none⟩ = some (.int .i64 S) := bk1.cell 0
  have c1 : w1.cell? ⟨w.heap.size, 1, none⟩ = some (.int .i64 B) := bk1.cell 1
  have c2 : w1.cell? ⟨w.heap.size, 2, none⟩ = some (.int .i64 D) := bk1.cell 2
  have BK1 := Lib.hid bk1
  clear bk1 hb1
  go_wp2_with fail
  refine (shape_any S B D w1).mono ?_
  rintro e w2 ⟨rfl, hb2⟩
  go_wp2_with fail
  refine (RefRight_any S B D w2).mono ?_
  rintro e w3 ⟨rfl, hb3⟩
  have bk3 := (BK1.out.below hb2 BK1.out.lt).below hb3 (Nat.lt_of_lt_of_le BK1.out.lt hb2.size)
  have BEL3 := Lib.hid (below_then (below_then BEL1.out hb2) hb3)
  clear c0 c1 c2 hb2 hb3
  have c0 : w3.cell? ⟨w.heap.size, 0, none⟩ = some (.int .i64 S) := bk3.cell 0
  by_cases hR : Rgt S B D
  · rw [decide_eq_true hR]
    obtain ⟨r1, r2, _⟩ := hR
    by_cases hk0 : k < 0
    · go_wp2
      go_ret
      exact ⟨rfl, BEL3.out⟩
    · have hk1 : 1099511627776 - S < k := by rcases h with h | h | h <;> first | omega | exact absurd ⟨r1, r2, by assumption⟩ h
      go_wp2
      go_ret
      exact ⟨rfl, BEL3.out⟩
  · rw [decide_eq_false hR]
    go_wp2
    go_ret
    exact ⟨rfl, BEL3.out⟩

section
variable {S B D a n n' k : Nat}
/-- A greater shape of the same blocks. -/
theorem Shp.more (h : Shp S B D a n) (hk : S + k ≤ 1099511627776) : Shp (S + k) B D a (up (S + k) B) := by
  obtain ⟨h1, h2, h3, h4, h5⟩ := h.rgt
  exact ⟨⟨by omega, by omega, h3, h4, h5⟩, h.ar, rfl⟩
theorem cs_grow {T : Nat} (h : Shp S B D a n) (h' : Shp T B D a n') (hT : S ≤ T) : n ≤ n' ∧ (cs a n).length ≤ (cs a n').length := by
  have hb := h.b
  have hn : n ≤ n' := by rw [← h.low, ← h'.low]; exact up_mono (by omega) (by omega)
  exact ⟨hn, cnts_grow h.a2.1 h.n1.1 hn h'.n1.2⟩
theorem cs_len (a n : Nat) : 1 ≤ (cs a n).length ∧ (cs a n).length ≤ 41 := ⟨List.length_pos_iff.2 (cnts_ne _ _ _), cnts_len _ _ _⟩
theorem cs_le {j x : Nat} (h : Shp S B D a n) (hx : (cs a n)[j]? = some x) : x = lev a n j ∧ x ≤ 1099511627776 := by
  have e : x = lev a n j := cnts_get _ _ _ _ _ hx
  refine ⟨e, ?_⟩
  have hj : j < (cs a n).length := (List.getElem?_eq_some_iff.1 hx).1
  have := lev_pow h.a2.1 h.n1.2 j (by have := (cs_len a n).2; omega)
  have h2 : 2 ^ (40 - j) ≤ 2 ^ 40 := Nat.pow_le_pow_right (by omega) (by omega)
  rw [← e] at this
  omega
end
set_option maxHeartbeats 2000000 in
theorem grows_on (C : Code) (S B D a n n' k T : Nat) (w : World) (hT : S + k = T) (h : Shp S B D a n) (h' : Shp T B D a n') : Calls Try.prog 5 #[.agg #[.int .i64 (S : Int), .int .i64 (B : Int), .int .i64 (D : Int)], .int .i64 (k : Int)] w fun e w' => e = .returned (.bool true) ∧ Below w.heap.size w w' := by
  have hb := h.b
  have hb' := h'.b
  have HA : Hid (∀ w : World, _) := fun w => anchor_of C w
  have HC : Hid (∀ w : World, _) := fun w => C.countsOk S B D a n w h
  have HC' : Hid (∀ w : World, _) := fun w => C.countsOk T B D a n' w h'
  have HS := Lib.hid h
  have HS' := Lib.hid h'
  have HB1 : Hid (Below w.heap.size w (w.alloc (.cells #[.int .i64 (S : Int), .int .i64 (B : Int), .int .i64 (D : Int)] 23))) := (Below.refl _ _).alloc (Nat.le_refl _) _
  have HBK := Lib.hid (Blk.new w 23 [.int .i64 (S : Int), .int .i64 (B : Int), .int .i64 (D : Int)])
  have e0 : (S : Int) + (k : Int) = (T : Int) := by omega
  have HTT := Lib.hid hT
  clear C h h' hT
  go_enter Try.func5, Try.ntmps5
  go_wp2_with fail
  generalize w.alloc (.cells #[.int .i64 (S : Int), .int .i64 (B : Int), .int .i64 (D : Int)] 23) = W at *
  refine (HA.out W).mono ?_
  rintro e w1 ⟨rfl, hb1⟩
  have bk1 := HBK.out.below hb1 HBK.out.lt
  have BEL1 := Lib.hid (below_then HB1.out hb1)
  have c0 : w1.cell? ⟨w.heap.size, 0, none⟩ = some (.int .i64 S) := bk1.cell 0
  have c1 : w1.cell? ⟨w.heap.size, 1, none⟩ = some (.int .i64 B) := bk1.cell 1
  have c2 : w1.cell? ⟨w.heap.size, 2, none⟩ = some (.int .i64 D) := bk1.cell 2
  have BK1 := Lib.hid bk1
  clear bk1 hb1
  go_wp2_with fail
  refine (shape_any S B D w1).mono ?_
  rintro e w2 ⟨rfl, hb2⟩
  go_wp2_with fail
  refine (RefRight_any S B D w2).mono ?_
  rintro e w3 ⟨rfl, hb3⟩
  rw [decide_eq_true HS.out.rgt]
  have bk3 := (BK1.out.below hb2 BK1.out.lt).below hb3 (Nat.lt_of_lt_of_le BK1.out.lt hb2.size)
  have BEL3 := Lib.hid (below_then (below_then BEL1.out hb2) hb3)
  have hlt3 : w.heap.size < w3.heap.size := bk3.lt
  clear c0 c1 c2 hb2 hb3
  have c0 : w3.cell? ⟨w.heap.size, 0, none⟩ = some (.int .i64 S) := bk3.cell 0
  have c1 : w3.cell? ⟨w.heap.size, 1, none⟩ = some (.int .i64 B) := bk3.cell 1
  have c2 : w3.cell? ⟨w.heap.size, 2, none⟩ = some (.int .i64 D) := bk3.cell 2
  have BK3 := Lib.hid bk3
  clear bk3
  have z1 : ¬ (k : Int) < 0 := by omega
  have z2 : ¬ 1099511627776 - (S : Int) < k := by omega
  have hST : S ≤ T := by omega
  go_wp2_with fail
  clear e0
  have BEL4 : Hid (Below w.heap.size w (w3.alloc (.cells #[.int .i64 (T : Int), .int .i64 (B : Int), .int .i64 (D : Int)] 23))) := BEL3.out.alloc (Nat.le_of_lt hlt3) _
  have BK4 := Lib.hid (BK3.out.alloc (.cells #[.int .i64 (T : Int), .int .i64 (B : Int), .int .i64 (D : Int)] 23))
  have BT4 := Lib.hid (Blk.new w3 23 [.int .i64 (T : Int), .int .i64 (B : Int), .int .i64 (D : Int)])
  generalize w3.heap.size = g at *
  clear c0 c1 c2
  generalize w3.alloc (.cells #[.int .i64 (T : Int), .int .i64 (B : Int), .int .i64 (D : Int)] 23) = w4 at *
  refine (HC.out w4).mono ?_
  rintro e w5 ⟨A, m, c, rfl, hrd, hmc, hcm, hb5⟩
  have bk5 := BK4.out.below hb5 BK4.out.lt
  have bt5 := BT4.out.below hb5 BT4.out.lt
  have BEL5 := Lib.hid (below_then BEL4.out hb5)
  have RD := Lib.hid hrd
  clear hrd hb5
  have c0 : w5.cell? ⟨g, 0, none⟩ = some (.int .i64 (T : Int)) := bt5.cell 0
  have c1 : w5.cell? ⟨g, 1, none⟩ = some (.int .i64 B) := bt5.cell 1
  have c2 : w5.cell? ⟨g, 2, none⟩ = some (.int .i64 D) := bt5.cell 2
  have BK5 := Lib.hid bk5
  clear bk5 bt5
  go_wp2_with fail
  refine (HC'.out _).mono ?_
  rintro e w6 ⟨A', m', c', rfl, hrd', hmc', hcm', hb6⟩
  have bk6 := BK5.out.below hb6 BK5.out.lt
  have BEL6 := Lib.hid (below_then BEL5.out hb6)
  have RD6 := Lib.hid (RD.out.below hb6)
  have RD' := Lib.hid hrd'
  have hml : (cs a n).length = m := RD.out.1
  have hml' : (cs a n').length = m' := hrd'.1
  have hl1 := cs_len a n
  have hgr := cs_grow HS.out HS'.out hST
  rw [hml] at hl1 hgr
  rw [hml'] at hgr
  have GR := Lib.hid hgr.1
  have hmm : ¬ (m' : Int) < (m : Int) := by omega
  clear c0 c1 c2 hrd' hb6 hml hml'
  have c0 : w6.cell? ⟨w.heap.size, 0, none⟩ = some (.int .i64 S) := bk6.cell 0
  have c1 : w6.cell? ⟨w.heap.size, 1, none⟩ = some (.int .i64 B) := bk6.cell 1
  clear bk6
  go_wp2
  go_loopw [60] (fun o wr => ∃ j : Nat, j ≤ m ∧ o = .int .i64 (j : Int) ∧ w6 = wr) (fun o _ => m - (intOf o).toNat)
  case atStart => exact ⟨0, by omega, rfl, rfl⟩
  case round =>
    obtain ⟨j, hj, rfl, rfl⟩ := hrel
    by_cases hjm : j < m
    · obtain ⟨ad, x, rfl, hx, hc⟩ := RD6.out.get hjm
      obtain ⟨ad', x', rfl, hx', hc'⟩ := RD'.out.get (show j < m' by omega)
      obtain ⟨ex, hxl⟩ := cs_le HS.out hx
      obtain ⟨ex', hxl'⟩ := cs_le HS'.out hx'
      have hle : x ≤ x' := by rw [ex, ex']; exact lev_mono (by have := HS.out.a2; omega) GR.out j
      have hnl : ¬ (x' : Int) < (x : Int) := by omega
      clear ex ex' hx hx'
      go_wp2
      go_roundw
      case rel => exact ⟨j + 1, by omega, by go_num, trivial⟩
      case measure => simp [intOf]; omega
    · obtain rfl : j = m := by omega
      obtain ⟨ad, x, rfl, hx, hc⟩ := RD6.out.get (show 0 < j by omega)
      obtain ⟨ad', x', rfl, hx', hc'⟩ := RD'.out.get (show 0 < m' by omega)
      obtain ⟨ex, hxl⟩ := cs_le HS.out hx
      obtain ⟨ex', hxl'⟩ := cs_le HS'.out hx'
      have ex2 : x = up S B := ex.trans HS.out.low.symm
      have ex2' : x' = up T B := ex'.trans HS'.out.low.symm
      obtain ⟨r, hr⟩ : ∃ r, S % B = r := ⟨_, rfl⟩
      have r2 : (S : Int).tmod (B : Int) = (r : Int) := by rw [Int.tmod_eq_emod_of_nonneg (by omega), ← hr, Int.natCast_emod]
      have hrl : r ≤ S := by rw [← hr]; exact Nat.mod_le _ _
      have bz : ¬ (B : Int) = 0 := by omega
      have wr' : IntKind.i64.wrap (r : Int) = (r : Int) := by rw [IntKind.wrap_i64]; omega
      have HU : Hid (k = 1 → (x' = x + 1 ↔ r = 0)) := by
        intro hk1
        rw [ex2, ex2', ← HTT.out, hk1, ← hr]
        exact up_succ (by omega)
      clear ex ex' ex2 ex2' hx hx' hr
      have hc0 : w6.cell? ad = some (.int .i64 (x : Int)) := hc
      have hc0' : w6.cell? ad' = some (.int .i64 (x' : Int)) := hc'
      have q1 : (0 : Int) < (m' : Int) := by omega
      have q2 : (0 : Int) < (j : Int) := by omega
      have q3 : 0 < m' := by omega
      have q4 : 0 < j := by omega
      by_cases hk1 : k = 1
      · have hU := HU.out hk1
        subst hk1
        by_cases hr0 : r = 0
        · subst hr0
          have hx1 : x' = x + 1 := hU.2 rfl
          subst hx1
          clear hU
          have b1 : (((x + 1 : Nat) : Int) == (x : Int) + 1) = true := by simp
          go_wp2
          go_quiet (fail)
          go_wp2
          go_ret
          exact ⟨rfl, below_drewN BEL6.out _⟩
        · have hx1 : ¬ x' = x + 1 := fun h => hr0 (hU.1 h)
          clear hU
          have b1 : ((x' : Int) == (x : Int) + 1) = false := by simp; omega
          have b2 : ((r : Int) == 0) = false := by simp; omega
          go_wp2
          go_quiet (fail)
          go_wp2
          go_ret
          exact ⟨rfl, below_drewN BEL6.out _⟩
      · have b0 : ((k : Int) != 1) = true := by simp; omega
        clear HU
        go_wp2
        go_quiet (fail)
        go_wp2
        go_ret
        exact ⟨rfl, below_drewN BEL6.out _⟩
/-- PlaceGrows returns true for every shape and every number. -/
theorem grows_walk (C : Code) (S B D k : Int) (w : World) (wS : (Lit.int .i64 S).wf = true) (wB : (Lit.int .i64 B).wf = true) (wD : (Lit.int .i64 D).wf = true) (wk : (Lit.int .i64 k).wf = true) : Calls Try.prog 5 #[.agg #[.int .i64 S, .int .i64 B, .int .i64 D], .int .i64 k] w fun e w' => e = .returned (.bool true) ∧ Below w.heap.size w w' := by
  by_cases h : ¬ Rgt S B D ∨ k < 0 ∨ 1099511627776 - S < k
  · exact grows_early C S B D k w (i64_wf wS) (i64_wf wk) h
  · obtain ⟨h1, h2, h3⟩ : Rgt S B D ∧ ¬ k < 0 ∧ ¬ 1099511627776 - S < k := ⟨Classical.not_not.1 fun g => h (.inl g), fun g => h (.inr (.inl g)), fun g => h (.inr (.inr g))⟩
    obtain ⟨s, b, d, a, n, rfl, rfl, rfl, hs⟩ := h1.shp
    obtain ⟨j, rfl⟩ : ∃ j : Nat, k = j := ⟨k.toNat, by omega⟩
    exact grows_on C s b d a n _ j (s + j) w rfl hs (hs.more (by omega))
end Go.Proofs.Ytnkafchkjpchiaa
