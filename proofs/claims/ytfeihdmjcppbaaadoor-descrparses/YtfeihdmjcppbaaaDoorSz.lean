/-
  What the small tests of both sides answer: a digest's size, a shape, lengths. No condition.
-/
import Derived.Test.YtfeihdmjcppbaaaDoorMx
import Derived.WalkLawsBesides
namespace Go.Proofs.YtfeihdmjcppbaaaDoor
open Go.RowKit
set_option linter.unusedVariables false
set_option linter.unusedSimpArgs false
set_option maxRecDepth 100000

def intOf : Value → Int
  | .int _ n => n
  | _ => 0
set_option maxHeartbeats 1000000 in
theorem RefRight_g (S B D : Int) (w : World) (h : S < 1 ∨ 1099511627776 < S ∨ (D ≠ 32 ∧ D ≠ 64) ∨ B < 2 * D) : Calls Tryd.prog 26 #[.agg #[.int .i64 S, .int .i64 B, .int .i64 D]] w fun e w' => e = .returned (.bool false) ∧ Below w.heap.size w w' := by
  have hb1 : Below w.heap.size w (w.alloc (.cells #[.int .i64 S, .int .i64 B, .int .i64 D] 49)) := (Below.refl _ _).alloc (Nat.le_refl _) _
  have c0 : (w.alloc (.cells #[.int .i64 S, .int .i64 B, .int .i64 D] 49)).cell? ⟨w.heap.size, 0, none⟩ = some (.int .i64 S) := (Blk.new w 49 [.int .i64 S, .int .i64 B, .int .i64 D]).cell 0
  by_cases h1 : S < 1
  · go_enter Tryd.func26, Tryd.ntmps26
    go_wp2
    go_ret
    exact ⟨rfl, hb1⟩
  · by_cases h2 : 1099511627776 < S
    · go_enter Tryd.func26, Tryd.ntmps26
      go_wp2
      go_ret
      exact ⟨rfl, hb1⟩
    · by_cases h3 : D = 32 ∨ D = 64
      · have h4 : B < 2 * D := by omega
        rcases h3 with rfl | rfl
        · have h5 : B < 64 := by omega
          clear h h4
          go_enter Tryd.func26, Tryd.ntmps26
          go_wp2
          go_ret
          exact ⟨rfl, hb1⟩
        · have h5 : B < 128 := by omega
          clear h h4
          go_enter Tryd.func26, Tryd.ntmps26
          go_wp2
          go_ret
          exact ⟨rfl, hb1⟩
      · have d1 : (D != 32) = true := by simp; omega
        have d2 : (D != 64) = true := by simp; omega
        clear h
        go_enter Tryd.func26, Tryd.ntmps26
        go_wp2
        go_ret
        exact ⟨rfl, hb1⟩
/-- A power of 2 from 64 to 4096. -/
def Pw (B : Int) : Prop := B = 64 ∨ B = 128 ∨ B = 256 ∨ B = 512 ∨ B = 1024 ∨ B = 2048 ∨ B = 4096
instance (B : Int) : Decidable (Pw B) := by unfold Pw; exact inferInstance
theorem pw_some {k : Nat} (h : k ≤ 6) : Pw ((64 * 2 ^ k : Nat) : Int) := by
  rcases (by omega : k = 0 ∨ k = 1 ∨ k = 2 ∨ k = 3 ∨ k = 4 ∨ k = 5 ∨ k = 6) with rfl | rfl | rfl | rfl | rfl | rfl | rfl <;> unfold Pw <;> omega
theorem pw_none {B : Int} (h : ∀ j, j < 7 → B ≠ ((64 * 2 ^ j : Nat) : Int)) : ¬ Pw B := by
  have h0 := h 0 (by omega)
  have h1 := h 1 (by omega)
  have h2 := h 2 (by omega)
  have h3 := h 3 (by omega)
  have h4 := h 4 (by omega)
  have h5 := h 5 (by omega)
  have h6 := h 6 (by omega)
  unfold Pw
  omega
theorem pw_le {k : Nat} (h : k ≤ 6) : 64 * 2 ^ k ≤ 4096 := by
  have : 2 ^ k ≤ 2 ^ 6 := Nat.pow_le_pow_right (by omega) h
  omega
set_option maxHeartbeats 1000000 in
theorem RefRight_b (S B D : Int) (w : World) (h1 : ¬ S < 1) (h2 : ¬ 1099511627776 < S) (h3 : D = 32 ∨ D = 64) (h4 : ¬ B < 2 * D) : Calls Tryd.prog 26 #[.agg #[.int .i64 S, .int .i64 B, .int .i64 D]] w fun e w' => e = .returned (.bool (decide (Pw B))) ∧ Below w.heap.size w w' := by
  have hb1 : Below w.heap.size w (w.alloc (.cells #[.int .i64 S, .int .i64 B, .int .i64 D] 49)) := (Below.refl _ _).alloc (Nat.le_refl _) _
  have c1 : (w.alloc (.cells #[.int .i64 S, .int .i64 B, .int .i64 D] 49)).cell? ⟨w.heap.size, 1, none⟩ = some (.int .i64 B) := (Blk.new w 49 [.int .i64 S, .int .i64 B, .int .i64 D]).cell 1
  rcases h3 with rfl | rfl
  all_goals
    (first | have h5 : ¬ B < 64 := by omega | skip)
    (first | have h6 : ¬ B < 128 := by omega | skip)
    have HB1 := Lib.hid hb1
    have HC1 := Lib.hid c1
    clear hb1 c1
    go_enter Tryd.func26, Tryd.ntmps26
    go_wp2
    go_loopw [3] (fun o wr => ∃ k : Nat, k ≤ 7 ∧ o = .int .i64 ((64 * 2 ^ k : Nat) : Int) ∧ (∀ j, j < k → B ≠ ((64 * 2 ^ j : Nat) : Int)) ∧ w.alloc (.cells #[.int .i64 S, .int .i64 B, .int .i64 _] 49) = wr) (fun o _ => 9000 - (intOf o).toNat)
    case atStart => exact ⟨0, by omega, rfl, by omega, rfl⟩
    case round =>
      obtain ⟨k, hk, rfl, hj, rfl⟩ := hrel
      have c1 := HC1.out
      by_cases hk7 : k ≤ 6
      · obtain ⟨P, hP⟩ : ∃ P, 64 * 2 ^ k = P := ⟨_, rfl⟩
        have hP2 : 64 * 2 ^ (k + 1) = 2 * P := by rw [Nat.pow_succ]; omega
        have hPl := pw_le hk7
        have hps := pw_some hk7
        rw [hP] at hPl hps ⊢
        have hle : (P : Int) ≤ 4096 := by omega
        have HP := Lib.hid hP
        have HP2 := Lib.hid hP2
        have HPS := Lib.hid hps
        have HJ := Lib.hid hj
        have hP0 : 0 < P := by rw [← hP]; exact Nat.mul_pos (by omega) (Nat.pow_pos (by omega))
        clear hP hP2 hps hj
        by_cases hB : B = (P : Int)
        · subst hB
          go_wp2
          go_ret
          exact ⟨by rw [decide_eq_true HPS.out]; rfl, HB1.out⟩
        · have d0 : (B == (P : Int)) = false := by simp [hB]
          go_wp2
          go_roundw
          case rel =>
            refine ⟨k + 1, by omega, ?_, fun j hjk => ?_, trivial⟩
            · rw [HP2.out]; go_num
            · by_cases hjk2 : j = k
              · subst hjk2; rw [HP.out]; exact hB
              · exact HJ.out j (by omega)
          case measure => simp [intOf]; omega
      · obtain rfl : k = 7 := by omega
        have hno := pw_none hj
        clear hj
        go_wp2
        go_ret
        exact ⟨by rw [decide_eq_false hno]; rfl, HB1.out⟩
/-- Whether a shape is right, by the document. -/
theorem RefRight_any (S B D : Int) (w : World) : Calls Tryd.prog 26 #[.agg #[.int .i64 S, .int .i64 B, .int .i64 D]] w fun e w' => e = .returned (.bool (decide (Rgt S B D))) ∧ Below w.heap.size w w' := by
  by_cases h : S < 1 ∨ 1099511627776 < S ∨ (D ≠ 32 ∧ D ≠ 64) ∨ B < 2 * D
  · have : ¬ Rgt S B D := by unfold Rgt; omega
    rw [decide_eq_false this]
    exact RefRight_g S B D w h
  · have e : decide (Pw B) = decide (Rgt S B D) := by
      rw [Bool.eq_iff_iff]
      simp only [decide_eq_true_eq]
      unfold Rgt Pw
      omega
    rw [← e]
    exact RefRight_b S B D w (by omega) (by omega) (by omega) (by omega)
theorem and_pw : ((List.range 4097).all fun b => decide (b < 64) || (bits .and .i64 (b : Int) ((b : Int) - 1) == 0) == (b == 64 || b == 128 || b == 256 || b == 512 || b == 1024 || b == 2048 || b == 4096)) = true := by kernel_rfl
theorem and_iff {b : Nat} (h1 : 64 ≤ b) (h2 : b ≤ 4096) : (bits .and .i64 (b : Int) ((b : Int) - 1) == 0) = decide (Pw (b : Int)) := by
  have := List.all_eq_true.1 and_pw b (List.mem_range.2 (by omega))
  have hb : decide (b < 64) = false := by simp; omega
  rw [hb, Bool.false_or] at this
  rw [eq_of_beq this, Bool.eq_iff_iff]
  simp only [beq_iff_eq, Bool.or_eq_true, decide_eq_true_eq]
  unfold Pw
  omega
set_option maxHeartbeats 1000000 in
theorem Right_g (S B D : Int) (w : World) (h : S < 1 ∨ 1099511627776 < S ∨ (D ≠ 32 ∧ D ≠ 64) ∨ B < 2 * D ∨ 4096 < B) : Calls Tryd.prog 54 #[.agg #[.int .i64 S, .int .i64 B, .int .i64 D]] w fun e w' => e = .returned (.bool false) ∧ Below w.heap.size w w' := by
  have hb1 : Below w.heap.size w (w.alloc (.cells #[.int .i64 S, .int .i64 B, .int .i64 D] 79)) := (Below.refl _ _).alloc (Nat.le_refl _) _
  by_cases h1 : S < 1
  · go_enter Tryd.func54, Tryd.ntmps54
    go_wp2
    go_ret
    exact ⟨rfl, hb1⟩
  · by_cases h2 : 1099511627776 < S
    · go_enter Tryd.func54, Tryd.ntmps54
      go_wp2
      go_ret
      exact ⟨rfl, hb1⟩
    · by_cases h3 : D = 32 ∨ D = 64
      · rcases h3 with rfl | rfl
        · by_cases h5 : B < 64
          · have h6 : ¬ 64 ≤ B := by omega
            clear h
            go_enter Tryd.func54, Tryd.ntmps54
            go_wp2
            go_ret
            exact ⟨rfl, hb1⟩
          · have h6 : 64 ≤ B := by omega
            have h7 : ¬ B ≤ 4096 := by omega
            clear h h5
            go_enter Tryd.func54, Tryd.ntmps54
            go_wp2
            go_ret
            exact ⟨rfl, hb1⟩
        · by_cases h5 : B < 128
          · have h6 : ¬ 128 ≤ B := by omega
            clear h
            go_enter Tryd.func54, Tryd.ntmps54
            go_wp2
            go_ret
            exact ⟨rfl, hb1⟩
          · have h6 : 128 ≤ B := by omega
            have h7 : ¬ B ≤ 4096 := by omega
            clear h h5
            go_enter Tryd.func54, Tryd.ntmps54
            go_wp2
            go_ret
            exact ⟨rfl, hb1⟩
      · have d1 : (D != 32) = true := by simp; omega
        have d2 : (D != 64) = true := by simp; omega
        clear h
        go_enter Tryd.func54, Tryd.ntmps54
        go_wp2
        go_ret
        exact ⟨rfl, hb1⟩
set_option maxHeartbeats 1000000 in
theorem Right_b (S D : Int) (b : Nat) (w : World) (h1 : ¬ S < 1) (h2 : ¬ 1099511627776 < S) (h3 : D = 32 ∨ D = 64) (h4 : 2 * D ≤ b) (h5 : b ≤ 4096) : Calls Tryd.prog 54 #[.agg #[.int .i64 S, .int .i64 (b : Int), .int .i64 D]] w fun e w' => e = .returned (.bool (decide (Pw b))) ∧ Below w.heap.size w w' := by
  have hb1 : Below w.heap.size w (w.alloc (.cells #[.int .i64 S, .int .i64 (b : Int), .int .i64 D] 79)) := (Below.refl _ _).alloc (Nat.le_refl _) _
  have hiff := and_iff (b := b) (by omega) h5
  have z5 : (b : Int) ≤ 4096 := by omega
  have HI := Lib.hid hiff
  clear hiff
  rcases h3 with rfl | rfl
  · have h6 : (64 : Int) ≤ b := by omega
    go_enter Tryd.func54, Tryd.ntmps54
    go_wp2
    go_ret
    exact ⟨by rw [← HI.out]; rfl, hb1⟩
  · have h6 : (128 : Int) ≤ b := by omega
    go_enter Tryd.func54, Tryd.ntmps54
    go_wp2
    go_ret
    exact ⟨by rw [← HI.out]; rfl, hb1⟩
/-- Whether a shape is right. -/
theorem PRight_any (S B D : Int) (w : World) : Calls Tryd.prog 54 #[.agg #[.int .i64 S, .int .i64 B, .int .i64 D]] w fun e w' => e = .returned (.bool (decide (Rgt S B D))) ∧ Below w.heap.size w w' := by
  by_cases h : S < 1 ∨ 1099511627776 < S ∨ (D ≠ 32 ∧ D ≠ 64) ∨ B < 2 * D ∨ 4096 < B
  · have : ¬ Rgt S B D := by unfold Rgt; omega
    rw [decide_eq_false this]
    exact Right_g S B D w h
  · obtain ⟨b, rfl⟩ : ∃ b : Nat, B = b := ⟨B.toNat, by omega⟩
    have e : decide (Pw (b : Int)) = decide (Rgt S b D) := by
      rw [Bool.eq_iff_iff]
      simp only [decide_eq_true_eq]
      unfold Rgt Pw
      omega
    rw [← e]
    exact Right_b S D b w (by omega) (by omega) (by omega) (by omega) (by omega)

theorem Size_any (z : Int) (w : World) : Calls Tryd.prog 53 #[.int .i64 z] w fun e w' => e = .returned (.int .i64 (szOf z)) ∧ w = w' := by
  rcases szOf_cases z with ⟨rfl, h⟩ | ⟨rfl, h⟩ | ⟨h1, h2, h⟩
  · rw [h]
    go_enter Tryd.func53, Tryd.ntmps53
    go_wp2
    go_ret
    exact ⟨rfl, rfl⟩
  · rw [h]
    go_enter Tryd.func53, Tryd.ntmps53
    go_wp2
    go_ret
    exact ⟨rfl, rfl⟩
  · rw [h]
    have e1 : (z == 1) = false := by simp [h1]
    have e2 : (z == 2) = false := by simp [h2]
    clear h1 h2 h
    go_enter Tryd.func53, Tryd.ntmps53
    go_wp2
    go_ret
    exact ⟨rfl, rfl⟩
theorem R7Size_any (z : Int) (w : World) : Calls Tryd.prog 24 #[.int .i64 z] w fun e w' => e = .returned (.int .i64 (szOf z)) ∧ w = w' := by
  rcases szOf_cases z with ⟨rfl, h⟩ | ⟨rfl, h⟩ | ⟨h1, h2, h⟩
  · rw [h]
    go_enter Tryd.func24, Tryd.ntmps24
    go_wp2
    go_ret
    exact ⟨rfl, rfl⟩
  · rw [h]
    go_enter Tryd.func24, Tryd.ntmps24
    go_wp2
    go_ret
    exact ⟨rfl, rfl⟩
  · rw [h]
    have e1 : (z == 1) = false := by simp [h1]
    have e2 : (z == 2) = false := by simp [h2]
    clear h1 h2 h
    go_enter Tryd.func24, Tryd.ntmps24
    go_wp2
    go_ret
    exact ⟨rfl, rfl⟩
end Go.Proofs.YtfeihdmjcppbaaaDoor
