/-
  The program's through, arity, Right and sum answer as the document says.
-/
import Derived.Test.YtfoenafjaaidmaaDoorCt
namespace Go.Proofs.YtfoenafjaaidmaaDoor
open Go.RowKit
set_option linter.unusedVariables false
set_option linter.unusedSimpArgs false
set_option maxRecDepth 100000

theorem through_up (a b : Nat) (hb : 0 < b) : (a + b - 1) / b = up a b := by
  have h1 := Nat.div_add_mod (a + b - 1) b
  have h2 := Nat.mod_lt (a + b - 1) hb
  refine (up_unique hb ?_ ?_).symm <;> (rw [Nat.mul_comm]; omega)
theorem through_any (a b : Nat) (hb : 0 < b) (ha : a ≤ 1099511627776) (hb2 : b ≤ 1099511627776) (w : World) : Calls Tryd.prog 62 #[.int .i64 (a : Int), .int .i64 (b : Int)] w fun e w' => e = .returned (.int .i64 (up a b : Nat)) ∧ w = w' := by
  have kz : ¬ (b : Int) = 0 := by omega
  obtain ⟨q, hq⟩ : ∃ q, up a b = q := ⟨_, rfl⟩
  have hq2 : (a + b - 1) / b = q := by rw [through_up a b hb, hq]
  obtain ⟨s, hs⟩ : ∃ s, a + b - 1 = s := ⟨_, rfl⟩
  have hsi : (a : Int) + (b : Int) - 1 = (s : Int) := by omega
  rw [hs] at hq2
  have r1 : (s : Int).tdiv (b : Int) = (q : Int) := by rw [Int.tdiv_eq_ediv_of_nonneg (by omega), ← hq2, Int.natCast_ediv]
  have r3 : (s : Int) / (b : Int) = (q : Int) := by rw [← hq2, Int.natCast_ediv]
  have hql : q ≤ s := by rw [← hq2]; exact Nat.div_le_self _ _
  have wq : IntKind.i64.wrap (q : Int) = (q : Int) := by rw [IntKind.wrap_i64]; omega
  rw [hq]
  clear hq hq2 hs
  go_enter Tryd.func62, Tryd.ntmps62
  go_wp2
  go_ret
  exact ⟨rfl, rfl⟩
theorem arity_any (S B D a n : Nat) (w : World) (h : Shp S B D a n) : Calls Tryd.prog 50 #[.agg #[.int .i64 (S : Int), .int .i64 (B : Int), .int .i64 (D : Int)]] w fun e w' => e = .returned (.int .i64 (a : Int)) ∧ Below w.heap.size w w' := by
  have hb := h.b
  have ha := h.a2
  have r1 := h.ar_int.1
  have r2 := h.ar_int.2
  have dz : ¬ (D : Int) = 0 := by omega
  have wa : IntKind.i64.wrap (a : Int) = (a : Int) := by rw [IntKind.wrap_i64]; omega
  clear h
  go_enter Tryd.func50, Tryd.ntmps50
  go_wp2
  go_ret
  exact ⟨rfl, (Below.refl _ _).alloc (Nat.le_refl _) _⟩
theorem and_pw : ((List.range 4097).all fun b => decide (b < 64) || (bits .and .i64 (b : Int) ((b : Int) - 1) == 0) == (b == 64 || b == 128 || b == 256 || b == 512 || b == 1024 || b == 2048 || b == 4096)) = true := by kernel_rfl
theorem and_iff {b : Nat} (h1 : 64 ≤ b) (h2 : b ≤ 4096) : (bits .and .i64 (b : Int) ((b : Int) - 1) == 0) = decide (Pw (b : Int)) := by
  have := List.all_eq_true.1 and_pw b (List.mem_range.2 (by omega))
  have hb : decide (b < 64) = false := by simp; omega
  rw [hb, Bool.false_or] at this
  rw [eq_of_beq this, Bool.eq_iff_iff]
  simp only [beq_iff_eq, Bool.or_eq_true, decide_eq_true_eq]
  unfold Pw
  omega
set_option maxHeartbeats 1000000 in
theorem Right_g (S B D : Int) (w : World) (h : S < 1 ∨ 1099511627776 < S ∨ (D ≠ 32 ∧ D ≠ 64) ∨ B < 2 * D ∨ 4096 < B) : Calls Tryd.prog 29 #[.agg #[.int .i64 S, .int .i64 B, .int .i64 D]] w fun e w' => e = .returned (.bool false) ∧ Below w.heap.size w w' := by
  have hb1 : Below w.heap.size w (w.alloc (.cells #[.int .i64 S, .int .i64 B, .int .i64 D] 44)) := (Below.refl _ _).alloc (Nat.le_refl _) _
  by_cases h1 : S < 1
  · go_enter Tryd.func29, Tryd.ntmps29
    go_wp2
    go_ret
    exact ⟨rfl, hb1⟩
  · by_cases h2 : 1099511627776 < S
    · go_enter Tryd.func29, Tryd.ntmps29
      go_wp2
      go_ret
      exact ⟨rfl, hb1⟩
    · by_cases h3 : D = 32 ∨ D = 64
      · rcases h3 with rfl | rfl
        · by_cases h5 : B < 64
          · have h6 : ¬ 64 ≤ B := by omega
            clear h
            go_enter Tryd.func29, Tryd.ntmps29
            go_wp2
            go_ret
            exact ⟨rfl, hb1⟩
          · have h6 : 64 ≤ B := by omega
            have h7 : ¬ B ≤ 4096 := by omega
            clear h h5
            go_enter Tryd.func29, Tryd.ntmps29
            go_wp2
            go_ret
            exact ⟨rfl, hb1⟩
        · by_cases h5 : B < 128
          · have h6 : ¬ 128 ≤ B := by omega
            clear h
            go_enter Tryd.func29, Tryd.ntmps29
            go_wp2
            go_ret
            exact ⟨rfl, hb1⟩
          · have h6 : 128 ≤ B := by omega
            have h7 : ¬ B ≤ 4096 := by omega
            clear h h5
            go_enter Tryd.func29, Tryd.ntmps29
            go_wp2
            go_ret
            exact ⟨rfl, hb1⟩
      · have d1 : (D != 32) = true := by simp; omega
        have d2 : (D != 64) = true := by simp; omega
        clear h
        go_enter Tryd.func29, Tryd.ntmps29
        go_wp2
        go_ret
        exact ⟨rfl, hb1⟩
set_option maxHeartbeats 1000000 in
theorem Right_b (S D : Int) (b : Nat) (w : World) (h1 : ¬ S < 1) (h2 : ¬ 1099511627776 < S) (h3 : D = 32 ∨ D = 64) (h4 : 2 * D ≤ b) (h5 : b ≤ 4096) : Calls Tryd.prog 29 #[.agg #[.int .i64 S, .int .i64 (b : Int), .int .i64 D]] w fun e w' => e = .returned (.bool (decide (Pw b))) ∧ Below w.heap.size w w' := by
  have hb1 : Below w.heap.size w (w.alloc (.cells #[.int .i64 S, .int .i64 (b : Int), .int .i64 D] 44)) := (Below.refl _ _).alloc (Nat.le_refl _) _
  have hiff := and_iff (b := b) (by omega) h5
  have z5 : (b : Int) ≤ 4096 := by omega
  have HI := Lib.hid hiff
  clear hiff
  rcases h3 with rfl | rfl
  · have h6 : (64 : Int) ≤ b := by omega
    go_enter Tryd.func29, Tryd.ntmps29
    go_wp2
    go_ret
    exact ⟨by rw [← HI.out]; rfl, hb1⟩
  · have h6 : (128 : Int) ≤ b := by omega
    go_enter Tryd.func29, Tryd.ntmps29
    go_wp2
    go_ret
    exact ⟨by rw [← HI.out]; rfl, hb1⟩
/-- Whether a shape is right. -/
theorem Right_any : RightC := by
  intro S B D w hS hB hD
  by_cases h : S < 1 ∨ 1099511627776 < S ∨ (D ≠ 32 ∧ D ≠ 64) ∨ B < 2 * D ∨ 4096 < B
  · have : ¬ Rgt S B D := by unfold Rgt; omega
    rw [decide_eq_false this]
    exact Right_g S B D w h
  · obtain ⟨b, rfl⟩ : ∃ b : Nat, B = b := ⟨B.toNat, by omega⟩
    have e : decide (Pw (b : Int)) = decide (Rgt S b D) := by
      rw [Bool.eq_iff_iff]
      simp only [decide_eq_true_eq]
      unfold Rgt Pw
      omega
    rw [← e]
    exact Right_b S D b w (by omega) (by omega) (by omega) (by omega) (by omega)
end Go.Proofs.YtfoenafjaaidmaaDoor
