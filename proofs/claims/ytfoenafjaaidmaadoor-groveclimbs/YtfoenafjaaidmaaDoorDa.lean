/-
  The document's shapes: up, Right, and the conversion of shapes; numbers of places.
-/
import Derived.Test.YtfoenafjaaidmaaDoorB9
import Derived.Test.YtfoenafjaaidmaaDoorFl
import Derived.Test.YtfoenafjaaidmaaDoorPl
import Derived.WalkLawsBesides
namespace Go.Proofs.YtfoenafjaaidmaaDoor
open Go.RowKit
set_option linter.unusedVariables false
set_option linter.unusedSimpArgs false
set_option maxRecDepth 100000

theorem up_any (a b : Nat) (hb : 0 < b) (ha : a ≤ 1099511627776) (hb2 : b ≤ 1099511627776) (w : World) : Calls Tryd.prog 33 #[.int .i64 (a : Int), .int .i64 (b : Int)] w fun e w' => e = .returned (.int .i64 (up a b : Nat)) ∧ w = w' := by
  have kz : ¬ (b : Int) = 0 := by omega
  obtain ⟨q, hq⟩ : ∃ q, a / b = q := ⟨_, rfl⟩
  obtain ⟨r, hr⟩ : ∃ r, a % b = r := ⟨_, rfl⟩
  have r1 : (a : Int).tdiv (b : Int) = (q : Int) := by rw [Int.tdiv_eq_ediv_of_nonneg (by omega), ← hq, Int.natCast_ediv]
  have r2 : (a : Int).tmod (b : Int) = (r : Int) := by rw [Int.tmod_eq_emod_of_nonneg (by omega), ← hr, Int.natCast_emod]
  have r3 : (a : Int) / (b : Int) = (q : Int) := by rw [← hq, Int.natCast_ediv]
  have r4 : (a : Int) % (b : Int) = (r : Int) := by rw [← hr, Int.natCast_emod]
  have hql : q ≤ a := by rw [← hq]; exact Nat.div_le_self _ _
  have wq : IntKind.i64.wrap (q : Int) = (q : Int) := by rw [IntKind.wrap_i64]; omega
  have HU : Hid (up a b = if r = 0 then q else q + 1) := by show _ = _; rw [up, hr, hq]
  clear hq hr
  by_cases h0 : r = 0
  · subst h0
    go_enter Tryd.func33, Tryd.ntmps33
    go_wp2
    go_ret
    exact ⟨by rw [HU.out]; rfl, rfl⟩
  · have d0 : ((r : Int) == 0) = false := by simp; omega
    go_enter Tryd.func33, Tryd.ntmps33
    go_wp2
    go_ret
    exact ⟨by rw [HU.out, if_neg h0]; rfl, rfl⟩
/-- A shape is right. -/
def Rgt (S B D : Int) : Prop := 1 ≤ S ∧ S ≤ 1099511627776 ∧ (D = 32 ∨ D = 64) ∧ 2 * D ≤ B ∧ (B = 64 ∨ B = 128 ∨ B = 256 ∨ B = 512 ∨ B = 1024 ∨ B = 2048 ∨ B = 4096)
instance (S B D : Int) : Decidable (Rgt S B D) := by unfold Rgt; exact inferInstance
def sh (S B D : Int) : Value := .agg #[.int .i64 S, .int .i64 B, .int .i64 D]
set_option maxHeartbeats 1000000 in
theorem RefRight_g (S B D : Int) (w : World) (h : S < 1 ∨ 1099511627776 < S ∨ (D ≠ 32 ∧ D ≠ 64) ∨ B < 2 * D) : Calls Tryd.prog 23 #[.agg #[.int .i64 S, .int .i64 B, .int .i64 D]] w fun e w' => e = .returned (.bool false) ∧ Below w.heap.size w w' := by
  have hb1 : Below w.heap.size w (w.alloc (.cells #[.int .i64 S, .int .i64 B, .int .i64 D] 32)) := (Below.refl _ _).alloc (Nat.le_refl _) _
  have c0 : (w.alloc (.cells #[.int .i64 S, .int .i64 B, .int .i64 D] 32)).cell? ⟨w.heap.size, 0, none⟩ = some (.int .i64 S) := (Blk.new w 32 [.int .i64 S, .int .i64 B, .int .i64 D]).cell 0
  by_cases h1 : S < 1
  · go_enter Tryd.func23, Tryd.ntmps23
    go_wp2
    go_ret
    exact ⟨rfl, hb1⟩
  · by_cases h2 : 1099511627776 < S
    · go_enter Tryd.func23, Tryd.ntmps23
      go_wp2
      go_ret
      exact ⟨rfl, hb1⟩
    · by_cases h3 : D = 32 ∨ D = 64
      · have h4 : B < 2 * D := by omega
        rcases h3 with rfl | rfl
        · have h5 : B < 64 := by omega
          clear h h4
          go_enter Tryd.func23, Tryd.ntmps23
          go_wp2
          go_ret
          exact ⟨rfl, hb1⟩
        · have h5 : B < 128 := by omega
          clear h h4
          go_enter Tryd.func23, Tryd.ntmps23
          go_wp2
          go_ret
          exact ⟨rfl, hb1⟩
      · have d1 : (D != 32) = true := by simp; omega
        have d2 : (D != 64) = true := by simp; omega
        clear h
        go_enter Tryd.func23, Tryd.ntmps23
        go_wp2
        go_ret
        exact ⟨rfl, hb1⟩
/-- A power of 2 from 64 to 4096. -/
def Pw (B : Int) : Prop := B = 64 ∨ B = 128 ∨ B = 256 ∨ B = 512 ∨ B = 1024 ∨ B = 2048 ∨ B = 4096
instance (B : Int) : Decidable (Pw B) := by unfold Pw; exact inferInstance
theorem pw_some {k : Nat} (h : k ≤ 6) : Pw ((64 * 2 ^ k : Nat) : Int) := by
  rcases (by omega : k = 0 ∨ k = 1 ∨ k = 2 ∨ k = 3 ∨ k = 4 ∨ k = 5 ∨ k = 6) with rfl | rfl | rfl | rfl | rfl | rfl | rfl <;> unfold Pw <;> omega
theorem pw_none {B : Int} (h : ∀ j, j < 7 → B ≠ ((64 * 2 ^ j : Nat) : Int)) : ¬ Pw B := by
  have h0 := h 0 (by omega)
  have h1 := h 1 (by omega)
  have h2 := h 2 (by omega)
  have h3 := h 3 (by omega)
  have h4 := h 4 (by omega)
  have h5 := h 5 (by omega)
  have h6 := h 6 (by omega)
  unfold Pw
  omega
theorem pw_le {k : Nat} (h : k ≤ 6) : 64 * 2 ^ k ≤ 4096 := by
  have : 2 ^ k ≤ 2 ^ 6 := Nat.pow_le_pow_right (by omega) h
  omega
set_option maxHeartbeats 1000000 in
theorem RefRight_b (S B D : Int) (w : World) (h1 : ¬ S < 1) (h2 : ¬ 1099511627776 < S) (h3 : D = 32 ∨ D = 64) (h4 : ¬ B < 2 * D) : Calls Tryd.prog 23 #[.agg #[.int .i64 S, .int .i64 B, .int .i64 D]] w fun e w' => e = .returned (.bool (decide (Pw B))) ∧ Below w.heap.size w w' := by
  have hb1 : Below w.heap.size w (w.alloc (.cells #[.int .i64 S, .int .i64 B, .int .i64 D] 32)) := (Below.refl _ _).alloc (Nat.le_refl _) _
  have c1 : (w.alloc (.cells #[.int .i64 S, .int .i64 B, .int .i64 D] 32)).cell? ⟨w.heap.size, 1, none⟩ = some (.int .i64 B) := (Blk.new w 32 [.int .i64 S, .int .i64 B, .int .i64 D]).cell 1
  rcases h3 with rfl | rfl
  all_goals
    (first | have h5 : ¬ B < 64 := by omega | skip)
    (first | have h6 : ¬ B < 128 := by omega | skip)
    have HB1 := Lib.hid hb1
    have HC1 := Lib.hid c1
    clear hb1 c1
    go_enter Tryd.func23, Tryd.ntmps23
    go_wp2
    go_loopw [3] (fun o wr => ∃ k : Nat, k ≤ 7 ∧ o = .int .i64 ((64 * 2 ^ k : Nat) : Int) ∧ (∀ j, j < k → B ≠ ((64 * 2 ^ j : Nat) : Int)) ∧ w.alloc (.cells #[.int .i64 S, .int .i64 B, .int .i64 _] 32) = wr) (fun o _ => 9000 - (intOf o).toNat)
    case atStart => exact ⟨0, by omega, rfl, by omega, rfl⟩
    case round =>
      obtain ⟨k, hk, rfl, hj, rfl⟩ := hrel
      have c1 := HC1.out
      by_cases hk7 : k ≤ 6
      · obtain ⟨P, hP⟩ : ∃ P, 64 * 2 ^ k = P := ⟨_, rfl⟩
        have hP2 : 64 * 2 ^ (k + 1) = 2 * P := by rw [Nat.pow_succ]; omega
        have hPl := pw_le hk7
        have hps := pw_some hk7
        rw [hP] at hPl hps ⊢
        have hle : (P : Int) ≤ 4096 := by omega
        have HP := Lib.hid hP
        have HP2 := Lib.hid hP2
        have HPS := Lib.hid hps
        have HJ := Lib.hid hj
        have hP0 : 0 < P := by rw [← hP]; exact Nat.mul_pos (by omega) (Nat.pow_pos (by omega))
        clear hP hP2 hps hj
        by_cases hB : B = (P : Int)
        · subst hB
          go_wp2
          go_ret
          exact ⟨by rw [decide_eq_true HPS.out]; rfl, HB1.out⟩
        · have d0 : (B == (P : Int)) = false := by simp [hB]
          go_wp2
          go_roundw
          case rel =>
            refine ⟨k + 1, by omega, ?_, fun j hjk => ?_, trivial⟩
            · rw [HP2.out]; go_num
            · by_cases hjk2 : j = k
              · subst hjk2; rw [HP.out]; exact hB
              · exact HJ.out j (by omega)
          case measure => simp [intOf]; omega
      · obtain rfl : k = 7 := by omega
        have hno := pw_none hj
        clear hj
        go_wp2
        go_ret
        exact ⟨by rw [decide_eq_false hno]; rfl, HB1.out⟩
/-- Whether a shape is right, by the document. -/
theorem RefRight_any (S B D : Int) (w : World) : Calls Tryd.prog 23 #[.agg #[.int .i64 S, .int .i64 B, .int .i64 D]] w fun e w' => e = .returned (.bool (decide (Rgt S B D))) ∧ Below w.heap.size w w' := by
  by_cases h : S < 1 ∨ 1099511627776 < S ∨ (D ≠ 32 ∧ D ≠ 64) ∨ B < 2 * D
  · have : ¬ Rgt S B D := by unfold Rgt; omega
    rw [decide_eq_false this]
    exact RefRight_g S B D w h
  · have e : decide (Pw B) = decide (Rgt S B D) := by
      rw [Bool.eq_iff_iff]
      simp only [decide_eq_true_eq]
      unfold Rgt Pw
      omega
    rw [← e]
    exact RefRight_b S B D w (by omega) (by omega) (by omega) (by omega)
end Go.Proofs.YtfoenafjaaidmaaDoor
