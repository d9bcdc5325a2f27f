/-
  The small functions of package tail: sizeRight, Right, end; the statements' own right; span.Zeros, span.Align, bytes.Equal. No condition but that bytes fit.
-/
import Derived.Test.YthepbadecpnepaaSq
import Derived.Test.YthepbadecpnepaaD14
import Derived.Lib.SlBytesConst
namespace Go.Proofs.Ythepbadecpnepaa
open Go.RowKit
set_option linter.unusedVariables false
set_option linter.unusedSimpArgs false
set_option maxRecDepth 100000

/-- A tail as a value. -/
abbrev TV (a b c : Int) : Value := .agg #[.int .i64 a, .int .i64 b, .int .i64 c]
def tcells (a b c : Int) : List Value := [.int .i64 a, .int .i64 b, .int .i64 c]
theorem tsizeRight_any (n : Int) (w : World) (r : Bool) (hr : decide (1 ≤ n ∧ n ≤ 65536) = r) : Calls Try.prog 28 #[.int .i64 n] w fun e w' => e = .returned (.bool r) ∧ w = w' := by
  by_cases h1 : 1 ≤ n
  · by_cases h2 : n ≤ 65536
    · obtain rfl : r = true := by rw [← hr]; exact decide_eq_true ⟨h1, h2⟩
      clear hr
      go_enter Try.func28, Try.ntmps28
      go_wp2
      go_ret
      exact ⟨rfl, rfl⟩
    · obtain rfl : r = false := by rw [← hr]; exact decide_eq_false (fun h => h2 h.2)
      clear hr
      go_enter Try.func28, Try.ntmps28
      go_wp2
      go_ret
      exact ⟨rfl, rfl⟩
  · obtain rfl : r = false := by rw [← hr]; exact decide_eq_false (fun h => h1 h.1)
    clear hr
    go_enter Try.func28, Try.ntmps28
    go_wp2
    go_ret
    exact ⟨rfl, rfl⟩
theorem tend_any (n : Nat) (w : World) (h : n ≤ 1048576) : Calls Try.prog 40 #[.int .i64 (n : Int)] w fun e w' => e = .returned (.int .i64 ((n : Int) - 64)) ∧ w = w' := by
  go_enter Try.func40, Try.ntmps40
  go_wp2
  go_ret
  exact ⟨rfl, rfl⟩
theorem tbox (a b c : Int) (w : World) : Below w.heap.size w (w.alloc (.cells #[.int .i64 a, .int .i64 b, .int .i64 c] 23)) := (Below.refl _ _).alloc (Nat.le_refl _) _
set_option maxHeartbeats 1000000 in
theorem TRight_any (a b c : Int) (w : World) (r : Bool) (hr : decide (TOk a b c) = r) : Calls Try.prog 11 #[TV a b c] w fun e w' => e = .returned (.bool r) ∧ Below w.heap.size w w' := by
  have hb := tbox a b c w
  have no : ¬ TOk a b c → r = false := fun h => by rw [← hr]; exact decide_eq_false h
  by_cases h1 : 0 ≤ a
  · by_cases h2 : a ≤ b
    · by_cases h3 : b ≤ 1099511627776
      · obtain ⟨q, hq⟩ : ∃ q, b % 64 = q := ⟨_, rfl⟩
        have e4 : b.tmod 64 = q := by rw [← hq]; exact Int.tmod_eq_emod_of_nonneg (by omega)
        by_cases h4 : q = 0
        · subst h4
          have hc : decide (1 ≤ c ∧ c ≤ 65536) = r := by
            rw [← hr]
            refine decide_eq_decide.2 ?_
            unfold TOk
            omega
          have HC := Lib.hid (fun w => tsizeRight_any c w r hc)
          clear hr no hc hq
          go_enter Try.func11, Try.ntmps11
          go_wp2_with fail
          refine (HC.out _).mono ?_
          rintro e w1 ⟨rfl, rfl⟩
          go_wp2
          go_ret
          exact ⟨rfl, hb⟩
        · have e5 : (q == 0) = false := by simp [h4]
          obtain rfl := no (fun h => h4 (by rw [← hq]; exact h.2.2.2.1))
          clear hr no hq
          go_enter Try.func11, Try.ntmps11
          go_wp2
          go_ret
          exact ⟨rfl, hb⟩
      · obtain rfl := no (fun h => h3 h.2.2.1)
        clear hr no
        go_enter Try.func11, Try.ntmps11
        go_wp2
        go_ret
        exact ⟨rfl, hb⟩
    · obtain rfl := no (fun h => h2 h.2.1)
      clear hr no
      go_enter Try.func11, Try.ntmps11
      go_wp2
      go_ret
      exact ⟨rfl, hb⟩
  · obtain rfl := no (fun h => h1 h.1)
    clear hr no
    go_enter Try.func11, Try.ntmps11
    go_wp2
    go_ret
    exact ⟨rfl, hb⟩
set_option maxHeartbeats 1000000 in
theorem lright_any (a b c : Int) (w : World) (r : Bool) (hr : decide (TOk a b c) = r) : Calls Try.prog 12 #[TV a b c] w fun e w' => e = .returned (.bool r) ∧ Below w.heap.size w w' := by
  have hb := tbox a b c w
  have no : ¬ TOk a b c → r = false := fun h => by rw [← hr]; exact decide_eq_false h
  by_cases h1 : 0 ≤ a
  · by_cases h2 : a ≤ b
    · by_cases h3 : b ≤ 1099511627776
      · obtain ⟨q, hq⟩ : ∃ q, b % 64 = q := ⟨_, rfl⟩
        have e4 : b.tmod 64 = q := by rw [← hq]; exact Int.tmod_eq_emod_of_nonneg (by omega)
        by_cases h4 : q = 0
        · subst h4
          by_cases h5 : 1 ≤ c
          · by_cases h6 : c ≤ 65536
            · obtain rfl : r = true := by rw [← hr]; exact decide_eq_true ⟨h1, h2, h3, hq, h5, h6⟩
              clear hr no hq
              go_enter Try.func12, Try.ntmps12
              go_wp2
              go_ret
              exact ⟨rfl, hb⟩
            · obtain rfl := no (fun h => h6 h.2.2.2.2.2)
              clear hr no hq
              go_enter Try.func12, Try.ntmps12
              go_wp2
              go_ret
              exact ⟨rfl, hb⟩
          · obtain rfl := no (fun h => h5 h.2.2.2.2.1)
            clear hr no hq
            go_enter Try.func12, Try.ntmps12
            go_wp2
            go_ret
            exact ⟨rfl, hb⟩
        · have e5 : (q == 0) = false := by simp [h4]
          obtain rfl := no (fun h => h4 (by rw [← hq]; exact h.2.2.2.1))
          clear hr no hq
          go_enter Try.func12, Try.ntmps12
          go_wp2
          go_ret
          exact ⟨rfl, hb⟩
      · obtain rfl := no (fun h => h3 h.2.2.1)
        clear hr no
        go_enter Try.func12, Try.ntmps12
        go_wp2
        go_ret
        exact ⟨rfl, hb⟩
    · obtain rfl := no (fun h => h2 h.2.1)
      clear hr no
      go_enter Try.func12, Try.ntmps12
      go_wp2
      go_ret
      exact ⟨rfl, hb⟩
  · obtain rfl := no (fun h => h1 h.1)
    clear hr no
    go_enter Try.func12, Try.ntmps12
    go_wp2
    go_ret
    exact ⟨rfl, hb⟩
theorem Equal_any (A : Option Addr) (n c : Nat) (l : List Nat) (A2 : Option Addr) (n2 c2 : Nat) (l2 : List Nat) (w : World) (h : Rd .u8 w A n l) (hf : Fit 256 l) (h2 : Rd .u8 w A2 n2 l2) (hf2 : Fit 256 l2) : Calls Try.prog 48 #[.slice A n c, .slice A2 n2 c2] w fun e w' => e = .returned (.bool (decide (l = l2))) ∧ w = w' := by
  have r1 := rd_str h c
  have r2 := rd_str h2 c2
  have hss := str_same hf hf2
  obtain ⟨b, hb⟩ : ∃ b, decide (l = l2) = b := ⟨_, rfl⟩
  rw [hb] at hss ⊢
  generalize str l = S1 at r1 hss
  generalize str l2 = S2 at r2 hss
  clear hb h hf h2 hf2
  go_enter Try.func48, Try.ntmps48
  go_wp2
  go_ret
  exact ⟨by first | rfl | simp [*], rfl⟩
theorem Zeros_any (A : Option Addr) (n cap : Nat) (l : List Nat) (w : World) (h : Rd .u8 w A n l) (hn : n ≤ 1000000) (r : Bool) (hr : decide (l = List.replicate n 0) = r) : Calls Try.prog 50 #[.slice A n cap] w fun e w' => e = .returned (.bool r) ∧ w = w' := by
  have HR := Lib.hid h
  have HD := Lib.hid hr
  clear h hr
  go_enter Try.func50, Try.ntmps50
  go_wp2
  go_loop [7] (fun i => ∃ j : Nat, j ≤ n ∧ i = .int .i64 j ∧ Hid (l.take j = List.replicate j 0)) (fun i => n - (intOf i).toNat)
  case atStart => exact ⟨0, Nat.zero_le _, rfl, rfl⟩
  case round =>
    obtain ⟨j, hj, rfl, HZ⟩ := hrel
    by_cases hlt : j < n
    · obtain ⟨ad, x, rfl, hx, hc⟩ := HR.out.get hlt
      have HX := Lib.hid hx
      clear hx
      have hlt2 : (j : Int) < (n : Int) := by omega
      by_cases hx : x = 0
      · subst hx
        go_wp2
        go_round
        case rel => exact ⟨j + 1, by omega, by go_num, by show _ = _; rw [take_snoc' HX.out, HZ.out, List.replicate_succ']⟩
        case measure => simp [intOf]; omega
      · have hx2 : ((x : Int) != 0) = true := by simp; omega
        obtain rfl : r = false := by
          rw [← HD.out]
          refine decide_eq_false fun h => hx ?_
          have := HX.out
          rw [h, List.getElem?_replicate] at this
          rw [if_pos hlt] at this
          injection this with this
          exact this.symm
        go_wp2
        go_ret
        exact ⟨rfl, rfl⟩
    · obtain rfl : j = n := by omega
      obtain rfl : r = true := by
        rw [← HD.out]
        refine decide_eq_true ?_
        have := HZ.out
        rwa [List.take_of_length_le (by rw [HR.out.1]; exact Nat.le_refl _)] at this
      go_wp2
      go_ret
      exact ⟨rfl, rfl⟩
/-- The next multiple of 64. -/
def up (n : Nat) : Nat := (n + 63) / 64 * 64
theorem up_le (n : Nat) : n ≤ up n ∧ up n < n + 64 ∧ up n % 64 = 0 := by unfold up; omega
theorem gapn_up (n : Nat) : n + gapn n 64 = up n := by unfold gapn up; omega
set_option maxHeartbeats 1000000 in
theorem Align_any (n U : Nat) (w : World) (hn : n ≤ 1100000) (hU : up n = U) : Calls Try.prog 52 #[.int .i64 (n : Int), .int .i64 64] w fun e w' => e = .returned (.tuple #[.int .i64 (U : Int), .int .i64 0]) ∧ w = w' := by
  have HG := fun w => Lib.hid (gap_any n 64 w (by omega) (by omega) (by omega))
  have HT := fun w => Lib.hid (toRight_yes 64 w (by omega) (by omega))
  obtain ⟨g, hg⟩ : ∃ g, gapn n 64 = g := ⟨_, rfl⟩
  have hu := gapn_up n
  have hu2 := up_le n
  rw [hg, hU] at hu
  rw [hU] at hu2
  have hgi : (n : Int) + (g : Int) = (U : Int) := by omega
  have HGE := Lib.hid hg
  have z1 : ¬ (n : Int) < 0 := by omega
  have z2 : ¬ (4611686018427387904 : Int) < (n : Int) := by omega
  have z3 : ¬ (4611686018427387904 : Int) < (U : Int) := by omega
  clear hu hU hg hu2
  go_enter Try.func52, Try.ntmps52
  go_wp2_with fail
  refine (HT _).out.mono ?_
  rintro e w1 ⟨rfl, rfl⟩
  go_wp2_with fail
  refine (HG _).out.mono ?_
  rintro e w1 ⟨rfl, rfl⟩
  rw [HGE.out]
  go_wp2
  go_ret2
  exact ⟨rfl, rfl⟩
end Go.Proofs.Ythepbadecpnepaa
