/-
  The laws' own test of a name. No condition.
-/
import Derived.Test.YtonjmbcagdkdiaaT4
namespace Go.Proofs.Ytonjmbcagdkdiaa
open Go.RowKit Go.MapKept
set_option linter.unusedVariables false
set_option linter.unusedSimpArgs false
set_option maxRecDepth 100000

set_option maxHeartbeats 1000000 in
theorem lnamed_any (s : ByteArray) (w : World) (b : Bool) (hb : b = true ↔ NameOk s) (hs : s.size ≤ 9223372036854775807) : Calls Try.prog 24 #[.string s] w fun e w' => e = .returned (.bool b) ∧ w = w' := by
  have HB := Lib.hid hb
  unfold NameOk at HB
  clear hb
  go_enter Try.func24, Try.ntmps24
  go_wp2
  go_loopw [7] (fun a wr => ∃ k : Nat, a = .int .i64 (k : Int) ∧ k ≤ s.size ∧ wr = w ∧ Hid (∀ i (h : i < s.size), i < k → letter ((s[i]'h).toNat : Int) = true)) (fun a _ => s.size - (intOf a).toNat)
  case atStart => exact ⟨0, rfl, Nat.zero_le _, rfl, fun i _ h => absurd h (Nat.not_lt_zero _)⟩
  case round =>
    obtain ⟨k, rfl, hks, rfl, HALL⟩ := hrel
    by_cases hlt : k < s.size
    · have zlt : (k : Int) < (s.size : Int) := by omega
      obtain ⟨c, hc⟩ : ∃ c, (s[k]'hlt).toNat = c := ⟨_, rfl⟩
      have HC := Lib.hid hc
      have hc256 : c < 256 := by rw [← hc]; exact (s[k]'hlt).toNat_lt
      cases hl : letter (c : Int) with
      | true =>
        have HL := Lib.hid hl
        have HREL : Hid (∀ i (h : i < s.size), i < k + 1 → letter ((s[i]'h).toNat : Int) = true) := fun i hi h2 => by
          by_cases e : i = k
          · subst e; rw [HC.out]; exact HL.out
          · exact HALL.out i hi (by omega)
        clear hl
        go_wp2
        all_goals first
          | exact ⟨⟨k + 1, by go_num, by omega, trivial, HREL⟩, by simp [intOf]; omega⟩
          | (exfalso
             have hx := HL.out
             unfold letter at hx
             have hy := of_decide_eq_true hx
             simp at *
             omega)
      | false =>
        obtain rfl : b = false := by
          cases b with
          | false => rfl
          | true => have h3 := (HB.out.1 rfl).2.2 k hlt; rw [HC.out, hl] at h3; cases h3
        have HL := Lib.hid hl
        clear hl
        go_wp2
        all_goals first
          | (go_ret; exact ⟨rfl, rfl⟩)
          | (exfalso
             have hx := HL.out
             unfold letter at hx
             have hy := of_decide_eq_false hx
             simp at *
             omega)
    · obtain rfl : k = s.size := by omega
      have HA : Hid (∀ i (h : i < s.size), letter ((s[i]'h).toNat : Int) = true) := fun i h => HALL.out i h h
      by_cases h1 : 1 ≤ s.size
      · have z1 : (1 : Int) ≤ (s.size : Int) := by omega
        by_cases h2 : s.size ≤ 24
        · have z2 : (s.size : Int) ≤ 24 := by omega
          obtain rfl : b = true := HB.out.2 ⟨h1, h2, HA.out⟩
          go_wp2
          go_ret
          exact ⟨rfl, rfl⟩
        · have z2 : ¬ (s.size : Int) ≤ 24 := by omega
          obtain rfl : b = false := by
            cases b with
            | false => rfl
            | true => exact absurd (HB.out.1 rfl).2.1 h2
          go_wp2
          go_ret
          exact ⟨rfl, rfl⟩
      · have z1 : ¬ (1 : Int) ≤ (s.size : Int) := by omega
        obtain rfl : b = false := by
          cases b with
          | false => rfl
          | true => exact absurd (HB.out.1 rfl).1 h1
        go_wp2
        go_ret
        exact ⟨rfl, rfl⟩
end Go.Proofs.Ytonjmbcagdkdiaa
