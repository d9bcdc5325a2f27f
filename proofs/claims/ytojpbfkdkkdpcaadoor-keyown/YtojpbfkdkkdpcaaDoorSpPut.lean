/-
  What span.Put answers.
-/
import Derived.Test.YtojpbfkdkkdpcaaDoorSpMem
namespace Go.Proofs.YtojpbfkdkkdpcaaDoorSp
set_option maxRecDepth 100000
open Go.RowKit
set_option linter.unusedVariables false

theorem Put_form (A : Option Addr) (k cap : Nat) (size n : Int) (w : World) (h : size < 1 ∨ 8 < size) :
    Calls Tryd.prog 34 #[.slice A k cap, .int .i64 size, .int .i64 n] w fun e w' => e = .returned (.tuple #[.slice none 0 0, .int .i64 12]) ∧ w = w' := by
  go_enter Tryd.func34, Tryd.ntmps34
  go_wp2_with (go_at_call 61; refine (sizeRight_no _ _ h).mono ?_; rintro e w' ⟨rfl, rfl⟩)
  go_ret2
  exact ⟨rfl, rfl⟩
theorem Put_neg (A : Option Addr) (k cap : Nat) (size n : Int) (w : World) (h1 : 1 ≤ size) (h2 : size ≤ 8) (h : n < 0) :
    Calls Tryd.prog 34 #[.slice A k cap, .int .i64 size, .int .i64 n] w fun e w' => e = .returned (.tuple #[.slice none 0 0, .int .i64 11]) ∧ w = w' := by
  go_enter Tryd.func34, Tryd.ntmps34
  go_wp2_with (go_at_call 61; refine (sizeRight_yes _ _ h1 h2).mono ?_; rintro e w' ⟨rfl, rfl⟩)
  go_ret2
  exact ⟨rfl, rfl⟩
theorem Put_big (A : Option Addr) (k cap : Nat) (size n : Int) (w : World) (h1 : 1 ≤ size) (h2 : size ≤ 8) (h0 : 0 ≤ n) (h3 : n ≤ 9223372036854775807) (h : (n / 2 ^ (8 * size).toNat != 0) = true) :
    Calls Tryd.prog 34 #[.slice A k cap, .int .i64 size, .int .i64 n] w fun e w' => e = .returned (.tuple #[.slice none 0 0, .int .i64 11]) ∧ w = w' := by
  go_enter Tryd.func34, Tryd.ntmps34
  go_wp2_with (go_at_call 61; refine (sizeRight_yes _ _ h1 h2).mono ?_; rintro e w' ⟨rfl, rfl⟩)
  go_ret2
  exact ⟨rfl, rfl⟩

/-- n in s bytes, the highest one first, of which the last k are laid. -/
def part (s k : Nat) (n : Int) : List Int := (List.range s).map fun j => if s ≤ j + k then n / 2 ^ (8 * (s - 1 - j)) % 256 else 0
def be (s : Nat) (n : Int) : List Int := (List.range s).map fun j => n / 2 ^ (8 * (s - 1 - j)) % 256
theorem part_zero (s : Nat) (n : Int) : part s 0 n = List.replicate s 0 := by
  apply List.ext_getElem
  · simp [part]
  · intro i h1 h2
    simp [part] at h1 ⊢
    omega
theorem part_all (s : Nat) (n : Int) : part s s n = be s n := by
  apply List.ext_getElem
  · simp [part, be]
  · intro i h1 h2
    simp [part, be]
theorem part_length (s k : Nat) (n : Int) : (part s k n).length = s := by simp [part]
theorem be_length (s : Nat) (n : Int) : (be s n).length = s := by simp [be]
theorem part_set (s k : Nat) (n : Int) (hk : k < s) : (part s k n).set (s - 1 - k) (n / 2 ^ (8 * k) % 256) = part s (k + 1) n := by
  apply List.ext_getElem
  · simp [part]
  · intro i h1 h2
    simp [part, List.getElem_set] at h1 ⊢
    by_cases e : s - 1 - k = i
    · rw [if_pos e, if_pos (by omega)]
      congr 3
      omega
    · rw [if_neg e]
      by_cases h : s ≤ i + k
      · rw [if_pos h, if_pos (by omega)]
      · rw [if_neg h, if_neg (by omega)]

def GivesBytesOK (w : World) (m : Nat) (L : List Int) (e : Ending) (w' : World) : Prop :=
  e = .returned (.tuple #[.slice (some ⟨w.heap.size, 0, none⟩) m m, .int .i64 0]) ∧ L.length = m ∧ Own w' w.heap.size L ∧ Below w.heap.size w w'

set_option maxHeartbeats 400000 in
theorem Put_ok (A : Option Addr) (k cap : Nat) (l : List Int) (size n : Int) (w : World) (hs : Seg w A k l) (hk : k ≤ 90000) (h1 : 1 ≤ size) (h2 : size ≤ 8) (h0 : 0 ≤ n) (h3 : n ≤ 9223372036854775807) (h : (n / 2 ^ (8 * size).toNat != 0) = false)
    (m : Nat) (hm : (m : Int) = k + size) :
    Calls Tryd.prog 34 #[.slice A k cap, .int .i64 size, .int .i64 n] w (GivesBytesOK w m (l ++ be size.toNat n)) := by
  have HM := Lib.hid hm
  have hm1 : (m : Int) ≤ k + size := by omega
  have hm2 : k + size ≤ (m : Int) := by omega
  clear hm
  go_enter Tryd.func34, Tryd.ntmps34
  go_wp2_with (first | (go_at_call 61; refine (sizeRight_yes _ _ h1 h2).mono ?_; rintro e w' ⟨rfl, rfl⟩) | (go_at_call 62; refine (longer_any A k cap l size _ hs (by omega) (by omega) (by omega) m HM.out).mono ?_; rintro e w1 ⟨rfl, hL, hown, hb⟩; have HL := Lib.hid hL; clear hL))
  go_loopw [26] (fun i wr => ∃ j : Nat, (j : Int) ≤ size ∧ i = .int .i64 j ∧ Own wr w.heap.size (l ++ part size.toNat j n) ∧ Below w.heap.size w wr) (fun i _ => size.toNat - (intOf i).toNat)
  case atStart => exact ⟨0, by omega, rfl, by rw [part_zero]; exact hown, hb⟩
  case round =>
    obtain ⟨j, hj, rfl, hown1, hb1⟩ := hrel
    by_cases hlt : (j : Int) < size
    · have hl : (l ++ part size.toNat j n).length = m := by have := HM.out; rw [List.length_append, part_length, hs.1]; omega
      have hc := hown1.cell (m - 1 - j) (by omega)
      have hf := hown1.frozen (m - 1 - j)
      have HL2 := Lib.hid hl
      clear hl HL
      go_wp2
      go_roundw
      case rel =>
        refine ⟨j + 1, by omega, by go_num, ?_, hb1.setCell (Nat.le_refl _) _⟩
        have := hown1.set (m - 1 - j) (n / 2 ^ (8 * j) % 256) ⟨by omega, by omega⟩
        have e : (l ++ part size.toNat j n).set (m - 1 - j) (n / 2 ^ (8 * j) % 256) = l ++ part size.toNat (j + 1) n := by
          have hh := HM.out
          have e2 : m - 1 - j = l.length + (size.toNat - 1 - j) := by rw [hs.1]; omega
          rw [e2, List.set_append_right _ _ (by omega), Nat.add_sub_cancel_left, part_set _ _ _ (by omega)]
        rw [e] at this
        exact this
      case measure => simp [intOf]; omega
    · go_wp2
      go_ret2
      have e : j = size.toNat := by omega
      subst e
      rw [part_all] at hown1
      have hh := HM.out
      exact ⟨rfl, by rw [List.length_append, be_length, hs.1]; omega, hown1, hb1⟩
end Go.Proofs.YtojpbfkdkkdpcaaDoorSp
