/-
  What span.Within, span.Align, span.Get and the statements' own within and anchor answer.
-/
import Derived.Test.YtojpbfkdkkdpcaaDoorSpPut
namespace Go.Proofs.YtojpbfkdkkdpcaaDoorSp
set_option maxRecDepth 100000
open Go.RowKit
set_option linter.unusedVariables false

theorem not_lies {off len total : Int} (h : ¬ Lies off len total) : off < 0 ∨ (0 ≤ off ∧ len < 0) ∨ (0 ≤ off ∧ 0 ≤ len ∧ total < 0) ∨ (0 ≤ off ∧ 0 ≤ len ∧ 0 ≤ total ∧ total < off + len) := by
  unfold Lies at h; omega
theorem Within_no (off len total : Int) (w : World) (h : ¬ Lies off len total) (h1 : len ≤ 9223372036854775807) (h2 : off ≤ 9223372036854775807) (ht : total ≤ 9223372036854775807) :
    Calls Tryd.prog 72 #[.int .i64 off, .int .i64 len, .int .i64 total] w fun e w' => e = .returned (.bool false) ∧ w = w' := by
  rcases not_lies h with h | ⟨a, h⟩ | ⟨a, b, h⟩ | ⟨a, b, c, h⟩
  · go_enter Tryd.func72, Tryd.ntmps72
    go_wp2
    go_ret
    exact ⟨rfl, rfl⟩
  · go_enter Tryd.func72, Tryd.ntmps72
    go_wp2
    go_ret
    exact ⟨rfl, rfl⟩
  · go_enter Tryd.func72, Tryd.ntmps72
    go_wp2
    go_ret
    exact ⟨rfl, rfl⟩
  · have h5 : ¬ off ≤ total - len := by omega
    go_enter Tryd.func72, Tryd.ntmps72
    go_wp2
    go_ret
    exact ⟨rfl, rfl⟩
theorem Get_form (A : Option Addr) (k cap : Nat) (off size : Int) (w : World) (h : size < 1 ∨ 8 < size) :
    Calls Tryd.prog 45 #[.slice A k cap, .int .i64 off, .int .i64 size] w fun e w' => e = .returned (.tuple #[.int .i64 0, .int .i64 12]) ∧ w = w' := by
  go_enter Tryd.func45, Tryd.ntmps45
  go_wp2_with (go_at_call 61; refine (sizeRight_no _ _ h).mono ?_; rintro e w' ⟨rfl, rfl⟩)
  go_ret2
  exact ⟨rfl, rfl⟩
theorem Get_end (A : Option Addr) (k cap : Nat) (off size : Int) (w : World) (h1 : 1 ≤ size) (h2 : size ≤ 8) (hk : k ≤ 100000) (ho : off ≤ 9223372036854775807) (h : ¬ Lies off size k) :
    Calls Tryd.prog 45 #[.slice A k cap, .int .i64 off, .int .i64 size] w fun e w' => e = .returned (.tuple #[.int .i64 0, .int .i64 10]) ∧ w = w' := by
  go_enter Tryd.func45, Tryd.ntmps45
  go_wp2_with (first | (go_at_call 61; refine (sizeRight_yes _ _ h1 h2).mono ?_; rintro e w' ⟨rfl, rfl⟩) | (go_at_call 72; refine (Within_no _ _ _ _ h (by omega) ho (by omega)).mono ?_; rintro e w' ⟨rfl, rfl⟩))
  go_ret2
  exact ⟨rfl, rfl⟩

def num (l : List Int) : Int := l.foldl (fun n x => n * 256 + x) 0
theorem num_snoc (l : List Int) (x : Int) : num (l ++ [x]) = num l * 256 + x := by simp [num]
theorem num_from (l : List Int) : ∀ a : Int, l.foldl (fun n x => n * 256 + x) a = a * 256 ^ l.length + num l := by
  induction l with
  | nil => intro a; simp [num]
  | cons x l ih =>
    intro a
    simp only [List.foldl_cons, List.length_cons, num]
    rw [ih, ih (0 * 256 + x)]
    simp only [Int.pow_succ, Int.add_mul, Int.zero_mul, Int.zero_add]
    rw [Int.mul_assoc, Int.mul_comm 256]
    omega
theorem num_cons (x : Int) (l : List Int) : num (x :: l) = x * 256 ^ l.length + num l := by
  show l.foldl (fun n x => n * 256 + x) (0 * 256 + x) = _
  rw [num_from]; simp
theorem num_bd (l : List Int) (h : AreBytes l) : 0 ≤ num l ∧ num l < 256 ^ l.length := by
  induction l with
  | nil => simp [num]
  | cons x l ih =>
    have hx := h x (by simp)
    have hl := ih (fun y hy => h y (by simp [hy]))
    rw [num_cons, List.length_cons, Int.pow_succ]
    have hp : (0 : Int) < 256 ^ l.length := Int.pow_pos (by decide)
    have h1 : x * 256 ^ l.length ≤ 255 * 256 ^ l.length := Int.mul_le_mul_of_nonneg_right hx.2 (by omega)
    have h2 : 0 ≤ x * 256 ^ l.length := Int.mul_nonneg hx.1 (by omega)
    omega
theorem pow_le7 (j : Nat) (h : j ≤ 7) : (256 : Int) ^ j ≤ 72057594037927936 := by
  have h1 : 256 ^ j ≤ 256 ^ 7 := Nat.pow_le_pow_right (by decide) h
  have h2 : ((256 ^ j : Nat) : Int) ≤ ((256 ^ 7 : Nat) : Int) := by exact_mod_cast h1
  rw [Int.natCast_pow] at h2
  exact Int.le_trans h2 (by decide)
theorem AreBytes.seg {l : List Int} (h : AreBytes l) (o j : Nat) : AreBytes ((l.drop o).take j) := fun x hx => h x (List.mem_of_mem_drop (List.mem_of_mem_take hx))
theorem AreBytes.at_ {l : List Int} (h : AreBytes l) (j : Nat) : 0 ≤ l.getD j 0 ∧ l.getD j 0 ≤ 255 := by
  rcases Nat.lt_or_ge j l.length with hj | hj
  · have e : l.getD j 0 = l[j] := by simp [List.getD, List.getElem?_eq_getElem hj]
    rw [e]; exact h _ (List.getElem_mem hj)
  · simp [List.getD, List.getElem?_eq_none hj]
theorem or_byte (n x : Int) (h0 : 0 ≤ n) (h1 : n < 72057594037927936) (h2 : 0 ≤ x) (h3 : x ≤ 255) : bits .or .u64 (n * 256) (IntKind.u64.wrap x) = n * 256 + x := by
  rw [IntKind.wrap_u64, Int.emod_eq_of_lt h2 (by omega), u64_or _ _ (by omega) (by omega) h2 (by omega)]
  obtain ⟨a, rfl⟩ := Int.eq_ofNat_of_zero_le h0
  obtain ⟨b, rfl⟩ := Int.eq_ofNat_of_zero_le h2
  have e1 : ((a : Int) * 256).toNat = 2 ^ 8 * a := by omega
  have e2 : ((b : Int)).toNat = b := by omega
  rw [e1, e2, ← Nat.two_pow_add_eq_or_of_lt (show b < 2 ^ 8 by omega)]
  omega
theorem seg_snoc (l : List Int) (o j : Nat) (h : o + j < l.length) : (l.drop o).take (j + 1) = (l.drop o).take j ++ [l.getD (o + j) 0] := by
  rw [List.take_succ_eq_append_getElem (by simp; omega)]
  simp [List.getD, List.getElem?_eq_getElem h]

/-- What Get answers of the number n. -/
def getEnd (n : Int) : Value := if 9223372036854775807 < n then .tuple #[.int .i64 0, .int .i64 11] else .tuple #[.int .i64 n, .int .i64 0]
set_option maxHeartbeats 400000 in
theorem Get_num (A : Option Addr) (k cap : Nat) (l : List Int) (off size : Int) (w : World) (hs : Seg w A k l) (hk : k ≤ 100000) (hcap : k ≤ cap) (hcap2 : cap ≤ maxLen) (h1 : 1 ≤ size) (h2 : size ≤ 8) (h : Lies off size k) :
    Calls Tryd.prog 45 #[.slice A k cap, .int .i64 off, .int .i64 size] w fun e w' => e = .returned (getEnd (num ((l.drop off.toNat).take size.toNat))) ∧ w = w' := by
  obtain ⟨o, rfl⟩ : ∃ o : Nat, off = (o : Int) := ⟨off.toNat, by have := h.1; omega⟩
  obtain ⟨s, rfl⟩ : ∃ s : Nat, size = (s : Int) := ⟨size.toNat, by omega⟩
  have h5 : o + s ≤ k := by have := h.2.2.2; omega
  obtain ⟨ad, rfl, hlt, hc⟩ := hs.2.2 (by omega)
  unfold maxLen at hcap2
  simp only [Int.toNat_natCast]
  go_enter Tryd.func45, Tryd.ntmps45
  go_wp2_with (first | (go_at_call 61; refine (sizeRight_yes _ _ h1 h2).mono ?_; rintro e w' ⟨rfl, rfl⟩) | (go_at_call 72; refine (Within_yes _ _ _ _ h (by omega)).mono ?_; rintro e w' ⟨rfl, rfl⟩))
  go_loop [8, 27] (fun n i => ∃ j : Nat, j ≤ s ∧ i = .int .i64 j ∧ n = .int .u64 (num ((l.drop o).take j))) (fun _ i => s - (intOf i).toNat)
  case atStart => exact ⟨0, Nat.zero_le _, rfl, rfl⟩
  case round =>
    obtain ⟨j, hj, rfl, rfl⟩ := hrel
    by_cases hlt : j < s
    · have hcj : w.cell? ((ad.add o).add j) = some (.int .u8 (l.getD (o + j) 0)) := by rw [add_add]; exact hc _ (by omega)
      have b := num_bd _ (hs.2.1.seg o j)
      have bl : ((l.drop o).take j).length = j := by simp [hs.1]; omega
      rw [bl] at b
      have b0 := b.1
      have b1 : num ((l.drop o).take j) < 72057594037927936 := Int.lt_of_lt_of_le b.2 (pow_le7 j (by omega))
      obtain ⟨b2, b3⟩ := hs.2.1.at_ (o + j)
      clear hc b bl
      go_wp2
      go_round
      case rel =>
        refine ⟨j + 1, by omega, by go_num, ?_⟩
        rw [seg_snoc l o j (by rw [hs.1]; omega), num_snoc]
        rw [show l[o + j]?.getD 0 = l.getD (o + j) 0 from rfl, or_byte _ _ b0 b1 b2 b3]
      case measure => simp [intOf]; omega
    · obtain rfl : j = s := by omega
      by_cases hbig : 9223372036854775807 < num ((l.drop o).take j)
      · have e : getEnd (num ((l.drop o).take j)) = .tuple #[.int .i64 0, .int .i64 11] := by simp only [getEnd, if_pos hbig]
        have E := Lib.hid e
        clear e
        go_wp2
        go_ret2
        exact ⟨congrArg Ending.returned E.out.symm, rfl⟩
      · have e : getEnd (num ((l.drop o).take j)) = .tuple #[.int .i64 (num ((l.drop o).take j)), .int .i64 0] := by simp only [getEnd, if_neg hbig]
        have E := Lib.hid e
        clear e
        have b0 := (num_bd _ (hs.2.1.seg o j)).1
        go_wp2
        go_ret2
        exact ⟨congrArg Ending.returned E.out.symm, rfl⟩
end Go.Proofs.YtojpbfkdkkdpcaaDoorSp
