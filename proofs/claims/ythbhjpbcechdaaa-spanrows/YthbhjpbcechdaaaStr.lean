/-
  Bytes in memory turned into a string; a number's bytes are the number again; cuts at either end.
-/
import Derived.Test.YthbhjpbcechdaaaIn
import Derived.BigQuiet
import Derived.WalkSmall
namespace Go.Proofs.Ythbhjpbcechdaaa
open Go.RowKit
set_option linter.unusedVariables false

theorem Seg.drewN {w : World} {A : Option Addr} {k : Nat} {l : List Int} (h : Seg w A k l) (n : Nat) : Seg (w.drewN n) A k l := h
theorem Seg.str {w : World} {A : Option Addr} {k : Nat} {l : List Int} (h : Seg w A k l) (cap : Nat) : (convert 22 9 (.slice A k cap)).run Try.prog w = .ok (.string (strOfNums l)) w := by
  rcases A with _ | a
  · have hl : l = [] := by
      rcases Nat.eq_zero_or_pos k with h0 | h0
      · exact List.eq_nil_of_length_eq_zero (by rw [h.1]; exact h0)
      · obtain ⟨_, e, _⟩ := h.2.2 h0; cases e
    subst hl
    rw [run_convert_bytes_nil (P := Try.prog) w 22 5 Try.underlying22 Try.underlying5 k cap 9 Try.underlying9]
    rfl
  · have hl : (loadCells a k).run Try.prog w = .ok (l.map (Value.int .u8)).toArray w := by
      have := run_loadCells_list (P := Try.prog) w a (l.map (Value.int .u8)) (fun j v hj => by
        have hjl : j < l.length := by
          rcases Nat.lt_or_ge j l.length with h | h
          · exact h
          · simp [List.getElem?_eq_none (show (l.map (Value.int .u8)).length ≤ j by simpa using h)] at hj
        obtain ⟨ad, e, _, hc⟩ := h.2.2 (by have := h.1; omega)
        injection e with e
        subst e
        rw [hc j (by rw [← h.1]; exact hjl)]
        simp [List.getElem?_eq_getElem hjl] at hj
        subst hj
        simp [List.getD, List.getElem?_eq_getElem hjl])
      simpa [h.1] using this
    rw [run_convert_bytes_string w 22 9 5 _ k cap Try.underlying22 Try.underlying5 Try.underlying9, run_bytesToString w _ k cap l hl, foldl_push_bytes]
    simp [strOfNums, ByteArray.empty, ByteArray.emptyWithCapacity]
    rfl
theorem Own.head {w : World} {g : Nat} {L : List Int} (h : Own w g L) (k : Nat) (hk : k ≤ L.length) : Seg w (some ⟨g, 0, none⟩) k (L.take k) :=
  ⟨by simp; omega, fun x hx => h.1 x (List.mem_of_mem_take hx), fun hn => ⟨_, rfl, h.lt, fun j hj => by
    rw [addr_add, Nat.zero_add, h.cell j (by omega)]
    simp [List.getD, hj]⟩⟩
theorem run_head (A : Option Addr) (k cap hi : Nat) (h2 : hi ≤ cap) (H : Int) (hH : H = (hi : Int)) (w : World) :
    (Instr.slice 22 (.slice A k cap) none (some (.int .i64 H)) none).run Try.prog w = .ok (.slice (if cap = 0 then A else A.map (·.add 0)) hi cap) w := by
  subst hH
  obtain ⟨i0, hi0, hz0, hz1, hz2⟩ := info_parts byteInfo
  simp [Instr.slice, run_underlying Try.underlying22, Instr.sliceBounds, run_sliceBound, sizeOf, typeInfo, hi0, h2]
theorem run_tail (A : Option Addr) (k cap lo : Nat) (h2 : lo ≤ k) (L : Int) (hL : L = (lo : Int)) (w : World) :
    (Instr.slice 22 (.slice A k cap) (some (.int .i64 L)) none none).run Try.prog w = .ok (.slice (if cap = lo then A else A.map (·.add lo)) (k - lo) (cap - lo)) w := by
  subst hL
  obtain ⟨i0, hi0, hz0, hz1, hz2⟩ := info_parts byteInfo
  simp [Instr.slice, run_underlying Try.underlying22, Instr.sliceBounds, run_sliceBound, sizeOf, typeInfo, hi0, hz1, h2]
theorem run_head_own (g k cap hi : Nat) (h2 : hi ≤ cap) (H : Int) (hH : H = (hi : Int)) (w : World) :
    (Instr.slice 22 (.slice (some ⟨g, 0, none⟩) k cap) none (some (.int .i64 H)) none).run Try.prog w = .ok (.slice (some ⟨g, 0, none⟩) hi cap) w := by
  rw [run_head _ _ _ _ h2 _ hH]
  simp [Addr.add]

theorem tdiv_bd (r : Int) (h0 : -9223372036854775808 ≤ r) (h1 : r ≤ 9223372036854775807) : -9223372036854775808 ≤ r.tdiv 256 ∧ r.tdiv 256 ≤ 9223372036854775807 := by
  rw [Int.tdiv_eq_ediv]
  have : Int.sign 256 = 1 := rfl
  split <;> omega
theorem be_succ (s : Nat) (n : Int) : be (s + 1) n = (n / 2 ^ (8 * s) % 256) :: be s n := by
  simp only [be, List.range_succ_eq_map, List.map_cons, List.map_map]
  congr 1
  apply List.map_congr_left
  intro j _
  simp only [Function.comp]
  rw [show s + 1 - 1 - j.succ = s - 1 - j by omega]
theorem emod_step (n P : Int) (hP : 0 < P) : n % (P * 256) = (n / P % 256) * P + n % P := by
  have h1 := Int.mul_ediv_add_emod n P
  have h2 := Int.mul_ediv_add_emod (n / P) 256
  have r0 := Int.emod_nonneg n (show P ≠ 0 by omega)
  have r1 := Int.emod_lt_of_pos n hP
  have q0 := Int.emod_nonneg (n / P) (show (256 : Int) ≠ 0 by decide)
  have q1 := Int.emod_lt_of_pos (n / P) (show (0 : Int) < 256 by decide)
  have e : n = ((n / P % 256) * P + n % P) + (P * 256) * (n / P / 256) := by
    have e1 : P * (n / P) = (P * 256) * (n / P / 256) + (n / P % 256) * P := by
      rw [Int.mul_assoc, Int.mul_comm (n / P % 256) P, ← Int.mul_add, h2]
    omega
  have b0 : 0 ≤ (n / P % 256) * P := Int.mul_nonneg q0 (by omega)
  have b1 : (n / P % 256) * P ≤ 255 * P := Int.mul_le_mul_of_nonneg_right (by omega) (by omega)
  have e2 : n % (P * 256) = (((n / P % 256) * P + n % P) + (P * 256) * (n / P / 256)) % (P * 256) := congrArg (· % (P * 256)) e
  rw [e2, Int.add_mul_emod_self_left]
  exact Int.emod_eq_of_lt (by omega) (by omega)
theorem two_pow8 (s : Nat) : (2 : Int) ^ (8 * s) = 256 ^ s := by rw [Int.pow_mul]; rfl
theorem num_be (s : Nat) (n : Int) : num (be s n) = n % 2 ^ (8 * s) := by
  induction s with
  | zero => simp [be, num]
  | succ s ih =>
    rw [be_succ, num_cons, ih, be_length, show 8 * (s + 1) = 8 * s + 8 by omega, Int.pow_add, show (2 : Int) ^ 8 = 256 from rfl, emod_step _ _ (Int.pow_pos (by decide)), two_pow8]
theorem num_be_all (s : Nat) (n : Int) (h0 : 0 ≤ n) (h : n / 2 ^ (8 * s) = 0) : num (be s n) = n := by
  rw [num_be]
  have := Int.mul_ediv_add_emod n (2 ^ (8 * s))
  rw [h] at this
  omega
end Go.Proofs.Ythbhjpbcechdaaa
