/-
  What the document's Number, Get and twice, and the statements' own conversions and comparisons answer. No condition but that bytes fit.
-/
import Derived.Test.YtfeihdmjcppbaaaDoorP4
namespace Go.Proofs.YtfeihdmjcppbaaaDoor
open Go.RowKit
set_option linter.unusedVariables false
set_option linter.unusedSimpArgs false
set_option maxRecDepth 100000

theorem MDescr_any (x : Dx) (w : World) : Calls Tryd.prog 11 #[x.val] w fun e w' => e = .returned x.val ∧ Below w.heap.size w w' := by
  obtain ⟨d0, hu0, hd0⟩ := uD
  obtain ⟨d1, hu1, hd1⟩ := uR
  unfold Dx.val
  obtain ⟨W, hW⟩ : ∃ W, w.alloc (.cells x.cells.toArray 27) = W := ⟨_, rfl⟩
  have X := Lib.hid (Bx.new hW)
  have hb2 : Below W.heap.size W (W.alloc (.cells zeroD.toArray 28)) := (Below.refl _ _).alloc (Nat.le_refl _) _
  have hk2 : Blk (W.alloc (.cells zeroD.toArray 28)) W.heap.size 28 zeroD := Blk.new _ _ _
  obtain ⟨W2, hW2⟩ : ∃ W2, W.alloc (.cells zeroD.toArray 28) = W2 := ⟨_, rfl⟩
  rw [hW2] at hb2 hk2
  have X2 := Lib.hid (X.out.next hb2)
  have HK2 := Lib.hid hk2
  unfold zeroD at hW2
  clear hb2 hk2
  go_enter Tryd.func11, Tryd.ntmps11
  go_wp2_with (first
    | ((with_reducible refine at_dst (some 3) ?_); refine wpList_loadAt (op := ⟨some 3, _, _, _, _, _⟩) rfl 27 (.tmp 1) rfl ⟨w.heap.size, 0, none⟩ rfl x.cells d0 X2.out.blk.at hu0 hd0 iD ?_)
    | ((with_reducible refine at_dst none ?_); refine wpList_storeBlk (op := ⟨none, _, _, _, _, _⟩) rfl 28 (.tmp 2) (.tmp 3) rfl (g := W.heap.size) (t := 28) (old := zeroD) (cs := x.cells) rfl rfl HK2.out rfl iR x.one ?_; intro w9 hB9 ht9))
  exact ret_cell rfl rfl hB9.out.at hu1 hd1 iR rfl ⟨rfl, X2.out.below.trans (ht9.below (fun y hy => by rw [List.mem_singleton.1 hy]; exact X.out.below.size) X2.out.below.size)⟩

/-- n in s bytes, of which the last k are laid. -/
def part : Nat → Nat → Nat → List Nat
  | s, 0, _ => List.replicate s 0
  | 0, _ + 1, _ => []
  | s + 1, k + 1, n => part s k (n / 256) ++ [n % 256]
theorem part_zero (s n : Nat) : part s 0 n = List.replicate s 0 := by cases s <;> rfl
theorem part_length : ∀ (s k n : Nat), (part s k n).length = s
  | s, 0, n => by simp [part]
  | 0, k + 1, n => by simp [part]
  | s + 1, k + 1, n => by rw [part, List.length_append, part_length s k]; rfl
theorem part_all : ∀ (s n : Nat), part s s n = be s n
  | 0, n => rfl
  | s + 1, n => by rw [part, part_all s, be]
theorem part_set : ∀ (s k n : Nat), k < s → (part s k n).set (s - 1 - k) (n / 256 ^ k % 256) = part s (k + 1) n
  | 0, k, n, h => by omega
  | s + 1, 0, n, h => by
    have e : part (s + 1) 0 n = List.replicate s 0 ++ [0] := by
      show List.replicate (s + 1) 0 = _
      rw [List.replicate_succ']
    rw [e, show s + 1 - 1 - 0 = s by omega, List.set_append_right _ _ (by simp)]
    simp [part]
  | s + 1, k + 1, n, h => by
    have ih := part_set s k (n / 256) (by omega)
    rw [part, part, ← ih, show s + 1 - 1 - (k + 1) = s - 1 - k by omega, List.set_append_left _ _ (by rw [part_length]; omega)]
    congr 2
    rw [Nat.div_div_eq_div_mul, Nat.pow_succ, Nat.mul_comm]
set_option maxHeartbeats 1000000 in
theorem Number_any (n s : Nat) (w : World) (z y : Int) (hz : z = n) (hy : y = s) (h1 : 1 ≤ s) (h2 : s ≤ 8) (hn : n ≤ 9223372036854775807) : Calls Tryd.prog 46 #[.int .i64 z, .int .i64 y] w fun e w' => ∃ g, e = .returned (.slice (some ⟨g, 0, none⟩) s s) ∧ w.heap.size ≤ g ∧ Blk w' g 5 (cn .u8 (be s n)) ∧ Below w.heap.size w w' := by
  subst hz hy
  have hmk : ∀ w : World, (Instr.makeSlice 25 (.int .i64 (s : Int)) (.int .i64 (s : Int))).run Tryd.prog w = .ok (.slice (some ⟨w.heap.size, 0, none⟩) s s) (w.alloc (.cells (cn .u8 (List.replicate s 0)).toArray 5)) := by
    intro w
    obtain ⟨i0, hi, hz0, hz1, hz2⟩ := info_parts byteInfo
    have := run_make (P := Tryd.prog) w 25 5 i0 _ Tryd.underlying25 hi hz0 .i64 .i64 (s : Int) (s : Int) (by omega) (by omega) (by rw [hz2]; omega) (by omega)
    rw [hz1, Nat.mul_one, Int.toNat_natCast, madeB] at this
    exact this
  have I0 : Hid (Below w.heap.size w (w.alloc (.cells (cn .u8 (List.replicate s 0)).toArray 5)) ∧ Blk (w.alloc (.cells (cn .u8 (List.replicate s 0)).toArray 5)) w.heap.size 5 (cn .u8 (part s 0 n))) := ⟨(Below.refl _ _).alloc (Nat.le_refl _) _, by rw [part_zero]; exact Blk.new _ _ _⟩
  go_enter Tryd.func46, Tryd.ntmps46
  go_wp2
  go_loopw [0, 6] (fun a o wr => ∃ k : Nat, k ≤ s ∧ o = .int .i64 ((s : Int) - 1 - k) ∧ a = .int .i64 ((n / 256 ^ k : Nat) : Int) ∧ Hid (Below w.heap.size w wr ∧ Blk wr w.heap.size 5 (cn .u8 (part s k n)))) (fun _ o _ => (intOf o + 1).toNat)
  case atStart => exact ⟨0, Nat.zero_le _, by go_num, by rw [Nat.pow_zero, Nat.div_one], I0⟩
  case round =>
    obtain ⟨k, hk, rfl, rfl, HS⟩ := hrel
    by_cases hks : k < s
    · obtain ⟨j, hj⟩ : ∃ j, s - 1 - k = j := ⟨_, rfl⟩
      have hjz : (s : Int) - 1 - (k : Int) = (j : Int) := by omega
      have hjs : (j : Int) < (s : Int) := by omega
      obtain ⟨m, hm⟩ : ∃ m, n / 256 ^ k = m := ⟨_, rfl⟩
      have hmn : m ≤ n := by rw [← hm]; exact Nat.div_le_self _ _
      have hm2 : m ≤ 9223372036854775807 := by omega
      have hm3 : n / 256 ^ (k + 1) = m / 256 := by rw [← hm, Nat.div_div_eq_div_mul, Nat.pow_succ]
      have hc : wr.cell? ⟨w.heap.size, j, none⟩ = some (.int .u8 (((part s k n).getD j 0 : Nat) : Int)) := by
        rw [HS.out.2.cell]
        refine cn_get ?_
        rw [List.getD_eq_getElem?_getD, List.getElem?_eq_getElem (by rw [part_length]; omega)]
        rfl
      have hf : wr.frozen? ⟨w.heap.size, j, none⟩ = false := HS.out.2.frozen j
      have hmod : ((m : Int)).tmod 256 = ((m % 256 : Nat) : Int) := by rw [Int.tmod_eq_emod_of_nonneg (by omega)]; omega
      have hdiv : ((m : Int)).tdiv 256 = ((m / 256 : Nat) : Int) := by rw [Int.tdiv_eq_ediv_of_nonneg (by omega)]; omega
      obtain ⟨r, hr⟩ : ∃ r, m % 256 = r := ⟨_, rfl⟩
      have hr2 : r < 256 := by rw [← hr]; exact Nat.mod_lt _ (by omega)
      obtain ⟨q, hq⟩ : ∃ q, m / 256 = q := ⟨_, rfl⟩
      have hq2 : q ≤ 9223372036854775807 := by omega
      rw [hr] at hmod
      rw [hq] at hdiv
      have HNX : Hid (Blk (wr.setCell ⟨w.heap.size, j, none⟩ (.int .u8 (r : Int))) w.heap.size 5 (cn .u8 (part s (k + 1) n))) := by
        have := HS.out.2.set_ j (.int .u8 (r : Int))
        rw [cn_set, ← hj] at this
        have e := part_set s k n hks
        rw [hm, hr] at e
        rw [e] at this
        rw [hj] at this
        exact this
      have HM3 : Hid (n / 256 ^ (k + 1) = q) := by show _ = _; rw [hm3, hq]
      rw [hm]
      clear hm hm3 hmn hj hr hq
      go_wp2
      go_roundw
      case rel => exact ⟨k + 1, by omega, by go_num, by rw [HM3.out], HS.out.1.setCell (Nat.le_refl _) _, HNX.out⟩
      case measure => simp [intOf]; omega
    · obtain rfl : k = s := by omega
      have hneg : ¬ (0 : Int) ≤ (k : Int) - 1 - (k : Int) := by omega
      have HE : Hid (Blk wr w.heap.size 5 (cn .u8 (be k n))) := by have := HS.out.2; rw [part_all] at this; exact this
      go_wp2
      go_ret
      exact ⟨w.heap.size, rfl, Nat.le_refl _, HE.out, HS.out.1⟩
/-- What the document's Get answers: the number, or -1. -/
def rnum (l : List Nat) : Int := if num (l.take (l.length - 1)) ≤ 18014398509481984 then (num l : Nat) else -1
end Go.Proofs.YtfeihdmjcppbaaaDoor
