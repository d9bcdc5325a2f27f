/-
  What the document's Number and Get answer. No condition but that bytes fit.
-/
import Derived.Test.YthepbadecpnepaaSq
import Derived.Test.YthepbadecpnepaaD14
namespace Go.Proofs.Ythepbadecpnepaa
open Go.RowKit
set_option linter.unusedVariables false
set_option linter.unusedSimpArgs false
set_option maxRecDepth 100000

/-- n in s bytes, of which the last k are laid. -/
def part : Nat → Nat → Nat → List Nat
  | s, 0, _ => List.replicate s 0
  | 0, _ + 1, _ => []
  | s + 1, k + 1, n => part s k (n / 256) ++ [n % 256]
theorem part_zero (s n : Nat) : part s 0 n = List.replicate s 0 := by cases s <;> rfl
theorem part_length : ∀ (s k n : Nat), (part s k n).length = s
  | s, 0, n => by simp [part]
  | 0, k + 1, n => by simp [part]
  | s + 1, k + 1, n => by rw [part, List.length_append, part_length s k]; rfl
theorem part_all : ∀ (s n : Nat), part s s n = be s n
  | 0, n => rfl
  | s + 1, n => by rw [part, part_all s, be]
theorem part_set : ∀ (s k n : Nat), k < s → (part s k n).set (s - 1 - k) (n / 256 ^ k % 256) = part s (k + 1) n
  | 0, k, n, h => by omega
  | s + 1, 0, n, h => by
    have e : part (s + 1) 0 n = List.replicate s 0 ++ [0] := by
      show List.replicate (s + 1) 0 = _
      rw [List.replicate_succ']
    rw [e, show s + 1 - 1 - 0 = s by omega, List.set_append_right _ _ (by simp)]
    simp [part]
  | s + 1, k + 1, n, h => by
    have ih := part_set s k (n / 256) (by omega)
    rw [part, part, ← ih, show s + 1 - 1 - (k + 1) = s - 1 - k by omega, List.set_append_left _ _ (by rw [part_length]; omega)]
    congr 2
    rw [Nat.div_div_eq_div_mul, Nat.pow_succ, Nat.mul_comm]
set_option maxHeartbeats 1000000 in
theorem Number_any (n s : Nat) (w : World) (z y : Int) (hz : z = n) (hy : y = s) (h1 : 1 ≤ s) (h2 : s ≤ 8) (hn : n ≤ 9223372036854775807) : Calls Try.prog 32 #[.int .i64 z, .int .i64 y] w fun e w' => ∃ g, e = .returned (.slice (some ⟨g, 0, none⟩) s s) ∧ w.heap.size ≤ g ∧ Blk w' g 5 (cn .u8 (be s n)) ∧ Below w.heap.size w w' := by
  subst hz hy
  have hmk : ∀ w : World, (Instr.makeSlice 25 (.int .i64 (s : Int)) (.int .i64 (s : Int))).run Try.prog w = .ok (.slice (some ⟨w.heap.size, 0, none⟩) s s) (w.alloc (.cells (cn .u8 (List.replicate s 0)).toArray 5)) := by
    intro w
    obtain ⟨i0, hi, hz0, hz1, hz2⟩ := info_parts byteInfo
    have := run_make (P := Try.prog) w 25 5 i0 _ Try.underlying25 hi hz0 .i64 .i64 (s : Int) (s : Int) (by omega) (by omega) (by rw [hz2]; omega) (by omega)
    rw [hz1, Nat.mul_one, Int.toNat_natCast, madeB] at this
    exact this
  have I0 : Hid (Below w.heap.size w (w.alloc (.cells (cn .u8 (List.replicate s 0)).toArray 5)) ∧ Blk (w.alloc (.cells (cn .u8 (List.replicate s 0)).toArray 5)) w.heap.size 5 (cn .u8 (part s 0 n))) := ⟨(Below.refl _ _).alloc (Nat.le_refl _) _, by rw [part_zero]; exact Blk.new _ _ _⟩
  go_enter Try.func32, Try.ntmps32
  go_wp2
  go_loopw [0, 6] (fun a o wr => ∃ k : Nat, k ≤ s ∧ o = .int .i64 ((s : Int) - 1 - k) ∧ a = .int .i64 ((n / 256 ^ k : Nat) : Int) ∧ Hid (Below w.heap.size w wr ∧ Blk wr w.heap.size 5 (cn .u8 (part s k n)))) (fun _ o _ => (intOf o + 1).toNat)
  case atStart => exact ⟨0, Nat.zero_le _, by go_num, by rw [Nat.pow_zero, Nat.div_one], I0⟩
  case round =>
    obtain ⟨k, hk, rfl, rfl, HS⟩ := hrel
    by_cases hks : k < s
    · obtain ⟨j, hj⟩ : ∃ j, s - 1 - k = j := ⟨_, rfl⟩
      have hjz : (s : Int) - 1 - (k : Int) = (j : Int) := by omega
      have hjs : (j : Int) < (s : Int) := by omega
      obtain ⟨m, hm⟩ : ∃ m, n / 256 ^ k = m := ⟨_, rfl⟩
      have hmn : m ≤ n := by rw [← hm]; exact Nat.div_le_self _ _
      have hm2 : m ≤ 9223372036854775807 := by omega
      have hm3 : n / 256 ^ (k + 1) = m / 256 := by rw [← hm, Nat.div_div_eq_div_mul, Nat.pow_succ]
      have hc : wr.cell? ⟨w.heap.size, j, none⟩ = some (.int .u8 (((part s k n).getD j 0 : Nat) : Int)) := by
        rw [HS.out.2.cell]
        refine cn_get ?_
        rw [List.getD_eq_getElem?_getD, List.getElem?_eq_getElem (by rw [part_length]; omega)]
        rfl
      have hf : wr.frozen? ⟨w.heap.size, j, none⟩ = false := HS.out.2.frozen j
      have hmod : ((m : Int)).tmod 256 = ((m % 256 : Nat) : Int) := by rw [Int.tmod_eq_emod_of_nonneg (by omega)]; omega
      have hdiv : ((m : Int)).tdiv 256 = ((m / 256 : Nat) : Int) := by rw [Int.tdiv_eq_ediv_of_nonneg (by omega)]; omega
      obtain ⟨r, hr⟩ : ∃ r, m % 256 = r := ⟨_, rfl⟩
      have hr2 : r < 256 := by rw [← hr]; exact Nat.mod_lt _ (by omega)
      obtain ⟨q, hq⟩ : ∃ q, m / 256 = q := ⟨_, rfl⟩
      have hq2 : q ≤ 9223372036854775807 := by omega
      rw [hr] at hmod
      rw [hq] at hdiv
      have HNX : Hid (Blk (wr.setCell ⟨w.heap.size, j, none⟩ (.int .u8 (r : Int))) w.heap.size 5 (cn .u8 (part s (k + 1) n))) := by
        have := HS.out.2.set_ j (.int .u8 (r : Int))
        rw [cn_set, ← hj] at this
        have e := part_set s k n hks
        rw [hm, hr] at e
        rw [e] at this
        rw [hj] at this
        exact this
      have HM3 : Hid (n / 256 ^ (k + 1) = q) := by show _ = _; rw [hm3, hq]
      rw [hm]
      clear hm hm3 hmn hj hr hq
      go_wp2
      go_roundw
      case rel => exact ⟨k + 1, by omega, by go_num, by rw [HM3.out], HS.out.1.setCell (Nat.le_refl _) _, HNX.out⟩
      case measure => simp [intOf]; omega
    · obtain rfl : k = s := by omega
      have hneg : ¬ (0 : Int) ≤ (k : Int) - 1 - (k : Int) := by omega
      have HE : Hid (Blk wr w.heap.size 5 (cn .u8 (be k n))) := by have := HS.out.2; rw [part_all] at this; exact this
      go_wp2
      go_ret
      exact ⟨w.heap.size, rfl, Nat.le_refl _, HE.out, HS.out.1⟩
/-- The number, or -1 where it is too great on the way. -/
def rget (s : List Nat) : Int := if 18014398509481984 < num (s.take (s.length - 1)) then -1 else (num s : Int)
theorem num_take_succ {l : List Nat} {j x : Nat} (h : l[j]? = some x) : num (l.take (j + 1)) = num (l.take j) * 256 + x := by
  rw [take_snoc' h, num_snoc]
theorem num_take_mono (l : List Nat) : ∀ (d j : Nat), num (l.take j) ≤ num (l.take (j + d))
  | 0, j => Nat.le_refl _
  | d + 1, j => by
    refine Nat.le_trans (num_take_mono l d j) ?_
    rw [← Nat.add_assoc]
    cases h : l[j + d]? with
    | none =>
      have hl := List.getElem?_eq_none_iff.1 h
      rw [List.take_of_length_le (by omega), List.take_of_length_le (by omega)]
      exact Nat.le_refl _
    | some x =>
      rw [num_take_succ h]
      omega
theorem rget_small {s : List Nat} (hf : Fit 256 s) (h : s.length ≤ 4) : rget s = (num s : Int) := by
  unfold rget
  have h1 := num_lt (s.take (s.length - 1)) (hf.take _)
  have h2 : (s.take (s.length - 1)).length ≤ 3 := by rw [List.length_take]; omega
  have h3 : 256 ^ (s.take (s.length - 1)).length ≤ 256 ^ 3 := Nat.pow_le_pow_right (by omega) h2
  rw [if_neg (by omega)]
set_option maxHeartbeats 2000000 in
theorem RGet_any (A : Option Addr) (n cap : Nat) (l : List Nat) (w : World) (hb : Bs w A n cap l) (a s : Nat) (z y : Int) (hz : z = a) (hy : y = s) (hs : s ≤ 8) (has : a + s ≤ n) (hn : n ≤ 1000000) :
    Calls Try.prog 15 #[.slice A n cap, .int .i64 z, .int .i64 y] w fun e w' => e = .returned (.int .i64 (rget (sl l a s))) ∧ w' = w := by
  subst hz hy
  have HB := Lib.hid hb
  have HSL : Hid ((sl l a s).length = s) := sl_length (by rw [hb.rd.1]; exact has)
  have HSF : Hid (Fit 256 (sl l a s)) := sl_fit hb.fit a s
  have HAT : Hid (∀ (j x : Nat), (sl l a s)[j]? = some x → l[a + j]? = some x) := fun j x h => by
    unfold sl at h
    have hj : j < s := by
      have := (List.getElem?_eq_some_iff.1 h).1
      rw [List.length_take] at this
      omega
    rw [List.getElem?_take_of_lt hj, List.getElem?_drop] at h
    exact h
  obtain ⟨S, hS⟩ : ∃ S, sl l a s = S := ⟨_, rfl⟩
  rw [hS] at HSL HSF HAT ⊢
  obtain ⟨R, hR⟩ : ∃ R, rget S = R := ⟨_, rfl⟩
  have HR := Lib.hid hR
  rw [hR]
  clear hS hR hb
  go_enter Try.func15, Try.ntmps15
  go_wp2
  go_loopw [7, 8] (fun v i wr => ∃ (j p m : Nat), j ≤ s ∧ i = .int .i64 (p : Int) ∧ Hid (p = a + j) ∧ v = .int .i64 (m : Int) ∧ m ≤ 4611686018427388159 ∧ Hid (m = num (S.take j)) ∧ Hid (j = 0 ∨ num (S.take (j - 1)) ≤ 18014398509481984) ∧ wr = w) (fun _ i _ => a + s - (intOf i).toNat)
  case atStart => exact ⟨0, a, 0, Nat.zero_le _, rfl, rfl, rfl, by omega, rfl, .inl rfl, rfl⟩
  case round =>
    obtain ⟨j, p, m, hj, rfl, HP, rfl, hm, HM, HL, rfl⟩ := hrel
    by_cases hjs : j < s
    · obtain ⟨x, hx⟩ := get_some (l := S) (i := j) (by rw [HSL.out]; exact hjs)
      have hpa : p < a + s := by have := HP.out; omega
      have hlt : (p : Int) < (a : Int) + (s : Int) := by omega
      obtain ⟨ad, x', hA, hx', hc⟩ := HB.out.rd.get (j := p) (by omega)
      have hxx : x' = x := by
        have h1 := HAT.out j x hx
        rw [← HP.out, hx'] at h1
        injection h1
      subst hxx
      subst hA
      have hx256 : x' < 256 := HSF.out x' (List.mem_of_getElem? hx)
      have hpn : (p : Int) < (n : Int) := by omega
      have HX := Lib.hid hx
      clear hx hx'
      by_cases hbig : m ≤ 18014398509481984
      · have z1 : ¬ (18014398509481984 : Int) < (m : Int) := by omega
        go_wp2
        go_roundw
        case rel =>
          refine ⟨j + 1, p + 1, m * 256 + x', by omega, by go_num, ?_, by go_num, by omega, ?_, .inr ?_, by first | rfl | trivial⟩
          · show _ = _
            have := HP.out
            omega
          · show _ = _
            rw [num_take_succ HX.out, ← HM.out]
          · rw [Nat.add_sub_cancel, ← HM.out]
            exact hbig
        case measure => simp [intOf]; omega
      · have z1 : (18014398509481984 : Int) < (m : Int) := by omega
        have HE : Hid (R = -1) := by
          show _ = _
          rw [← HR.out, rget, if_pos]
          have h1 := num_take_mono S (S.length - 1 - j) j
          rw [show j + (S.length - 1 - j) = S.length - 1 by rw [HSL.out]; omega, ← HM.out] at h1
          omega
        clear hbig
        go_wp2
        go_ret
        exact ⟨by rw [HE.out]; rfl, by first | rfl | trivial⟩
    · have hge : ¬ (p : Int) < (a : Int) + (s : Int) := by have := HP.out; omega
      have HE : Hid (R = (m : Int)) := by
        show _ = _
        have hjs' : j = s := by omega
        rw [← HR.out, rget, HM.out, if_neg, List.take_of_length_le (by rw [HSL.out]; omega)]
        rw [HSL.out, ← hjs']
        rcases HL.out with h | h
        · rw [h]; simp [num]
        · omega
      clear hjs
      go_wp2
      go_ret
      exact ⟨by rw [HE.out]; rfl, by first | rfl | trivial⟩
end Go.Proofs.Ythepbadecpnepaa
