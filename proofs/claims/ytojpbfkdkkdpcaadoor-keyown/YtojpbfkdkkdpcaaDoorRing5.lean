/-
  The program's square: 2 to the power of 64 for each limb.
-/
import Derived.Test.YtojpbfkdkkdpcaaDoorRing4
namespace Go.Proofs.YtojpbfkdkkdpcaaDoor
set_option maxRecDepth 100000
open Go.RowKit
set_option linter.unusedVariables false
set_option linter.unusedSimpArgs false

theorem bitlen_bounds {x L : Nat} (h : bitlen x = L + 1) : 2 ^ L ≤ x ∧ x < 2 ^ (L + 1) := by
  refine ⟨Nat.not_lt.1 fun hlt => ?_, (bitlen_le x (L + 1)).1 (by omega)⟩
  have := (bitlen_le x L).2 hlt
  omega
theorem single_val {k q p : Nat} (hq : q < k) : val 4294967296 ((List.replicate k 0).set q p) = 4294967296 ^ q * p := by
  have h := val_set 4294967296 (l := List.replicate k 0) (j := q) (o := 0) (by rw [List.getElem?_replicate, if_pos hq]) p
  rw [val_replicate] at h
  omega
theorem pow_split (L : Nat) : 4294967296 ^ (L / 32) * 2 ^ (L % 32) = 2 ^ L := by
  rw [pow32, ← Nat.pow_add, Nat.div_add_mod]
theorem dbl_step {N v L j : Nat} (h : v = 2 ^ (L + j) % N) : (2 * v) % N = 2 ^ (L + (j + 1)) % N := by
  rw [h, Nat.mul_mod, Nat.mod_mod, ← Nat.mul_mod, ← Nat.add_assoc, Nat.pow_succ, Nat.mul_comm]
theorem dbl_end (k : Nat) : 2 ^ (32 * k + k) = 2 ^ (k * 2 ^ 0) * 4294967296 ^ k := by
  rw [pow32, ← Nat.pow_add]; congr 1; omega
theorem sqr_step (k j : Nat) : 2 ^ (k * 2 ^ j) * 2 ^ (k * 2 ^ j) = 2 ^ (k * 2 ^ (j + 1)) := by
  rw [← Nat.pow_add, Nat.pow_succ]; congr 1; rw [← Nat.mul_assoc, Nat.mul_two]
theorem sqr_end (k : Nat) : 2 ^ (k * 2 ^ 5) * 4294967296 ^ k = 4294967296 ^ (2 * k) := by
  have : 2 ^ (k * 2 ^ 5) = 4294967296 ^ k := by rw [pow32]; congr 1; omega
  rw [this, ← Nat.pow_add]; congr 1; omega

set_option maxRecDepth 100000 in
set_option maxHeartbeats 4000000 in
theorem square_any (g k N n0 : Nat) (A : Option Addr) (c : Nat) (R : Value) (ln : List Nat) (w : World) (hr : Ringed w g k N n0 A c R ln) :
    Calls Tryd.prog 56 #[.pointer (some ⟨g, 0, none⟩)] w (Elem w k (4294967296 ^ (2 * k) % N)) := by
  have hc0 := hr.c0
  have k1 := hr.k1
  have k2 := hr.k2
  have HRR := Lib.hid hr
  obtain ⟨L, hL⟩ : ∃ L, bitlen N = L + 1 := by
    have h1 : ¬ bitlen N ≤ 0 := fun h => by have := (bitlen_le N 0).1 h; have := hr.gt; simp at *; omega
    exact ⟨bitlen N - 1, by omega⟩
  have hbd := bitlen_bounds hL
  have hLk : L < 32 * k := by
    have h1 := hr.lt
    rw [pow32] at h1
    have := (bitlen_le N (32 * k)).2 h1
    omega
  have hbd1 : 2 ^ L < N := by
    rcases Nat.lt_or_eq_of_le hbd.1 with h | h
    · exact h
    · exfalso
      have h1 := hr.odd
      have h2 := hr.gt
      rcases L with _ | L
      · simp at h; omega
      · rw [← h, Nat.pow_succ] at h1; omega
  obtain ⟨q, hq⟩ : ∃ q, q = L / 32 := ⟨_, rfl⟩
  obtain ⟨r, hr2⟩ : ∃ r, r = L % 32 := ⟨_, rfl⟩
  obtain ⟨p, hp⟩ : ∃ p, p = 2 ^ r := ⟨_, rfl⟩
  have hr32 : r < 32 := by omega
  have hpb : p ≤ 2147483648 := by rw [hp]; exact Nat.pow_le_pow_right (by omega) (by omega : r ≤ 31)
  have hqk : q < k := by omega
  have hq1 : (L : Int) / 32 = q := by omega
  have hr1 : (L : Int) % 32 = r := by omega
  have hp1 : (2 : Int) ^ r = (p : Int) := by rw [hp]; simp
  have HP : Hid (4294967296 ^ q * p = 2 ^ L) := by show _ = _; rw [hp, hq, hr2]; exact pow_split L
  have HL : Hid (bitlen (val 4294967296 ln) = L + 1) := by show _ = _; rw [hr.num]; exact hL
  have HLT := Lib.hid hbd1
  obtain ⟨M, hM⟩ : ∃ M, M = 32 * k - L + k := ⟨_, rfl⟩
  have hM1 : 32 * (k : Int) - L + k = M := by omega
  have HM : Hid (L + M = 32 * k + k) := by show _ = _; omega
  have HM1 := Lib.hid hM1
  have hLb : L < 4096 := by omega
  have hMb : M < 5000 := by omega
  clear hr hL hbd hbd1 hq hr2 hp hM hM1
  go_enter Tryd.func56, Tryd.ntmps56
  go_wp2_with fail
  refine (Bits_ok A k c ln w HRR.out.rd HRR.out.fit k1 (by omega)).mono ?_
  rintro e w1 ⟨rfl, hb1⟩
  rw [HL.out]
  clear hc0
  go_wp2_with (first
    | ((with_reducible refine at_dst (some 22) ?_); refine wpList_makeNums (o := ⟨some 22, _, _, _, _, _⟩) rfl (.tmp 21) (.tmp 21) 45 73 rfl .u32 4 Tryd.underlying45 wordInfo (by omega) _ _ rfl rfl k rfl (by omega) ?_; intro w2 hb2 hbel2 hs2; have hoc := (hb2.out.cell q).trans (cn_get (x := 0) (by rw [List.getElem?_replicate, if_pos hqk])); have hof := hb2.out.frozen q))
  rw [HM1.out]
  have hb3 := hb2.out.set_ q (.int .u32 (p : Int))
  rw [cn_set] at hb3
  have hbel3 : Below w.heap.size w (w2.setCell ⟨w1.heap.size, q, none⟩ (.int .u32 (p : Int))) := (below_then hb1 hbel2).setCell hb1.size _
  have hr3 := hb3.rd k (by simp)
  have hf3 : Fit 4294967296 ((List.replicate k 0).set q p) := (Fit.replicate _ _ _ (by omega)).set _ _ (by omega)
  have hv3 : val 4294967296 ((List.replicate k 0).set q p) = 2 ^ (L + 0) % N := by rw [single_val hqk, HP.out, Nat.add_zero, Nat.mod_eq_of_lt HLT.out]
  have HR3 : Hid (Rd .u32 _ (some ⟨w1.heap.size, 0, none⟩) k ((List.replicate k 0).set q p) ∧ Fit 4294967296 ((List.replicate k 0).set q p) ∧ val 4294967296 ((List.replicate k 0).set q p) = 2 ^ (L + 0) % N) := ⟨hr3, hf3, hv3⟩
  clear hb2 hbel2 hs2 hoc hof hb3 hr3 hf3 hv3 hq1 hr1 hp1
  generalize (w2.setCell ⟨w1.heap.size, q, none⟩ (.int .u32 (p : Int))) = w3 at *
  go_loopw [5, 36] (fun aa ii wr => ∃ (j c1 : Nat) (A1 : Option Addr) (l1 : List Nat), j ≤ M ∧ ii = .int .i64 (j : Int) ∧ aa = .slice A1 k c1 ∧ Hid (Rd .u32 wr A1 k l1 ∧ Fit 4294967296 l1 ∧ val 4294967296 l1 = 2 ^ (L + j) % N) ∧ Below w.heap.size w wr) (fun _ ii _ => M - (intOf ii).toNat)
  case atStart => exact ⟨0, k, _, _, by omega, rfl, rfl, HR3, hbel3⟩
  case round =>
    obtain ⟨j, c1, A1, l1, hj, rfl, rfl, HI, hbe⟩ := hrel
    have hN : 0 < N := by have := HRR.out.gt; omega
    by_cases hjM : j < M
    · go_wp2_with fail
      refine (Add_ok A1 A1 k c1 c1 l1 l1 wr HI.out.1 HI.out.1 HI.out.2.1 HI.out.2.1 k1 (by omega)).mono ?_
      rintro e w4 ⟨A4, cc, zs, rfl, hcc, ⟨hr4, hf4, _, _, hb4⟩, he⟩
      have bel4 := below_then hbe hb4
      have hV : val 4294967296 zs + 4294967296 ^ k * cc = 2 * val 4294967296 l1 := by omega
      have hV2 : 2 * val 4294967296 l1 < 2 * N := by rw [HI.out.2.2]; have := Nat.mod_lt (2 ^ (L + j)) hN; omega
      have HV := Lib.hid hV
      have HV2 := Lib.hid hV2
      have HR4 := Lib.hid hr4
      clear he hV hV2 hr4
      rcases Nat.le_one_iff_eq_zero_or_eq_one.1 hcc with rfl | rfl
      · go_wp2_with fail
        refine (below_any g k N n0 A c R ln A4 k zs false 0 (2 * val 4294967296 l1) w4 (HRR.out.below bel4) HR4.out hf4 (.inl ⟨rfl, rfl⟩) HV.out HV2.out).mono ?_
        rintro e w5 ⟨A5, c5, l5, rfl, hr5, hf5, hv5, hb5⟩
        have HR5 : Hid (Rd .u32 w5 A5 k l5 ∧ Fit 4294967296 l5 ∧ val 4294967296 l5 = 2 ^ (L + (j + 1)) % N) := ⟨hr5, hf5, by rw [hv5]; exact dbl_step HI.out.2.2⟩
        have bel5 := below_then bel4 hb5
        clear hr5 hf5 hv5
        go_wp2
        go_roundw
        case rel => exact ⟨j + 1, c5, A5, l5, by omega, by go_num, rfl, HR5, bel5⟩
        case measure => simp [intOf]; omega
      · go_wp2_with fail
        refine (below_any g k N n0 A c R ln A4 k zs true 1 (2 * val 4294967296 l1) w4 (HRR.out.below bel4) HR4.out hf4 (.inr ⟨rfl, rfl⟩) HV.out HV2.out).mono ?_
        rintro e w5 ⟨A5, c5, l5, rfl, hr5, hf5, hv5, hb5⟩
        have HR5 : Hid (Rd .u32 w5 A5 k l5 ∧ Fit 4294967296 l5 ∧ val 4294967296 l5 = 2 ^ (L + (j + 1)) % N) := ⟨hr5, hf5, by rw [hv5]; exact dbl_step HI.out.2.2⟩
        have bel5 := below_then bel4 hb5
        clear hr5 hf5 hv5
        go_wp2
        go_roundw
        case rel => exact ⟨j + 1, c5, A5, l5, by omega, by go_num, rfl, HR5, bel5⟩
        case measure => simp [intOf]; omega
    · obtain rfl : M = j := by omega
      have HI2 : Hid (Rd .u32 wr A1 k l1 ∧ Fit 4294967296 l1 ∧ val 4294967296 l1 = 2 ^ (k * 2 ^ 0) * 4294967296 ^ k % N) := ⟨HI.out.1, HI.out.2.1, by rw [HI.out.2.2, HM.out, dbl_end]⟩
      clear HI HM HR3 hbel3
      go_wp2
      rename World => wz
      go_loopw [5, 9] (fun aa ii wr => ∃ (j r c1 : Nat) (A1 : Option Addr) (l1 : List Nat), j ≤ 5 ∧ r ≤ 32 ∧ ii = .int .i64 (r : Int) ∧ aa = .slice A1 k c1 ∧ Hid (r = 2 ^ j) ∧ Hid (Rd .u32 wr A1 k l1 ∧ Fit 4294967296 l1 ∧ val 4294967296 l1 = 2 ^ (k * 2 ^ j) * 4294967296 ^ k % N) ∧ Below w.heap.size w wr) (fun _ ii _ => 32 - (intOf ii).toNat)
      case atStart => exact ⟨0, 1, c1, A1, l1, by omega, by omega, rfl, rfl, rfl, HI2, hbe⟩
      case round =>
        obtain ⟨j, r, c2, A2, l2, hj, hr, rfl, rfl, HJ, HI, hbe2⟩ := hrel
        by_cases hr2 : r < 32
        · have hj5 : j < 5 := by
            have := HJ.out
            rcases (by omega : j < 5 ∨ j = 5) with h | rfl
            · exact h
            · omega
          have hr1 : 1 ≤ r ∧ r ≤ 16 := by
            have := HJ.out
            rcases (by omega : j = 0 ∨ j = 1 ∨ j = 2 ∨ j = 3 ∨ j = 4) with rfl | rfl | rfl | rfl | rfl <;> simp at this <;> omega
          have hr3 := hr1.1
          have hr4 := hr1.2
          clear hr1
          have hlt2 : val 4294967296 l2 < N := by rw [HI.out.2.2]; exact Nat.mod_lt _ hN
          have HLT2 := Lib.hid hlt2
          clear hlt2
          go_wp2_with fail
          refine (short_any g k N n0 A c R ln A2 c2 l2 A2 c2 l2 _ (HRR.out.below hbe2) HI.out.1 HI.out.2.1 HI.out.1 HI.out.2.1 HLT2.out).mono ?_
          rintro e w5 ⟨A5, c5, l5, rfl, hr5, hf5, hlt5, hv5, hb5⟩
          have HR5 : Hid (Rd .u32 w5 A5 k l5 ∧ Fit 4294967296 l5 ∧ val 4294967296 l5 = 2 ^ (k * 2 ^ (j + 1)) * 4294967296 ^ k % N) := ⟨hr5, hf5, by
            rw [HI.out.2.2] at hv5
            have := short_long HRR.out.odd hlt5 hv5
            rw [this, sqr_step]⟩
          have bel5 := below_then hbe2 hb5
          clear hr5 hf5 hlt5 hv5
          go_wp2
          go_roundw
          case rel =>
            refine ⟨j + 1, r * 2, c5, A5, l5, by omega, by omega, by go_num, rfl, ?_, HR5, bel5⟩
            show r * 2 = _
            rw [Nat.pow_succ, HJ.out]
          case measure => simp [intOf]; omega
        · have hj5 : j = 5 := by
            have := HJ.out
            rcases (by omega : j = 0 ∨ j = 1 ∨ j = 2 ∨ j = 3 ∨ j = 4 ∨ j = 5) with rfl | rfl | rfl | rfl | rfl | rfl <;> simp at this <;> omega
          subst hj5
          go_wp2
          go_ret
          exact ⟨A2, c2, l2, rfl, HI.out.1, HI.out.2.1, by rw [HI.out.2.2, sqr_end], hbe2⟩
end Go.Proofs.YtojpbfkdkkdpcaaDoor
