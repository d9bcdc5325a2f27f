/-
  The program's From: what it answers of bytes in memory.
-/
import Derived.Test.YtojpbfkdkkdpcaaDoorProg5
namespace Go.Proofs.YtojpbfkdkkdpcaaDoor
set_option maxRecDepth 100000
open Go.RowKit
set_option linter.unusedVariables false
set_option linter.unusedSimpArgs false

set_option maxRecDepth 100000 in
set_option maxHeartbeats 1000000 in
theorem From_ok (A : Option Addr) (n cap : Nat) (l : List Nat) (W : Nat) (w : World) (h : Rd .u8 w A n l) (hf : Fit 256 l) (hn : n ≤ cap) (hm : cap ≤ maxLen) (hn2 : n ≤ 10000) (h1 : 1 ≤ W) (h2 : W ≤ 256) (hb : vbe l < 4294967296 ^ W) :
    Calls Tryd.prog 27 #[.slice A n cap, .int .i64 (W : Int)] w fun e w' => ∃ A1 zs, e = .returned (.tuple #[.slice A1 W W, .int .i64 0]) ∧ Limbs w w' A1 W W zs ∧ val 4294967296 zs = vbe l := by
  have HR := Lib.hid h
  have HM := Lib.hid hm
  have hlen := (strip_len l hf W).2 hb
  have HL := Lib.hid hlen
  have g1 : (1 : Int) ≤ W := by omega
  clear h hm hlen hb
  go_enter Tryd.func27, Tryd.ntmps27
  go_wp2_with fail
  refine (TrimLeft_any A n cap l w HR.out hn HM.out).mono ?_
  rintro e w1 ⟨⟨A1, m, c1, rfl, hr⟩, rfl⟩
  have hm1 : m ≤ 4 * W := by have := HL.out; rw [hr.1] at this; omega
  have hm2 : (m : Int) ≤ 4 * W := by omega
  have HR2 := Lib.hid hr
  have fb := strip_fit hf
  have HV := Lib.hid (vbe_strip l)
  generalize strip l = b at *
  clear hr
  go_wp2_with (first
    | ((with_reducible refine at_dst (some 25) ?_); refine wpList_makeNums (o := ⟨some 25, _, _, _, _, _⟩) rfl (.tmp 24) (.tmp 24) 45 73 rfl .u32 4 Tryd.underlying45 wordInfo (by omega) _ _ rfl rfl W rfl (by omega) ?_; intro w1 hb1 hbel1 hs1))
  go_loopw [28] (fun i wr => ∃ (k : Nat) (N : List Nat), k ≤ m ∧ i = .int .i64 (k : Int) ∧ Hid (N.length = W ∧ Fit 4294967296 N ∧ val 4294967296 N = vbe (b.take k) * 256 ^ (m - k)) ∧ Hid (Blk wr w.heap.size 73 (cn .u32 N)) ∧ Below w.heap.size w wr) (fun i _ => m - (intOf i).toNat)
  case atStart => exact ⟨0, _, by omega, rfl, ⟨List.length_replicate, Fit.replicate _ _ _ (by omega), by rw [val_replicate]; simp [vbe, val]⟩, hb1, hbel1⟩
  case round =>
    obtain ⟨k, N, hk, rfl, HI, HB, hbe⟩ := hrel
    by_cases hkm : k < m
    · obtain ⟨ad, x, rfl, hx, hcell⟩ := (HR2.out.below hbe).get (j := k) (by omega)
      have hx1 := fb.get hx
      obtain ⟨u, hu⟩ : ∃ u, m = k + u + 1 := ⟨m - k - 1, by omega⟩
      have hst := from_step hx m HR2.out.1 u hu
      obtain ⟨i, hi⟩ : ∃ i, i = u / 4 := ⟨_, rfl⟩
      obtain ⟨r, hr⟩ : ∃ r, r = u % 4 := ⟨_, rfl⟩
      have hur : u = 4 * i + r := by omega
      have hr4 : r < 4 := by omega
      have hiW : i < W := by omega
      obtain ⟨o, ho⟩ := get_some (l := N) (i := i) (by rw [HI.out.1]; exact hiW)
      have ho1 := HI.out.2.1.get ho
      have hv := HI.out.2.2
      rw [show m - k = u + 1 by omega, hur] at hv
      obtain ⟨q, hq1, hq2, hq3⟩ := from_limb HI.out.2.1 hv hr4 ho hx1
      have hor := or_add hq1 hx1 hq2
      have hoc := (HB.out.cell i).trans (cn_get ho)
      have hof := HB.out.frozen i
      have hpl := placeOf_any (k : Int) (m : Int) u (by omega) (by omega) (by omega)
      rw [← hi, ← hr] at hpl
      have FIN : Hid (val 4294967296 (N.set i (o + 256 ^ r * x)) = vbe (b.take (k + 1)) * 256 ^ (m - (k + 1)) ∧ o + 256 ^ r * x < 4294967296) := ⟨by rw [hq3, show m - (k + 1) = u by omega, hst, hur], hq2⟩
      have HHX := Lib.hid hx
      have HU := Lib.hid hur
      have HU2 := Lib.hid hu
      have HPL := Lib.hid hpl
      clear hst hi hr hv hq1 hq2 hq3 ho hx hur hu hpl
      rcases r with _ | _ | _ | _ | r
      · have HOR := Lib.hid hor
        clear hor
        go_wp2_with (first | (go_at_call 52; refine (HPL.out _).mono ?_; rintro e w' ⟨rfl, rfl⟩))
        have hw1 : IntKind.u32.wrap (x : Int) = x := by rw [IntKind.wrap_u32']; omega
        go_still_tail 10, (by kernel_rfl)
        clear hw1
        change wpList _ _ _ _ _ wr.drew
        go_wp2
        go_roundw
        case rel =>
          refine ⟨k + 1, N.set i (o + 256 ^ 0 * x), by omega, by go_num, ⟨by simp [HI.out.1], HI.out.2.1.set _ _ FIN.out.2, FIN.out.1⟩, ?_, (below_drew1 hbe).setCell (Nat.le_refl _) _⟩
          have ev : bits .or .u32 (o : Int) ((x : Int)) = ((o + 256 ^ 0 * x : Nat) : Int) := by
            rw [← HOR.out]
            congr 1
            omega
          have := HB.out.set_ i (.int .u32 ((o + 256 ^ 0 * x : Nat) : Int))
          rw [cn_set] at this
          rw [ev]
          exact this
        case measure => simp [intOf]; omega
      · have HOR := Lib.hid hor
        clear hor
        go_wp2_with (first | (go_at_call 52; refine (HPL.out _).mono ?_; rintro e w' ⟨rfl, rfl⟩))
        have hw1 : IntKind.u32.wrap (x : Int) = x := by rw [IntKind.wrap_u32']; omega
        go_still_tail 10, (by kernel_rfl)
        clear hw1
        change wpList _ _ _ _ _ wr.drew
        go_wp2
        go_roundw
        case rel =>
          refine ⟨k + 1, N.set i (o + 256 ^ 1 * x), by omega, by go_num, ⟨by simp [HI.out.1], HI.out.2.1.set _ _ FIN.out.2, FIN.out.1⟩, ?_, (below_drew1 hbe).setCell (Nat.le_refl _) _⟩
          have ev : bits .or .u32 (o : Int) ((x : Int) * 256) = ((o + 256 ^ 1 * x : Nat) : Int) := by
            rw [← HOR.out]
            congr 1
            omega
          have := HB.out.set_ i (.int .u32 ((o + 256 ^ 1 * x : Nat) : Int))
          rw [cn_set] at this
          rw [ev]
          exact this
        case measure => simp [intOf]; omega
      · have HOR := Lib.hid hor
        clear hor
        go_wp2_with (first | (go_at_call 52; refine (HPL.out _).mono ?_; rintro e w' ⟨rfl, rfl⟩))
        have hw1 : IntKind.u32.wrap (x : Int) = x := by rw [IntKind.wrap_u32']; omega
        go_still_tail 10, (by kernel_rfl)
        clear hw1
        change wpList _ _ _ _ _ wr.drew
        go_wp2
        go_roundw
        case rel =>
          refine ⟨k + 1, N.set i (o + 256 ^ 2 * x), by omega, by go_num, ⟨by simp [HI.out.1], HI.out.2.1.set _ _ FIN.out.2, FIN.out.1⟩, ?_, (below_drew1 hbe).setCell (Nat.le_refl _) _⟩
          have ev : bits .or .u32 (o : Int) ((x : Int) * 65536) = ((o + 256 ^ 2 * x : Nat) : Int) := by
            rw [← HOR.out]
            congr 1
            omega
          have := HB.out.set_ i (.int .u32 ((o + 256 ^ 2 * x : Nat) : Int))
          rw [cn_set] at this
          rw [ev]
          exact this
        case measure => simp [intOf]; omega
      · have HOR := Lib.hid hor
        clear hor
        go_wp2_with (first | (go_at_call 52; refine (HPL.out _).mono ?_; rintro e w' ⟨rfl, rfl⟩))
        have hw1 : IntKind.u32.wrap (x : Int) = x := by rw [IntKind.wrap_u32']; omega
        go_still_tail 10, (by kernel_rfl)
        clear hw1
        change wpList _ _ _ _ _ wr.drew
        go_wp2
        go_roundw
        case rel =>
          refine ⟨k + 1, N.set i (o + 256 ^ 3 * x), by omega, by go_num, ⟨by simp [HI.out.1], HI.out.2.1.set _ _ FIN.out.2, FIN.out.1⟩, ?_, (below_drew1 hbe).setCell (Nat.le_refl _) _⟩
          have ev : bits .or .u32 (o : Int) ((x : Int) * 16777216) = ((o + 256 ^ 3 * x : Nat) : Int) := by
            rw [← HOR.out]
            congr 1
            omega
          have := HB.out.set_ i (.int .u32 ((o + 256 ^ 3 * x : Nat) : Int))
          rw [cn_set] at this
          rw [ev]
          exact this
        case measure => simp [intOf]; omega
      · omega
    · obtain rfl : k = m := by omega
      go_wp2
      go_ret2
      have hv := HI.out.2.2
      rw [List.take_of_length_le (by rw [HR2.out.1]; exact Nat.le_refl _), Nat.sub_self, Nat.pow_zero, Nat.mul_one, HV.out] at hv
      exact ⟨_, N, rfl, ⟨HB.out.rd _ HI.out.1, HI.out.2.1, Nat.le_refl _, by unfold maxLen; omega, hbe⟩, hv⟩
end Go.Proofs.YtojpbfkdkkdpcaaDoor
