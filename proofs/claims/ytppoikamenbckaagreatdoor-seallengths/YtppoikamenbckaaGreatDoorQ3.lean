/-
  What bytes.Repeat of one byte answers.
-/
import Derived.Test.YtppoikamenbckaaGreatDoorQ2
namespace Go.Proofs.YtppoikamenbckaaGreatDoor
open Go.RowKit
set_option linter.unusedVariables false
set_option linter.unusedSimpArgs false
set_option maxRecDepth 100000

set_option maxHeartbeats 1000000 in
theorem Repeat_any (A : Option Addr) (cap y T : Nat) (w : World) (hr : Rd .u8 w A 1 [y]) (hy : y < 256) (h1 : 1 ≤ T) (h2 : T ≤ 1000) :
    Calls Tryz.prog 41 #[.slice A 1 cap, .int .i64 (T : Int)] w (GivesOwn w T (List.replicate T y)) := by
  have d0 : ((T : Int) == 0) = false := by simp; omega
  have d1 : ¬ (T : Int) < 0 := by omega
  have d2 : ¬ (9223372036854775807 : Int) < T := by omega
  have d3 : ¬ (8192 : Int) < T := by omega
  have hw : IntKind.u64.wrap (T : Int) = (T : Int) := by rw [IntKind.wrap_u64]; omega
  obtain ⟨cs, hcall, hle⟩ := noZero_any w T (by omega)
  have i0 : (0 : Int) ≤ (T : Int) := by omega
  have i1 : (T : Int) ≤ (cs.size : Int) := by omega
  have B0 := Lib.Buf.start w cs 5 T 2 hle
  obtain ⟨w1, hr1, B1⟩ := Lib.copy_part (P := Tryz.prog) w _ w.heap.size T [] [UInt8.ofNat y] (.slice A 1 cap) 22 3 5 Tryz.underlying22 byteSize (Nat.le_refl _) B0 (hr.holds (l := [y]) (by intro x hx; rw [List.mem_singleton.1 hx]; exact hy)) (by simp; omega)
  rw [List.length_nil, Lib.tailV_zero] at hr1
  have HB1 : Hid (Lib.Buf w w1 w.heap.size T (List.replicate 1 (UInt8.ofNat y))) := B1
  clear B0 B1 hr
  go_enter Tryz.func41, Tryz.ntmps41
  go_wp2_with (first
    | (go_at_call 61; refine (Mul_one T (by omega) w).mono ?_; rintro e w2 ⟨rfl, rfl⟩)
    | (at_builtin; refine Lib.wpList_copy_run _ rfl _ _ 22 22 rfl _ _ rfl rfl hr1 ?_))
  clear hcall hr1
  go_loopw [10] (fun o wr => ∃ q : Nat, 1 ≤ q ∧ q ≤ T ∧ o = .int .i64 (q : Int) ∧ Hid (Lib.Buf w wr w.heap.size T (List.replicate q (UInt8.ofNat y)))) (fun o _ => T - (intOf o).toNat)
  case atStart => exact ⟨1, by omega, by omega, rfl, HB1⟩
  case round =>
    obtain ⟨q, q1, q2, rfl, HB⟩ := hrel
    by_cases hlt : q < T
    · have hmin : min (q : Int) (T : Int) = q := by omega
      have hlz : (q : Int) < T := by omega
      obtain ⟨m, hm⟩ : ∃ m, Nat.min q (T - q) = m := ⟨_, rfl⟩
      have hm1 : 1 ≤ m ∧ q + m ≤ T := by
        rw [← hm]
        show 1 ≤ min q (T - q) ∧ q + min q (T - q) ≤ T
        omega
      obtain ⟨w3, hr3, B3⟩ := copy_self 3 w wr.drew w.heap.size T q m (UInt8.ofNat y) (Buf.drew HB.out) q1 hlt (Nat.le_refl _) hm
      have HB3 := Lib.hid B3
      have hsl1 : ∀ W, (Instr.slice 22 (.slice (some ⟨w.heap.size, 0, none⟩) T T) (some (.int .i64 (q : Int))) none none).run Tryz.prog W = .ok (Lib.tailV w.heap.size T q) W := fun W => Lib.run_slice_tailV W 22 5 Tryz.underlying22 byteSz _ T q (by omega)
      have hwr : IntKind.i64.wrap ((q : Int) + (m : Int)) = (q : Int) + (m : Int) := by rw [IntKind.wrap_i64]; omega
      clear B3 hm
      go_wp2
      go_region_law (refine step_copy7 rfl (.tmp 70) (.tmp 73) rfl (Lib.tailV w.heap.size T q) (.slice (some ⟨w.heap.size, 0, none⟩) q T) (by simp [Act.eval, Act.put]) (by simp [Act.eval, Act.put]) hr3 ?_)
      go_simp
      go_wp2
      go_roundw
      case rel => exact ⟨q + m, by omega, by omega, by go_num, HB3⟩
      case measure => simp [intOf]; omega
    · obtain rfl : q = T := by omega
      have hlz : ¬ (q : Int) < q := by omega
      go_wp2
      go_ret
      have b := HB.out
      rw [← List.map_replicate] at b
      have hfit : Fit 256 (List.replicate q y) := Fit.replicate _ _ _ hy
      exact ⟨_, rfl, Nat.le_refl _, Buf.rd b hfit (by simp), b.below⟩
end Go.Proofs.YtppoikamenbckaaGreatDoor
