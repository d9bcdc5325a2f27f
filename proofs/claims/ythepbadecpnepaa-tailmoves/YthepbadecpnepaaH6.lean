/-
  What lay answers: the tail of data and a blob behind them, and whether they have room. No condition but that lengths are lengths.
-/
import Derived.Test.YthepbadecpnepaaH5
namespace Go.Proofs.Ythepbadecpnepaa
open Go.RowKit
set_option linter.unusedVariables false
set_option linter.unusedSimpArgs false
set_option maxRecDepth 100000

theorem tend_m (n m : Nat) (w : World) (h : m + 64 = n) (hn : n ≤ 1048576) : Calls Try.prog 40 #[.int .i64 (n : Int)] w fun e w' => e = .returned (.int .i64 (m : Int)) ∧ w = w' := by
  refine (tend_any n w hn).mono ?_
  rintro e w' ⟨rfl, rfl⟩
  exact ⟨by rw [show ((n : Int) - 64) = (m : Int) by omega], rfl⟩
/-- An answer of lay. -/
def GivesLay (w : World) (a b c : Int) (ok : Bool) (e : Ending) (w' : World) : Prop := e = .returned (.tuple #[TV a b c, .bool ok]) ∧ Below w.heap.size w w'
set_option maxHeartbeats 4000000 in
theorem lay_no (a c r : Int) (w : World) (h : r < a) : Calls Try.prog 39 #[.int .i64 a, .int .i64 c, .int .i64 r] w (GivesLay w 0 0 0 false) := by
  obtain ⟨d0, hu0, hd0⟩ := uT
  have hb0 : Below w.heap.size w (w.alloc (.cells #[.int .i64 0, .int .i64 0, .int .i64 0] 23)) := (Below.refl _ _).alloc (Nat.le_refl _) _
  have hk0 : Blk (w.alloc (.cells #[.int .i64 0, .int .i64 0, .int .i64 0] 23)) w.heap.size 23 tz := Blk.new w _ tz
  obtain ⟨W, hW⟩ : ∃ W, w.alloc (.cells #[.int .i64 0, .int .i64 0, .int .i64 0] 23) = W := ⟨_, rfl⟩
  rw [hW] at hb0 hk0
  have H0 : Hid (Below w.heap.size w W ∧ Blk W w.heap.size 23 tz) := ⟨hb0, hk0⟩
  clear hb0 hk0
  go_enter Try.func39, Try.ntmps39
  (try rw [hW])
  go_wp2_with ((with_reducible refine at_dst none ?_); refine wpList_storeBlk (op := ⟨none, _, _, _, _, _⟩) rfl 23 (.tmp 6) (.tmp 13) rfl (g := w.heap.size) (t := 23) (old := tz) (cs := tz) rfl rfl H0.out.2 rfl iT tz_one ?_; intro u0 hU0 hT0; have HT0 := Lib.hid hT0; clear hT0)
  exact ret_cell_tmp rfl rfl hU0.out.at hu0 hd0 iT rfl ⟨rfl, H0.out.1.trans (HT0.out.below (fun y hy => by rw [List.mem_singleton.1 hy]; omega) H0.out.1.size)⟩
set_option maxHeartbeats 4000000 in
theorem lay_yes (a c r U : Nat) (w : World) (h : a ≤ r) (hr : r ≤ 1048576) (hc : c ≤ 65536) (hU : up a = U) (ok : Bool) (hok : decide (U + c ≤ r) = ok) : Calls Try.prog 39 #[.int .i64 (a : Int), .int .i64 (c : Int), .int .i64 (r : Int)] w (GivesLay w a U c ok) := by
  obtain ⟨d0, hu0, hd0⟩ := uT
  have hb0 : Below w.heap.size w (w.alloc (.cells #[.int .i64 0, .int .i64 0, .int .i64 0] 23)) := (Below.refl _ _).alloc (Nat.le_refl _) _
  have hk0 : Blk (w.alloc (.cells #[.int .i64 0, .int .i64 0, .int .i64 0] 23)) w.heap.size 23 tz := Blk.new w _ tz
  obtain ⟨W, hW⟩ : ∃ W, w.alloc (.cells #[.int .i64 0, .int .i64 0, .int .i64 0] 23) = W := ⟨_, rfl⟩
  rw [hW] at hb0 hk0
  have H0 : Hid (Below w.heap.size w W ∧ Blk W w.heap.size 23 tz) := ⟨hb0, hk0⟩
  have HAL := Lib.hid (fun w => Align_any a U w (by omega) hU)
  have hub := up_le a
  rw [hU] at hub
  have HW : Hid (∀ w, Calls Try.prog 49 #[.int .i64 (U : Int), .int .i64 (c : Int), .int .i64 (r : Int)] w fun e w' => e = .returned (.bool ok) ∧ w = w') := fun w => by
    by_cases hl : U + c ≤ r
    · rw [← hok, decide_eq_true hl]; exact Within_yes U c r w hl (by omega)
    · rw [← hok, decide_eq_false hl]; exact Within_no U c r w (by unfold Lies; omega) (by omega) (by omega) (by omega)
  have z1 : ¬ (r : Int) < (a : Int) := by omega
  clear hb0 hk0 hU hok hub
  go_enter Try.func39, Try.ntmps39
  (try rw [hW])
  go_wp2_with fail
  refine (HAL.out _).mono ?_
  rintro e w1 ⟨rfl, rfl⟩
  go_wp2_with (first
    | (go_at_call 49; refine (HW.out _).mono ?_; rintro e w1 ⟨rfl, rfl⟩)
    | ((with_reducible refine at_dst none ?_); refine wpList_storeBlk (op := ⟨none, _, _, _, _, _⟩) rfl 23 (.tmp 6) (.tmp 22) rfl (g := w.heap.size) (t := 23) (old := tz) (cs := tcells a U c) rfl rfl H0.out.2 rfl iT (tcells_one _ _ _) ?_; intro u0 hU0 hT0; have HT0 := Lib.hid hT0; clear hT0))
  exact ret_cell_tmp rfl rfl hU0.out.at hu0 hd0 iT rfl ⟨rfl, H0.out.1.trans (HT0.out.below (fun y hy => by rw [List.mem_singleton.1 hy]; omega) H0.out.1.size)⟩
end Go.Proofs.Ythepbadecpnepaa
