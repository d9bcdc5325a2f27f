/-
  What the small functions on words answer: a word turned right, three turns joined, two turns and a shift; for turns of 1 to 31 places.
-/
import Derived.Test.YtapkblfdjmbjdaaDoorWords0
import Derived.Test.YtapkblfdjmbjdaaDoorRows
import Derived.WalkKit
import Derived.WalkSpells
import Derived.WalkLawsBesides
import Derived.Lib.Hide
import Derived.Outline
import Derived.Deep.QuietTactic
import Derived.BigQuiet
namespace Go.Proofs.YtapkblfdjmbjdaaDoor
open Go.RowKit
set_option linter.unusedVariables false

theorem ret_int {k : IntKind} {a b : Int} (h : a = b) : Ending.returned (.int k a) = .returned (.int k b) := by rw [h]

theorem rot_any (x : W32) (i : Nat) (w : World) (h1 : 1 ≤ i) (h2 : i ≤ 31) :
    Calls Tryd.prog 24 #[.int .u32 (ui x), .int .i64 (-(i : Int))] w fun e w' => e = .returned (.int .u32 (ui (rotr x i))) ∧ w = w' := by
  obtain ⟨j, hj⟩ : ∃ j : Nat, j = 32 - i := ⟨_, rfl⟩
  have hs : bits .and .u64 (IntKind.u64.wrap (-(i : Int))) 31 = (j : Int) := by rw [hj]; exact neg_and31 i h1 h2
  have HJ := Lib.hid hj
  have b1 : 1 ≤ j := by omega
  have b2 : j ≤ 31 := by omega
  have u0 := ui_lo x
  have u1 := ui_hi x
  clear hj
  go_enter Tryd.func24, Tryd.ntmps24
  go_wp2
  go_ret
  refine ⟨ret_int ?_, rfl⟩
  have e : 32 - j = i := by have := HJ.out; omega
  rw [e, ui_shr, ui_shl, ui_or, HJ.out, rotr_prog]

theorem turns_any (x : W32) (i j k : Nat) (w : World) (h1 : 1 ≤ i) (h2 : i ≤ 31) (h3 : 1 ≤ j) (h4 : j ≤ 31) (h5 : 1 ≤ k) (h6 : k ≤ 31) :
    Calls Tryd.prog 19 #[.int .u32 (ui x), .int .i64 (i : Int), .int .i64 (j : Int), .int .i64 (k : Int)] w
      fun e w' => e = .returned (.int .u32 (ui (rotr x i ^^^ rotr x j ^^^ rotr x k))) ∧ w = w' := by
  go_enter Tryd.func19, Tryd.ntmps19
  go_wp2_with fail
  refine (rot_any x i _ h1 h2).mono ?_
  rintro e w' ⟨rfl, rfl⟩
  go_wp2_with fail
  refine (rot_any x j _ h3 h4).mono ?_
  rintro e w' ⟨rfl, rfl⟩
  go_wp2_with fail
  refine (rot_any x k _ h5 h6).mono ?_
  rintro e w' ⟨rfl, rfl⟩
  go_wp2
  go_ret
  exact ⟨ret_int (by rw [ui_xor, ui_xor]), rfl⟩

theorem mixed_any (x : W32) (i j k : Nat) (w : World) (h1 : 1 ≤ i) (h2 : i ≤ 31) (h3 : 1 ≤ j) (h4 : j ≤ 31) (h5 : 1 ≤ k) (h6 : k ≤ 31) :
    Calls Tryd.prog 23 #[.int .u32 (ui x), .int .i64 (i : Int), .int .i64 (j : Int), .int .u64 (k : Int)] w
      fun e w' => e = .returned (.int .u32 (ui (rotr x i ^^^ rotr x j ^^^ (x >>> k)))) ∧ w = w' := by
  have u0 := ui_lo x
  have u1 := ui_hi x
  go_enter Tryd.func23, Tryd.ntmps23
  go_wp2_with fail
  refine (rot_any x i _ h1 h2).mono ?_
  rintro e w' ⟨rfl, rfl⟩
  go_wp2_with fail
  refine (rot_any x j _ h3 h4).mono ?_
  rintro e w' ⟨rfl, rfl⟩
  go_wp2
  go_ret
  refine ⟨ret_int ?_, rfl⟩
  rw [ui_shr, ui_xor, ui_xor]

theorem right_any (x : W32) (i : Nat) (w : World) (h1 : 1 ≤ i) (h2 : i ≤ 31) :
    Calls Tryd.prog 22 #[.int .u32 (ui x), .int .i64 (i : Int)] w fun e w' => e = .returned (.int .u32 (ui (rotr x i))) ∧ ∃ n, w' = w.drewN n := by
  have u0 := ui_lo x
  have u1 := ui_hi x
  go_enter Tryd.func22, Tryd.ntmps22
  go_wp2
  go_quiet (fail)
  go_wp2
  go_ret
  refine ⟨ret_int ?_, _, rfl⟩
  rw [ui_shr, ui_shl, ui_or]
  rfl

theorem bs1_any (x : W32) (w : World) : Calls Tryd.prog 19 #[.int .u32 (ui x), .int .i64 6, .int .i64 11, .int .i64 25] w fun e w' => e = .returned (.int .u32 (ui (bs1 x))) ∧ w = w' :=
  turns_any x 6 11 25 w (by omega) (by omega) (by omega) (by omega) (by omega) (by omega)
theorem bs0_any (x : W32) (w : World) : Calls Tryd.prog 19 #[.int .u32 (ui x), .int .i64 2, .int .i64 13, .int .i64 22] w fun e w' => e = .returned (.int .u32 (ui (bs0 x))) ∧ w = w' :=
  turns_any x 2 13 22 w (by omega) (by omega) (by omega) (by omega) (by omega) (by omega)
theorem ss0_any (x : W32) (w : World) : Calls Tryd.prog 23 #[.int .u32 (ui x), .int .i64 7, .int .i64 18, .int .u64 3] w fun e w' => e = .returned (.int .u32 (ui (ss0 x))) ∧ w = w' :=
  mixed_any x 7 18 3 w (by omega) (by omega) (by omega) (by omega) (by omega) (by omega)
theorem ss1_any (x : W32) (w : World) : Calls Tryd.prog 23 #[.int .u32 (ui x), .int .i64 17, .int .i64 19, .int .u64 10] w fun e w' => e = .returned (.int .u32 (ui (ss1 x))) ∧ w = w' :=
  mixed_any x 17 19 10 w (by omega) (by omega) (by omega) (by omega) (by omega) (by omega)
end Go.Proofs.YtapkblfdjmbjdaaDoor
