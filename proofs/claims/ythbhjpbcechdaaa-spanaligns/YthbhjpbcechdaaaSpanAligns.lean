/-
  SpanAligns returns true for every n and to: no condition.
-/
import Derived.Test.YthbhjpbcechdaaaRows
import Derived.Test.YthbhjpbcechdaaaCut
import Derived.WalkKit
import Derived.ProofKit
import Derived.OpenShut
import Derived.ShutString
import Derived.ChangeOld
import Derived.Below
namespace Go.Proofs.Ythbhjpbcechdaaa.spanAligns
open Go.Proofs.Ythbhjpbcechdaaa Go.ChangeShapes Go.WideShapes Go.ChangeAt Go.RowKit
open Go.ChangeMaps (open_string shut_string)
set_option linter.unusedVariables false      -- a walk need not use every 'w<i>' (that an integer argument fits its kind)

theorem own : ownKnob Try.prog.godebug = none := by kernel_rfl

-- THE WALK
set_option maxHeartbeats 400000 in
theorem walk (a0 : Int) (a1 : Int) (w0 : (Lit.int .i64 a0).wf = true) (w1 : (Lit.int .i64 a1).wf = true) (w : World) :
    Calls Try.prog 6 #[.int .i64 a0, .int .i64 a1] w fun e w' => e = .returned (.bool true) ∧ Below w.heap.size w w' := by
  obtain ⟨b0, b1⟩ := bounds_i64 w0
  obtain ⟨c0, c1⟩ := bounds_i64 w1
  clear w0 w1
  by_cases hform : a0 < 0 ∨ a1 < 1 ∨ 65536 < a1
  · by_cases t1 : a0 < 0
    · go_enter Try.func6, Try.ntmps6
      go_wp2_with (first | (go_at_call 11; refine (anchor_any _).mono ?_; rintro e w1 ⟨rfl, hB⟩) | (go_at_call 17; refine (Align_form _ _ _ hform).mono ?_; rintro e w' ⟨rfl, rfl⟩))
      go_ret
      exact ⟨rfl, hB⟩
    · by_cases t2 : a1 < 1
      · go_enter Try.func6, Try.ntmps6
        go_wp2_with (first | (go_at_call 11; refine (anchor_any _).mono ?_; rintro e w1 ⟨rfl, hB⟩) | (go_at_call 17; refine (Align_form _ _ _ hform).mono ?_; rintro e w' ⟨rfl, rfl⟩))
        go_ret
        exact ⟨rfl, hB⟩
      · have t3 : 65536 < a1 := by omega
        go_enter Try.func6, Try.ntmps6
        go_wp2_with (first | (go_at_call 11; refine (anchor_any _).mono ?_; rintro e w1 ⟨rfl, hB⟩) | (go_at_call 17; refine (Align_form _ _ _ hform).mono ?_; rintro e w' ⟨rfl, rfl⟩))
        go_ret
        exact ⟨rfl, hB⟩
  · obtain ⟨t1, t2, t3⟩ : 0 ≤ a0 ∧ 1 ≤ a1 ∧ a1 ≤ 65536 := by omega
    clear hform
    have hg := gapOf_bd a0 a1 t2
    have m1 := Int.emod_nonneg a0 (show a1 ≠ 0 by omega)
    have m2 := Int.emod_lt_of_pos a0 (show 0 < a1 by omega)
    by_cases hn : 4611686018427387904 < a0
    · go_enter Try.func6, Try.ntmps6
      go_wp2_with (first | (go_at_call 11; refine (anchor_any _).mono ?_; rintro e w1 ⟨rfl, hB⟩) | (go_at_call 17; refine (Align_big _ _ _ t1 t2 t3 b1 (by omega)).mono ?_; rintro e w' ⟨rfl, rfl⟩))
      go_ret
      exact ⟨rfl, hB⟩
    · by_cases hz : a0 % a1 = 0
      · have e : gapOf a0 a1 = 0 := by simp [gapOf, hz]
        have hz2 : (a0 % a1 != 0) = false := by simpa using hz
        have hz3 : (a0 % a1 == 0) = true := by simpa using hz
        go_enter Try.func6, Try.ntmps6
        go_wp2_with (first | (go_at_call 11; refine (anchor_any _).mono ?_; rintro e w1 ⟨rfl, hB⟩) | (go_at_call 17; refine (Align_ok _ _ _ t1 t2 t3 (by omega)).mono ?_; rintro e w' ⟨rfl, rfl⟩))
        go_ret
        exact ⟨rfl, hB⟩
      · have e : gapOf a0 a1 = a1 - a0 % a1 := by simp [gapOf, hz]
        have hm := gapOf_mod a0 a1 t2
        rw [e] at hm
        have E := Lib.hid e
        have hz2 : (a0 % a1 != 0) = true := by simpa using hz
        clear e hz
        by_cases hb : 4611686018427387904 < a0 + gapOf a0 a1
        · have q3 : 4611686018427387904 - a0 < a1 - a0 % a1 := by have := E.out; omega
          clear hm
          go_enter Try.func6, Try.ntmps6
          go_wp2_with (first | (go_at_call 11; refine (anchor_any _).mono ?_; rintro e w1 ⟨rfl, hB⟩) | (go_at_call 17; refine (Align_big _ _ _ t1 t2 t3 b1 hb).mono ?_; rintro e w' ⟨rfl, rfl⟩))
          go_ret
          exact ⟨rfl, hB⟩
        · obtain ⟨x, hx⟩ : ∃ x, x = a0 + gapOf a0 a1 := ⟨_, rfl⟩
          have x0 : 0 ≤ x := by omega
          have x1 : x ≤ 4611686018427387904 := by omega
          have q1 : (x == a0 + (a1 - a0 % a1)) = true := by rw [hx, E.out]; simp
          have q2 : (x % a1 == 0) = true := by rw [hx, E.out, hm]; rfl
          have q3 : a1 - a0 % a1 ≤ 4611686018427387904 - a0 := by have := E.out; omega
          have HC : ∀ w, Calls Try.prog 17 #[.int .i64 a0, .int .i64 a1] w fun e w' => e = .returned (.tuple #[.int .i64 x, .int .i64 0]) ∧ w = w' := by
            intro w
            rw [hx]
            exact Align_ok _ _ _ t1 t2 t3 (by omega)
          have HD := Lib.hid HC
          clear hm hx HC hb hg
          go_enter Try.func6, Try.ntmps6
          go_wp2_with (first | (go_at_call 11; refine (anchor_any _).mono ?_; rintro e w1 ⟨rfl, hB⟩) | (go_at_call 17; refine (HD.out _).mono ?_; rintro e w' ⟨rfl, rfl⟩))
          go_ret
          exact ⟨rfl, hB⟩

-- THE ROW's STEP
set_option maxRecDepth 100000 in
theorem lifted (os : Os) (started : os.Started) (H : Type) (enc : TypeId × Value → H) :
    ReturnsInHanded {} Try.checked os 6 .any (Rows.spanAlignsSpec.pre6 enc Try.prog Try.f6 Rows.spanAlignsRow.domain false) (Rows.spanAlignsSpec.post enc Try.prog Try.f6 false true false false) := by
  refine returnsInHanded_of_change (C := Try.checked) own started (by kernel_rfl) Try.func6
    (ChangeSpec.witness6 (enc := enc) (C := Try.checked) false ⟨#[], #[.int .i64 0, .int .i64 0], []⟩ 8 (by kernel_rfl) (by kernel_rfl) (by kernel_rfl) (by kernel_rfl)) ?_
  intro W base args ds gs before hval0 hW hcnd _
  have hval : ∀ (j : Nat) t v, Try.f6.params[j]? = some t → args[j]? = some v → Value.okWide Try.prog W .any base t v := hval0
  have hW' := hW
  obtain ⟨p, q, hA0, hV, rfl, hfz, hnd⟩ := hW
  have hA : DataW.TrodAll enc Try.prog W 0 (fun _ => true) true Try.f6.params.toList args.toList ds p := hA0
  rw [Try.params6] at hA hval
  obtain ⟨v0, vs0, d0, ds0, p0, q0, hargs, rfl, rfl, h0, r0⟩ := trodAll_cons hA
  obtain ⟨v1, vs1, d1, ds1, p1, q1, rfl, rfl, rfl, h1, r1⟩ := trodAll_cons r0
  obtain ⟨rfl, rfl, rfl⟩ := trodAll_nil r1
  obtain rfl : args = #[v0, v1] := by cases args; simp_all
  obtain ⟨rfl, rfl⟩ := trodVars_none hV
  obtain ⟨a0, rfl, rfl, rfl, w0⟩ := open_int Try.underlying3 (hval 0 3 v0 rfl rfl) h0
  obtain ⟨a1, rfl, rfl, rfl, w1⟩ := open_int Try.underlying3 (hval 1 3 v1 rfl rfl) h1
  clear hA0 hval0
  simp only [List.append_nil] at hW'
  refine (walk a0 a1 w0 w1 W).mono fun e W' ⟨he, bel⟩ => ?_
  subst he
  exact ⟨_, rfl, _, _, _, [], _, [], hW', trodAll_mk1 (shut_bool Try.underlying4 _), (trodAll_cons_mk (shut_int Try.underlying3 w0) (trodAll_cons_mk (shut_int Try.underlying3 w1) trodAll_mk0)), rfl, bel.frame _, fun h => by cases h⟩

theorem over : Rows.spanAlignsRow.holds Try.pinned (OpenSpec.ofChange Rows.spanAlignsSpec) :=
  OpenClaim.holds_of_wide 6 Try.f6 rfl rfl rfl rfl rfl rfl rfl ⟨rfl, rfl, rfl, rfl, rfl⟩ rfl rfl rfl rfl rfl (by kernel_rfl) Try.func6 (by kernel_rfl)
    (of_decide_eq_true (by kernel_rfl)) (by unfold Func.isWrapper; first | (rw [if_pos (by decide +kernel)]; kernel_rfl) | (rw [if_neg (by decide +kernel)]; exact ⟨rfl, rfl⟩))
    (fun os started H enc _ => lifted os started H enc)

-- the statement
theorem proved : Rows.SpanAlignsSaid :=
  over
end Go.Proofs.Ythbhjpbcechdaaa.spanAligns
