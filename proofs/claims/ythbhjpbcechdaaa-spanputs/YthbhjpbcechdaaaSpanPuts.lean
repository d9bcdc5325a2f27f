/-
  SpanPuts returns true for every slice of bytes, every size and every number: no condition.
-/
import Derived.Test.YthbhjpbcechdaaaRows
import Derived.Test.YthbhjpbcechdaaaStr
import Derived.WalkKit
import Derived.ProofKit
import Derived.OpenShut
import Derived.ShutString
import Derived.ChangeOld
import Derived.Below
namespace Go.Proofs.Ythbhjpbcechdaaa.spanPuts
open Go.Proofs.Ythbhjpbcechdaaa Go.ChangeShapes Go.WideShapes Go.ChangeAt Go.RowKit
open Go.ChangeMaps (open_string shut_string)
set_option linter.unusedVariables false

theorem own : ownKnob Try.prog.godebug = none := by kernel_rfl
theorem laidOut : laidOutB Try.prog = true := by kernel_rfl

-- THE WALK
set_option maxHeartbeats 800000 in
theorem walk (a0 : Option Addr) (len0 cap0 : Nat) (z0 : List Int) (a1 : Int) (a2 : Int) (w : World) (w0 : IsRow .u8 w a0 len0 cap0 z0) (w1 : (Lit.int .i64 a1).wf = true) (w2 : (Lit.int .i64 a2).wf = true) :
    Calls Try.prog 4 #[.slice a0 len0 cap0, .int .i64 a1, .int .i64 a2] w fun e w' => e = .returned (.bool true) ∧ Below w.heap.size w w' := by
  obtain ⟨hs, hc1, hc2⟩ := w0.seg
  obtain ⟨b0, b1⟩ := bounds_i64 w1
  obtain ⟨c0, c1⟩ := bounds_i64 w2
  clear w0 w1 w2
  generalize z0.take len0 = l at hs
  clear z0
  by_cases hk : 2000 < len0
  · have hk2 := hc2
    unfold maxLen at hk2
    go_enter Try.func4, Try.ntmps4
    go_wp2_with (go_at_call 11; refine (anchor_any _).mono ?_; rintro e w1 ⟨rfl, hB⟩)
    go_ret
    exact ⟨rfl, hB⟩
  · by_cases hsz : a1 < 1 ∨ 8 < a1
    · by_cases t1 : a1 < 1
      · go_enter Try.func4, Try.ntmps4
        go_wp2_with (first | (go_at_call 11; refine (anchor_any _).mono ?_; rintro e w1 ⟨rfl, hB⟩) | (go_at_call 14; refine (Put_form _ _ _ _ _ _ hsz).mono ?_; rintro e w' ⟨rfl, rfl⟩))
        go_ret
        exact ⟨rfl, hB⟩
      · have t2 : 8 < a1 := by omega
        go_enter Try.func4, Try.ntmps4
        go_wp2_with (first | (go_at_call 11; refine (anchor_any _).mono ?_; rintro e w1 ⟨rfl, hB⟩) | (go_at_call 14; refine (Put_form _ _ _ _ _ _ hsz).mono ?_; rintro e w' ⟨rfl, rfl⟩))
        go_ret
        exact ⟨rfl, hB⟩
    · obtain ⟨t1, t2⟩ : 1 ≤ a1 ∧ a1 ≤ 8 := by omega
      clear hsz
      obtain ⟨s, rfl⟩ : ∃ s : Nat, a1 = (s : Int) := ⟨a1.toNat, by omega⟩
      by_cases hneg : a2 < 0
      · go_enter Try.func4, Try.ntmps4
        go_wp2_with (first | (go_at_call 11; refine (anchor_any _).mono ?_; rintro e w1 ⟨rfl, hB⟩) | (go_at_call 14; refine (Put_neg _ _ _ _ _ _ t1 t2 hneg).mono ?_; rintro e w' ⟨rfl, rfl⟩))
        go_loop [9, 39] (fun n i => ∃ (j : Nat) (r : Int), j ≤ s ∧ i = .int .i64 j ∧ n = .int .i64 r ∧ -9223372036854775808 ≤ r ∧ r ≤ 9223372036854775807) (fun _ i => s - (intOf i).toNat)
        case atStart => exact ⟨0, a2, Nat.zero_le _, rfl, rfl, c0, c1⟩
        case round =>
          obtain ⟨j, r, hj, rfl, rfl, r0, r1⟩ := hrel
          by_cases hjs : j < s
          · go_wp2
            go_round
            case rel => exact ⟨j + 1, _, by omega, by go_num, rfl, (tdiv_bd r r0 r1).1, (tdiv_bd r r0 r1).2⟩
            case measure => simp [intOf]; omega
          · go_wp2
            go_ret
            exact ⟨rfl, hB⟩
      · have c2 : 0 ≤ a2 := by omega
        clear c0 hneg
        have e8 : (8 * (s : Int)).toNat = 8 * s := by omega
        have E8 := Lib.hid e8
        clear e8
        have hdiv : ∀ j : Nat, 0 ≤ a2 / 2 ^ (8 * j) ∧ a2 / 2 ^ (8 * j) ≤ a2 ∧ a2 / 2 ^ (8 * j) / 256 = a2 / 2 ^ (8 * (j + 1)) := fun j =>
          ⟨Int.ediv_nonneg c2 (Int.le_of_lt (Int.pow_pos (by decide))), Int.ediv_le_self _ c2, by
            rw [Int.ediv_ediv_of_nonneg (Int.le_of_lt (Int.pow_pos (by decide))), show 8 * (j + 1) = 8 * j + 8 by omega, Int.pow_add]; rfl⟩
        have HD := Lib.hid hdiv
        clear hdiv
        by_cases hbig : (a2 / 2 ^ (8 * s) != 0) = true
        · have HG : Hid ((a2 / 2 ^ (8 * (s : Int)).toNat != 0) = true) := by rw [E8.out]; exact hbig
          go_enter Try.func4, Try.ntmps4
          go_wp2_with (first | (go_at_call 11; refine (anchor_any _).mono ?_; rintro e w1 ⟨rfl, hB⟩) | (go_at_call 14; refine (Put_big _ _ _ _ _ _ t1 t2 c2 c1 HG.out).mono ?_; rintro e w' ⟨rfl, rfl⟩))
          go_loop [9, 39] (fun n i => ∃ j : Nat, j ≤ s ∧ i = .int .i64 j ∧ n = .int .i64 (a2 / 2 ^ (8 * j))) (fun _ i => s - (intOf i).toNat)
          case atStart => exact ⟨0, Nat.zero_le _, rfl, by simp⟩
          case round =>
            obtain ⟨j, hj, rfl, rfl⟩ := hrel
            by_cases hjs : j < s
            · obtain ⟨q1, q2, q3⟩ := HD.out j
              generalize a2 / 2 ^ (8 * j) = y at q1 q2 q3 ⊢
              have Q3 := Lib.hid q3
              clear q3
              go_wp2
              go_round
              case rel => exact ⟨j + 1, by omega, by go_num, by rw [← Q3.out]⟩
              case measure => simp [intOf]; omega
            · obtain rfl : j = s := by omega
              go_wp2
              go_ret
              exact ⟨rfl, hB⟩
        · have hz : a2 / 2 ^ (8 * s) = 0 := by simpa using hbig
          have HG : Hid ((a2 / 2 ^ (8 * (s : Int)).toNat != 0) = false) := by rw [E8.out]; show _ = _; rw [hz]; rfl
          have HZ := Lib.hid hz
          clear hz hbig
          obtain ⟨m, hm⟩ : ∃ m : Nat, m = len0 + s := ⟨_, rfl⟩
          have hm1 : m ≤ len0 + s := by omega
          have hm2 : len0 + s ≤ m := by omega
          have hm3 : ((m : Int) == (len0 : Int) + (s : Int)) = true := by rw [hm]; simp
          have HM := Lib.hid hm
          clear hm
          go_enter Try.func4, Try.ntmps4
          go_wp2_with (first | (go_at_call 11; refine (anchor_any _).mono ?_; rintro e w1 ⟨rfl, hB⟩) | (go_at_call 14; refine (Put_ok _ _ _ l _ _ _ (hs.below hB) (by omega) t1 t2 c2 c1 HG.out m (by omega)).mono ?_; rintro e w2 ⟨rfl, hL, hown, hB2⟩; have HL := Lib.hid hL; clear hL))
          have hs2 := (hs.below hB).below hB2
          have hB3 : Below w.heap.size w w2 := hB.trans (hB2.mono hB.size)
          have hcv2 : ∀ n, _ := fun n => (hs2.drewN n).str cap0
          have hhead := hown.head len0 (by rw [HL.out]; omega)
          have et : (l ++ be (s : Int).toNat a2).take len0 = l := by rw [← hs.1]; simp
          rw [et] at hhead
          have hcv1 : ∀ n, _ := fun n => (hhead.drewN n).str m
          have hsl := run_head_own w1.heap.size m m len0 (by omega) len0 rfl
          have hseg := hown.seg
          have hnum : num (((l ++ be (s : Int).toNat a2).drop len0).take s) = a2 := by
            rw [← hs.1]
            simp only [List.drop_left, Int.toNat_natCast]
            rw [List.take_of_length_le (by rw [be_length]; omega)]
            exact num_be_all s a2 c2 HZ.out
          rw [HL.out] at hseg
          have HU := Lib.hid hnum
          clear hnum et
          generalize strOfNums l = S at hcv1 hcv2
          go_loop [9, 39] (fun n i => ∃ j : Nat, j ≤ s ∧ i = .int .i64 j ∧ n = .int .i64 (a2 / 2 ^ (8 * j))) (fun _ i => s - (intOf i).toNat)
          case atStart => exact ⟨0, Nat.zero_le _, rfl, by simp⟩
          case round =>
            obtain ⟨j, hj, rfl, rfl⟩ := hrel
            by_cases hjs : j < s
            · obtain ⟨q1, q2, q3⟩ := HD.out j
              generalize a2 / 2 ^ (8 * j) = y at q1 q2 q3 ⊢
              have Q3 := Lib.hid q3
              clear q3
              go_wp2
              go_round
              case rel => exact ⟨j + 1, by omega, by go_num, by rw [← Q3.out]⟩
              case measure => simp [intOf]; omega
            · obtain rfl : j = s := by omega
              have e := HZ.out
              simp only [e]
              clear e
              go_wp2_with (go_at_call 12; refine (Get_val _ _ _ _ (len0 : Int) _ _ hseg (by omega) (Nat.le_refl _) (by unfold maxLen; omega) t1 t2 (by unfold Lies; omega) a2 HU.out c1).mono ?_; rintro e w' ⟨rfl, rfl⟩)
              go_quiet (fail)
              go_wp2
              go_ret
              exact ⟨rfl, below_drewN hB3 _⟩

-- THE ROW's STEP
set_option maxRecDepth 100000 in
theorem lifted (os : Os) (started : os.Started) (H : Type) (enc : TypeId × Value → H) :
    ReturnsInHanded {} Try.checked os 4 .any (Rows.spanPutsSpec.pre6 enc Try.prog Try.f4 Rows.spanPutsRow.domain false) (Rows.spanPutsSpec.post enc Try.prog Try.f4 false true false false) := by
  refine returnsInHanded_of_change (C := Try.checked) own started (by kernel_rfl) Try.func4
    (ChangeSpec.witness6 (enc := enc) (C := Try.checked) false ⟨#[], #[.slice none 0 0, .int .i64 0, .int .i64 0], []⟩ 8 (by kernel_rfl) (by kernel_rfl) (by kernel_rfl) (by kernel_rfl)) ?_
  intro W base args ds gs before hval0 hW hcnd _
  have hval : ∀ (j : Nat) t v, Try.f4.params[j]? = some t → args[j]? = some v → Value.okWide Try.prog W .any base t v := hval0
  have hW' := hW
  obtain ⟨p, q, hA0, hV, rfl, hfz, hnd⟩ := hW
  have hA : DataW.TrodAll enc Try.prog W 0 (fun _ => true) true Try.f4.params.toList args.toList ds p := hA0
  rw [Try.params4] at hA hval
  obtain ⟨v0, vs0, d0, ds0, p0, q0, hargs, rfl, rfl, h0, r0⟩ := trodAll_cons hA
  obtain ⟨v1, vs1, d1, ds1, p1, q1, rfl, rfl, rfl, h1, r1⟩ := trodAll_cons r0
  obtain ⟨v2, vs2, d2, ds2, p2, q2, rfl, rfl, rfl, h2, r2⟩ := trodAll_cons r1
  obtain ⟨rfl, rfl, rfl⟩ := trodAll_nil r2
  obtain rfl : args = #[v0, v1, v2] := by cases args; simp_all
  obtain ⟨rfl, rfl⟩ := trodVars_none hV
  obtain ⟨a0, len0, cap0, rfl⟩ := okWide_slice Try.underlying22 (hval 0 22 v0 rfl rfl)
  have k0 := h0
  have lt0 : ∀ x ∈ p0, x.block < W.heap.size := by obtain ⟨m, hm⟩ := k0; exact DataW.trod_lt m _ _ _ hm
  obtain ⟨z0, w0⟩ : ∃ zs, IsRow .u8 W a0 len0 cap0 zs := by
    obtain ⟨fuel, hf⟩ := h0
    rcases open_ints Try.underlying22 Try.underlying5 (by kernel_rfl) hf with ⟨hcs, _⟩ | ⟨x, l, c, zs, hcs, _, hl, hm, hz, _, hcell, hwz⟩
    · simp [Value.cells] at hcs
      obtain ⟨rfl, rfl, rfl⟩ := hcs
      exact ⟨[], .inl ⟨rfl, rfl, rfl, rfl⟩⟩
    · simp [Value.cells] at hcs
      obtain ⟨rfl, rfl, rfl⟩ := hcs
      exact ⟨zs, .inr ⟨_, rfl, hl, hm, by simpa using hz, hcell, hwz⟩⟩
  obtain ⟨a1, rfl, rfl, rfl, w1⟩ := open_int Try.underlying3 (hval 1 3 v1 rfl rfl) h1
  obtain ⟨a2, rfl, rfl, rfl, w2⟩ := open_int Try.underlying3 (hval 2 3 v2 rfl rfl) h2
  clear hA0 hval0
  refine (walk a0 len0 cap0 z0 a1 a2 W w0 w1 w2).mono fun e W' ⟨he, bel⟩ => ?_
  subst he
  exact ⟨_, rfl, _, _, _, [], _, [], hW', trodAll_mk1 (shut_bool Try.underlying4 _), (trodAll_cons_mk (Below.trod laidOut (by kernel_rfl) (of_decide_eq_true (by kernel_rfl)) k0 bel lt0) (trodAll_cons_mk (shut_int Try.underlying3 w1) (trodAll_cons_mk (shut_int Try.underlying3 w2) trodAll_mk0))), rfl, bel.frame _, fun h => by cases h⟩

theorem over : Rows.spanPutsRow.holds Try.pinned (OpenSpec.ofChange Rows.spanPutsSpec) :=
  OpenClaim.holds_of_wide 4 Try.f4 rfl rfl rfl rfl rfl rfl rfl ⟨rfl, rfl, rfl, rfl, rfl⟩ rfl rfl rfl rfl rfl (by kernel_rfl) Try.func4 (by kernel_rfl)
    (of_decide_eq_true (by kernel_rfl)) (by unfold Func.isWrapper; first | (rw [if_pos (by decide +kernel)]; kernel_rfl) | (rw [if_neg (by decide +kernel)]; exact ⟨rfl, rfl⟩))
    (fun os started H enc _ => lifted os started H enc)

-- the statement
theorem proved : Rows.SpanPutsSaid := over
end Go.Proofs.Ythbhjpbcechdaaa.spanPuts
