/-
  SpanParts returns true for every slice of bytes and every four numbers: no condition.
-/
import Derived.Test.YthbhjpbcechdaaaRows
import Derived.Test.YthbhjpbcechdaaaLie
import Derived.WalkKit
import Derived.ProofKit
import Derived.OpenShut
import Derived.ShutString
import Derived.ChangeOld
import Derived.Below
namespace Go.Proofs.Ythbhjpbcechdaaa.spanParts
open Go.Proofs.Ythbhjpbcechdaaa Go.ChangeShapes Go.WideShapes Go.ChangeAt Go.RowKit
open Go.ChangeMaps (open_string shut_string)
set_option linter.unusedVariables false

theorem own : ownKnob Try.prog.godebug = none := by kernel_rfl
theorem laidOut : laidOutB Try.prog = true := by kernel_rfl

-- THE WALK
set_option maxHeartbeats 800000 in
theorem walk (a0 : Option Addr) (len0 cap0 : Nat) (z0 : List Int) (a1 : Int) (a2 : Int) (a3 : Int) (a4 : Int) (w : World) (w0 : IsRow .u8 w a0 len0 cap0 z0) (w1 : (Lit.int .i64 a1).wf = true) (w2 : (Lit.int .i64 a2).wf = true) (w3 : (Lit.int .i64 a3).wf = true) (w4 : (Lit.int .i64 a4).wf = true) :
    Calls Try.prog 10 #[.slice a0 len0 cap0, .int .i64 a1, .int .i64 a2, .int .i64 a3, .int .i64 a4] w fun e w' => e = .returned (.bool true) ∧ Below w.heap.size w w' := by
  obtain ⟨hs, hc1, hc2⟩ := w0.seg
  obtain ⟨b0, b1⟩ := bounds_i64 w1
  obtain ⟨c0, c1⟩ := bounds_i64 w2
  obtain ⟨d0, d1⟩ := bounds_i64 w3
  obtain ⟨e0, e1⟩ := bounds_i64 w4
  clear w0 w1 w2 w3 w4
  generalize z0.take len0 = l at hs
  clear z0
  by_cases hk : 2000 < len0
  · have hk2 := hc2
    unfold maxLen at hk2
    go_enter Try.func10, Try.ntmps10
    go_wp2_with (go_at_call 11; refine (anchor_any _).mono ?_; rintro e w1 ⟨rfl, hB⟩)
    go_ret
    exact ⟨rfl, hB⟩
  · by_cases hin : Lies a1 a2 len0
    · obtain ⟨o, rfl⟩ : ∃ o : Nat, a1 = (o : Int) := ⟨a1.toNat, by have := hin.1; omega⟩
      obtain ⟨m, rfl⟩ : ∃ m : Nat, a2 = (m : Int) := ⟨a2.toNat, by have := hin.2.1; omega⟩
      have h5 : o + m ≤ len0 := by have := hin.2.2.2; omega
      by_cases hin2 : Lies a3 a4 m
      · obtain ⟨i, rfl⟩ : ∃ i : Nat, a3 = (i : Int) := ⟨a3.toNat, by have := hin2.1; omega⟩
        obtain ⟨n, rfl⟩ : ∃ n : Nat, a4 = (n : Int) := ⟨a4.toNat, by have := hin2.2.1; omega⟩
        have h6 : i + n ≤ m := by have := hin2.2.2.2; omega
        have hin3 : Lies ((o : Int) + i) n len0 := by unfold Lies; omega
        have hb2 := liesB_yes hin2
        go_enter Try.func10, Try.ntmps10
        go_wp2_with (go_at_call 11; refine (anchor_any _).mono ?_; rintro e w1 ⟨rfl, hB⟩)
        refine (Cut_ok _ _ _ l _ _ _ (hs.below hB) (by omega) hc1 hc2 hin m rfl).mono ?_
        rintro e w2 ⟨rfl, hL, hown, hB2⟩
        have hs2 := (hs.below hB).below hB2
        have hB3 : Below w.heap.size w w2 := hB.trans (hB2.mono hB.size)
        have hseg := hown.seg
        rw [hL] at hseg
        clear hL
        go_wp2_with fail
        refine (Cut_ok _ _ _ _ _ _ _ hseg (by omega) (Nat.le_refl _) (by unfold maxLen; omega) hin2 n rfl).mono ?_
        rintro e w3 ⟨rfl, hL, hown3, hB4⟩
        have hs3 := hs2.below hB4
        have hB5 : Below w.heap.size w w3 := hB3.trans (hB4.mono hB3.size)
        have hseg3 := hown3.seg
        rw [hL] at hseg3
        clear hL
        go_wp2_with (go_at_call 13; refine (within_any _ _ _ _ (by omega) (by omega) (by omega)).mono ?_; rintro e w' ⟨rfl, rfl⟩)
        refine (Cut_ok _ _ _ l _ _ _ hs3 (by omega) hc1 hc2 hin3 n rfl).mono ?_
        rintro e w4 ⟨rfl, hL, hown4, hB6⟩
        have hB7 : Below w.heap.size w w4 := hB5.trans (hB6.mono hB5.size)
        have hseg4 := hown4.seg
        rw [hL] at hseg4
        clear hL
        have hcv1 := (hseg3.below hB6).str n
        have hcv2 := hseg4.str n
        have ee : (((l.drop (o : Int).toNat).take m).drop (i : Int).toNat).take n = (l.drop ((o : Int) + (i : Int)).toNat).take n := by
          rw [show ((o : Int) + (i : Int)).toNat = o + i by omega]
          exact seg_seg l o m i n h6
        rw [ee] at hcv1
        clear ee
        generalize strOfNums ((l.drop ((o : Int) + (i : Int)).toNat).take n) = S at hcv1 hcv2
        go_wp2_with fail
        go_ret
        exact ⟨rfl, hB7⟩
      · have hb2 := liesB_no hin2
        go_enter Try.func10, Try.ntmps10
        go_wp2_with (go_at_call 11; refine (anchor_any _).mono ?_; rintro e w1 ⟨rfl, hB⟩)
        refine (Cut_ok _ _ _ l _ _ _ (hs.below hB) (by omega) hc1 hc2 hin m rfl).mono ?_
        rintro e w2 ⟨rfl, hL, hown, hB2⟩
        have hB3 : Below w.heap.size w w2 := hB.trans (hB2.mono hB.size)
        clear hL
        go_wp2_with fail
        refine (Cut_end _ _ _ _ _ _ (by omega) d1 e1 hin2).mono ?_
        rintro e w' ⟨rfl, rfl⟩
        go_wp2_with (go_at_call 13; refine (within_any _ _ _ _ (by omega) (by omega) (by omega)).mono ?_; rintro e w' ⟨rfl, rfl⟩)
        go_ret
        exact ⟨rfl, hB3⟩
    · go_enter Try.func10, Try.ntmps10
      go_wp2_with (first | (go_at_call 11; refine (anchor_any _).mono ?_; rintro e w1 ⟨rfl, hB⟩) | (go_at_call 16; refine (Cut_end _ _ _ _ _ _ (by omega) b1 c1 hin).mono ?_; rintro e w' ⟨rfl, rfl⟩))
      go_ret
      exact ⟨rfl, hB⟩

-- THE ROW's STEP
set_option maxRecDepth 100000 in
theorem lifted (os : Os) (started : os.Started) (H : Type) (enc : TypeId × Value → H) :
    ReturnsInHanded {} Try.checked os 10 .any (Rows.spanPartsSpec.pre6 enc Try.prog Try.f10 Rows.spanPartsRow.domain false) (Rows.spanPartsSpec.post enc Try.prog Try.f10 false true false false) := by
  refine returnsInHanded_of_change (C := Try.checked) own started (by kernel_rfl) Try.func10
    (ChangeSpec.witness6 (enc := enc) (C := Try.checked) false ⟨#[], #[.slice none 0 0, .int .i64 0, .int .i64 0, .int .i64 0, .int .i64 0], []⟩ 8 (by kernel_rfl) (by kernel_rfl) (by kernel_rfl) (by kernel_rfl)) ?_
  intro W base args ds gs before hval0 hW hcnd _
  have hval : ∀ (j : Nat) t v, Try.f10.params[j]? = some t → args[j]? = some v → Value.okWide Try.prog W .any base t v := hval0
  have hW' := hW
  obtain ⟨p, q, hA0, hV, rfl, hfz, hnd⟩ := hW
  have hA : DataW.TrodAll enc Try.prog W 0 (fun _ => true) true Try.f10.params.toList args.toList ds p := hA0
  rw [Try.params10] at hA hval
  obtain ⟨v0, vs0, d0, ds0, p0, q0, hargs, rfl, rfl, h0, r0⟩ := trodAll_cons hA
  obtain ⟨v1, vs1, d1, ds1, p1, q1, rfl, rfl, rfl, h1, r1⟩ := trodAll_cons r0
  obtain ⟨v2, vs2, d2, ds2, p2, q2, rfl, rfl, rfl, h2, r2⟩ := trodAll_cons r1
  obtain ⟨v3, vs3, d3, ds3, p3, q3, rfl, rfl, rfl, h3, r3⟩ := trodAll_cons r2
  obtain ⟨v4, vs4, d4, ds4, p4, q4, rfl, rfl, rfl, h4, r4⟩ := trodAll_cons r3
  obtain ⟨rfl, rfl, rfl⟩ := trodAll_nil r4
  obtain rfl : args = #[v0, v1, v2, v3, v4] := by cases args; simp_all
  obtain ⟨rfl, rfl⟩ := trodVars_none hV
  obtain ⟨a0, len0, cap0, rfl⟩ := okWide_slice Try.underlying22 (hval 0 22 v0 rfl rfl)
  have k0 := h0
  have lt0 : ∀ x ∈ p0, x.block < W.heap.size := by obtain ⟨m, hm⟩ := k0; exact DataW.trod_lt m _ _ _ hm
  obtain ⟨z0, w0⟩ : ∃ zs, IsRow .u8 W a0 len0 cap0 zs := by
    obtain ⟨fuel, hf⟩ := h0
    rcases open_ints Try.underlying22 Try.underlying5 (by kernel_rfl) hf with ⟨hcs, _⟩ | ⟨x, l, c, zs, hcs, _, hl, hm, hz, _, hcell, hwz⟩
    · simp [Value.cells] at hcs
      obtain ⟨rfl, rfl, rfl⟩ := hcs
      exact ⟨[], .inl ⟨rfl, rfl, rfl, rfl⟩⟩
    · simp [Value.cells] at hcs
      obtain ⟨rfl, rfl, rfl⟩ := hcs
      exact ⟨zs, .inr ⟨_, rfl, hl, hm, by simpa using hz, hcell, hwz⟩⟩
  obtain ⟨a1, rfl, rfl, rfl, w1⟩ := open_int Try.underlying3 (hval 1 3 v1 rfl rfl) h1
  obtain ⟨a2, rfl, rfl, rfl, w2⟩ := open_int Try.underlying3 (hval 2 3 v2 rfl rfl) h2
  obtain ⟨a3, rfl, rfl, rfl, w3⟩ := open_int Try.underlying3 (hval 3 3 v3 rfl rfl) h3
  obtain ⟨a4, rfl, rfl, rfl, w4⟩ := open_int Try.underlying3 (hval 4 3 v4 rfl rfl) h4
  clear hA0 hval0
  refine (walk a0 len0 cap0 z0 a1 a2 a3 a4 W w0 w1 w2 w3 w4).mono fun e W' ⟨he, bel⟩ => ?_
  subst he
  exact ⟨_, rfl, _, _, _, [], _, [], hW', trodAll_mk1 (shut_bool Try.underlying4 _), (trodAll_cons_mk (Below.trod laidOut (by kernel_rfl) (of_decide_eq_true (by kernel_rfl)) k0 bel lt0) (trodAll_cons_mk (shut_int Try.underlying3 w1) (trodAll_cons_mk (shut_int Try.underlying3 w2) (trodAll_cons_mk (shut_int Try.underlying3 w3) (trodAll_cons_mk (shut_int Try.underlying3 w4) trodAll_mk0))))), rfl, bel.frame _, fun h => by cases h⟩

theorem over : Rows.spanPartsRow.holds Try.pinned (OpenSpec.ofChange Rows.spanPartsSpec) :=
  OpenClaim.holds_of_wide 10 Try.f10 rfl rfl rfl rfl rfl rfl rfl ⟨rfl, rfl, rfl, rfl, rfl⟩ rfl rfl rfl rfl rfl (by kernel_rfl) Try.func10 (by kernel_rfl)
    (of_decide_eq_true (by kernel_rfl)) (by unfold Func.isWrapper; first | (rw [if_pos (by decide +kernel)]; kernel_rfl) | (rw [if_neg (by decide +kernel)]; exact ⟨rfl, rfl⟩))
    (fun os started H enc _ => lifted os started H enc)

-- the statement
theorem proved : Rows.SpanPartsSaid := over
end Go.Proofs.Ythbhjpbcechdaaa.spanParts
