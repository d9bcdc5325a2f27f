/-
  For every two numbers in limbs LimbsProducts returns true. No condition but that two tables of Go's library, which the call does not read, hold what their text lays there.
-/
import Derived.Test.YtbajckbjjepceaaDoorLaw2
import Derived.Test.YtbajckbjjepceaaDoorTie
import Derived.Test.YtbajckbjjepceaaDoorCards
namespace Go.Proofs.YtbajckbjjepceaaDoor.limbsProducts
open Go.Proofs.YtbajckbjjepceaaDoor Go.ChangeShapes Go.WideShapes Go.ChangeAt Go.RowKit
set_option linter.unusedVariables false
set_option linter.unusedSimpArgs false

set_option maxHeartbeats 1000000 in
theorem walk_long (A : Option Addr) (n cap : Nat) (A' : Option Addr) (n' cap' : Nat) (w : World) (hl : 300 < n ∨ (n ≤ 300 ∧ 300 < n')) :
    Calls Tryd.prog 5 #[.slice A n cap, .slice A' n' cap'] w fun e w' => e = .returned (.bool true) ∧ Below w.heap.size w w' := by
  rcases hl with h | ⟨h1, h⟩
  all_goals
    have h2 := Int.ofNat_lt.2 h
    go_enter Tryd.func5, Tryd.ntmps5
    go_wp2_with fail
    refine (anchor_any _).mono ?_
    rintro e w1 ⟨rfl, hb1⟩
    go_wp2
    go_ret
    exact ⟨rfl, hb1⟩

set_option maxHeartbeats 1000000 in
theorem walk_no (A : Option Addr) (n cap : Nat) (A' : Option Addr) (n' cap' : Nat) (w : World) (h1 : n ≤ 300) (h2 : n' ≤ 300) (h : okW n = false ∨ (okW n = true ∧ okW n' = false) ∨ (okW n = true ∧ okW n' = true ∧ 256 < n + n')) :
    Calls Tryd.prog 5 #[.slice A n cap, .slice A' n' cap'] w fun e w' => e = .returned (.bool true) ∧ Below w.heap.size w w' := by
  have hm : (okW n && okW n') = false ∨ 256 < n + n' := by
    rcases h with h | ⟨h, h'⟩ | ⟨h, h', hs⟩
    · exact .inl (by rw [h]; rfl)
    · exact .inl (by rw [h, h']; rfl)
    · exact .inr hs
  have HM := Lib.hid hm
  clear hm
  rcases h with h | ⟨h, h'⟩ | ⟨h, h', hs⟩
  · go_enter Tryd.func5, Tryd.ntmps5
    go_wp2_with fail
    refine (anchor_any _).mono ?_
    rintro e w1 ⟨rfl, hb1⟩
    go_wp2_with fail
    refine (Mul_no A A' n cap n' cap' w1 HM.out).mono ?_
    rintro e w2 ⟨rfl, hb2⟩
    go_wp2_with (first | (go_at_call 16; refine (right_any _ _ _ _).mono ?_; rintro e w' ⟨rfl, rfl⟩))
    go_ret
    exact ⟨rfl, below_then hb1 hb2⟩
  · go_enter Tryd.func5, Tryd.ntmps5
    go_wp2_with fail
    refine (anchor_any _).mono ?_
    rintro e w1 ⟨rfl, hb1⟩
    go_wp2_with fail
    refine (Mul_no A A' n cap n' cap' w1 HM.out).mono ?_
    rintro e w2 ⟨rfl, hb2⟩
    go_wp2_with (first | (go_at_call 16; refine (right_any _ _ _ _).mono ?_; rintro e w' ⟨rfl, rfl⟩))
    go_ret
    exact ⟨rfl, below_then hb1 hb2⟩
  · have hs2 : (256 : Int) < n + n' := by omega
    clear hs
    go_enter Tryd.func5, Tryd.ntmps5
    go_wp2_with fail
    refine (anchor_any _).mono ?_
    rintro e w1 ⟨rfl, hb1⟩
    go_wp2_with fail
    refine (Mul_no A A' n cap n' cap' w1 HM.out).mono ?_
    rintro e w2 ⟨rfl, hb2⟩
    go_wp2_with (first | (go_at_call 16; refine (right_any _ _ _ _).mono ?_; rintro e w' ⟨rfl, rfl⟩))
    go_ret
    exact ⟨rfl, below_then hb1 hb2⟩

set_option maxHeartbeats 1000000 in
theorem walk_yes (A : Option Addr) (n cap : Nat) (la : List Nat) (A' : Option Addr) (n' cap' : Nat) (lb : List Nat) (w : World) (g : Rd .u32 w A n la) (hf : Fit 4294967296 la) (g' : Rd .u32 w A' n' lb) (hf' : Fit 4294967296 lb) (h1 : 1 ≤ n) (h2 : 1 ≤ n') (hs : n + n' ≤ 256) :
    Calls Tryd.prog 5 #[.slice A n cap, .slice A' n' cap'] w fun e w' => e = .returned (.bool true) ∧ Below w.heap.size w w' := by
  have HR := Lib.hid g
  have HR' := Lib.hid g'
  have o1 : okW n = true := okW_yes h1 (by omega)
  have o2 : okW n' = true := okW_yes h2 (by omega)
  have b1 : n ≤ 300 := by omega
  have b2 : n' ≤ 300 := by omega
  clear g g'
  go_enter Tryd.func5, Tryd.ntmps5
  go_wp2_with fail
  refine (anchor_any _).mono ?_
  rintro e w1 ⟨rfl, hb1⟩
  go_wp2_with fail
  refine (Mul_ok A A' n cap n' cap' la lb w1 (HR.out.below hb1) (HR'.out.below hb1) hf hf' h1 h2 hs).mono ?_
  rintro e w2 ⟨A2, T, zs, rfl, hT, ⟨hr2, hf2, _, _, hb2⟩, hv2⟩
  have B2 := below_then hb1 hb2
  have HT := Lib.hid hT
  have HR2 := Lib.hid hr2
  have HV2 := Lib.hid hv2
  clear hT hr2 hv2 hb2
  go_wp2_with (first | (go_at_call 16; refine (right_any _ _ _ _).mono ?_; rintro e w' ⟨rfl, rfl⟩) | fail)
  refine (Digits_any A n cap la w2 (HR.out.below B2) hf (by omega)).mono ?_
  rintro e w3 ⟨A3, m3, c3, rfl, hr3, _, _, hb3⟩
  have HR3 := Lib.hid hr3
  have m3b : m3 ≤ 4 * n := by rw [← hr3.1]; exact digs_le hf HR.out.1
  clear hr3
  go_wp2_with fail
  refine (Digits_any A' n' cap' lb w3 (HR'.out.below (below_then B2 hb3)) hf' (by omega)).mono ?_
  rintro e w4 ⟨A4, m4, c4, rfl, hr4, _, _, hb4⟩
  have HR4 := Lib.hid hr4
  have m4b : m4 ≤ 4 * n' := by rw [← hr4.1]; exact digs_le hf' HR'.out.1
  clear hr4
  go_wp2_with fail
  refine (RefMul_any A3 A4 m3 c3 m4 c4 _ _ w4 (HR3.out.below hb4) HR4.out (digs_fit _) (digs_fit _) (by omega) (by omega)).mono ?_
  rintro e w5 ⟨A5, m5, c5, rfl, hr5, _, _, hb5⟩
  rw [digs_val, digs_val, ← HV2.out] at hr5
  have m5b : m5 ≤ 4 * (n + n') := by rw [← hr5.1, HV2.out]; exact digs_le_mul hf HR.out.1 hf' HR'.out.1
  have HR5 := Lib.hid hr5
  have hb25 := below_then (below_then hb3 hb4) hb5
  clear hr5 hb3 hb4 hb5
  go_wp2_with fail
  refine (is_yes A2 A5 T T m5 c5 zs _ w5 (by have := HT.out; omega) (HR2.out.below hb25) hf2 (by have := HT.out; omega) HR5.out (by omega)).mono ?_
  rintro e w6 ⟨rfl, hb6⟩
  go_wp2
  go_ret
  exact ⟨rfl, below_then (below_then B2 hb25) hb6⟩

theorem walk (A : Option Addr) (n cap : Nat) (la : List Nat) (A' : Option Addr) (n' cap' : Nat) (lb : List Nat) (w : World) (g : Rd .u32 w A n la) (hf : Fit 4294967296 la) (hc : n ≤ cap) (hm : cap ≤ maxLen) (g' : Rd .u32 w A' n' lb) (hf' : Fit 4294967296 lb) (hc' : n' ≤ cap') (hm' : cap' ≤ maxLen) :
    Calls Tryd.prog 5 #[.slice A n cap, .slice A' n' cap'] w fun e w' => e = .returned (.bool true) ∧ Below w.heap.size w w' := by
  by_cases h1 : 300 < n
  · exact walk_long A n cap A' n' cap' w (.inl h1)
  · by_cases h2 : 300 < n'
    · exact walk_long A n cap A' n' cap' w (.inr ⟨by omega, h2⟩)
    · cases q1 : okW n with
      | false => exact walk_no A n cap A' n' cap' w (by omega) (by omega) (.inl q1)
      | true =>
        cases q2 : okW n' with
        | false => exact walk_no A n cap A' n' cap' w (by omega) (by omega) (.inr (.inl ⟨q1, q2⟩))
        | true =>
          by_cases hs : 256 < n + n'
          · exact walk_no A n cap A' n' cap' w (by omega) (by omega) (.inr (.inr ⟨q1, q2, hs⟩))
          · exact walk_yes A n cap la A' n' cap' lb w g hf g' hf' (okW_of q1).1 (okW_of q2).1 (by omega)

-- THE ROW's STEP
set_option maxRecDepth 100000 in
theorem lifted (os : Os) (started : os.Started) (H : Type) (enc : TypeId × Value → H) :
    ReturnsInHanded {} Tryd.checked os 5 .any (fun w args => (Rows.limbsProductsSpec.pre enc Tryd.prog Tryd.f5 [] false w args ∧ laidMetH Tryd.prog listed w) ∧ sizedMet enc Tryd.prog Tryd.f5 (OpenSpec.ofChange Rows.limbsProductsSpec) false w args)
      (Rows.limbsProductsSpec.post enc Tryd.prog Tryd.f5 false true false false) := by
  refine returnsInHanded_of_change_and (C := Tryd.checked) (X := fun w _ => laidMetH Tryd.prog listed w) (fun _ _ _ hh h => h.of_heap hh) own started (by kernel_rfl) Tryd.func5
    (ChangeSpec.witness_shaped (enc := enc) (C := Tryd.checked) (os := os) (X := fun w _ => laidMetH Tryd.prog listed w) false (World.laidAll Tryd.prog os listed) #[.slice none 0 0, .slice none 0 0] 8 (World.laidAll_os _ _ _)
      (World.shaped_of_ZipB (by kernel_rfl) (by kernel_rfl)) (by kernel_rfl) (by kernel_rfl) (by kernel_rfl)
      (by rw [MakeChecks.laidMetH_plain _ _ _ (by kernel_rfl)]; exact laidMet_laidAll _ (by kernel_rfl) (by kernel_rfl))) ?_
  intro W base args ds gs before hval0 hW _ _ hL _
  have hval : ∀ (j : Nat) t v, Tryd.f5.params[j]? = some t → args[j]? = some v → Value.okWide Tryd.prog W .any base t v := hval0
  have hW' := hW
  obtain ⟨p, q, hA0, hV, rfl, hfz, hnd⟩ := hW
  have hA : DataW.TrodAll enc Tryd.prog W 0 (fun _ => true) true Tryd.f5.params.toList args.toList ds p := hA0
  rw [Tryd.params5] at hA hval
  obtain ⟨v0, vs0, d0, ds0, p0, q0, hargs, rfl, rfl, h0, r0⟩ := trodAll_cons hA
  obtain ⟨v1, vs1, d1, ds1, p1, q1, rfl, rfl, rfl, h1, r1⟩ := trodAll_cons r0
  obtain ⟨rfl, rfl, rfl⟩ := trodAll_nil r1
  obtain rfl : args = #[v0, v1] := by cases args; simp_all
  obtain ⟨rfl, rfl⟩ := trodVars_none hV
  have k0 := h0
  have lt0 : ∀ x ∈ p0, x.block < W.heap.size := by obtain ⟨m, hm⟩ := k0; exact DataW.trod_lt m _ _ _ hm
  obtain ⟨fuel0, hf0⟩ := h0
  obtain ⟨a0, len0, cap0, l0, e0, g0, hlc0, hcm0, hnil0⟩ := limbs_of_trod hf0
  obtain ⟨b0, lb0, cb0, hv0⟩ := okWide_slice Tryd.underlying24 (hval 0 24 v0 rfl rfl)
  have ev0 : v0 = .slice a0 len0 cap0 := by rw [hv0] at e0 ⊢; simpa [Value.cells] using e0
  subst ev0
  have k1 := h1
  have lt1 : ∀ x ∈ p1, x.block < W.heap.size := by obtain ⟨m, hm⟩ := k1; exact DataW.trod_lt m _ _ _ hm
  obtain ⟨fuel1, hf1⟩ := h1
  obtain ⟨a1, len1, cap1, l1, e1, g1, hlc1, hcm1, hnil1⟩ := limbs_of_trod hf1
  obtain ⟨b1, lb1, cb1, hv1⟩ := okWide_slice Tryd.underlying24 (hval 1 24 v1 rfl rfl)
  have ev1 : v1 = .slice a1 len1 cap1 := by rw [hv1] at e1 ⊢; simpa [Value.cells] using e1
  subst ev1
  clear hA0 hval0
  refine (walk a0 len0 cap0 l0 a1 len1 cap1 l1 W g0.1 g0.2 hlc0 hcm0 g1.1 g1.2 hlc1 hcm1).mono fun e W' ⟨he, bel⟩ => ?_
  subst he
  exact ⟨_, rfl, _, _, _, [], _, [], hW', trodAll_mk1 (shut_bool Tryd.underlying4 _), (trodAll_cons_mk (Below.trod laidOut (by kernel_rfl) (of_decide_eq_true (by kernel_rfl)) k0 bel lt0) (trodAll_cons_mk (Below.trod laidOut (by kernel_rfl) (of_decide_eq_true (by kernel_rfl)) k1 bel lt1) trodAll_mk0)), rfl, bel.frame _, fun h => by cases h⟩

theorem row_holds : Rows.LimbsProductsSaid :=
  OpenClaim.holds_of_wide 5 Tryd.f5 rfl rfl rfl rfl rfl rfl rfl ⟨rfl, rfl, rfl, rfl, rfl⟩ rfl rfl rfl rfl rfl (by kernel_rfl) Tryd.func5 (by kernel_rfl)
    (of_decide_eq_true (by kernel_rfl)) (by unfold Func.isWrapper; first | (rw [if_pos (by decide +kernel)]; kernel_rfl) | (rw [if_neg (by decide +kernel)]; exact ⟨rfl, rfl⟩))
    (fun os started H enc _ => lifted os started H enc)

theorem proved : Rows.LimbsProductsCardSaid :=
  Claim7.holds_tied_plain_at .later [] [.data, .pinned] true Rows.limbsProductsCard.stood.harness false
    row_holds (fun _ h => by cases h) (by kernel_rfl) (fun _ h => by cases h) limbsProducts_row_tie rfl ⟨rfl, rfl⟩ (by kernel_rfl) rfl
    (fun f fn hf hfn => by
      obtain rfl : f = 5 := Option.some.inj ((show Tryd.prog.funcNamed Tryd.f5.name = some 5 by kernel_rfl).symm.trans hf) |>.symm
      obtain rfl : fn = Tryd.f5 := (Option.some.inj (Tryd.func5.symm.trans hfn)).symm
      exact ⟨by kernel_rfl, fun j t ht => by
        rw [Tryd.params5] at ht
        have hm : t ∈ [24, 24] := by simpa using Array.mem_of_getElem? ht
        have hall : ([24, 24].all fun u => !Tryd.prog.wantsStandIn u) = true := by kernel_rfl
        exact (show Tryd.prog.wantsStandIn t = false by simpa using List.all_eq_true.1 hall t hm)⟩)
    (by kernel_rfl)
end Go.Proofs.YtbajckbjjepceaaDoor.limbsProducts
