/-
  For every two numbers in limbs RingShorts returns true. No condition but that two tables of Go's library, which the call does not read, hold what their text lays there.
-/
import Derived.Test.YtggnhncodiekhaaDoorLaw2
import Derived.Test.YtggnhncodiekhaaDoorTie
import Derived.Test.YtggnhncodiekhaaDoorCards
namespace Go.Proofs.YtggnhncodiekhaaDoor.ringShorts
open Go.Proofs.YtggnhncodiekhaaDoor Go.ChangeShapes Go.WideShapes Go.ChangeAt Go.RowKit
set_option linter.unusedVariables false
set_option linter.unusedSimpArgs false

set_option maxHeartbeats 1000000 in
theorem walk_guard (A : Option Addr) (n cap : Nat) (Aa : Option Addr) (na ca : Nat) (w : World) (h : (16 : Int) < n ∨ (20 : Int) < na) :
    Calls Tryd.prog 8 #[.slice A n cap, .slice Aa na ca] w fun e w' => e = .returned (.bool true) ∧ Below w.heap.size w w' := by
  by_cases q0 : (16 : Int) < n
  · clear h
    go_enter Tryd.func8, Tryd.ntmps8
    go_wp2_with fail
    refine (anchor_any w).mono ?_
    rintro e w1 ⟨rfl, hb1⟩
    go_wp2
    go_ret
    exact ⟨rfl, hb1⟩
  · replace h := h.resolve_left q0
    go_enter Tryd.func8, Tryd.ntmps8
    go_wp2_with fail
    refine (anchor_any w).mono ?_
    rintro e w1 ⟨rfl, hb1⟩
    go_wp2
    go_ret
    exact ⟨rfl, hb1⟩

set_option maxHeartbeats 1000000 in
theorem walk_bad (A : Option Addr) (n cap : Nat) (l : List Nat) (Aa : Option Addr) (na ca : Nat) (la : List Nat) (w : World) (h : Rd .u32 w A n l) (hf : Fit 4294967296 l) (ha : Rd .u32 w Aa na la) (hfa : Fit 4294967296 la) (q0 : ¬ (16 : Int) < n) (q1 : ¬ (20 : Int) < na) (hno : ¬ OkN n l) :
    Calls Tryd.prog 8 #[.slice A n cap, .slice Aa na ca] w fun e w' => e = .returned (.bool true) ∧ Below w.heap.size w w' := by
  have HRn := Lib.hid h
  have HNO := Lib.hid hno
  clear h ha hno
  go_enter Tryd.func8, Tryd.ntmps8
  go_wp2_with fail
  refine (anchor_any w).mono ?_
  rintro e w1 ⟨rfl, hb1⟩
  have bel1 := hb1
  go_wp2_with fail
  refine (New_err A n cap l w1 (HRn.out.below bel1) hf HNO.out).mono ?_
  rintro e w2 ⟨rfl | rfl, hb2⟩
  · go_wp2
    go_ret
    exact ⟨rfl, below_then bel1 hb2⟩
  · go_wp2
    go_ret
    exact ⟨rfl, below_then bel1 hb2⟩

set_option maxHeartbeats 1000000 in
theorem walk_not (A : Option Addr) (n cap : Nat) (l : List Nat) (Aa : Option Addr) (na ca : Nat) (la : List Nat) (w : World) (h : Rd .u32 w A n l) (hf : Fit 4294967296 l) (ha : Rd .u32 w Aa na la) (hfa : Fit 4294967296 la) (q0 : ¬ (16 : Int) < n) (q1 : ¬ (20 : Int) < na) (hok : OkN n l) (hno : ¬ (na = n ∧ val 4294967296 la < val 4294967296 l)) :
    Calls Tryd.prog 8 #[.slice A n cap, .slice Aa na ca] w fun e w' => e = .returned (.bool true) ∧ Below w.heap.size w w' := by
  have HRn := Lib.hid h
  have HRa := Lib.hid ha
  have OK := Lib.hid hok
  have HNO := Lib.hid hno
  clear h ha hno hok
  go_enter Tryd.func8, Tryd.ntmps8
  go_wp2_with fail
  refine (anchor_any w).mono ?_
  rintro e w1 ⟨rfl, hb1⟩
  have bel1 := hb1
  go_wp2_with fail
  refine (New_ok A n cap l w1 (HRn.out.below bel1) hf OK.out.1 OK.out.2.1 OK.out.2.2.1 OK.out.2.2.2).mono ?_
  rintro e w2 ⟨g, rfl, hW, hb2⟩
  have bel2 := below_then bel1 hb2
  have HW := Lib.hid hW
  clear hW
  go_wp2_with fail
  refine (element_no Aa A na ca n cap la l w2 (HRa.out.below bel2) hfa (HRn.out.below bel2) hf (by omega) HNO.out).mono ?_
  rintro e w3 ⟨rfl, hb3⟩
  have bel3 := below_then bel2 hb3
  go_wp2
  go_ret
  exact ⟨rfl, bel3⟩

set_option maxRecDepth 100000 in
set_option maxHeartbeats 2000000 in
theorem walk_main (A : Option Addr) (n cap : Nat) (l : List Nat) (Aa : Option Addr) (ca : Nat) (la : List Nat) (w : World) (h : Rd .u32 w A n l) (hf : Fit 4294967296 l) (ha : Rd .u32 w Aa n la) (hfa : Fit 4294967296 la) (q0 : ¬ (16 : Int) < n) (q1 : ¬ (20 : Int) < n) (hok : OkN n l) (hlt : val 4294967296 la < val 4294967296 l) :
    Calls Tryd.prog 8 #[.slice A n cap, .slice Aa n ca] w fun e w' => e = .returned (.bool true) ∧ Below w.heap.size w w' := by
  have HRn := Lib.hid h
  have HRa := Lib.hid ha
  have OK := Lib.hid hok
  have HLT := Lib.hid hlt
  have n1 : 1 ≤ n := hok.1
  have n0 : 0 < n := hok.1
  clear h ha hlt hok
  go_enter Tryd.func8, Tryd.ntmps8
  go_wp2_with fail
  refine (anchor_any w).mono ?_
  rintro e w1 ⟨rfl, hb1⟩
  have bel1 := hb1
  go_wp2_with fail
  refine (New_ok A n cap l w1 (HRn.out.below bel1) hf OK.out.1 OK.out.2.1 OK.out.2.2.1 OK.out.2.2.2).mono ?_
  rintro e w2 ⟨g, rfl, hW, hb2⟩
  have bel2 := below_then bel1 hb2
  have HW := Lib.hid hW
  clear hW
  go_wp2_with fail
  refine (element_yes Aa A n ca cap la l w2 (HRa.out.below bel2) hfa (HRn.out.below bel2) hf (by omega) HLT.out).mono ?_
  rintro e w3 ⟨rfl, hb3⟩
  have bel3 := below_then bel2 hb3
  go_wp2_with (first
    | ((with_reducible refine at_dst (some 37) ?_); refine wpList_makeNums (o := ⟨some 37, _, _, _, _, _⟩) rfl (.tmp 36) (.tmp 36) 23 31 rfl .u32 4 Tryd.underlying23 wordInfo (by omega) _ _ rfl rfl n rfl (by omega) ?_; intro wm hbm hbelm hsm; have hoc := first_zero hbm.out n1; have hof := hbm.out.frozen 0))
  have hb4 : Below w3.heap.size w3 (wm.setCell ⟨w3.heap.size, 0, none⟩ (.int .u32 1)) := hbelm.setCell (Nat.le_refl _) _
  have HRo := Lib.hid (rd_one hbm.out)
  clear hbm hbelm hsm hoc hof
  generalize (wm.setCell ⟨w3.heap.size, 0, none⟩ (.int .u32 1)) = w4 at *
  have bel4 := below_then bel3 hb4
  go_wp2_with fail
  refine (RR_any g n (val 4294967296 l) w4 (Whole.below (Whole.below HW.out hb3) hb4)).mono ?_
  rintro e w5 ⟨Ar, cr, lr, rfl, hrr, hfr, hvr, hb5⟩
  have bel5 := below_then bel4 hb5
  have HRr := Lib.hid hrr
  have HVr := Lib.hid hvr
  clear hrr hvr
  go_wp2_with fail
  refine (Short_yes g n (val 4294967296 l) Aa ca la Ar cr lr w5 (Whole.below (Whole.below (Whole.below HW.out hb3) hb4) hb5) (HRa.out.below bel5) hfa HLT.out HRr.out hfr (by rw [HVr.out]; exact Nat.mod_lt _ (by have := OK.out.2.2.2; omega))).mono ?_
  rintro e w6 ⟨Ax, cx, lx, rfl, hrx, hfx, hltx, hvx, hb6⟩
  have bel6 := below_then bel5 hb6
  have HRx := Lib.hid hrx
  have HVx := Lib.hid hvx
  have HLx := Lib.hid hltx
  clear hrx hvx hltx
  go_wp2_with fail
  refine (Short_yes g n (val 4294967296 l) Ax cx lx _ n _ w6 (Whole.below (Whole.below (Whole.below (Whole.below HW.out hb3) hb4) hb5) hb6) HRx.out hfx HLx.out ((HRo.out.below hb5).below hb6) (fit_one n) (by rw [val_one n n1]; exact OK.out.2.2.2)).mono ?_
  rintro e w7 ⟨Ay, cy, ly, rfl, hry, hfy, hlty, hvy, hb7⟩
  have bel7 := below_then bel6 hb7
  have HRy := Lib.hid hry
  have HVy := Lib.hid hvy
  have HLy := Lib.hid hlty
  clear hry hvy hlty
  have HE : Hid (val 4294967296 ly = val 4294967296 la) := by
    have h1 := HVx.out
    have h2 := HVy.out
    rw [HVr.out] at h1
    rw [val_one n n1] at h2
    exact back_again OK.out.2.2.1 HLT.out HLx.out HLy.out h1 h2
  go_wp2_with fail
  refine (Compare_same_ Ay Aa n cy n ca ly la w7 HRy.out (HRa.out.below bel7) hfy hfa n1 (by omega) n1 (by omega) HE.out).mono ?_
  rintro e w8 ⟨rfl, hb8⟩
  have bel8 := below_then bel7 hb8
  go_wp2_with fail
  refine (element_yes Ax A n cx cap lx l w8 ((HRx.out.below hb7).below hb8) hfx (HRn.out.below bel8) hf (by omega) HLx.out).mono ?_
  rintro e w9 ⟨rfl, hb9⟩
  have bel9 := below_then bel8 hb9
  go_wp2
  go_ret
  exact ⟨rfl, bel9⟩

theorem walk (A : Option Addr) (n cap : Nat) (l : List Nat) (Aa : Option Addr) (na ca : Nat) (la : List Nat) (w : World) (h : Rd .u32 w A n l) (hf : Fit 4294967296 l) (hc : n ≤ cap) (hm : cap ≤ maxLen) (ha : Rd .u32 w Aa na la) (hfa : Fit 4294967296 la) (hca : na ≤ ca) (hma : ca ≤ maxLen) :
    Calls Tryd.prog 8 #[.slice A n cap, .slice Aa na ca] w fun e w' => e = .returned (.bool true) ∧ Below w.heap.size w w' := by
  by_cases q0 : (16 : Int) < n ∨ (20 : Int) < na
  · exact walk_guard A n cap Aa na ca w q0
  · have q1 : ¬ (16 : Int) < n := fun h => q0 (.inl h)
    have q2 : ¬ (20 : Int) < na := fun h => q0 (.inr h)
    by_cases hok : OkN n l
    · by_cases hel : na = n ∧ val 4294967296 la < val 4294967296 l
      · obtain ⟨rfl, hlt⟩ := hel
        exact walk_main A na cap l Aa ca la w h hf ha hfa q1 q2 hok hlt
      · exact walk_not A n cap l Aa na ca la w h hf ha hfa q1 q2 hok hel
    · exact walk_bad A n cap l Aa na ca la w h hf ha hfa q1 q2 hok

-- THE ROW's STEP
set_option maxRecDepth 100000 in
theorem lifted (os : Os) (started : os.Started) (H : Type) (enc : TypeId × Value → H) :
    ReturnsInHanded {} Tryd.checked os 8 .any (fun w args => (Rows.ringShortsSpec.pre enc Tryd.prog Tryd.f8 [] false w args ∧ laidMetH Tryd.prog listed w) ∧ sizedMet enc Tryd.prog Tryd.f8 (OpenSpec.ofChange Rows.ringShortsSpec) false w args)
      (Rows.ringShortsSpec.post enc Tryd.prog Tryd.f8 false true false false) := by
  refine returnsInHanded_of_change_and (C := Tryd.checked) (X := fun w _ => laidMetH Tryd.prog listed w) (fun _ _ _ hh h => h.of_heap hh) own started (by kernel_rfl) Tryd.func8
    (ChangeSpec.witness_shaped (enc := enc) (C := Tryd.checked) (os := os) (X := fun w _ => laidMetH Tryd.prog listed w) false (World.laidAll Tryd.prog os listed) #[.slice none 0 0, .slice none 0 0] 8 (World.laidAll_os _ _ _)
      (World.shaped_of_ZipB (by kernel_rfl) (by kernel_rfl)) (by kernel_rfl) (by kernel_rfl) (by kernel_rfl)
      (by rw [MakeChecks.laidMetH_plain _ _ _ (by kernel_rfl)]; exact laidMet_laidAll _ (by kernel_rfl) (by kernel_rfl))) ?_
  intro W base args ds gs before hval0 hW _ _ hL _
  have hval : ∀ (j : Nat) t v, Tryd.f8.params[j]? = some t → args[j]? = some v → Value.okWide Tryd.prog W .any base t v := hval0
  have hW' := hW
  obtain ⟨p, q, hA0, hV, rfl, hfz, hnd⟩ := hW
  have hA : DataW.TrodAll enc Tryd.prog W 0 (fun _ => true) true Tryd.f8.params.toList args.toList ds p := hA0
  rw [Tryd.params8] at hA hval
  obtain ⟨v0, vs0, d0, ds0, p0, q0, hargs, rfl, rfl, h0, r0⟩ := trodAll_cons hA
  obtain ⟨v1, vs1, d1, ds1, p1, q1, rfl, rfl, rfl, h1, r1⟩ := trodAll_cons r0
  obtain ⟨rfl, rfl, rfl⟩ := trodAll_nil r1
  obtain rfl : args = #[v0, v1] := by cases args; simp_all
  obtain ⟨rfl, rfl⟩ := trodVars_none hV
  have k0 := h0
  have lt0 : ∀ x ∈ p0, x.block < W.heap.size := by obtain ⟨m, hm⟩ := k0; exact DataW.trod_lt m _ _ _ hm
  obtain ⟨fuel0, hf0⟩ := h0
  obtain ⟨a0, len0, cap0, l0, e0, g0, hlc0, hcm0, hnil0⟩ := limbs_of_trod hf0
  obtain ⟨b0, lb0, cb0, hv0⟩ := okWide_slice Tryd.underlying23 (hval 0 23 v0 rfl rfl)
  have ev0 : v0 = .slice a0 len0 cap0 := by rw [hv0] at e0 ⊢; simpa [Value.cells] using e0
  subst ev0
  have k1 := h1
  have lt1 : ∀ x ∈ p1, x.block < W.heap.size := by obtain ⟨m, hm⟩ := k1; exact DataW.trod_lt m _ _ _ hm
  obtain ⟨fuel1, hf1⟩ := h1
  obtain ⟨a1, len1, cap1, l1, e1, g1, hlc1, hcm1, hnil1⟩ := limbs_of_trod hf1
  obtain ⟨b1, lb1, cb1, hv1⟩ := okWide_slice Tryd.underlying23 (hval 1 23 v1 rfl rfl)
  have ev1 : v1 = .slice a1 len1 cap1 := by rw [hv1] at e1 ⊢; simpa [Value.cells] using e1
  subst ev1
  clear hA0 hval0
  refine (walk a0 len0 cap0 l0 a1 len1 cap1 l1 W g0.1 g0.2 hlc0 hcm0 g1.1 g1.2 hlc1 hcm1).mono fun e W' ⟨he, bel⟩ => ?_
  subst he
  exact ⟨_, rfl, _, _, _, [], _, [], hW', trodAll_mk1 (shut_bool Tryd.underlying4 _), (trodAll_cons_mk (Below.trod laidOut (by kernel_rfl) (of_decide_eq_true (by kernel_rfl)) k0 bel lt0) (trodAll_cons_mk (Below.trod laidOut (by kernel_rfl) (of_decide_eq_true (by kernel_rfl)) k1 bel lt1) trodAll_mk0)), rfl, bel.frame _, fun h => by cases h⟩

theorem row_holds : Rows.RingShortsSaid :=
  OpenClaim.holds_of_wide 8 Tryd.f8 rfl rfl rfl rfl rfl rfl rfl ⟨rfl, rfl, rfl, rfl, rfl⟩ rfl rfl rfl rfl rfl (by kernel_rfl) Tryd.func8 (by kernel_rfl)
    (of_decide_eq_true (by kernel_rfl)) (by unfold Func.isWrapper; first | (rw [if_pos (by decide +kernel)]; kernel_rfl) | (rw [if_neg (by decide +kernel)]; exact ⟨rfl, rfl⟩))
    (fun os started H enc _ => lifted os started H enc)

theorem proved : Rows.RingShortsCardSaid :=
  Claim7.holds_tied_plain_at .later [] [.data, .pinned] true Rows.ringShortsCard.stood.harness false
    row_holds (fun _ h => by cases h) (by kernel_rfl) (fun _ h => by cases h) ringShorts_row_tie rfl ⟨rfl, rfl⟩ (by kernel_rfl) rfl
    (fun f fn hf hfn => by
      obtain rfl : f = 8 := Option.some.inj ((show Tryd.prog.funcNamed Tryd.f8.name = some 8 by kernel_rfl).symm.trans hf) |>.symm
      obtain rfl : fn = Tryd.f8 := (Option.some.inj (Tryd.func8.symm.trans hfn)).symm
      exact ⟨by kernel_rfl, fun j t ht => by
        rw [Tryd.params8] at ht
        have hm : t ∈ [23, 23] := by simpa using Array.mem_of_getElem? ht
        have hall : ([23, 23].all fun u => !Tryd.prog.wantsStandIn u) = true := by kernel_rfl
        exact (show Tryd.prog.wantsStandIn t = false by simpa using List.all_eq_true.1 hall t hm)⟩)
    (by kernel_rfl)
end Go.Proofs.YtggnhncodiekhaaDoor.ringShorts
