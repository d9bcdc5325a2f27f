/-
  For every three numbers in limbs LimbsSpreads returns true. No condition but that two tables of Go's library, which the call does not read, hold what their text lays there.
-/
import Derived.Test.YtbajckbjjepceaaDoorLaw2
import Derived.Test.YtbajckbjjepceaaDoorTie
import Derived.Test.YtbajckbjjepceaaDoorCards
namespace Go.Proofs.YtbajckbjjepceaaDoor.limbsSpreads
open Go.Proofs.YtbajckbjjepceaaDoor Go.ChangeShapes Go.WideShapes Go.ChangeAt Go.RowKit
set_option linter.unusedVariables false
set_option linter.unusedSimpArgs false

set_option maxHeartbeats 2000000 in
theorem walk_no (A : Option Addr) (n cap : Nat) (A' : Option Addr) (n' cap' : Nat) (A'' : Option Addr) (n'' cap'' : Nat) (w : World)
    (h : okW n = false ∨ (okW n = true ∧ okW n' = false) ∨ (okW n = true ∧ okW n' = true ∧ okW n'' = false) ∨ (okW n = true ∧ okW n' = true ∧ okW n'' = true ∧ n' ≠ n'') ∨ (okW n = true ∧ okW n' = true ∧ okW n'' = true ∧ n' = n'' ∧ 256 < n + n')) :
    Calls Tryd.prog 8 #[.slice A n cap, .slice A' n' cap', .slice A'' n'' cap''] w fun e w' => e = .returned (.bool true) ∧ Below w.heap.size w w' := by
  rcases h with h | ⟨h, h'⟩ | ⟨h, h', h''⟩ | ⟨h, h', h'', hs⟩ | ⟨h, h', h'', rfl, hs⟩
  · go_enter Tryd.func8, Tryd.ntmps8
    go_wp2_with fail
    refine (anchor_any _).mono ?_
    rintro e w1 ⟨rfl, hb1⟩
    go_wp2_with (first | (go_at_call 16; refine (right_any _ _ _ _).mono ?_; rintro e w' ⟨rfl, rfl⟩))
    go_ret
    exact ⟨rfl, hb1⟩
  · go_enter Tryd.func8, Tryd.ntmps8
    go_wp2_with fail
    refine (anchor_any _).mono ?_
    rintro e w1 ⟨rfl, hb1⟩
    go_wp2_with (first | (go_at_call 16; refine (right_any _ _ _ _).mono ?_; rintro e w' ⟨rfl, rfl⟩))
    go_ret
    exact ⟨rfl, hb1⟩
  · go_enter Tryd.func8, Tryd.ntmps8
    go_wp2_with fail
    refine (anchor_any _).mono ?_
    rintro e w1 ⟨rfl, hb1⟩
    go_wp2_with (first | (go_at_call 16; refine (right_any _ _ _ _).mono ?_; rintro e w' ⟨rfl, rfl⟩))
    go_ret
    exact ⟨rfl, hb1⟩
  · have hs2 : ((n' : Int) != (n'' : Int)) = true := by simp; omega
    have hs3 : (n' != n'') = true := by simp; omega
    go_enter Tryd.func8, Tryd.ntmps8
    go_wp2_with fail
    refine (anchor_any _).mono ?_
    rintro e w1 ⟨rfl, hb1⟩
    go_wp2_with (first | (go_at_call 16; refine (right_any _ _ _ _).mono ?_; rintro e w' ⟨rfl, rfl⟩))
    go_ret
    exact ⟨rfl, hb1⟩
  · have hs2 : (256 : Int) < n + n' := by omega
    have l1 := (okW_of h).2
    have l2 := (okW_of h').2
    go_enter Tryd.func8, Tryd.ntmps8
    go_wp2_with fail
    refine (anchor_any _).mono ?_
    rintro e w1 ⟨rfl, hb1⟩
    go_wp2_with (first | (go_at_call 16; refine (right_any _ _ _ _).mono ?_; rintro e w' ⟨rfl, rfl⟩))
    go_ret
    exact ⟨rfl, hb1⟩

theorem spread {N M x s y z c d zy zz zt : Nat} (h1 : s = y + z) (h2 : zy = x * y) (h3 : zz = x * z) (h4 : zt + M * d = zy + zz) (hd : d ≤ 1) (hx : x * s < M) : d = 0 ∧ zt = x * s := by
  subst h1 h2 h3
  rw [Nat.mul_add] at hx ⊢
  rcases (by omega : d = 0 ∨ d = 1) with rfl | rfl
  · rw [Nat.mul_zero] at h4; exact ⟨rfl, by omega⟩
  · rw [Nat.mul_one] at h4; omega

set_option maxHeartbeats 4000000 in
theorem walk_over (A : Option Addr) (n cap : Nat) (la : List Nat) (A' : Option Addr) (n' cap' : Nat) (lb : List Nat) (A'' : Option Addr) (cap'' : Nat) (lc : List Nat) (w : World) (g' : Rd .u32 w A' n' lb) (hf' : Fit 4294967296 lb) (g'' : Rd .u32 w A'' n' lc) (hf'' : Fit 4294967296 lc)
    (h : okW n = true) (h' : okW n' = true) (hs : n + n' ≤ 256) (ho : 4294967296 ^ n' ≤ val 4294967296 lb + val 4294967296 lc) :
    Calls Tryd.prog 8 #[.slice A n cap, .slice A' n' cap', .slice A'' n' cap''] w fun e w' => e = .returned (.bool true) ∧ Below w.heap.size w w' := by
  have HR' := Lib.hid g'
  have HR'' := Lib.hid g''
  have OK := Lib.hid (okW_of h)
  have OK' := Lib.hid (okW_of h')
  have HO := Lib.hid ho
  have l1 := (okW_of h).2
  have l2 := (okW_of h').2
  have hs2 : (n : Int) + n' ≤ 256 := by omega
  clear g' g'' ho
  go_enter Tryd.func8, Tryd.ntmps8
  go_wp2_with fail
  refine (anchor_any _).mono ?_
  rintro e w1 ⟨rfl, hb1⟩
  go_wp2_with (first | (go_at_call 16; refine (right_any _ _ _ _).mono ?_; rintro e w' ⟨rfl, rfl⟩) | fail)
  refine (Add_ok A' A'' n' cap' cap'' lb lc w1 (HR'.out.below hb1) (HR''.out.below hb1) hf' hf'' OK'.out.1 OK'.out.2).mono ?_
  rintro e w2 ⟨A2, c, ss, rfl, hc, ⟨hr2, hf2, _, _, hb2⟩, hv2⟩
  have zlt : val 4294967296 ss < 4294967296 ^ n' := by rw [← hr2.1]; exact val_lt hf2
  obtain rfl : c = 1 := by
    rcases (by omega : c = 0 ∨ c = 1) with rfl | rfl
    · have := HO.out; rw [Nat.mul_zero] at hv2; omega
    · rfl
  clear hr2 hv2 zlt
  go_wp2
  go_ret
  exact ⟨rfl, below_then hb1 hb2⟩

set_option maxHeartbeats 4000000 in
theorem walk_yes (A : Option Addr) (n cap : Nat) (la : List Nat) (A' : Option Addr) (n' cap' : Nat) (lb : List Nat) (A'' : Option Addr) (cap'' : Nat) (lc : List Nat) (w : World) (g : Rd .u32 w A n la) (hf : Fit 4294967296 la) (g' : Rd .u32 w A' n' lb) (hf' : Fit 4294967296 lb) (g'' : Rd .u32 w A'' n' lc) (hf'' : Fit 4294967296 lc)
    (h : okW n = true) (h' : okW n' = true) (hs : n + n' ≤ 256) (ho : val 4294967296 lb + val 4294967296 lc < 4294967296 ^ n') :
    Calls Tryd.prog 8 #[.slice A n cap, .slice A' n' cap', .slice A'' n' cap''] w fun e w' => e = .returned (.bool true) ∧ Below w.heap.size w w' := by
  have HR := Lib.hid g
  have HR' := Lib.hid g'
  have HR'' := Lib.hid g''
  have OK := Lib.hid (okW_of h)
  have OK' := Lib.hid (okW_of h')
  have HO := Lib.hid ho
  have l1 := (okW_of h).2
  have l2 := (okW_of h').2
  have hs2 : (n : Int) + n' ≤ 256 := by omega
  clear g g' g'' ho
  go_enter Tryd.func8, Tryd.ntmps8
  go_wp2_with fail
  refine (anchor_any _).mono ?_
  rintro e w1 ⟨rfl, hb1⟩
  go_wp2_with (first | (go_at_call 16; refine (right_any _ _ _ _).mono ?_; rintro e w' ⟨rfl, rfl⟩) | fail)
  refine (Add_ok A' A'' n' cap' cap'' lb lc w1 (HR'.out.below hb1) (HR''.out.below hb1) hf' hf'' OK'.out.1 OK'.out.2).mono ?_
  rintro e w2 ⟨A2, c, ss, rfl, hc, ⟨hr2, hf2, _, _, hb2⟩, hv2⟩
  obtain rfl : c = 0 := by
    rcases (by omega : c = 0 ∨ c = 1) with rfl | rfl
    · rfl
    · have := HO.out; rw [Nat.mul_one] at hv2; omega
  rw [Nat.mul_zero, Nat.add_zero] at hv2
  have B2 := below_then hb1 hb2
  have HR2 := Lib.hid hr2
  have HV2 := Lib.hid hv2
  clear hr2 hv2 hb2 hc
  go_wp2_with fail
  refine (Mul_ok A A2 n cap n' n' la ss w2 (HR.out.below B2) HR2.out hf hf2 OK.out.1 OK'.out.1 hs).mono ?_
  rintro e w3 ⟨A3, T3, xs, rfl, hT3, ⟨hr3, hf3, _, _, hb3⟩, hv3⟩
  have B3 := below_then B2 hb3
  have HR3 := Lib.hid hr3
  have HV3 := Lib.hid hv3
  have HT3 := Lib.hid hT3
  clear hr3 hv3 hb3 hT3 B2
  go_wp2_with fail
  refine (Mul_ok A A' n cap n' cap' la lb w3 (HR.out.below B3) (HR'.out.below B3) hf hf' OK.out.1 OK'.out.1 hs).mono ?_
  rintro e w4 ⟨A4, T4, ys, rfl, hT4, ⟨hr4, hf4, _, _, hb4⟩, hv4⟩
  have B4 := below_then B3 hb4
  have HR34 := Lib.hid (HR3.out.below hb4)
  have HR4 := Lib.hid hr4
  have HV4 := Lib.hid hv4
  have HT4 : Hid (T4 = T3) := hT4.trans HT3.out.symm
  clear hr4 hv4 hb4 hT4 B3 HR3
  go_wp2_with fail
  refine (Mul_ok A A'' n cap n' cap'' la lc w4 (HR.out.below B4) (HR''.out.below B4) hf hf'' OK.out.1 OK'.out.1 hs).mono ?_
  rintro e w5 ⟨A5, T5, zs, rfl, hT5, ⟨hr5, hf5, _, _, hb5⟩, hv5⟩
  have B5 := below_then B4 hb5
  have HR35 := Lib.hid (HR34.out.below hb5)
  have hr45 := HR4.out.below hb5
  have e4 := HT4.out
  have e5 : T5 = T3 := hT5.trans HT3.out.symm
  subst e4
  subst e5
  have HR45 := Lib.hid hr45
  have HR5 := Lib.hid hr5
  have HV5 := Lib.hid hv5
  clear hr5 hv5 hb5 hT5 B4 HR4 HR34 hr45
  have tb1 : 1 ≤ T5 := by have := HT3.out; have := OK.out.1; omega
  have tb2 : T5 ≤ 256 := by have := HT3.out; omega
  go_wp2_with fail
  refine (Add_ok A4 A5 T5 T5 T5 ys zs w5 HR45.out HR5.out hf4 hf5 tb1 tb2).mono ?_
  rintro e w6 ⟨A6, d, ts, rfl, hd, ⟨hr6, hf6, _, _, hb6⟩, hv6⟩
  have xlt : val 4294967296 xs < 4294967296 ^ T5 := by rw [← HR35.out.1]; exact val_lt hf3
  obtain ⟨rfl, hts⟩ := spread (N := 0) (c := 0) HV2.out HV4.out HV5.out hv6 hd (by rw [← HV3.out]; exact xlt)
  rw [← HV3.out] at hts
  have B6 := below_then B5 hb6
  have HR36 := Lib.hid (HR35.out.below hb6)
  have HR6 := Lib.hid hr6
  have HTS := Lib.hid hts
  clear hr6 hv6 hb6 hts xlt B5
  go_wp2_with fail
  refine (Compare_ok A3 A6 T5 T5 T5 T5 xs ts w6 HR36.out HR6.out hf3 hf6 tb1 tb2 tb1 tb2).mono ?_
  rintro e w7 ⟨rfl, hb7⟩
  rw [HTS.out, ord_self]
  go_wp2
  go_ret
  exact ⟨rfl, below_then B6 hb7⟩

theorem walk (A : Option Addr) (n cap : Nat) (la : List Nat) (A' : Option Addr) (n' cap' : Nat) (lb : List Nat) (A'' : Option Addr) (n'' cap'' : Nat) (lc : List Nat) (w : World) (g : Rd .u32 w A n la) (hf : Fit 4294967296 la) (hc : n ≤ cap) (hm : cap ≤ maxLen) (g' : Rd .u32 w A' n' lb) (hf' : Fit 4294967296 lb) (hc' : n' ≤ cap') (hm' : cap' ≤ maxLen) (g'' : Rd .u32 w A'' n'' lc) (hf'' : Fit 4294967296 lc) (hc'' : n'' ≤ cap'') (hm'' : cap'' ≤ maxLen) :
    Calls Tryd.prog 8 #[.slice A n cap, .slice A' n' cap', .slice A'' n'' cap''] w fun e w' => e = .returned (.bool true) ∧ Below w.heap.size w w' := by
  cases q1 : okW n with
  | false => exact walk_no A n cap A' n' cap' A'' n'' cap'' w (.inl q1)
  | true =>
    cases q2 : okW n' with
    | false => exact walk_no A n cap A' n' cap' A'' n'' cap'' w (.inr (.inl ⟨q1, q2⟩))
    | true =>
      cases q3 : okW n'' with
      | false => exact walk_no A n cap A' n' cap' A'' n'' cap'' w (.inr (.inr (.inl ⟨q1, q2, q3⟩)))
      | true =>
        by_cases he : n' = n''
        · by_cases hs : 256 < n + n'
          · exact walk_no A n cap A' n' cap' A'' n'' cap'' w (.inr (.inr (.inr (.inr ⟨q1, q2, q3, he, hs⟩))))
          · subst he
            rcases Nat.lt_or_ge (val 4294967296 lb + val 4294967296 lc) (4294967296 ^ n') with ho | ho
            · exact walk_yes A n cap la A' n' cap' lb A'' cap'' lc w g hf g' hf' g'' hf'' q1 q2 (by omega) ho
            · exact walk_over A n cap la A' n' cap' lb A'' cap'' lc w g' hf' g'' hf'' q1 q2 (by omega) ho
        · exact walk_no A n cap A' n' cap' A'' n'' cap'' w (.inr (.inr (.inr (.inl ⟨q1, q2, q3, he⟩))))

-- THE ROW's STEP
set_option maxRecDepth 100000 in
theorem lifted (os : Os) (started : os.Started) (H : Type) (enc : TypeId × Value → H) :
    ReturnsInHanded {} Tryd.checked os 8 .any (fun w args => (Rows.limbsSpreadsSpec.pre enc Tryd.prog Tryd.f8 [] false w args ∧ laidMetH Tryd.prog listed w) ∧ sizedMet enc Tryd.prog Tryd.f8 (OpenSpec.ofChange Rows.limbsSpreadsSpec) false w args)
      (Rows.limbsSpreadsSpec.post enc Tryd.prog Tryd.f8 false true false false) := by
  refine returnsInHanded_of_change_and (C := Tryd.checked) (X := fun w _ => laidMetH Tryd.prog listed w) (fun _ _ _ hh h => h.of_heap hh) own started (by kernel_rfl) Tryd.func8
    (ChangeSpec.witness_shaped (enc := enc) (C := Tryd.checked) (os := os) (X := fun w _ => laidMetH Tryd.prog listed w) false (World.laidAll Tryd.prog os listed) #[.slice none 0 0, .slice none 0 0, .slice none 0 0] 8 (World.laidAll_os _ _ _)
      (World.shaped_of_ZipB (by kernel_rfl) (by kernel_rfl)) (by kernel_rfl) (by kernel_rfl) (by kernel_rfl)
      (by rw [MakeChecks.laidMetH_plain _ _ _ (by kernel_rfl)]; exact laidMet_laidAll _ (by kernel_rfl) (by kernel_rfl))) ?_
  intro W base args ds gs before hval0 hW _ _ hL _
  have hval : ∀ (j : Nat) t v, Tryd.f8.params[j]? = some t → args[j]? = some v → Value.okWide Tryd.prog W .any base t v := hval0
  have hW' := hW
  obtain ⟨p, q, hA0, hV, rfl, hfz, hnd⟩ := hW
  have hA : DataW.TrodAll enc Tryd.prog W 0 (fun _ => true) true Tryd.f8.params.toList args.toList ds p := hA0
  rw [Tryd.params8] at hA hval
  obtain ⟨v0, vs0, d0, ds0, p0, q0, hargs, rfl, rfl, h0, r0⟩ := trodAll_cons hA
  obtain ⟨v1, vs1, d1, ds1, p1, q1, rfl, rfl, rfl, h1, r1⟩ := trodAll_cons r0
  obtain ⟨v2, vs2, d2, ds2, p2, q2, rfl, rfl, rfl, h2, r2⟩ := trodAll_cons r1
  obtain ⟨rfl, rfl, rfl⟩ := trodAll_nil r2
  obtain rfl : args = #[v0, v1, v2] := by cases args; simp_all
  obtain ⟨rfl, rfl⟩ := trodVars_none hV
  have k0 := h0
  have lt0 : ∀ x ∈ p0, x.block < W.heap.size := by obtain ⟨m, hm⟩ := k0; exact DataW.trod_lt m _ _ _ hm
  obtain ⟨fuel0, hf0⟩ := h0
  obtain ⟨a0, len0, cap0, l0, e0, g0, hlc0, hcm0, hnil0⟩ := limbs_of_trod hf0
  obtain ⟨b0, lb0, cb0, hv0⟩ := okWide_slice Tryd.underlying24 (hval 0 24 v0 rfl rfl)
  have ev0 : v0 = .slice a0 len0 cap0 := by rw [hv0] at e0 ⊢; simpa [Value.cells] using e0
  subst ev0
  have k1 := h1
  have lt1 : ∀ x ∈ p1, x.block < W.heap.size := by obtain ⟨m, hm⟩ := k1; exact DataW.trod_lt m _ _ _ hm
  obtain ⟨fuel1, hf1⟩ := h1
  obtain ⟨a1, len1, cap1, l1, e1, g1, hlc1, hcm1, hnil1⟩ := limbs_of_trod hf1
  obtain ⟨b1, lb1, cb1, hv1⟩ := okWide_slice Tryd.underlying24 (hval 1 24 v1 rfl rfl)
  have ev1 : v1 = .slice a1 len1 cap1 := by rw [hv1] at e1 ⊢; simpa [Value.cells] using e1
  subst ev1
  have k2 := h2
  have lt2 : ∀ x ∈ p2, x.block < W.heap.size := by obtain ⟨m, hm⟩ := k2; exact DataW.trod_lt m _ _ _ hm
  obtain ⟨fuel2, hf2⟩ := h2
  obtain ⟨a2, len2, cap2, l2, e2, g2, hlc2, hcm2, hnil2⟩ := limbs_of_trod hf2
  obtain ⟨b2, lb2, cb2, hv2⟩ := okWide_slice Tryd.underlying24 (hval 2 24 v2 rfl rfl)
  have ev2 : v2 = .slice a2 len2 cap2 := by rw [hv2] at e2 ⊢; simpa [Value.cells] using e2
  subst ev2
  clear hA0 hval0
  refine (walk a0 len0 cap0 l0 a1 len1 cap1 l1 a2 len2 cap2 l2 W g0.1 g0.2 hlc0 hcm0 g1.1 g1.2 hlc1 hcm1 g2.1 g2.2 hlc2 hcm2).mono fun e W' ⟨he, bel⟩ => ?_
  subst he
  exact ⟨_, rfl, _, _, _, [], _, [], hW', trodAll_mk1 (shut_bool Tryd.underlying4 _), (trodAll_cons_mk (Below.trod laidOut (by kernel_rfl) (of_decide_eq_true (by kernel_rfl)) k0 bel lt0) (trodAll_cons_mk (Below.trod laidOut (by kernel_rfl) (of_decide_eq_true (by kernel_rfl)) k1 bel lt1) (trodAll_cons_mk (Below.trod laidOut (by kernel_rfl) (of_decide_eq_true (by kernel_rfl)) k2 bel lt2) trodAll_mk0))), rfl, bel.frame _, fun h => by cases h⟩

theorem row_holds : Rows.LimbsSpreadsSaid :=
  OpenClaim.holds_of_wide 8 Tryd.f8 rfl rfl rfl rfl rfl rfl rfl ⟨rfl, rfl, rfl, rfl, rfl⟩ rfl rfl rfl rfl rfl (by kernel_rfl) Tryd.func8 (by kernel_rfl)
    (of_decide_eq_true (by kernel_rfl)) (by unfold Func.isWrapper; first | (rw [if_pos (by decide +kernel)]; kernel_rfl) | (rw [if_neg (by decide +kernel)]; exact ⟨rfl, rfl⟩))
    (fun os started H enc _ => lifted os started H enc)

theorem proved : Rows.LimbsSpreadsCardSaid :=
  Claim7.holds_tied_plain_at .later [] [.data, .pinned] true Rows.limbsSpreadsCard.stood.harness false
    row_holds (fun _ h => by cases h) (by kernel_rfl) (fun _ h => by cases h) limbsSpreads_row_tie rfl ⟨rfl, rfl⟩ (by kernel_rfl) rfl
    (fun f fn hf hfn => by
      obtain rfl : f = 8 := Option.some.inj ((show Tryd.prog.funcNamed Tryd.f8.name = some 8 by kernel_rfl).symm.trans hf) |>.symm
      obtain rfl : fn = Tryd.f8 := (Option.some.inj (Tryd.func8.symm.trans hfn)).symm
      exact ⟨by kernel_rfl, fun j t ht => by
        rw [Tryd.params8] at ht
        have hm : t ∈ [24, 24, 24] := by simpa using Array.mem_of_getElem? ht
        have hall : ([24, 24, 24].all fun u => !Tryd.prog.wantsStandIn u) = true := by kernel_rfl
        exact (show Tryd.prog.wantsStandIn t = false by simpa using List.all_eq_true.1 hall t hm)⟩)
    (by kernel_rfl)
end Go.Proofs.YtbajckbjjepceaaDoor.limbsSpreads
