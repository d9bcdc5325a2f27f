/-
  For every two numbers in limbs LimbsBack returns true. No condition but that two tables of Go's library, which the call does not read, hold what their text lays there.
-/
import Derived.Test.YtbajckbjjepceaaDoorLaw3
import Derived.Test.YtbajckbjjepceaaDoorTie
import Derived.Test.YtbajckbjjepceaaDoorCards
namespace Go.Proofs.YtbajckbjjepceaaDoor.limbsBack
open Go.Proofs.YtbajckbjjepceaaDoor Go.ChangeShapes Go.WideShapes Go.ChangeAt Go.RowKit
set_option linter.unusedVariables false
set_option linter.unusedSimpArgs false

set_option maxHeartbeats 1000000 in
theorem walk_no (A : Option Addr) (n cap : Nat) (A' : Option Addr) (n' cap' : Nat) (w : World) (h : okW n = false ∨ (okW n = true ∧ okW n' = false) ∨ (okW n = true ∧ okW n' = true ∧ n ≠ n')) :
    Calls Tryd.prog 7 #[.slice A n cap, .slice A' n' cap'] w fun e w' => e = .returned (.bool true) ∧ Below w.heap.size w w' := by
  rcases h with h | ⟨h, h'⟩ | ⟨h, h', hs⟩
  · go_enter Tryd.func7, Tryd.ntmps7
    go_wp2_with fail
    refine (anchor_any _).mono ?_
    rintro e w1 ⟨rfl, hb1⟩
    go_wp2_with (first | (go_at_call 16; refine (right_any _ _ _ _).mono ?_; rintro e w' ⟨rfl, rfl⟩))
    go_ret
    exact ⟨rfl, hb1⟩
  · go_enter Tryd.func7, Tryd.ntmps7
    go_wp2_with fail
    refine (anchor_any _).mono ?_
    rintro e w1 ⟨rfl, hb1⟩
    go_wp2_with (first | (go_at_call 16; refine (right_any _ _ _ _).mono ?_; rintro e w' ⟨rfl, rfl⟩))
    go_ret
    exact ⟨rfl, hb1⟩
  · have hs2 : ((n : Int) != (n' : Int)) = true := by simp; omega
    have hs3 : (n != n') = true := by simp; omega
    go_enter Tryd.func7, Tryd.ntmps7
    go_wp2_with fail
    refine (anchor_any _).mono ?_
    rintro e w1 ⟨rfl, hb1⟩
    go_wp2_with (first | (go_at_call 16; refine (right_any _ _ _ _).mono ?_; rintro e w' ⟨rfl, rfl⟩))
    go_ret
    exact ⟨rfl, hb1⟩

/-- What is one number and one rest, is one rest and one number. -/
theorem rest_one {P z z' c c' : Nat} (h : z + P * c = z' + P * c') (hz : z < P) (hz' : z' < P) : c = c' ∧ z = z' := by
  have hc : c = c' := by
    rcases Nat.lt_trichotomy c c' with h1 | h1 | h1
    · have : P * (c + 1) ≤ P * c' := Nat.mul_le_mul_left _ h1
      rw [Nat.mul_add, Nat.mul_one] at this
      omega
    · exact h1
    · have : P * (c' + 1) ≤ P * c := Nat.mul_le_mul_left _ h1
      rw [Nat.mul_add, Nat.mul_one] at this
      omega
  subst hc
  exact ⟨rfl, by omega⟩

set_option maxHeartbeats 4000000 in
theorem walk_yes (A : Option Addr) (n cap : Nat) (la : List Nat) (A' : Option Addr) (cap' : Nat) (lb : List Nat) (w : World) (g : Rd .u32 w A n la) (hf : Fit 4294967296 la) (g' : Rd .u32 w A' n lb) (hf' : Fit 4294967296 lb) (h : okW n = true) :
    Calls Tryd.prog 7 #[.slice A n cap, .slice A' n cap'] w fun e w' => e = .returned (.bool true) ∧ Below w.heap.size w w' := by
  have HR := Lib.hid g
  have HR' := Lib.hid g'
  have OK := Lib.hid (okW_of h)
  have ok1 := (okW_of h).1
  have ok2 := (okW_of h).2
  have xlt : val 4294967296 la < 4294967296 ^ n := by rw [← g.1]; exact val_lt hf
  have HXL := Lib.hid xlt
  obtain ⟨S, hS⟩ : ∃ S, S = 4 * n := ⟨_, rfl⟩
  have HS := Lib.hid hS
  have hS2 : 4 * (n : Int) = S := by omega
  have HS2 := Lib.hid hS2
  have hSb : S ≤ 1024 := by omega
  clear g g' xlt hS hS2
  go_enter Tryd.func7, Tryd.ntmps7
  go_wp2_with fail
  refine (anchor_any _).mono ?_
  rintro e w1 ⟨rfl, hb1⟩
  go_wp2_with (first | (go_at_call 16; refine (right_any _ _ _ _).mono ?_; rintro e w' ⟨rfl, rfl⟩) | fail)
  refine (Add_ok A A' n cap cap' la lb w1 (HR.out.below hb1) (HR'.out.below hb1) hf hf' OK.out.1 OK.out.2).mono ?_
  rintro e w2 ⟨A2, c, ss, rfl, hc, ⟨hr2, hf2, _, _, hb2⟩, hv2⟩
  have B2 := below_then hb1 hb2
  have slt : val 4294967296 ss < 4294967296 ^ n := by rw [← hr2.1]; exact val_lt hf2
  have HR2 := Lib.hid hr2
  have HV2 := Lib.hid hv2
  have HSL := Lib.hid slt
  clear hr2 hv2 hb2 slt
  go_wp2_with fail
  refine (Add_ok A' A n cap' cap lb la w2 (HR'.out.below B2) (HR.out.below B2) hf' hf OK.out.1 OK.out.2).mono ?_
  rintro e w3 ⟨A3, k, ts, rfl, hk, ⟨hr3, hf3, _, _, hb3⟩, hv3⟩
  have tlt : val 4294967296 ts < 4294967296 ^ n := by rw [← hr3.1]; exact val_lt hf3
  obtain ⟨rfl, hts⟩ := rest_one (hv3.trans ((Nat.add_comm _ _).trans HV2.out.symm)) tlt HSL.out
  obtain rfl : ts = ss := val_inj hf3 hf2 (hr3.1.trans HR2.out.1.symm) hts
  have B3 := below_then B2 hb3
  have HR23 := Lib.hid (HR2.out.below hb3)
  have HR3 := Lib.hid hr3
  clear hr3 hv3 hb3 tlt hts hk B2 HR2
  go_wp2_with fail
  refine (Sub_ok A2 A' n n cap' ts lb w3 HR23.out (HR'.out.below B3) hf2 hf' OK.out.1 OK.out.2).mono ?_
  rintro e w4 ⟨A4, u, ds, rfl, hu, ⟨hr4, hf4, _, _, hb4⟩, hv4⟩
  have dlt : val 4294967296 ds < 4294967296 ^ n := by rw [← hr4.1]; exact val_lt hf4
  obtain ⟨rfl, hds⟩ := rest_one (c := k) (c' := u) (z := val 4294967296 ds) (z' := val 4294967296 la) (by have := HV2.out; omega) dlt HXL.out
  obtain rfl : ds = la := val_inj hf4 hf (hr4.1.trans HR.out.1.symm) hds
  have B4 := below_then B3 hb4
  have HR24 := Lib.hid (HR23.out.below hb4)
  have HR34 := Lib.hid (HR3.out.below hb4)
  have HR4 := Lib.hid hr4
  clear hr4 hv4 hb4 dlt hds hu B3 HR23 HR3
  go_wp2_with fail
  refine (Bytes_okz A n cap ds S _ HS2.out w4 (HR.out.below B4) hf OK.out.1 OK.out.2 hSb (by rw [HS.out, pow256_32]; exact HXL.out)).mono ?_
  rintro e w5 ⟨g5, rfl, hk5, hb5⟩
  have B5 := below_then B4 hb5
  have HR25 := Lib.hid (HR24.out.below hb5)
  have HR35 := Lib.hid (HR34.out.below hb5)
  have HR45 := Lib.hid (HR4.out.below hb5)
  have HP5 := Lib.hid (hk5.rd S (bytesOf_length _ _))
  clear hk5 hb5 B4 HR24 HR34 HR4
  have hvb : vbe (bytesOf S (val 4294967296 ds)) = val 4294967296 ds := bytesOf_val (by rw [HS.out, pow256_32]; exact HXL.out)
  have HVB := Lib.hid hvb
  clear hvb
  go_wp2_with fail
  refine (From_okz (some ⟨g5, 0, none⟩) S S _ n _ rfl w5 HP5.out (bytesOf_fit _ _) (Nat.le_refl _) (by unfold maxLen; omega) (by omega) OK.out.1 OK.out.2 (by rw [HVB.out]; exact HXL.out)).mono ?_
  rintro e w6 ⟨A6, ns, rfl, ⟨hr6, hf6, _, _, hb6⟩, hv6⟩
  rw [HVB.out] at hv6
  obtain rfl : ns = ds := val_inj hf6 hf (hr6.1.trans HR.out.1.symm) hv6
  have B6 := below_then B5 hb6
  have HR26 := Lib.hid (HR25.out.below hb6)
  have HR36 := Lib.hid (HR35.out.below hb6)
  have HR46 := Lib.hid (HR45.out.below hb6)
  have HR6 := Lib.hid hr6
  have HRA := Lib.hid (HR.out.below B6)
  clear hr6 hv6 hb6 B5 HR25 HR35 HR45 HP5 HVB
  have loop : ∀ b : Bool, (k == 1) = b → True := fun _ _ => trivial
  clear loop
  obtain ⟨bk, hbk⟩ : ∃ bk : Bool, (k == 1) = bk := ⟨_, rfl⟩
  rw [hbk]
  clear hbk
  cases bk
  all_goals
    go_wp2
    go_loopw [124] (fun i wr => ∃ j : Nat, j ≤ n ∧ i = .int .i64 (j : Int) ∧ Below w6.heap.size w6 wr) (fun i _ => n - (intOf i).toNat)
    case atStart => exact ⟨0, by omega, rfl, below_self⟩
    case round =>
      obtain ⟨j, hj, rfl, hbe⟩ := hrel
      by_cases hjn : j < n
      · obtain ⟨ad0, x, rfl, hx, hc0⟩ := (HRA.out.below hbe).get (j := j) hjn
        obtain ⟨ad2, y, rfl, hy, hc2⟩ := (HR26.out.below hbe).get (j := j) hjn
        obtain ⟨ad3, y3, rfl, hy3, hc3⟩ := (HR36.out.below hbe).get (j := j) hjn
        obtain ⟨ad4, x4, rfl, hx4, hc4⟩ := (HR46.out.below hbe).get (j := j) hjn
        obtain ⟨ad6, x6, rfl, hx6, hc6⟩ := (HR6.out.below hbe).get (j := j) hjn
        obtain rfl : y3 = y := by rw [hy] at hy3; injection hy3 with e; exact e.symm
        obtain rfl : x4 = x := by rw [hx] at hx4; injection hx4 with e; exact e.symm
        obtain rfl : x6 = x4 := by rw [hx] at hx6; injection hx6 with e; exact e.symm
        clear hx hy hy3 hx4 hx6
        go_wp2
        go_quiet (fail)
        go_wp2
        go_roundw
        case rel => exact ⟨j + 1, by omega, by go_num, below_drewN hbe _⟩
        case measure => simp [intOf]; omega
      · go_wp2
        go_ret
        exact ⟨rfl, below_then B6 hbe⟩

theorem walk (A : Option Addr) (n cap : Nat) (la : List Nat) (A' : Option Addr) (n' cap' : Nat) (lb : List Nat) (w : World) (g : Rd .u32 w A n la) (hf : Fit 4294967296 la) (hc : n ≤ cap) (hm : cap ≤ maxLen) (g' : Rd .u32 w A' n' lb) (hf' : Fit 4294967296 lb) (hc' : n' ≤ cap') (hm' : cap' ≤ maxLen) :
    Calls Tryd.prog 7 #[.slice A n cap, .slice A' n' cap'] w fun e w' => e = .returned (.bool true) ∧ Below w.heap.size w w' := by
  cases q1 : okW n with
  | false => exact walk_no A n cap A' n' cap' w (.inl q1)
  | true =>
    cases q2 : okW n' with
    | false => exact walk_no A n cap A' n' cap' w (.inr (.inl ⟨q1, q2⟩))
    | true =>
      by_cases he : n = n'
      · subst he
        exact walk_yes A n cap la A' cap' lb w g hf g' hf' q1
      · exact walk_no A n cap A' n' cap' w (.inr (.inr ⟨q1, q2, he⟩))

-- THE ROW's STEP
set_option maxRecDepth 100000 in
theorem lifted (os : Os) (started : os.Started) (H : Type) (enc : TypeId × Value → H) :
    ReturnsInHanded {} Tryd.checked os 7 .any (fun w args => (Rows.limbsBackSpec.pre enc Tryd.prog Tryd.f7 [] false w args ∧ laidMetH Tryd.prog listed w) ∧ sizedMet enc Tryd.prog Tryd.f7 (OpenSpec.ofChange Rows.limbsBackSpec) false w args)
      (Rows.limbsBackSpec.post enc Tryd.prog Tryd.f7 false true false false) := by
  refine returnsInHanded_of_change_and (C := Tryd.checked) (X := fun w _ => laidMetH Tryd.prog listed w) (fun _ _ _ hh h => h.of_heap hh) own started (by kernel_rfl) Tryd.func7
    (ChangeSpec.witness_shaped (enc := enc) (C := Tryd.checked) (os := os) (X := fun w _ => laidMetH Tryd.prog listed w) false (World.laidAll Tryd.prog os listed) #[.slice none 0 0, .slice none 0 0] 8 (World.laidAll_os _ _ _)
      (World.shaped_of_ZipB (by kernel_rfl) (by kernel_rfl)) (by kernel_rfl) (by kernel_rfl) (by kernel_rfl)
      (by rw [MakeChecks.laidMetH_plain _ _ _ (by kernel_rfl)]; exact laidMet_laidAll _ (by kernel_rfl) (by kernel_rfl))) ?_
  intro W base args ds gs before hval0 hW _ _ hL _
  have hval : ∀ (j : Nat) t v, Tryd.f7.params[j]? = some t → args[j]? = some v → Value.okWide Tryd.prog W .any base t v := hval0
  have hW' := hW
  obtain ⟨p, q, hA0, hV, rfl, hfz, hnd⟩ := hW
  have hA : DataW.TrodAll enc Tryd.prog W 0 (fun _ => true) true Tryd.f7.params.toList args.toList ds p := hA0
  rw [Tryd.params7] at hA hval
  obtain ⟨v0, vs0, d0, ds0, p0, q0, hargs, rfl, rfl, h0, r0⟩ := trodAll_cons hA
  obtain ⟨v1, vs1, d1, ds1, p1, q1, rfl, rfl, rfl, h1, r1⟩ := trodAll_cons r0
  obtain ⟨rfl, rfl, rfl⟩ := trodAll_nil r1
  obtain rfl : args = #[v0, v1] := by cases args; simp_all
  obtain ⟨rfl, rfl⟩ := trodVars_none hV
  have k0 := h0
  have lt0 : ∀ x ∈ p0, x.block < W.heap.size := by obtain ⟨m, hm⟩ := k0; exact DataW.trod_lt m _ _ _ hm
  obtain ⟨fuel0, hf0⟩ := h0
  obtain ⟨a0, len0, cap0, l0, e0, g0, hlc0, hcm0, hnil0⟩ := limbs_of_trod hf0
  obtain ⟨b0, lb0, cb0, hv0⟩ := okWide_slice Tryd.underlying24 (hval 0 24 v0 rfl rfl)
  have ev0 : v0 = .slice a0 len0 cap0 := by rw [hv0] at e0 ⊢; simpa [Value.cells] using e0
  subst ev0
  have k1 := h1
  have lt1 : ∀ x ∈ p1, x.block < W.heap.size := by obtain ⟨m, hm⟩ := k1; exact DataW.trod_lt m _ _ _ hm
  obtain ⟨fuel1, hf1⟩ := h1
  obtain ⟨a1, len1, cap1, l1, e1, g1, hlc1, hcm1, hnil1⟩ := limbs_of_trod hf1
  obtain ⟨b1, lb1, cb1, hv1⟩ := okWide_slice Tryd.underlying24 (hval 1 24 v1 rfl rfl)
  have ev1 : v1 = .slice a1 len1 cap1 := by rw [hv1] at e1 ⊢; simpa [Value.cells] using e1
  subst ev1
  clear hA0 hval0
  refine (walk a0 len0 cap0 l0 a1 len1 cap1 l1 W g0.1 g0.2 hlc0 hcm0 g1.1 g1.2 hlc1 hcm1).mono fun e W' ⟨he, bel⟩ => ?_
  subst he
  exact ⟨_, rfl, _, _, _, [], _, [], hW', trodAll_mk1 (shut_bool Tryd.underlying4 _), (trodAll_cons_mk (Below.trod laidOut (by kernel_rfl) (of_decide_eq_true (by kernel_rfl)) k0 bel lt0) (trodAll_cons_mk (Below.trod laidOut (by kernel_rfl) (of_decide_eq_true (by kernel_rfl)) k1 bel lt1) trodAll_mk0)), rfl, bel.frame _, fun h => by cases h⟩

theorem row_holds : Rows.LimbsBackSaid :=
  OpenClaim.holds_of_wide 7 Tryd.f7 rfl rfl rfl rfl rfl rfl rfl ⟨rfl, rfl, rfl, rfl, rfl⟩ rfl rfl rfl rfl rfl (by kernel_rfl) Tryd.func7 (by kernel_rfl)
    (of_decide_eq_true (by kernel_rfl)) (by unfold Func.isWrapper; first | (rw [if_pos (by decide +kernel)]; kernel_rfl) | (rw [if_neg (by decide +kernel)]; exact ⟨rfl, rfl⟩))
    (fun os started H enc _ => lifted os started H enc)

theorem proved : Rows.LimbsBackCardSaid :=
  Claim7.holds_tied_plain_at .later [] [.data, .pinned] true Rows.limbsBackCard.stood.harness false
    row_holds (fun _ h => by cases h) (by kernel_rfl) (fun _ h => by cases h) limbsBack_row_tie rfl ⟨rfl, rfl⟩ (by kernel_rfl) rfl
    (fun f fn hf hfn => by
      obtain rfl : f = 7 := Option.some.inj ((show Tryd.prog.funcNamed Tryd.f7.name = some 7 by kernel_rfl).symm.trans hf) |>.symm
      obtain rfl : fn = Tryd.f7 := (Option.some.inj (Tryd.func7.symm.trans hfn)).symm
      exact ⟨by kernel_rfl, fun j t ht => by
        rw [Tryd.params7] at ht
        have hm : t ∈ [24, 24] := by simpa using Array.mem_of_getElem? ht
        have hall : ([24, 24].all fun u => !Tryd.prog.wantsStandIn u) = true := by kernel_rfl
        exact (show Tryd.prog.wantsStandIn t = false by simpa using List.all_eq_true.1 hall t hm)⟩)
    (by kernel_rfl)
end Go.Proofs.YtbajckbjjepceaaDoor.limbsBack
