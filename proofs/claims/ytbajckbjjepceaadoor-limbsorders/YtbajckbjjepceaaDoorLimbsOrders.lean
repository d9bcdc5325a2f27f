/-
  For every two numbers in limbs LimbsOrders returns true. No condition but that two tables of Go's library, which the call does not read, hold what their text lays there.
-/
import Derived.Test.YtbajckbjjepceaaDoorLaw2
import Derived.Test.YtbajckbjjepceaaDoorTie
import Derived.Test.YtbajckbjjepceaaDoorCards
namespace Go.Proofs.YtbajckbjjepceaaDoor.limbsOrders
open Go.Proofs.YtbajckbjjepceaaDoor Go.ChangeShapes Go.WideShapes Go.ChangeAt Go.RowKit
set_option linter.unusedVariables false
set_option linter.unusedSimpArgs false

set_option maxHeartbeats 1000000 in
theorem walk_long (A : Option Addr) (n cap : Nat) (A' : Option Addr) (n' cap' : Nat) (w : World) (hl : 300 < n ∨ (n ≤ 300 ∧ 300 < n')) :
    Calls Tryd.prog 6 #[.slice A n cap, .slice A' n' cap'] w fun e w' => e = .returned (.bool true) ∧ Below w.heap.size w w' := by
  rcases hl with h | ⟨h1, h⟩
  all_goals
    have h2 := Int.ofNat_lt.2 h
    go_enter Tryd.func6, Tryd.ntmps6
    go_wp2_with fail
    refine (anchor_any _).mono ?_
    rintro e w1 ⟨rfl, hb1⟩
    go_wp2
    go_ret
    exact ⟨rfl, hb1⟩

set_option maxHeartbeats 1000000 in
theorem walk_no1 (A : Option Addr) (n cap : Nat) (A' : Option Addr) (n' cap' : Nat) (w : World) (h1 : n ≤ 300) (h2 : n' ≤ 300) (h : okW n = false) :
    Calls Tryd.prog 6 #[.slice A n cap, .slice A' n' cap'] w fun e w' => e = .returned (.bool true) ∧ Below w.heap.size w w' := by
  go_enter Tryd.func6, Tryd.ntmps6
  go_wp2_with fail
  refine (anchor_any _).mono ?_
  rintro e w1 ⟨rfl, hb1⟩
  go_wp2_with fail
  refine (Compare_no A A' n cap n' cap' w1 (by rw [h]; rfl)).mono ?_
  rintro e w2 ⟨rfl, hb2⟩
  go_wp2_with fail
  refine (Bits_no A n cap w2 h).mono ?_
  rintro e w3 ⟨rfl, hb3⟩
  go_wp2_with (first | (go_at_call 16; refine (right_any _ _ _ _).mono ?_; rintro e w' ⟨rfl, rfl⟩))
  go_ret
  exact ⟨rfl, below_then (below_then hb1 hb2) hb3⟩

set_option maxHeartbeats 1000000 in
theorem walk_no2 (A : Option Addr) (n cap : Nat) (la : List Nat) (A' : Option Addr) (n' cap' : Nat) (w : World) (g : Rd .u32 w A n la) (hf : Fit 4294967296 la) (h1 : n ≤ 300) (h2 : n' ≤ 300) (h : okW n = true) (h' : okW n' = false) :
    Calls Tryd.prog 6 #[.slice A n cap, .slice A' n' cap'] w fun e w' => e = .returned (.bool true) ∧ Below w.heap.size w w' := by
  have HR := Lib.hid g
  have ok := okW_of h
  have OK := Lib.hid ok
  clear g ok
  go_enter Tryd.func6, Tryd.ntmps6
  go_wp2_with fail
  refine (anchor_any _).mono ?_
  rintro e w1 ⟨rfl, hb1⟩
  go_wp2_with fail
  refine (Compare_no A A' n cap n' cap' w1 (by rw [h, h']; rfl)).mono ?_
  rintro e w2 ⟨rfl, hb2⟩
  have B2 := below_then hb1 hb2
  clear hb2
  go_wp2_with fail
  refine (Bits_ok A n cap la w2 (HR.out.below B2) hf OK.out.1 OK.out.2).mono ?_
  rintro e w3 ⟨rfl, hb3⟩
  have B3 := below_then B2 hb3
  clear hb3 B2
  go_wp2_with (first | (go_at_call 16; refine (right_any _ _ _ _).mono ?_; rintro e w' ⟨rfl, rfl⟩) | fail)
  refine (Digits_any A n cap la w3 (HR.out.below B3) hf (by omega)).mono ?_
  rintro e w4 ⟨A4, m4, c4, rfl, hr4, _, _, hb4⟩
  have HR4 := Lib.hid hr4
  have m4b : m4 ≤ 1200 := by rw [← hr4.1]; have := digs_le hf HR.out.1; omega
  clear hr4
  go_wp2_with fail
  refine (RefBits_any A4 m4 c4 _ w4 HR4.out (digs_fit _) (digs_tight _) (by omega)).mono ?_
  rintro e w5 ⟨rfl, rfl⟩
  rw [digs_val]
  generalize bitlen (val 4294967296 la) = q
  go_wp2_with (first | (go_at_call 16; refine (right_any _ _ _ _).mono ?_; rintro e w' ⟨rfl, rfl⟩))
  go_ret
  exact ⟨rfl, below_then B3 hb4⟩

set_option maxHeartbeats 2000000 in
theorem walk_yes (A : Option Addr) (n cap : Nat) (la : List Nat) (A' : Option Addr) (n' cap' : Nat) (lb : List Nat) (w : World) (g : Rd .u32 w A n la) (hf : Fit 4294967296 la) (g' : Rd .u32 w A' n' lb) (hf' : Fit 4294967296 lb) (h1 : n ≤ 300) (h2 : n' ≤ 300) (h : okW n = true) (h' : okW n' = true) :
    Calls Tryd.prog 6 #[.slice A n cap, .slice A' n' cap'] w fun e w' => e = .returned (.bool true) ∧ Below w.heap.size w w' := by
  have HR := Lib.hid g
  have HR' := Lib.hid g'
  have OK := Lib.hid (okW_of h)
  have OK' := Lib.hid (okW_of h')
  clear g g'
  obtain ⟨o, ho⟩ : ∃ o, o = ord (val 4294967296 la) (val 4294967296 lb) := ⟨_, rfl⟩
  have ho2 : ord (val 4294967296 lb) (val 4294967296 la) = -o := by rw [ho, ord_swap]
  have ho3 : -1 ≤ o ∧ o ≤ 1 := by rw [ho]; unfold ord; split <;> (try split) <;> omega
  have HO := Lib.hid ho
  have HO2 := Lib.hid ho2
  have ho4 := ho3.1
  have ho5 := ho3.2
  clear ho ho2 ho3
  go_enter Tryd.func6, Tryd.ntmps6
  go_wp2_with fail
  refine (anchor_any _).mono ?_
  rintro e w1 ⟨rfl, hb1⟩
  go_wp2_with fail
  refine (Compare_ok A A' n cap n' cap' la lb w1 (HR.out.below hb1) (HR'.out.below hb1) hf hf' OK.out.1 OK.out.2 OK'.out.1 OK'.out.2).mono ?_
  rintro e w2 ⟨rfl, hb2⟩
  rw [← HO.out]
  have B2 := below_then hb1 hb2
  clear hb2
  go_wp2_with fail
  refine (Bits_ok A n cap la w2 (HR.out.below B2) hf OK.out.1 OK.out.2).mono ?_
  rintro e w3 ⟨rfl, hb3⟩
  have B3 := below_then B2 hb3
  clear hb3 B2
  go_wp2_with (first | (go_at_call 16; refine (right_any _ _ _ _).mono ?_; rintro e w' ⟨rfl, rfl⟩) | fail)
  refine (Digits_any A n cap la w3 (HR.out.below B3) hf (by omega)).mono ?_
  rintro e w4 ⟨A4, m4, c4, rfl, hr4, _, _, hb4⟩
  have HR4 := Lib.hid hr4
  have m4b : m4 ≤ 1200 := by rw [← hr4.1]; have := digs_le hf HR.out.1; omega
  clear hr4
  go_wp2_with fail
  refine (RefBits_any A4 m4 c4 _ w4 HR4.out (digs_fit _) (digs_tight _) (by omega)).mono ?_
  rintro e w5 ⟨rfl, rfl⟩
  rw [digs_val]
  have B4 := below_then B3 hb4
  clear hb4 B3
  generalize bitlen (val 4294967296 la) = q
  go_wp2_with (first | (go_at_call 16; refine (right_any _ _ _ _).mono ?_; rintro e w' ⟨rfl, rfl⟩) | fail)
  refine (Digits_any A' n' cap' lb w4 (HR'.out.below B4) hf' (by omega)).mono ?_
  rintro e w6 ⟨A6, m6, c6, rfl, hr6, _, _, hb6⟩
  have HR6 := Lib.hid hr6
  have m6b : m6 ≤ 1200 := by rw [← hr6.1]; have := digs_le hf' HR'.out.1; omega
  have HR46 := Lib.hid (HR4.out.below hb6)
  have B6 := below_then B4 hb6
  clear hr6 hb6 B4
  go_wp2_with fail
  refine (RefCompare_any A4 A6 m4 c4 m6 c6 _ _ w6 HR46.out HR6.out (digs_fit _) (digs_fit _) (digs_tight _) (digs_tight _) (by omega) (by omega)).mono ?_
  rintro e w7 ⟨rfl, hb7⟩
  rw [digs_val, digs_val, ← HO.out]
  have B7 := below_then B6 hb7
  clear hb7 B6
  go_wp2_with fail
  refine (Compare_ok A' A n' cap' n cap lb la w7 (HR'.out.below B7) (HR.out.below B7) hf' hf OK'.out.1 OK'.out.2 OK.out.1 OK.out.2).mono ?_
  rintro e w8 ⟨rfl, hb8⟩
  rw [HO2.out]
  go_wp2
  go_ret
  exact ⟨rfl, below_then B7 hb8⟩

theorem walk (A : Option Addr) (n cap : Nat) (la : List Nat) (A' : Option Addr) (n' cap' : Nat) (lb : List Nat) (w : World) (g : Rd .u32 w A n la) (hf : Fit 4294967296 la) (hc : n ≤ cap) (hm : cap ≤ maxLen) (g' : Rd .u32 w A' n' lb) (hf' : Fit 4294967296 lb) (hc' : n' ≤ cap') (hm' : cap' ≤ maxLen) :
    Calls Tryd.prog 6 #[.slice A n cap, .slice A' n' cap'] w fun e w' => e = .returned (.bool true) ∧ Below w.heap.size w w' := by
  by_cases h1 : 300 < n
  · exact walk_long A n cap A' n' cap' w (.inl h1)
  · by_cases h2 : 300 < n'
    · exact walk_long A n cap A' n' cap' w (.inr ⟨by omega, h2⟩)
    · cases q1 : okW n with
      | false => exact walk_no1 A n cap A' n' cap' w (by omega) (by omega) q1
      | true =>
        cases q2 : okW n' with
        | false => exact walk_no2 A n cap la A' n' cap' w g hf (by omega) (by omega) q1 q2
        | true => exact walk_yes A n cap la A' n' cap' lb w g hf g' hf' (by omega) (by omega) q1 q2

-- THE ROW's STEP
set_option maxRecDepth 100000 in
theorem lifted (os : Os) (started : os.Started) (H : Type) (enc : TypeId × Value → H) :
    ReturnsInHanded {} Tryd.checked os 6 .any (fun w args => (Rows.limbsOrdersSpec.pre enc Tryd.prog Tryd.f6 [] false w args ∧ laidMetH Tryd.prog listed w) ∧ sizedMet enc Tryd.prog Tryd.f6 (OpenSpec.ofChange Rows.limbsOrdersSpec) false w args)
      (Rows.limbsOrdersSpec.post enc Tryd.prog Tryd.f6 false true false false) := by
  refine returnsInHanded_of_change_and (C := Tryd.checked) (X := fun w _ => laidMetH Tryd.prog listed w) (fun _ _ _ hh h => h.of_heap hh) own started (by kernel_rfl) Tryd.func6
    (ChangeSpec.witness_shaped (enc := enc) (C := Tryd.checked) (os := os) (X := fun w _ => laidMetH Tryd.prog listed w) false (World.laidAll Tryd.prog os listed) #[.slice none 0 0, .slice none 0 0] 8 (World.laidAll_os _ _ _)
      (World.shaped_of_ZipB (by kernel_rfl) (by kernel_rfl)) (by kernel_rfl) (by kernel_rfl) (by kernel_rfl)
      (by rw [MakeChecks.laidMetH_plain _ _ _ (by kernel_rfl)]; exact laidMet_laidAll _ (by kernel_rfl) (by kernel_rfl))) ?_
  intro W base args ds gs before hval0 hW _ _ hL _
  have hval : ∀ (j : Nat) t v, Tryd.f6.params[j]? = some t → args[j]? = some v → Value.okWide Tryd.prog W .any base t v := hval0
  have hW' := hW
  obtain ⟨p, q, hA0, hV, rfl, hfz, hnd⟩ := hW
  have hA : DataW.TrodAll enc Tryd.prog W 0 (fun _ => true) true Tryd.f6.params.toList args.toList ds p := hA0
  rw [Tryd.params6] at hA hval
  obtain ⟨v0, vs0, d0, ds0, p0, q0, hargs, rfl, rfl, h0, r0⟩ := trodAll_cons hA
  obtain ⟨v1, vs1, d1, ds1, p1, q1, rfl, rfl, rfl, h1, r1⟩ := trodAll_cons r0
  obtain ⟨rfl, rfl, rfl⟩ := trodAll_nil r1
  obtain rfl : args = #[v0, v1] := by cases args; simp_all
  obtain ⟨rfl, rfl⟩ := trodVars_none hV
  have k0 := h0
  have lt0 : ∀ x ∈ p0, x.block < W.heap.size := by obtain ⟨m, hm⟩ := k0; exact DataW.trod_lt m _ _ _ hm
  obtain ⟨fuel0, hf0⟩ := h0
  obtain ⟨a0, len0, cap0, l0, e0, g0, hlc0, hcm0, hnil0⟩ := limbs_of_trod hf0
  obtain ⟨b0, lb0, cb0, hv0⟩ := okWide_slice Tryd.underlying24 (hval 0 24 v0 rfl rfl)
  have ev0 : v0 = .slice a0 len0 cap0 := by rw [hv0] at e0 ⊢; simpa [Value.cells] using e0
  subst ev0
  have k1 := h1
  have lt1 : ∀ x ∈ p1, x.block < W.heap.size := by obtain ⟨m, hm⟩ := k1; exact DataW.trod_lt m _ _ _ hm
  obtain ⟨fuel1, hf1⟩ := h1
  obtain ⟨a1, len1, cap1, l1, e1, g1, hlc1, hcm1, hnil1⟩ := limbs_of_trod hf1
  obtain ⟨b1, lb1, cb1, hv1⟩ := okWide_slice Tryd.underlying24 (hval 1 24 v1 rfl rfl)
  have ev1 : v1 = .slice a1 len1 cap1 := by rw [hv1] at e1 ⊢; simpa [Value.cells] using e1
  subst ev1
  clear hA0 hval0
  refine (walk a0 len0 cap0 l0 a1 len1 cap1 l1 W g0.1 g0.2 hlc0 hcm0 g1.1 g1.2 hlc1 hcm1).mono fun e W' ⟨he, bel⟩ => ?_
  subst he
  exact ⟨_, rfl, _, _, _, [], _, [], hW', trodAll_mk1 (shut_bool Tryd.underlying4 _), (trodAll_cons_mk (Below.trod laidOut (by kernel_rfl) (of_decide_eq_true (by kernel_rfl)) k0 bel lt0) (trodAll_cons_mk (Below.trod laidOut (by kernel_rfl) (of_decide_eq_true (by kernel_rfl)) k1 bel lt1) trodAll_mk0)), rfl, bel.frame _, fun h => by cases h⟩

theorem row_holds : Rows.LimbsOrdersSaid :=
  OpenClaim.holds_of_wide 6 Tryd.f6 rfl rfl rfl rfl rfl rfl rfl ⟨rfl, rfl, rfl, rfl, rfl⟩ rfl rfl rfl rfl rfl (by kernel_rfl) Tryd.func6 (by kernel_rfl)
    (of_decide_eq_true (by kernel_rfl)) (by unfold Func.isWrapper; first | (rw [if_pos (by decide +kernel)]; kernel_rfl) | (rw [if_neg (by decide +kernel)]; exact ⟨rfl, rfl⟩))
    (fun os started H enc _ => lifted os started H enc)

theorem proved : Rows.LimbsOrdersCardSaid :=
  Claim7.holds_tied_plain_at .later [] [.data, .pinned] true Rows.limbsOrdersCard.stood.harness false
    row_holds (fun _ h => by cases h) (by kernel_rfl) (fun _ h => by cases h) limbsOrders_row_tie rfl ⟨rfl, rfl⟩ (by kernel_rfl) rfl
    (fun f fn hf hfn => by
      obtain rfl : f = 6 := Option.some.inj ((show Tryd.prog.funcNamed Tryd.f6.name = some 6 by kernel_rfl).symm.trans hf) |>.symm
      obtain rfl : fn = Tryd.f6 := (Option.some.inj (Tryd.func6.symm.trans hfn)).symm
      exact ⟨by kernel_rfl, fun j t ht => by
        rw [Tryd.params6] at ht
        have hm : t ∈ [24, 24] := by simpa using Array.mem_of_getElem? ht
        have hall : ([24, 24].all fun u => !Tryd.prog.wantsStandIn u) = true := by kernel_rfl
        exact (show Tryd.prog.wantsStandIn t = false by simpa using List.all_eq_true.1 hall t hm)⟩)
    (by kernel_rfl)
end Go.Proofs.YtbajckbjjepceaaDoor.limbsOrders
