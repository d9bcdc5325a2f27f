/-
  For every text of bytes and every two numbers LimbsWidths returns true. No condition but that two tables of Go's library, which the call does not read, hold what their text lays there.
-/
import Derived.Test.YtbajckbjjepceaaDoorLaw3
import Derived.Test.YtbajckbjjepceaaDoorTie
import Derived.Test.YtbajckbjjepceaaDoorCards
namespace Go.Proofs.YtbajckbjjepceaaDoor.limbsWidths
open Go.Proofs.YtbajckbjjepceaaDoor Go.ChangeShapes Go.WideShapes Go.ChangeAt Go.RowKit
set_option linter.unusedVariables false
set_option linter.unusedSimpArgs false

set_option maxHeartbeats 2000000 in
theorem walk_out (A : Option Addr) (n cap : Nat) (a b : Int) (w : World)
    (h : 1000 < n ∨ (n ≤ 1000 ∧ a < 1) ∨ (n ≤ 1000 ∧ 1 ≤ a ∧ 256 < a) ∨ (n ≤ 1000 ∧ 1 ≤ a ∧ a ≤ 256 ∧ b < 0) ∨ (n ≤ 1000 ∧ 1 ≤ a ∧ a ≤ 256 ∧ 0 ≤ b ∧ 256 - a < b)) :
    Calls Tryd.prog 10 #[.slice A n cap, .int .i64 a, .int .i64 b] w fun e w' => e = .returned (.bool true) ∧ Below w.heap.size w w' := by
  rcases h with h | ⟨h0, h⟩ | ⟨h0, h1, h⟩ | ⟨h0, h1, h2, h⟩ | ⟨h0, h1, h2, h3, h⟩
  · have h2 : (1000 : Int) < n := by omega
    go_enter Tryd.func10, Tryd.ntmps10
    go_wp2_with fail
    refine (anchor_any _).mono ?_
    rintro e w1 ⟨rfl, hb1⟩
    go_wp2
    go_ret
    exact ⟨rfl, hb1⟩
  all_goals
    go_enter Tryd.func10, Tryd.ntmps10
    go_wp2_with fail
    refine (anchor_any _).mono ?_
    rintro e w1 ⟨rfl, hb1⟩
    go_wp2
    go_ret
    exact ⟨rfl, hb1⟩

set_option maxHeartbeats 2000000 in
theorem walk_big (A : Option Addr) (n cap : Nat) (l : List Nat) (W M : Nat) (w : World) (g : Rd .u8 w A n l) (hf : Fit 256 l) (hc : n ≤ cap) (hm : cap ≤ maxLen) (h0 : n ≤ 1000) (h1 : 1 ≤ W) (h2 : W + M ≤ 256) (hb : 4294967296 ^ W ≤ vbe l) :
    Calls Tryd.prog 10 #[.slice A n cap, .int .i64 (W : Int), .int .i64 (M : Int)] w fun e w' => e = .returned (.bool true) ∧ Below w.heap.size w w' := by
  have HR := Lib.hid g
  have HM := Lib.hid hm
  have HB := Lib.hid hb
  have i1 : (1 : Int) ≤ W := by omega
  have i2 : (W : Int) ≤ 256 := by omega
  have i3 : (M : Int) ≤ 256 - W := by omega
  clear g hm hb
  rcases Nat.lt_or_ge (vbe l) (4294967296 ^ (W + M)) with hx | hx
  · have HX := Lib.hid hx
    clear hx
    go_enter Tryd.func10, Tryd.ntmps10
    go_wp2_with fail
    refine (anchor_any _).mono ?_
    rintro e w1 ⟨rfl, hb1⟩
    go_wp2_with fail
    refine (From_bigz A n cap l W _ rfl w1 (HR.out.below hb1) hf hc HM.out (by omega) h1 (by omega) HB.out).mono ?_
    rintro e w2 ⟨rfl, rfl⟩
    go_wp2_with fail
    refine (From_okz A n cap l (W + M) _ (by omega) w1 (HR.out.below hb1) hf hc HM.out (by omega) (by omega) (by omega) HX.out).mono ?_
    rintro e w2 ⟨A2, ys, rfl, ⟨_, _, _, _, hb2⟩, _⟩
    go_wp2
    go_ret
    exact ⟨rfl, below_then hb1 hb2⟩
  · have HX := Lib.hid hx
    clear hx
    go_enter Tryd.func10, Tryd.ntmps10
    go_wp2_with fail
    refine (anchor_any _).mono ?_
    rintro e w1 ⟨rfl, hb1⟩
    go_wp2_with fail
    refine (From_bigz A n cap l W _ rfl w1 (HR.out.below hb1) hf hc HM.out (by omega) h1 (by omega) HB.out).mono ?_
    rintro e w2 ⟨rfl, rfl⟩
    go_wp2_with fail
    refine (From_bigz A n cap l (W + M) _ (by omega) w1 (HR.out.below hb1) hf hc HM.out (by omega) (by omega) (by omega) HX.out).mono ?_
    rintro e w2 ⟨rfl, rfl⟩
    go_wp2
    go_ret
    exact ⟨rfl, hb1⟩

set_option maxHeartbeats 4000000 in
theorem walk_yes (A : Option Addr) (n cap : Nat) (l : List Nat) (W M : Nat) (w : World) (g : Rd .u8 w A n l) (hf : Fit 256 l) (hc : n ≤ cap) (hm : cap ≤ maxLen) (h0 : n ≤ 1000) (h1 : 1 ≤ W) (h2 : W + M ≤ 256) (hb : vbe l < 4294967296 ^ W) :
    Calls Tryd.prog 10 #[.slice A n cap, .int .i64 (W : Int), .int .i64 (M : Int)] w fun e w' => e = .returned (.bool true) ∧ Below w.heap.size w w' := by
  have HR := Lib.hid g
  have HM := Lib.hid hm
  have HB := Lib.hid hb
  have i1 : (1 : Int) ≤ W := by omega
  have i2 : (W : Int) ≤ 256 := by omega
  have i3 : (M : Int) ≤ 256 - W := by omega
  have hx : vbe l < 4294967296 ^ (W + M) := Nat.lt_of_lt_of_le hb (Nat.pow_le_pow_right (by omega) (by omega))
  have HX := Lib.hid hx
  obtain ⟨V, hV⟩ : ∃ V, V = W + M := ⟨_, rfl⟩
  have HV := Lib.hid hV
  have hV2 : (W : Int) + M = V := by omega
  obtain ⟨S, hS⟩ : ∃ S, S = 4 * W := ⟨_, rfl⟩
  have HS := Lib.hid hS
  have hS2 : 4 * (W : Int) = S := by omega
  have hVb : V ≤ 256 := by omega
  have hSb : S ≤ 1024 := by omega
  have HS2 := Lib.hid hS2
  have HV2 := Lib.hid hV2
  clear g hm hb hx hV hS hS2 hV2
  go_enter Tryd.func10, Tryd.ntmps10
  go_wp2_with fail
  refine (anchor_any _).mono ?_
  rintro e w1 ⟨rfl, hb1⟩
  go_wp2_with fail
  refine (From_okz A n cap l W _ rfl w1 (HR.out.below hb1) hf hc HM.out (by omega) h1 (by omega) HB.out).mono ?_
  rintro e w2 ⟨A2, xs, rfl, ⟨hr2, hf2, _, _, hb2⟩, hv2⟩
  have B2 := below_then hb1 hb2
  have HR2 := Lib.hid hr2
  have HXS := Lib.hid hv2
  clear hr2 hv2 hb2
  go_wp2_with fail
  refine (From_okz A n cap l V _ HV2.out w2 (HR.out.below B2) hf hc HM.out (by omega) (by have := HV.out; omega) hVb (by rw [HV.out]; exact HX.out)).mono ?_
  rintro e w3 ⟨A3, ys, rfl, ⟨hr3, hf3, _, _, hb3⟩, hv3⟩
  have B3 := below_then B2 hb3
  have HR23 := Lib.hid (HR2.out.below hb3)
  have HR3 := Lib.hid hr3
  have hxy : val 4294967296 ys = val 4294967296 xs := hv3.trans HXS.out.symm
  have HXY := Lib.hid hxy
  have hroom : val 4294967296 xs < 256 ^ S := by rw [HXS.out, HS.out, pow256_32]; exact HB.out
  have HRM := Lib.hid hroom
  have hV1 : 1 ≤ V := by have := HV.out; omega
  clear hr3 hv3 hb3 B2 HR2 hxy hroom
  go_wp2_with fail
  refine (Bytes_okz A2 W W xs S _ HS2.out w3 HR23.out hf2 h1 (by omega) hSb HRM.out).mono ?_
  rintro e w4 ⟨g4, rfl, hk4, hb4⟩
  have B4 := below_then B3 hb4
  have HR24 := Lib.hid (HR23.out.below hb4)
  have HR34 := Lib.hid (HR3.out.below hb4)
  have HP4 := Lib.hid (hk4.rd S (bytesOf_length _ _))
  clear hk4 hb4 B3 HR23 HR3
  go_wp2_with fail
  refine (Bytes_okz A3 V V ys S _ HS2.out w4 HR34.out hf3 hV1 hVb hSb (by rw [HXY.out]; exact HRM.out)).mono ?_
  rintro e w5 ⟨g5, rfl, hk5, hb5⟩
  rw [HXY.out] at hk5
  have B5 := below_then B4 hb5
  have HR25 := Lib.hid (HR24.out.below hb5)
  have HR35 := Lib.hid (HR34.out.below hb5)
  have HP45 := Lib.hid (HP4.out.below hb5)
  have HP5 := Lib.hid (hk5.rd S (bytesOf_length _ _))
  clear hk5 hb5 B4 HR24 HR34 HP4
  go_wp2_with fail
  refine (Compare_ok A2 A3 W W V V xs ys w5 HR25.out HR35.out hf2 hf3 h1 (by omega) hV1 hVb).mono ?_
  rintro e w6 ⟨rfl, hb6⟩
  rw [HXY.out, ord_self]
  have B6 := below_then B5 hb6
  have HR26 := Lib.hid (HR25.out.below hb6)
  have HR36 := Lib.hid (HR35.out.below hb6)
  have HP46 := Lib.hid (HP45.out.below hb6)
  have HP56 := Lib.hid (HP5.out.below hb6)
  clear hb6 B5 HR25 HR35 HP45 HP5
  go_wp2_with fail
  refine (Bits_ok A2 W W xs w6 HR26.out hf2 h1 (by omega)).mono ?_
  rintro e w7 ⟨rfl, hb7⟩
  have B7 := below_then B6 hb7
  have HR37 := Lib.hid (HR36.out.below hb7)
  have HP47 := Lib.hid (HP46.out.below hb7)
  have HP57 := Lib.hid (HP56.out.below hb7)
  clear hb7 B6 HR26 HR36 HP46 HP56
  go_wp2_with fail
  refine (Bits_ok A3 V V ys w7 HR37.out hf3 hV1 hVb).mono ?_
  rintro e w8 ⟨rfl, hb8⟩
  rw [HXY.out]
  have B8 := below_then B7 hb8
  have c1 := rd_str (HP47.out.below hb8) S
  have c2 := rd_str (HP57.out.below hb8) S
  have hV2 := HV2.out
  generalize str (bytesOf S (val 4294967296 xs)) = T at c1 c2
  generalize bitlen (val 4294967296 xs) = q
  clear hb8 B7 HR37 HP47 HP57 HXS HRM HXY
  go_wp2
  go_ret
  exact ⟨rfl, B8⟩

theorem walk (A : Option Addr) (n cap : Nat) (l : List Nat) (a b : Int) (w : World) (g : Rd .u8 w A n l) (hf : Fit 256 l) (hc : n ≤ cap) (hm : cap ≤ maxLen) (wa : (Lit.int .i64 a).wf = true) (wb : (Lit.int .i64 b).wf = true) :
    Calls Tryd.prog 10 #[.slice A n cap, .int .i64 a, .int .i64 b] w fun e w' => e = .returned (.bool true) ∧ Below w.heap.size w w' := by
  by_cases h0 : 1000 < n
  · exact walk_out A n cap a b w (.inl h0)
  by_cases h1 : a < 1
  · exact walk_out A n cap a b w (.inr (.inl ⟨by omega, h1⟩))
  by_cases h2 : 256 < a
  · exact walk_out A n cap a b w (.inr (.inr (.inl ⟨by omega, by omega, h2⟩)))
  by_cases h3 : b < 0
  · exact walk_out A n cap a b w (.inr (.inr (.inr (.inl ⟨by omega, by omega, by omega, h3⟩))))
  by_cases h4 : 256 - a < b
  · exact walk_out A n cap a b w (.inr (.inr (.inr (.inr ⟨by omega, by omega, by omega, by omega, h4⟩))))
  obtain ⟨W, rfl⟩ : ∃ W : Nat, a = W := ⟨a.toNat, by omega⟩
  obtain ⟨M, rfl⟩ : ∃ M : Nat, b = M := ⟨b.toNat, by omega⟩
  rcases Nat.lt_or_ge (vbe l) (4294967296 ^ W) with hx | hx
  · exact walk_yes A n cap l W M w g hf hc hm (by omega) (by omega) (by omega) hx
  · exact walk_big A n cap l W M w g hf hc hm (by omega) (by omega) (by omega) hx

-- THE ROW's STEP
set_option maxRecDepth 100000 in
theorem lifted (os : Os) (started : os.Started) (H : Type) (enc : TypeId × Value → H) :
    ReturnsInHanded {} Tryd.checked os 10 .any (fun w args => (Rows.limbsWidthsSpec.pre enc Tryd.prog Tryd.f10 [] false w args ∧ laidMetH Tryd.prog listed w) ∧ sizedMet enc Tryd.prog Tryd.f10 (OpenSpec.ofChange Rows.limbsWidthsSpec) false w args)
      (Rows.limbsWidthsSpec.post enc Tryd.prog Tryd.f10 false true false false) := by
  refine returnsInHanded_of_change_and (C := Tryd.checked) (X := fun w _ => laidMetH Tryd.prog listed w) (fun _ _ _ hh h => h.of_heap hh) own started (by kernel_rfl) Tryd.func10
    (ChangeSpec.witness_shaped (enc := enc) (C := Tryd.checked) (os := os) (X := fun w _ => laidMetH Tryd.prog listed w) false (World.laidAll Tryd.prog os listed) #[.slice none 0 0, .int .i64 0, .int .i64 0] 8 (World.laidAll_os _ _ _)
      (World.shaped_of_ZipB (by kernel_rfl) (by kernel_rfl)) (by kernel_rfl) (by kernel_rfl) (by kernel_rfl)
      (by rw [MakeChecks.laidMetH_plain _ _ _ (by kernel_rfl)]; exact laidMet_laidAll _ (by kernel_rfl) (by kernel_rfl))) ?_
  intro W base args ds gs before hval0 hW _ _ hL _
  have hval : ∀ (j : Nat) t v, Tryd.f10.params[j]? = some t → args[j]? = some v → Value.okWide Tryd.prog W .any base t v := hval0
  have hW' := hW
  obtain ⟨p, q, hA0, hV, rfl, hfz, hnd⟩ := hW
  have hA : DataW.TrodAll enc Tryd.prog W 0 (fun _ => true) true Tryd.f10.params.toList args.toList ds p := hA0
  rw [Tryd.params10] at hA hval
  obtain ⟨v0, vs0, d0, ds0, p0, q0, hargs, rfl, rfl, h0, r0⟩ := trodAll_cons hA
  obtain ⟨v1, vs1, d1, ds1, p1, q1, rfl, rfl, rfl, h1, r1⟩ := trodAll_cons r0
  obtain ⟨v2, vs2, d2, ds2, p2, q2, rfl, rfl, rfl, h2, r2⟩ := trodAll_cons r1
  obtain ⟨rfl, rfl, rfl⟩ := trodAll_nil r2
  obtain rfl : args = #[v0, v1, v2] := by cases args; simp_all
  obtain ⟨rfl, rfl⟩ := trodVars_none hV
  have k0 := h0
  have lt0 : ∀ x ∈ p0, x.block < W.heap.size := by obtain ⟨m, hm⟩ := k0; exact DataW.trod_lt m _ _ _ hm
  obtain ⟨fuel0, hf0⟩ := h0
  obtain ⟨a0, len0, cap0, l0, e0, g0, hlc0, hcm0, hnil0⟩ := bytes_of_trod hf0
  obtain ⟨b0, lb0, cb0, hv0⟩ := okWide_slice Tryd.underlying22 (hval 0 22 v0 rfl rfl)
  have ev0 : v0 = .slice a0 len0 cap0 := by rw [hv0] at e0 ⊢; simpa [Value.cells] using e0
  subst ev0
  obtain ⟨a1, rfl, rfl, rfl, w1⟩ := open_int Tryd.underlying3 (hval 1 3 v1 rfl rfl) h1
  obtain ⟨a2, rfl, rfl, rfl, w2⟩ := open_int Tryd.underlying3 (hval 2 3 v2 rfl rfl) h2
  clear hA0 hval0
  refine (walk a0 len0 cap0 l0 a1 a2 W g0.1 g0.2 hlc0 hcm0 w1 w2).mono fun e W' ⟨he, bel⟩ => ?_
  subst he
  exact ⟨_, rfl, _, _, _, [], _, [], hW', trodAll_mk1 (shut_bool Tryd.underlying4 _), (trodAll_cons_mk (Below.trod laidOut (by kernel_rfl) (of_decide_eq_true (by kernel_rfl)) k0 bel lt0) (trodAll_cons_mk (shut_int Tryd.underlying3 w1) (trodAll_cons_mk (shut_int Tryd.underlying3 w2) trodAll_mk0))), rfl, bel.frame _, fun h => by cases h⟩

theorem row_holds : Rows.LimbsWidthsSaid :=
  OpenClaim.holds_of_wide 10 Tryd.f10 rfl rfl rfl rfl rfl rfl rfl ⟨rfl, rfl, rfl, rfl, rfl⟩ rfl rfl rfl rfl rfl (by kernel_rfl) Tryd.func10 (by kernel_rfl)
    (of_decide_eq_true (by kernel_rfl)) (by unfold Func.isWrapper; first | (rw [if_pos (by decide +kernel)]; kernel_rfl) | (rw [if_neg (by decide +kernel)]; exact ⟨rfl, rfl⟩))
    (fun os started H enc _ => lifted os started H enc)

theorem proved : Rows.LimbsWidthsCardSaid :=
  Claim7.holds_tied_plain_at .later [] [.data, .pinned] true Rows.limbsWidthsCard.stood.harness false
    row_holds (fun _ h => by cases h) (by kernel_rfl) (fun _ h => by cases h) limbsWidths_row_tie rfl ⟨rfl, rfl⟩ (by kernel_rfl) rfl
    (fun f fn hf hfn => by
      obtain rfl : f = 10 := Option.some.inj ((show Tryd.prog.funcNamed Tryd.f10.name = some 10 by kernel_rfl).symm.trans hf) |>.symm
      obtain rfl : fn = Tryd.f10 := (Option.some.inj (Tryd.func10.symm.trans hfn)).symm
      exact ⟨by kernel_rfl, fun j t ht => by
        rw [Tryd.params10] at ht
        have hm : t ∈ [22, 3, 3] := by simpa using Array.mem_of_getElem? ht
        have hall : ([22, 3, 3].all fun u => !Tryd.prog.wantsStandIn u) = true := by kernel_rfl
        exact (show Tryd.prog.wantsStandIn t = false by simpa using List.all_eq_true.1 hall t hm)⟩)
    (by kernel_rfl)
end Go.Proofs.YtbajckbjjepceaaDoor.limbsWidths
