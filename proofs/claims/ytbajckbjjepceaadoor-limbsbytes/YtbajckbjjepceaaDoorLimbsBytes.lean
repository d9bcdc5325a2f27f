/-
  For every text of bytes, every number in limbs and every two numbers LimbsBytes returns true. No condition but that two tables of Go's library, which the call does not read, hold what their text lays there.
-/
import Derived.Test.YtbajckbjjepceaaDoorBytesL
import Derived.Test.YtbajckbjjepceaaDoorBytesM
import Derived.Test.YtbajckbjjepceaaDoorBytesB
import Derived.Test.YtbajckbjjepceaaDoorBytesO
import Derived.Test.YtbajckbjjepceaaDoorTie
import Derived.Test.YtbajckbjjepceaaDoorCards
namespace Go.Proofs.YtbajckbjjepceaaDoor.limbsBytes
open Go.Proofs.YtbajckbjjepceaaDoor Go.ChangeShapes Go.WideShapes Go.ChangeAt Go.RowKit
set_option linter.unusedVariables false
set_option linter.unusedSimpArgs false

theorem walk (A : Option Addr) (n cap : Nat) (l : List Nat) (a : Int) (A' : Option Addr) (n' cap' : Nat) (ln : List Nat) (s : Int) (w : World) (g : Rd .u8 w A n l) (hf : Fit 256 l) (hc : n ≤ cap) (hm : cap ≤ maxLen) (wa : (Lit.int .i64 a).wf = true) (g' : Rd .u32 w A' n' ln) (hf' : Fit 4294967296 ln) (hc' : n' ≤ cap') (hm' : cap' ≤ maxLen) (ws : (Lit.int .i64 s).wf = true) :
    Calls Tryd.prog 3 #[.slice A n cap, .int .i64 a, .slice A' n' cap', .int .i64 s] w fun e w' => e = .returned (.bool true) ∧ Below w.heap.size w w' := by
  by_cases z1 : 1200 < n
  · exact walk_long A n cap a A' n' cap' s w (.inl z1)
  by_cases z2 : 300 < n'
  · exact walk_long A n cap a A' n' cap' s w (.inr ⟨by omega, z2⟩)
  have h0 : n ≤ 1200 := by omega
  have h0' : n' ≤ 300 := by omega
  by_cases h1 : a < 1
  · cases q : okW n' with
    | false => exact walk_less_none A n cap l a A' n' cap' ln s w g hf hc hm g' hf' h0 h0' h1 q
    | true =>
      by_cases k1 : s < 0
      · exact walk_less_neg A n cap l a A' n' cap' ln s w g hf hc hm g' hf' h0 h0' h1 q k1
      by_cases k2 : 1024 < s
      · exact walk_less_great A n cap l a A' n' cap' ln s w g hf hc hm g' hf' h0 h0' h1 q (by omega) k2
      obtain ⟨S, rfl⟩ : ∃ S : Nat, s = S := ⟨s.toNat, by omega⟩
      rcases Nat.lt_or_ge (val 4294967296 ln) (256 ^ S) with hx | hx
      · exact walk_less_ok A n cap l a A' n' cap' ln S w g hf hc hm g' hf' h0 h0' h1 q (by omega) hx
      · exact walk_less_big A n cap l a A' n' cap' ln S w g hf hc hm g' hf' h0 h0' h1 q (by omega) hx
  by_cases h2 : 256 < a
  · cases q : okW n' with
    | false => exact walk_more_none A n cap l a A' n' cap' ln s w g hf hc hm g' hf' h0 h0' (by omega) h2 q
    | true =>
      by_cases k1 : s < 0
      · exact walk_more_neg A n cap l a A' n' cap' ln s w g hf hc hm g' hf' h0 h0' (by omega) h2 q k1
      by_cases k2 : 1024 < s
      · exact walk_more_great A n cap l a A' n' cap' ln s w g hf hc hm g' hf' h0 h0' (by omega) h2 q (by omega) k2
      obtain ⟨S, rfl⟩ : ∃ S : Nat, s = S := ⟨s.toNat, by omega⟩
      rcases Nat.lt_or_ge (val 4294967296 ln) (256 ^ S) with hx | hx
      · exact walk_more_ok A n cap l a A' n' cap' ln S w g hf hc hm g' hf' h0 h0' (by omega) h2 q (by omega) hx
      · exact walk_more_big A n cap l a A' n' cap' ln S w g hf hc hm g' hf' h0 h0' (by omega) h2 q (by omega) hx
  obtain ⟨W, rfl⟩ : ∃ W : Nat, a = W := ⟨a.toNat, by omega⟩
  rcases Nat.lt_or_ge (vbe l) (4294967296 ^ W) with hv | hv
  · cases q : okW n' with
    | false => exact walk_ok_none A n cap l W A' n' cap' ln s w g hf hc hm g' hf' h0 h0' (by omega) (by omega) hv q
    | true =>
      by_cases k1 : s < 0
      · exact walk_ok_neg A n cap l W A' n' cap' ln s w g hf hc hm g' hf' h0 h0' (by omega) (by omega) hv q k1
      by_cases k2 : 1024 < s
      · exact walk_ok_great A n cap l W A' n' cap' ln s w g hf hc hm g' hf' h0 h0' (by omega) (by omega) hv q (by omega) k2
      obtain ⟨S, rfl⟩ : ∃ S : Nat, s = S := ⟨s.toNat, by omega⟩
      rcases Nat.lt_or_ge (val 4294967296 ln) (256 ^ S) with hx | hx
      · exact walk_ok_ok A n cap l W A' n' cap' ln S w g hf hc hm g' hf' h0 h0' (by omega) (by omega) hv q (by omega) hx
      · exact walk_ok_big A n cap l W A' n' cap' ln S w g hf hc hm g' hf' h0 h0' (by omega) (by omega) hv q (by omega) hx
  · cases q : okW n' with
    | false => exact walk_big_none A n cap l W A' n' cap' ln s w g hf hc hm g' hf' h0 h0' (by omega) (by omega) hv q
    | true =>
      by_cases k1 : s < 0
      · exact walk_big_neg A n cap l W A' n' cap' ln s w g hf hc hm g' hf' h0 h0' (by omega) (by omega) hv q k1
      by_cases k2 : 1024 < s
      · exact walk_big_great A n cap l W A' n' cap' ln s w g hf hc hm g' hf' h0 h0' (by omega) (by omega) hv q (by omega) k2
      obtain ⟨S, rfl⟩ : ∃ S : Nat, s = S := ⟨s.toNat, by omega⟩
      rcases Nat.lt_or_ge (val 4294967296 ln) (256 ^ S) with hx | hx
      · exact walk_big_ok A n cap l W A' n' cap' ln S w g hf hc hm g' hf' h0 h0' (by omega) (by omega) hv q (by omega) hx
      · exact walk_big_big A n cap l W A' n' cap' ln S w g hf hc hm g' hf' h0 h0' (by omega) (by omega) hv q (by omega) hx

-- THE ROW's STEP
set_option maxRecDepth 100000 in
theorem lifted (os : Os) (started : os.Started) (H : Type) (enc : TypeId × Value → H) :
    ReturnsInHanded {} Tryd.checked os 3 .any (fun w args => (Rows.limbsBytesSpec.pre enc Tryd.prog Tryd.f3 [] false w args ∧ laidMetH Tryd.prog listed w) ∧ sizedMet enc Tryd.prog Tryd.f3 (OpenSpec.ofChange Rows.limbsBytesSpec) false w args)
      (Rows.limbsBytesSpec.post enc Tryd.prog Tryd.f3 false true false false) := by
  refine returnsInHanded_of_change_and (C := Tryd.checked) (X := fun w _ => laidMetH Tryd.prog listed w) (fun _ _ _ hh h => h.of_heap hh) own started (by kernel_rfl) Tryd.func3
    (ChangeSpec.witness_shaped (enc := enc) (C := Tryd.checked) (os := os) (X := fun w _ => laidMetH Tryd.prog listed w) false (World.laidAll Tryd.prog os listed) #[.slice none 0 0, .int .i64 0, .slice none 0 0, .int .i64 0] 8 (World.laidAll_os _ _ _)
      (World.shaped_of_ZipB (by kernel_rfl) (by kernel_rfl)) (by kernel_rfl) (by kernel_rfl) (by kernel_rfl)
      (by rw [MakeChecks.laidMetH_plain _ _ _ (by kernel_rfl)]; exact laidMet_laidAll _ (by kernel_rfl) (by kernel_rfl))) ?_
  intro W base args ds gs before hval0 hW _ _ hL _
  have hval : ∀ (j : Nat) t v, Tryd.f3.params[j]? = some t → args[j]? = some v → Value.okWide Tryd.prog W .any base t v := hval0
  have hW' := hW
  obtain ⟨p, q, hA0, hV, rfl, hfz, hnd⟩ := hW
  have hA : DataW.TrodAll enc Tryd.prog W 0 (fun _ => true) true Tryd.f3.params.toList args.toList ds p := hA0
  rw [Tryd.params3] at hA hval
  obtain ⟨v0, vs0, d0, ds0, p0, q0, hargs, rfl, rfl, h0, r0⟩ := trodAll_cons hA
  obtain ⟨v1, vs1, d1, ds1, p1, q1, rfl, rfl, rfl, h1, r1⟩ := trodAll_cons r0
  obtain ⟨v2, vs2, d2, ds2, p2, q2, rfl, rfl, rfl, h2, r2⟩ := trodAll_cons r1
  obtain ⟨v3, vs3, d3, ds3, p3, q3, rfl, rfl, rfl, h3, r3⟩ := trodAll_cons r2
  obtain ⟨rfl, rfl, rfl⟩ := trodAll_nil r3
  obtain rfl : args = #[v0, v1, v2, v3] := by cases args; simp_all
  obtain ⟨rfl, rfl⟩ := trodVars_none hV
  have k0 := h0
  have lt0 : ∀ x ∈ p0, x.block < W.heap.size := by obtain ⟨m, hm⟩ := k0; exact DataW.trod_lt m _ _ _ hm
  obtain ⟨fuel0, hf0⟩ := h0
  obtain ⟨a0, len0, cap0, l0, e0, g0, hlc0, hcm0, hnil0⟩ := bytes_of_trod hf0
  obtain ⟨b0, lb0, cb0, hv0⟩ := okWide_slice Tryd.underlying22 (hval 0 22 v0 rfl rfl)
  have ev0 : v0 = .slice a0 len0 cap0 := by rw [hv0] at e0 ⊢; simpa [Value.cells] using e0
  subst ev0
  obtain ⟨a1, rfl, rfl, rfl, w1⟩ := open_int Tryd.underlying3 (hval 1 3 v1 rfl rfl) h1
  have k2 := h2
  have lt2 : ∀ x ∈ p2, x.block < W.heap.size := by obtain ⟨m, hm⟩ := k2; exact DataW.trod_lt m _ _ _ hm
  obtain ⟨fuel2, hf2⟩ := h2
  obtain ⟨a2, len2, cap2, l2, e2, g2, hlc2, hcm2, hnil2⟩ := limbs_of_trod hf2
  obtain ⟨b2, lb2, cb2, hv2⟩ := okWide_slice Tryd.underlying24 (hval 2 24 v2 rfl rfl)
  have ev2 : v2 = .slice a2 len2 cap2 := by rw [hv2] at e2 ⊢; simpa [Value.cells] using e2
  subst ev2
  obtain ⟨a3, rfl, rfl, rfl, w3⟩ := open_int Tryd.underlying3 (hval 3 3 v3 rfl rfl) h3
  clear hA0 hval0
  refine (walk a0 len0 cap0 l0 a1 a2 len2 cap2 l2 a3 W g0.1 g0.2 hlc0 hcm0 w1 g2.1 g2.2 hlc2 hcm2 w3).mono fun e W' ⟨he, bel⟩ => ?_
  subst he
  exact ⟨_, rfl, _, _, _, [], _, [], hW', trodAll_mk1 (shut_bool Tryd.underlying4 _), (trodAll_cons_mk (Below.trod laidOut (by kernel_rfl) (of_decide_eq_true (by kernel_rfl)) k0 bel lt0) (trodAll_cons_mk (shut_int Tryd.underlying3 w1) (trodAll_cons_mk (Below.trod laidOut (by kernel_rfl) (of_decide_eq_true (by kernel_rfl)) k2 bel lt2) (trodAll_cons_mk (shut_int Tryd.underlying3 w3) trodAll_mk0)))), rfl, bel.frame _, fun h => by cases h⟩

theorem row_holds : Rows.LimbsBytesSaid :=
  OpenClaim.holds_of_wide 3 Tryd.f3 rfl rfl rfl rfl rfl rfl rfl ⟨rfl, rfl, rfl, rfl, rfl⟩ rfl rfl rfl rfl rfl (by kernel_rfl) Tryd.func3 (by kernel_rfl)
    (of_decide_eq_true (by kernel_rfl)) (by unfold Func.isWrapper; first | (rw [if_pos (by decide +kernel)]; kernel_rfl) | (rw [if_neg (by decide +kernel)]; exact ⟨rfl, rfl⟩))
    (fun os started H enc _ => lifted os started H enc)

theorem proved : Rows.LimbsBytesCardSaid :=
  Claim7.holds_tied_plain_at .later [] [.data, .pinned] true Rows.limbsBytesCard.stood.harness false
    row_holds (fun _ h => by cases h) (by kernel_rfl) (fun _ h => by cases h) limbsBytes_row_tie rfl ⟨rfl, rfl⟩ (by kernel_rfl) rfl
    (fun f fn hf hfn => by
      obtain rfl : f = 3 := Option.some.inj ((show Tryd.prog.funcNamed Tryd.f3.name = some 3 by kernel_rfl).symm.trans hf) |>.symm
      obtain rfl : fn = Tryd.f3 := (Option.some.inj (Tryd.func3.symm.trans hfn)).symm
      exact ⟨by kernel_rfl, fun j t ht => by
        rw [Tryd.params3] at ht
        have hm : t ∈ [22, 3, 24, 3] := by simpa using Array.mem_of_getElem? ht
        have hall : ([22, 3, 24, 3].all fun u => !Tryd.prog.wantsStandIn u) = true := by kernel_rfl
        exact (show Tryd.prog.wantsStandIn t = false by simpa using List.all_eq_true.1 hall t hm)⟩)
    (by kernel_rfl)
end Go.Proofs.YtbajckbjjepceaaDoor.limbsBytes
