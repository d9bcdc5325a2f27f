/-
  GrovePads returns true for every seed and number.
-/
import Derived.Test.YtijblgbpfffagaaDoorL9
import Derived.Test.YtijblgbpfffagaaDoorLPads
import Derived.Test.YtijblgbpfffagaaDoorTie
import Derived.Test.YtijblgbpfffagaaDoorCards
namespace Go.Proofs.YtijblgbpfffagaaDoor.grovePads
open Go.Proofs.YtijblgbpfffagaaDoor Go.ChangeShapes Go.WideShapes Go.ChangeAt Go.RowKit
set_option linter.unusedVariables false
set_option linter.unusedSimpArgs false

theorem walk (z b : Int) (A : Option Addr) (nA cA : Nat) (salt : List Nat) (Ad : Option Addr) (nd cd : Nat) (data : List Nat) (mo : Int) (w : World) (hz : I64 z) (hb : I64 b) (hs : Bs w A nA cA salt) (hd : Bs w Ad nd cd data) (hmo : I64 mo) (ht : Both w) :
    Calls Tryd.prog 9 #[.agg #[.int .i64 z, .int .i64 b, .slice A nA cA, .slice Ad nd cd], .int .i64 mo] w fun e w' => e = .returned (.bool true) ∧ Below w.heap.size w w' := pads_walk z b A nA cA salt Ad nd cd data mo w hz hb hs hd hmo ht

-- THE ROW's STEP
set_option maxRecDepth 100000 in
theorem lifted (os : Os) (started : os.Started) (H : Type) (enc : TypeId × Value → H) :
    ReturnsInHanded {} Tryd.checked os 9 .any (fun w args => (Rows.grovePadsSpec.pre enc Tryd.prog Tryd.f9 [] false w args ∧ laidMetH Tryd.prog listed w) ∧ sizedMet enc Tryd.prog Tryd.f9 (OpenSpec.ofChange Rows.grovePadsSpec) false w args)
      (Rows.grovePadsSpec.post enc Tryd.prog Tryd.f9 false true false false) := by
  refine returnsInHanded_of_change_and (C := Tryd.checked) (X := fun w _ => laidMetH Tryd.prog listed w) (fun _ _ _ hh h => h.of_heap hh) own started (by kernel_rfl) Tryd.func9
    (ChangeSpec.witness_shaped (enc := enc) (C := Tryd.checked) (os := os) (X := fun w _ => laidMetH Tryd.prog listed w) false (World.laidAll Tryd.prog os listed) #[.agg #[.int .i64 0, .int .i64 0, .slice none 0 0, .slice none 0 0], .int .i64 0] 8 (World.laidAll_os _ _ _)
      (World.shaped_of_ZipB (by kernel_rfl) (by kernel_rfl)) (by kernel_rfl) (by kernel_rfl) (by kernel_rfl)
      (by rw [MakeChecks.laidMetH_plain _ _ _ (by kernel_rfl)]; exact laidMet_laidAll _ (by kernel_rfl) (by kernel_rfl))) ?_
  intro W base args ds gs before hval0 hW _ hZ hL _
  have hval : ∀ (j : Nat) t v, Tryd.f9.params[j]? = some t → args[j]? = some v → Value.okWide Tryd.prog W .any base t v := hval0
  have hW' := hW
  obtain ⟨p, q, hA0, hV, rfl, hfz, hnd⟩ := hW
  have hA : DataW.TrodAll enc Tryd.prog W 0 (fun _ => true) true Tryd.f9.params.toList args.toList ds p := hA0
  rw [Tryd.params9] at hA hval
  obtain ⟨v0, vs0, d0, ds0, p0, q0, hargs, rfl, rfl, h0, r0⟩ := trodAll_cons hA
  obtain ⟨v1, vs1, d1, ds1, p1, q1, rfl, rfl, rfl, h1, r1⟩ := trodAll_cons r0
  obtain ⟨rfl, rfl, rfl⟩ := trodAll_nil r1
  obtain rfl : args = #[v0, v1] := by cases args; simp_all
  obtain ⟨rfl, rfl⟩ := trodVars_none hV
  have hZ' := hZ
  rw [Tryd.params9] at hZ'
  have k0 := h0
  have lt0 : ∀ x ∈ p0, x.block < W.heap.size := by obtain ⟨m, hm⟩ := k0; exact DataW.trod_lt m _ _ _ hm
  obtain ⟨x00, x01, x02, x03, y00, y01, y02, y03, m0, rfl, rfl, rfl, f00, f01, f02, f03⟩ := Go.Joins.open_agg4 Tryd.underlying24 (by kernel_rfl) cellsSeed (hval 0 24 v0 rfl rfl) h0
  obtain ⟨z0, e00, ez0, wz0⟩ := DataW.trod_int Tryd.underlying3 f00
  obtain ⟨b0, e01, eb0, wb0⟩ := DataW.trod_int Tryd.underlying3 f01
  obtain ⟨A0, nA0, cA0, s0, e02, hs0, _⟩ := bytes_of_trod f02
  obtain ⟨Ad0, nd0, cd0, t0, e03, ht0, _⟩ := bytes_of_trod f03
  obtain rfl : x00 = .int .i64 z0 := by simpa using e00
  obtain rfl : x01 = .int .i64 b0 := by simpa using e01
  obtain rfl : x02 = .slice A0 nA0 cA0 := by simpa using e02
  obtain rfl : x03 = .slice Ad0 nd0 cd0 := by simpa using e03
  obtain ⟨a1, rfl, rfl, rfl, w1⟩ := open_int Tryd.underlying3 (hval 1 3 v1 rfl rfl) h1
  clear hA0 hval0
  refine (walk z0 b0 A0 nA0 cA0 s0 Ad0 nd0 cd0 t0 a1 W (i64_wf wz0) (i64_wf wb0) hs0 ht0 (i64_wf w1) (tabs_of_laid hL)).mono fun e W' ⟨he, bel⟩ => ?_
  subst he
  exact ⟨_, rfl, _, _, _, [], _, [], hW', trodAll_mk1 (shut_bool Tryd.underlying4 _), (trodAll_cons_mk (Below.trod laidOut (by kernel_rfl) (of_decide_eq_true (by kernel_rfl)) k0 bel lt0) (trodAll_cons_mk (shut_int Tryd.underlying3 w1) trodAll_mk0)), rfl, bel.frame _, fun h => by cases h⟩

theorem row_holds : Rows.GrovePadsSaid :=
  OpenClaim.holds_of_wide 9 Tryd.f9 rfl rfl rfl rfl rfl rfl rfl ⟨rfl, rfl, rfl, rfl, rfl⟩ rfl rfl rfl rfl rfl (by kernel_rfl) Tryd.func9 (by kernel_rfl)
    (of_decide_eq_true (by kernel_rfl)) (by unfold Func.isWrapper; first | (rw [if_pos (by decide +kernel)]; kernel_rfl) | (rw [if_neg (by decide +kernel)]; exact ⟨rfl, rfl⟩))
    (fun os started H enc _ => lifted os started H enc)

theorem proved : Rows.GrovePadsCardSaid :=
  Claim7.holds_tied_plain_at .later [] [.data, .data, .data, .data] true Rows.grovePadsCard.stood.harness false
    row_holds (fun _ h => by cases h) (by kernel_rfl) (fun _ h => by cases h) grovePads_row_tie rfl ⟨rfl, rfl⟩ (by kernel_rfl) rfl
    (fun f fn hf hfn => by
      obtain rfl : f = 9 := Option.some.inj ((show Tryd.prog.funcNamed Tryd.f9.name = some 9 by kernel_rfl).symm.trans hf) |>.symm
      obtain rfl : fn = Tryd.f9 := (Option.some.inj (Tryd.func9.symm.trans hfn)).symm
      exact ⟨by kernel_rfl, fun j t ht => by
        rw [Tryd.params9] at ht
        have hm : t ∈ [24, 3] := by simpa using Array.mem_of_getElem? ht
        have hall : ([24, 3].all fun u => !Tryd.prog.wantsStandIn u) = true := by kernel_rfl
        exact (show Tryd.prog.wantsStandIn t = false by simpa using List.all_eq_true.1 hall t hm)⟩)
    (by kernel_rfl)
end Go.Proofs.YtijblgbpfffagaaDoor.grovePads
