/-
  For every two numbers and every text SealBlocks returns true. No condition but that six tables hold what their text lays there: the code's own four, which the sums are made with, and two of Go's library, which the call does not read.
-/
import Derived.Test.YtppoikamenbckaaDoorL7
import Derived.Test.YtppoikamenbckaaDoorTie
import Derived.Test.YtppoikamenbckaaDoorCards
namespace Go.Proofs.YtppoikamenbckaaDoor.sealBlocks
open Go.Proofs.YtppoikamenbckaaDoor Go.ChangeShapes Go.WideShapes Go.ChangeAt Go.RowKit
set_option linter.unusedVariables false
set_option linter.unusedSimpArgs false

theorem wf64 {z : Int} (h : (Lit.int .i64 z).wf = true) : -9223372036854775808 ≤ z ∧ z ≤ 9223372036854775807 := by
  simp [Lit.wf, IntKind.min, IntKind.max, IntKind.bits, IntKind.signed] at h
  omega
set_option maxRecDepth 100000 in
set_option maxHeartbeats 1000000 in
theorem walk_g (z : Int) (A : Option Addr) (n cap : Nat) (sz : Int) (w : World) (ht : Both w) (h1 : (200 : Int) < n) :
    Calls Tryd.prog 4 #[.int .i64 z, .slice A n cap, .int .i64 sz] w fun e w' => e = .returned (.bool true) ∧ Below w.heap.size w w' := by
  have HT := Lib.hid ht
  clear ht
  go_enter Tryd.func4, Tryd.ntmps4
  go_wp2_with fail
  refine (anchor_any w HT.out).mono ?_
  rintro e w1 ⟨rfl, hb1⟩
  go_wp2
  go_ret
  exact ⟨rfl, hb1⟩

set_option maxRecDepth 100000 in
set_option maxHeartbeats 1000000 in
theorem walk_alg (z : Int) (A : Option Addr) (n cap : Nat) (sz : Int) (w : World) (ht : Both w) (h1 : ¬ (200 : Int) < n) (z1 : z ≠ 1) (z2 : z ≠ 2) :
    Calls Tryd.prog 4 #[.int .i64 z, .slice A n cap, .int .i64 sz] w fun e w' => e = .returned (.bool true) ∧ Below w.heap.size w w' := by
  have HT := Lib.hid ht
  clear ht
  go_enter Tryd.func4, Tryd.ntmps4
  go_wp2_with fail
  refine (anchor_any w HT.out).mono ?_
  rintro e w1 ⟨rfl, hb1⟩
  go_wp2_with fail
  refine (Block_alg z z1 z2 A n cap sz w1).mono ?_
  rintro e w2 ⟨rfl, hb2⟩
  have bel2 := below_then hb1 hb2
  go_wp2_with fail
  refine (RefSize_any z w2).mono ?_
  rintro e w3 ⟨rfl, rfl⟩
  rw [sizeOfAlg, if_neg z1, if_neg z2]
  go_wp2
  go_ret
  exact ⟨rfl, bel2⟩

set_option maxRecDepth 100000 in
set_option maxHeartbeats 1000000 in
theorem walk_form (z : Nat) (hz : z = 1 ∨ z = 2) (A : Option Addr) (n cap : Nat) (sz : Int) (w : World) (ht : Both w) (h1 : ¬ (200 : Int) < n) (s : Nat) (hs : sizeOfAlg z = s) (hn : n ≠ s) :
    Calls Tryd.prog 4 #[.int .i64 (z : Int), .slice A n cap, .int .i64 sz] w fun e w' => e = .returned (.bool true) ∧ Below w.heap.size w w' := by
  have hs2 : s = 32 ∨ s = 64 := by have := sizeAlg_cases hz; omega
  have d0 : ((s : Int) == 0) = false := by simp; omega
  have d1 : ((n : Int) != (s : Int)) = true := by simp; omega
  have d2 : (n != s) = true := by simp [hn]
  have HS := Lib.hid hs
  have HZ := Lib.hid hz
  have HN : Hid (n ≠ sizeOfAlg z) := by show _ ≠ _; rw [hs]; exact hn
  clear hs hz hs2
  have HT := Lib.hid ht
  clear ht
  go_enter Tryd.func4, Tryd.ntmps4
  go_wp2_with fail
  refine (anchor_any w HT.out).mono ?_
  rintro e w1 ⟨rfl, hb1⟩
  go_wp2_with fail
  refine (Block_form z HZ.out A n cap HN.out sz w1).mono ?_
  rintro e w2 ⟨rfl, hb2⟩
  have bel2 := below_then hb1 hb2
  go_wp2_with fail
  refine (RefSize_any z w2).mono ?_
  rintro e w3 ⟨rfl, rfl⟩
  rw [HS.out]
  go_wp2_with fail
  refine (RefSize_any z w2).mono ?_
  rintro e w3 ⟨rfl, rfl⟩
  rw [HS.out]
  go_wp2
  go_ret
  exact ⟨rfl, bel2⟩

set_option maxRecDepth 100000 in
set_option maxHeartbeats 1000000 in
theorem walk_bits (z : Nat) (hz : z = 1 ∨ z = 2) (A : Option Addr) (n cap : Nat) (sz : Int) (w : World) (ht : Both w) (h1 : ¬ (200 : Int) < n) (hs : sizeOfAlg z = n) (b1 : -9223372036854775808 ≤ sz) (b2 : sz ≤ 9223372036854775807) (hb : 512 < sz ∨ sz < 30 + n) :
    Calls Tryd.prog 4 #[.int .i64 (z : Int), .slice A n cap, .int .i64 sz] w fun e w' => e = .returned (.bool true) ∧ Below w.heap.size w w' := by
  have hs2 : n = 32 ∨ n = 64 := by have := sizeAlg_cases hz; omega
  have d0 : ((n : Int) == 0) = false := by simp; omega
  have HS := Lib.hid hs
  have HZ := Lib.hid hz
  have HB := Lib.hid hb
  clear hs hz hs2 hb
  have HT := Lib.hid ht
  clear ht
  go_enter Tryd.func4, Tryd.ntmps4
  go_wp2_with fail
  refine (anchor_any w HT.out).mono ?_
  rintro e w1 ⟨rfl, hb1⟩
  go_wp2_with fail
  refine (Block_bits z HZ.out A n cap HS.out sz b1 b2 HB.out w1).mono ?_
  rintro e w2 ⟨rfl, hb2⟩
  have bel2 := below_then hb1 hb2
  go_wp2_with fail
  refine (RefSize_any z w2).mono ?_
  rintro e w3 ⟨rfl, rfl⟩
  rw [HS.out]
  go_wp2_with fail
  refine (RefSize_any z w2).mono ?_
  rintro e w3 ⟨rfl, rfl⟩
  rw [HS.out]
  go_wp2_with fail
  refine (RefBlock_no z HZ.out A n cap sz w2 (by omega) b1 b2 HB.out).mono ?_
  rintro e w3 ⟨rfl, rfl⟩
  have hc : (convert 22 9 (.slice none 0 0)).run Tryd.prog w2 = .ok (.string (str [])) w2 := rd_str (Rd.nil .u8 w2 none) 0
  generalize str [] = S at *
  go_wp2
  go_ret
  exact ⟨rfl, bel2⟩

set_option maxRecDepth 100000 in
set_option maxHeartbeats 1000000 in
theorem walk_ok (z : Nat) (hz : z = 1 ∨ z = 2) (A : Option Addr) (n cap : Nat) (l : List Nat) (sz : Nat) (w : World) (ht : Both w) (h : Rd .u8 w A n l) (hf : Fit 256 l) (hcn : n ≤ cap) (hnil : A = none → cap = 0) (h1 : ¬ (200 : Int) < n) (hs : sizeOfAlg z = n) (b1 : 30 + n ≤ sz) (b2 : sz ≤ 512) :
    Calls Tryd.prog 4 #[.int .i64 (z : Int), .slice A n cap, .int .i64 (sz : Int)] w fun e w' => e = .returned (.bool true) ∧ Below w.heap.size w w' := by
  have hs2 : n = 32 ∨ n = 64 := by have := sizeAlg_cases hz; omega
  have d0 : ((n : Int) == 0) = false := by simp; omega
  have HS := Lib.hid hs
  have HZ := Lib.hid hz
  have HR := Lib.hid h
  clear hs hz hs2 h
  have HT := Lib.hid ht
  clear ht
  go_enter Tryd.func4, Tryd.ntmps4
  go_wp2_with fail
  refine (anchor_any w HT.out).mono ?_
  rintro e w1 ⟨rfl, hb1⟩
  go_wp2_with fail
  refine (Block_ok z HZ.out A n cap l HS.out hcn sz w1 (HR.out.below hb1) hf b1 b2).mono ?_
  rintro e w2 ⟨g2, rfl, hg2, hR2, hb2⟩
  have HR2 := Lib.hid hR2
  have bel2 := below_then hb1 hb2
  clear hR2 hg2
  go_wp2_with fail
  refine (RefSize_any z w2).mono ?_
  rintro e w3 ⟨rfl, rfl⟩
  rw [HS.out]
  go_wp2_with fail
  refine (RefSize_any z w2).mono ?_
  rintro e w3 ⟨rfl, rfl⟩
  rw [HS.out]
  go_wp2_with fail
  refine (RefBlock_ok z HZ.out A n cap l sz w2 (HR.out.below bel2) hf hnil b1 b2).mono ?_
  rintro e w4 ⟨A4, c4, rfl, hrow4, hb4⟩
  have hc1 := rd_str (HR2.out.below hb4) sz
  have hc2 := rd_str hrow4.rd c4
  have bel4 := below_then bel2 hb4
  generalize str (blockOf z l sz) = S at *
  clear hrow4
  go_wp2
  go_ret
  exact ⟨rfl, bel4⟩

theorem walk (z : Int) (A : Option Addr) (n cap : Nat) (l : List Nat) (sz : Int) (w : World) (_ : (Lit.int .i64 z).wf = true) (h : Rd .u8 w A n l) (hf : Fit 256 l) (hcn : n ≤ cap) (hmn : cap ≤ maxLen) (hnil : A = none → cap = 0) (hw : (Lit.int .i64 sz).wf = true) (ht : Both w) :
    Calls Tryd.prog 4 #[.int .i64 z, .slice A n cap, .int .i64 sz] w fun e w' => e = .returned (.bool true) ∧ Below w.heap.size w w' := by
  obtain ⟨b1, b2⟩ := wf64 hw
  by_cases h1 : 200 < n
  · exact walk_g z A n cap sz w ht (by omega)
  by_cases z1 : z = 1 ∨ z = 2
  · obtain ⟨y, rfl, hy⟩ : ∃ y : Nat, z = (y : Int) ∧ (y = 1 ∨ y = 2) := ⟨z.toNat, by omega, by omega⟩
    by_cases hn : n = sizeOfAlg y
    · by_cases hb : 512 < sz ∨ sz < 30 + n
      · exact walk_bits y hy A n cap sz w ht (by omega) hn.symm b1 b2 hb
      · obtain ⟨t, rfl⟩ : ∃ t : Nat, sz = (t : Int) := ⟨sz.toNat, by omega⟩
        exact walk_ok y hy A n cap l t w ht h hf hcn hnil (by omega) hn.symm (by omega) (by omega)
    · exact walk_form y hy A n cap sz w ht (by omega) _ rfl hn
  · exact walk_alg z A n cap sz w ht (by omega) (fun e => z1 (.inl e)) (fun e => z1 (.inr e))

-- THE ROW's STEP
set_option maxRecDepth 100000 in
theorem lifted (os : Os) (started : os.Started) (H : Type) (enc : TypeId × Value → H) :
    ReturnsInHanded {} Tryd.checked os 4 .any (fun w args => (Rows.sealBlocksSpec.pre enc Tryd.prog Tryd.f4 [] false w args ∧ laidMetH Tryd.prog listed w) ∧ sizedMet enc Tryd.prog Tryd.f4 (OpenSpec.ofChange Rows.sealBlocksSpec) false w args)
      (Rows.sealBlocksSpec.post enc Tryd.prog Tryd.f4 false true false false) := by
  refine returnsInHanded_of_change_and (C := Tryd.checked) (X := fun w _ => laidMetH Tryd.prog listed w) (fun _ _ _ hh h => h.of_heap hh) own started (by kernel_rfl) Tryd.func4
    (ChangeSpec.witness_shaped (enc := enc) (C := Tryd.checked) (os := os) (X := fun w _ => laidMetH Tryd.prog listed w) false (World.laidAll Tryd.prog os listed) #[.int .i64 0, .slice none 0 0, .int .i64 0] 8 (World.laidAll_os _ _ _)
      (World.shaped_of_ZipB (by kernel_rfl) (by kernel_rfl)) (by kernel_rfl) (by kernel_rfl) (by kernel_rfl)
      (by rw [MakeChecks.laidMetH_plain _ _ _ (by kernel_rfl)]; exact laidMet_laidAll _ (by kernel_rfl) (by kernel_rfl))) ?_
  intro W base args ds gs before hval0 hW _ _ hL _
  have hval : ∀ (j : Nat) t v, Tryd.f4.params[j]? = some t → args[j]? = some v → Value.okWide Tryd.prog W .any base t v := hval0
  have hW' := hW
  obtain ⟨p, q, hA0, hV, rfl, hfz, hnd⟩ := hW
  have hA : DataW.TrodAll enc Tryd.prog W 0 (fun _ => true) true Tryd.f4.params.toList args.toList ds p := hA0
  rw [Tryd.params4] at hA hval
  obtain ⟨v0, vs0, d0, ds0, p0, q0, hargs, rfl, rfl, h0, r0⟩ := trodAll_cons hA
  obtain ⟨v1, vs1, d1, ds1, p1, q1, rfl, rfl, rfl, h1, r1⟩ := trodAll_cons r0
  obtain ⟨v2, vs2, d2, ds2, p2, q2, rfl, rfl, rfl, h2, r2⟩ := trodAll_cons r1
  obtain ⟨rfl, rfl, rfl⟩ := trodAll_nil r2
  obtain rfl : args = #[v0, v1, v2] := by cases args; simp_all
  obtain ⟨rfl, rfl⟩ := trodVars_none hV
  obtain ⟨a0, rfl, rfl, rfl, w0⟩ := open_int Tryd.underlying3 (hval 0 3 v0 rfl rfl) h0
  have k1 := h1
  have lt1 : ∀ x ∈ p1, x.block < W.heap.size := by obtain ⟨m, hm⟩ := k1; exact DataW.trod_lt m _ _ _ hm
  obtain ⟨fuel1, hf1⟩ := h1
  obtain ⟨a1, len1, cap1, l1, e1, g1, hlc1, hcm1, hnil1⟩ := bytes_of_trod hf1
  obtain ⟨b1, lb1, cb1, hv1⟩ := okWide_slice Tryd.underlying22 (hval 1 22 v1 rfl rfl)
  have ev1 : v1 = .slice a1 len1 cap1 := by rw [hv1] at e1 ⊢; simpa [Value.cells] using e1
  subst ev1
  obtain ⟨a2, rfl, rfl, rfl, w2⟩ := open_int Tryd.underlying3 (hval 2 3 v2 rfl rfl) h2
  clear hA0 hval0
  refine (walk a0 a1 len1 cap1 l1 a2 W w0 g1.1 g1.2 hlc1 hcm1 hnil1 w2 (tabs_of_laid hL)).mono fun e W' ⟨he, bel⟩ => ?_
  subst he
  exact ⟨_, rfl, _, _, _, [], _, [], hW', trodAll_mk1 (shut_bool Tryd.underlying4 _), (trodAll_cons_mk (shut_int Tryd.underlying3 w0) (trodAll_cons_mk (Below.trod laidOut (by kernel_rfl) (of_decide_eq_true (by kernel_rfl)) k1 bel lt1) (trodAll_cons_mk (shut_int Tryd.underlying3 w2) trodAll_mk0))), rfl, bel.frame _, fun h => by cases h⟩

theorem row_holds : Rows.SealBlocksSaid :=
  OpenClaim.holds_of_wide 4 Tryd.f4 rfl rfl rfl rfl rfl rfl rfl ⟨rfl, rfl, rfl, rfl, rfl⟩ rfl rfl rfl rfl rfl (by kernel_rfl) Tryd.func4 (by kernel_rfl)
    (of_decide_eq_true (by kernel_rfl)) (by unfold Func.isWrapper; first | (rw [if_pos (by decide +kernel)]; kernel_rfl) | (rw [if_neg (by decide +kernel)]; exact ⟨rfl, rfl⟩))
    (fun os started H enc _ => lifted os started H enc)

theorem proved : Rows.SealBlocksCardSaid :=
  Claim7.holds_tied_plain_at .later [] [.data, .data, .data, .data, .data, .pinned] true Rows.sealBlocksCard.stood.harness false
    row_holds (fun _ h => by cases h) (by kernel_rfl) (fun _ h => by cases h) sealBlocks_row_tie rfl ⟨rfl, rfl⟩ (by kernel_rfl) rfl
    (fun f fn hf hfn => by
      obtain rfl : f = 4 := Option.some.inj ((show Tryd.prog.funcNamed Tryd.f4.name = some 4 by kernel_rfl).symm.trans hf) |>.symm
      obtain rfl : fn = Tryd.f4 := (Option.some.inj (Tryd.func4.symm.trans hfn)).symm
      exact ⟨by kernel_rfl, fun j t ht => by
        rw [Tryd.params4] at ht
        have hm : t ∈ [3, 22, 3] := by simpa using Array.mem_of_getElem? ht
        have hall : ([3, 22, 3].all fun u => !Tryd.prog.wantsStandIn u) = true := by kernel_rfl
        exact (show Tryd.prog.wantsStandIn t = false by simpa using List.all_eq_true.1 hall t hm)⟩)
    (by kernel_rfl)
end Go.Proofs.YtppoikamenbckaaDoor.sealBlocks
