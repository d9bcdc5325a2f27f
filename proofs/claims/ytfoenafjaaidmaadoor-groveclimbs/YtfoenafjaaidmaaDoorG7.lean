/-
  What Make and Root of package grove answer.
-/
import Derived.Test.YtfoenafjaaidmaaDoorG6
namespace Go.Proofs.YtfoenafjaaidmaaDoor
open Go.RowKit
set_option linter.unusedVariables false
set_option linter.unusedSimpArgs false
set_option maxRecDepth 100000

theorem faultEr_ok {z : Int} {nA : Nat} (h0 : sizeOfAlg z ≠ 0) (h : nA ≤ 64) : faultEr z nA = 0 := by
  rw [faultEr, if_neg h0, if_neg (by omega)]
theorem sizeAlg64 (z : Int) : sizeOfAlg z ≤ 64 := by
  unfold sizeOfAlg
  split
  · omega
  · split <;> omega
set_option maxHeartbeats 2000000 in
theorem Make_no : MakeNo := by
  intro z b A nA cA Ad nd cd salt data er w hz hbb hs hd hnd hT hR
  have hDi : I64 ((sizeOfAlg z : Nat) : Int) := by have := sizeAlg64 z; unfold I64; omega
  have hnd2 : ¬ (1048576 : Int) < (nd : Int) := by omega
  by_cases hf : faultEr z nA = 0
  · have h3 : ¬ Rgt nd b (sizeOfAlg z : Nat) ∧ er = 24 := by
      rcases hR with ⟨h, _⟩ | ⟨h, h2, _⟩ | ⟨_, _, h⟩
      · rw [faultEr, if_pos h] at hf; exact absurd hf (by decide)
      · rw [faultEr, if_neg h, if_pos h2] at hf; exact absurd hf (by decide)
      · exact h
    obtain ⟨hnr, rfl⟩ := h3
    have HF := Lib.hid hf
    have HNR := Lib.hid hnr
    have HDI := Lib.hid hDi
    have HB := Lib.hid hbb
    clear hR hf hnr hDi hbb hs hd hT
    go_enter Tryd.func13, Tryd.ntmps13
    go_wp2_with fail
    refine (fault_any z A nA cA w).mono ?_
    rintro e w1 ⟨rfl, rfl⟩
    rw [HF.out]
    go_wp2_with fail
    refine (shapeOf_any z b Ad nd cd (sizeOfAlg z) rfl w).mono ?_
    rintro e w1 ⟨rfl, hb1⟩
    have BEL1 := Lib.hid hb1
    clear hb1
    obtain ⟨D, hD⟩ : ∃ D, sizeOfAlg z = D := ⟨_, rfl⟩
    rw [hD] at HNR HDI ⊢
    clear hD
    go_wp2_with fail
    refine (Right_any (nd : Int) b (D : Int) w1 ⟨by omega, by omega⟩ HB.out HDI.out).mono ?_
    rw [decide_eq_false HNR.out]
    rintro e w2 ⟨rfl, hb2⟩
    have BEL2 := Lib.hid (below_then BEL1.out hb2)
    clear hb2
    go_wp2
    go_ret3
    exact ⟨none, 0, none, 0, rfl, BEL2.out⟩
  · have her : faultEr z nA = er := by
      rcases hR with ⟨h, he⟩ | ⟨h, h2, he⟩ | ⟨h, h2, _⟩
      · rw [faultEr, if_pos h, he]
      · rw [faultEr, if_neg h, if_pos h2, he]
      · exact absurd (faultEr_ok h h2) hf
    have d0 : (er != 0) = true := by rw [← her]; simpa using hf
    have HER := Lib.hid her
    clear hR hf her hDi hbb hs hd hT
    go_enter Tryd.func13, Tryd.ntmps13
    go_wp2_with fail
    refine (fault_any z A nA cA w).mono ?_
    rintro e w1 ⟨rfl, rfl⟩
    rw [HER.out]
    go_wp2
    go_ret3
    exact ⟨none, 0, none, 0, rfl, Below.refl _ _⟩
set_option maxHeartbeats 2000000 in
theorem Make_ok : MakeOk := by
  intro z S B D a n A nA cA Ad cd salt data w m h hs hd h64 hS hT hm
  have hD2 : D = 32 ∨ D = 64 := by have := h.shp.b; omega
  have h0 : sizeOfAlg (z : Int) ≠ 0 := by have := h.dig; intro e; omega
  have HF : Hid (faultEr (z : Int) nA = 0) := faultEr_ok h0 h64
  have hnd2 : ¬ (1048576 : Int) < (S : Int) := by omega
  have HO := Lib.hid h
  have HS := Lib.hid hs
  have HD := Lib.hid hd
  have HT := Lib.hid hT
  have HM := Lib.hid hm
  have HI := Lib.hid h.shp.i64
  have HG := Lib.hid h.shp.rgt
  clear h hs hd hT hm h0
  go_enter Tryd.func13, Tryd.ntmps13
  go_wp2_with fail
  refine (fault_any z A nA cA w).mono ?_
  rintro e w1 ⟨rfl, rfl⟩
  rw [HF.out]
  go_wp2_with fail
  refine (shapeOf_any z B Ad S cd D HO.out.dig w).mono ?_
  rintro e w1 ⟨rfl, hb1⟩
  have BEL1 := Lib.hid hb1
  clear hb1
  go_wp2_with fail
  refine (Right_any (S : Int) (B : Int) (D : Int) w1 HI.out.1 HI.out.2.1 HI.out.2.2).mono ?_
  rw [decide_eq_true HG.out]
  rintro e w2 ⟨rfl, hb2⟩
  have BEL2 := Lib.hid (below_then BEL1.out hb2)
  clear hb2
  go_wp2_with fail
  refine (grow_any z S B D a n A nA cA Ad cd salt data w2 m (HO.out.below BEL2.out) HS.out.le h64 hS (HT.out.below BEL2.out) HM.out).mono ?_
  obtain ⟨R, hR⟩ : ∃ R, blk (hsh z salt) B a n data (m - 1) 0 = R := ⟨_, rfl⟩
  have HRl : Hid (R.length = B) := by show _ = _; rw [← hR]; exact blk_length (fun t => hsh_length HO.out.alg HO.out.dig salt t) HO.out.shp.aD _ _
  have HRf : Hid (Fit 256 R) := by show Fit 256 R; rw [← hR]; exact blk_fit HO.out.dataFit _ _ _ _ _
  have HR := Lib.hid hR
  rw [hR]
  clear hR
  rintro e w3 ⟨A1, n1, c1, g, rfl, hbs, hB3, hb3⟩
  have HBS := Lib.hid hbs
  have HB3 := Lib.hid hB3
  have BEL3 := Lib.hid (below_then BEL2.out hb3)
  have hB4096 : B ≤ 4096 := HO.out.shp.b.2.1
  clear hbs hB3 hb3
  go_wp2_with fail
  refine (digest_any z D HO.out.alg HO.out.dig A nA cA salt (some ⟨g, 0, none⟩) B B R w3 (HO.out.below BEL3.out).rs HO.out.saltFit HS.out.le h64 (HB3.out.rd B HRl.out) HRf.out (Nat.le_refl _) (by omega) (HT.out.below BEL3.out)).mono ?_
  rintro e w4 ⟨g4, rfl, hg4, hB4, hb4⟩
  have HB4 := Lib.hid hB4
  have HBS4 := Lib.hid (HBS.out.below hb4)
  have BEL4 := Lib.hid (below_then BEL3.out hb4)
  clear hB4 hb4
  go_wp2
  go_ret3
  refine ⟨A1, n1, c1, some ⟨g4, 0, none⟩, D, rfl, HBS4.out, ?_, BEL4.out⟩
  rw [HR.out]
  exact ⟨HB4.out.rd D (hsh_length HO.out.alg HO.out.dig salt R), hsh_fit _ _ _, Nat.le_refl _, by unfold maxLen; omega, fun e => by cases e⟩
set_option maxHeartbeats 1000000 in
theorem Root_no : RootNo := by
  intro z b A nA cA Ad nd cd salt data er w hz hbb hs hd hnd hT hR
  have HM := Lib.hid (Make_no z b A nA cA Ad nd cd salt data er w hz hbb hs hd hnd hT hR)
  clear hz hbb hs hd hT hR
  go_enter Tryd.func14, Tryd.ntmps14
  go_wp2_with fail
  refine HM.out.mono ?_
  rintro e w1 ⟨A1, c1, A2, c2, rfl, hb1⟩
  go_wp2
  go_ret2
  exact ⟨A2, c2, rfl, hb1⟩
set_option maxHeartbeats 1000000 in
theorem Root_ok : RootOk := by
  intro z S B D a n A nA cA Ad cd salt data w m h hs hd h64 hS hT hm
  have HM := Lib.hid (Make_ok z S B D a n A nA cA Ad cd salt data w m h hs hd h64 hS hT hm)
  clear h hs hd hT hm
  go_enter Tryd.func14, Tryd.ntmps14
  go_wp2_with fail
  refine HM.out.mono ?_
  rintro e w1 ⟨A1, n1, c1, A2, c2, rfl, h1, h2, hb1⟩
  have H2 := Lib.hid h2
  clear h1 h2
  go_wp2
  go_ret2
  exact ⟨A2, c2, rfl, H2.out, hb1⟩
end Go.Proofs.YtfoenafjaaidmaaDoor
