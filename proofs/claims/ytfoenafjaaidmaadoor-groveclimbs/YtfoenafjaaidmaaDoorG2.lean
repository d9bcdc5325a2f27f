/-
  What Check of package grove answers.
-/
import Derived.Test.YtfoenafjaaidmaaDoorG1
namespace Go.Proofs.YtfoenafjaaidmaaDoor
open Go.RowKit
set_option linter.unusedVariables false
set_option linter.unusedSimpArgs false
set_option maxRecDepth 100000

set_option maxHeartbeats 2000000 in
theorem Check_any : CheckC := by
  intro z A nA cA Au nu cu at_ Al nl cl salt above below r w hz ha hs hu hl hnu hnl hT hr
  obtain ⟨er, her⟩ : ∃ er, faultEr z nA = er := ⟨_, rfl⟩
  have HER := Lib.hid her
  have HT := Lib.hid hT
  by_cases hf : er = 0
  · subst hf
    have h0 : sizeOfAlg z ≠ 0 := by
      intro h
      rw [faultEr, if_pos h] at her
      exact absurd her (by decide)
    have h64 : nA ≤ 64 := by
      rw [faultEr, if_neg h0] at her
      split at her
      · exact absurd her (by decide)
      · omega
    obtain ⟨s, rfl, hs12⟩ := algYes h0
    obtain ⟨D, hD⟩ : ∃ D, sizeOfAlg (s : Int) = D := ⟨_, rfl⟩
    have hDD : sizeOfAlg s = D := hD
    have hD2 : D = 32 ∨ D = 64 := by have := sizeAlg_cases hs12; omega
    have HD := Lib.hid hD
    have HS := Lib.hid hs
    have HU := Lib.hid hu
    have HL := Lib.hid hl
    have HR := Lib.hid hr
    have hlen : above.length = nu := hu.rd.1
    have hDn : D ≤ 1000 := by omega
    have hnc := hu.le
    have hcm := hu.max
    clear hs hu hl hr hT her
    by_cases hin : ∃ k : Nat, at_ = k ∧ k + D ≤ nu
    · obtain ⟨k, rfl, hk⟩ := hin
      obtain ⟨q, hq⟩ : ∃ q, (above.drop k).take D = q := ⟨_, rfl⟩
      obtain ⟨d, hd⟩ : ∃ d, hsh s salt below = d := ⟨_, rfl⟩
      have HQ := Lib.hid hq
      have HDG := Lib.hid hd
      have hqf : Fit 256 q := by rw [← hq]; exact fit_take (fit_drop HU.out.fit _) _
      have hdf : Fit 256 d := by rw [← hd]; exact hsh_fit _ _ _
      have hql : q.length = D := by rw [← hq, List.length_take, List.length_drop, hlen]; omega
      have hdl : d.length = D := by rw [← hd]; exact hsh_length hs12 hDD _ _
      have hrr : r = decide (q = d) := by
        have h1 : Stands s nA salt above k below ↔ q = d := by
          constructor
          · rintro ⟨s', k', e1, e2, e3, e4, e5, e6⟩
            obtain rfl : s = s' := by omega
            obtain rfl : k = k' := by omega
            rw [hD] at e6
            rw [← hq, ← hd, e6]
          · intro e
            exact ⟨s, k, rfl, rfl, hs12, h64, by rw [hD, hlen]; exact hk, by rw [hD, hq, hd]; exact e⟩
        rw [Bool.eq_iff_iff, HR.out, h1, decide_eq_true_iff]
      have HRR := Lib.hid hrr
      have HF := Lib.hid hqf
      have HG := Lib.hid hdf
      have HQL := Lib.hid hql
      have HDL := Lib.hid hdl
      clear hq hd hqf hdf hql hdl hrr hD hDD
      go_enter Tryd.func26, Tryd.ntmps26
      go_wp2_with fail
      refine (fault_any s A nA cA w).mono ?_
      rintro e w1 ⟨rfl, rfl⟩
      rw [HER.out]
      go_wp2_with fail
      refine (Size7_any s w).mono ?_
      rintro e w1 ⟨rfl, rfl⟩
      rw [HD.out]
      go_wp2_with fail
      refine (Cut_ok Au nu cu above k D w HU.out.rd (by omega) hDn hnc hcm hk).mono ?_
      rw [HQ.out]
      rintro e w1 ⟨g1, rfl, hg1, hB1, hb1⟩
      have HB1 := Lib.hid hB1
      have HS1 := Lib.hid (HS.out.below hb1)
      have HL1 := Lib.hid (HL.out.below hb1)
      have HT1 := Lib.hid (HT.out.below hb1)
      have BEL1 := Lib.hid hb1
      clear hB1 hb1
      go_wp2_with fail
      refine (digest_any s D hs12 HD.out A nA cA salt Al nl cl below w1 HS1.out.rd HS1.out.fit HS1.out.le h64 HL1.out.rd HL1.out.fit HL1.out.le (by omega) HT1.out).mono ?_
      rw [HDG.out]
      rintro e w2 ⟨g2, rfl, hg2, hB2, hb2⟩
      have HB2 := Lib.hid hB2
      have HB12 := Lib.hid (HB1.out.below hb2 HB1.out.lt)
      have BEL2 := Lib.hid (below_then BEL1.out hb2)
      clear hB2 hb2
      go_wp2_with fail
      refine (Equal_any _ _ D D D D q d w2 (HB12.out.rd D HQL.out) (HB2.out.rd D HDL.out) HF.out HG.out).mono ?_
      rw [← HRR.out]
      rintro e w3 ⟨rfl, rfl⟩
      go_wp2
      go_ret
      exact ⟨rfl, BEL2.out⟩
    · have hrf : r = false := by
        cases r with
        | false => rfl
        | true =>
          obtain ⟨s', k', e1, e2, e3, e4, e5, e6⟩ := HR.out.1 rfl
          exact absurd ⟨k', e2, by rw [hD, hlen] at e5; exact e5⟩ hin
      subst hrf
      have hout : ∀ k : Nat, at_ = k → nu < k + D := fun k hk => Nat.lt_of_not_le fun h => hin ⟨k, hk, h⟩
      have HO := Lib.hid hout
      have ha2 := ha.2
      clear hin hout hD hDD
      go_enter Tryd.func26, Tryd.ntmps26
      go_wp2_with fail
      refine (fault_any s A nA cA w).mono ?_
      rintro e w1 ⟨rfl, rfl⟩
      rw [HER.out]
      go_wp2_with fail
      refine (Size7_any s w).mono ?_
      rintro e w1 ⟨rfl, rfl⟩
      rw [HD.out]
      go_wp2_with fail
      refine (Cut_end Au nu cu at_ D w (by omega) hDn ha2 HO.out).mono ?_
      rintro e w1 ⟨rfl, rfl⟩
      go_wp2
      go_ret
      exact ⟨rfl, Below.refl _ _⟩
  · have d0 : (er != 0) = true := by simpa using hf
    have hrf : r = false := by
      cases r with
      | false => rfl
      | true =>
        obtain ⟨s', k', e1, e2, e3, e4, e5, e6⟩ := hr.1 rfl
        exfalso
        apply hf
        rw [← her, faultEr, if_neg, if_neg (by omega)]
        subst e1
        have := sizeAlg_cases e3
        intro h
        have h' : sizeOfAlg s' = 0 := h
        omega
    subst hrf
    clear hr her hs hu hl
    go_enter Tryd.func26, Tryd.ntmps26
    go_wp2_with fail
    refine (fault_any z A nA cA w).mono ?_
    rintro e w1 ⟨rfl, rfl⟩
    rw [HER.out]
    go_wp2
    go_ret
    exact ⟨rfl, Below.refl _ _⟩
end Go.Proofs.YtfoenafjaaidmaaDoor
