/-
  For every three numbers in limbs RingTimes returns true. No condition but that two tables of Go's library, which the call does not read, hold what their text lays there.
-/
import Derived.Test.YtggnhncodiekhaaDoorLaw3
import Derived.Test.YtggnhncodiekhaaDoorTie
import Derived.Test.YtggnhncodiekhaaDoorCards
namespace Go.Proofs.YtggnhncodiekhaaDoor.ringTimes
open Go.Proofs.YtggnhncodiekhaaDoor Go.ChangeShapes Go.WideShapes Go.ChangeAt Go.RowKit
set_option linter.unusedVariables false
set_option linter.unusedSimpArgs false

set_option maxHeartbeats 1000000 in
theorem walk_guard (A : Option Addr) (n cap : Nat) (Aa : Option Addr) (na ca : Nat) (Ab : Option Addr) (nb cb : Nat) (w : World) (h : (8 : Int) < n ∨ (20 : Int) < na ∨ (20 : Int) < nb) :
    Calls Tryd.prog 4 #[.slice A n cap, .slice Aa na ca, .slice Ab nb cb] w fun e w' => e = .returned (.bool true) ∧ Below w.heap.size w w' := by
  by_cases q0 : (8 : Int) < n
  · clear h
    go_enter Tryd.func4, Tryd.ntmps4
    go_wp2_with fail
    refine (anchor_any w).mono ?_
    rintro e w1 ⟨rfl, hb1⟩
    go_wp2
    go_ret
    exact ⟨rfl, hb1⟩
  · replace h := h.resolve_left q0
    by_cases q1 : (20 : Int) < na
    · clear h
      go_enter Tryd.func4, Tryd.ntmps4
      go_wp2_with fail
      refine (anchor_any w).mono ?_
      rintro e w1 ⟨rfl, hb1⟩
      go_wp2
      go_ret
      exact ⟨rfl, hb1⟩
    · replace h := h.resolve_left q1
      go_enter Tryd.func4, Tryd.ntmps4
      go_wp2_with fail
      refine (anchor_any w).mono ?_
      rintro e w1 ⟨rfl, hb1⟩
      go_wp2
      go_ret
      exact ⟨rfl, hb1⟩

set_option maxHeartbeats 1000000 in
theorem walk_bad (A : Option Addr) (n cap : Nat) (l : List Nat) (Aa : Option Addr) (na ca : Nat) (la : List Nat) (Ab : Option Addr) (nb cb : Nat) (lb : List Nat) (w : World) (h : Rd .u32 w A n l) (hf : Fit 4294967296 l) (ha : Rd .u32 w Aa na la) (hfa : Fit 4294967296 la) (hb : Rd .u32 w Ab nb lb) (hfb : Fit 4294967296 lb) (q0 : ¬ (8 : Int) < n) (q1 : ¬ (20 : Int) < na ) (q2 : ¬ (20 : Int) < nb ) (hno : ¬ OkN n l) :
    Calls Tryd.prog 4 #[.slice A n cap, .slice Aa na ca, .slice Ab nb cb] w fun e w' => e = .returned (.bool true) ∧ Below w.heap.size w w' := by
  have HRn := Lib.hid h
  have HNO := Lib.hid hno
  clear h ha hb hno
  go_enter Tryd.func4, Tryd.ntmps4
  go_wp2_with fail
  refine (anchor_any w).mono ?_
  rintro e w1 ⟨rfl, hb1⟩
  have bel1 := hb1
  go_wp2_with fail
  refine (New_err A n cap l w1 (HRn.out.below bel1) hf HNO.out).mono ?_
  rintro e w2 ⟨rfl | rfl, hb2⟩
  · go_wp2
    go_ret
    exact ⟨rfl, below_then bel1 hb2⟩
  · go_wp2
    go_ret
    exact ⟨rfl, below_then bel1 hb2⟩

set_option maxRecDepth 100000 in
set_option maxHeartbeats 1000000 in
theorem walk_nota (A : Option Addr) (n cap : Nat) (l : List Nat) (Aa : Option Addr) (na ca : Nat) (la : List Nat) (Ab : Option Addr) (nb cb : Nat) (lb : List Nat) (w : World) (h : Rd .u32 w A n l) (hf : Fit 4294967296 l) (ha : Rd .u32 w Aa na la) (hfa : Fit 4294967296 la) (hb : Rd .u32 w Ab nb lb) (hfb : Fit 4294967296 lb) (q0 : ¬ (8 : Int) < n) (q1 : ¬ (20 : Int) < na ) (q2 : ¬ (20 : Int) < nb ) (hok : OkN n l) (hno : ¬ (na = n ∧ val 4294967296 la < val 4294967296 l)) :
    Calls Tryd.prog 4 #[.slice A n cap, .slice Aa na ca, .slice Ab nb cb] w fun e w' => e = .returned (.bool true) ∧ Below w.heap.size w w' := by
  have HRn := Lib.hid h
  have HRa := Lib.hid ha
  have HRb := Lib.hid hb
  have OK := Lib.hid hok
  have HNO := Lib.hid hno
  clear h ha hb hno hok
  go_enter Tryd.func4, Tryd.ntmps4
  go_wp2_with fail
  refine (anchor_any w).mono ?_
  rintro e w1 ⟨rfl, hb1⟩
  have bel1 := hb1
  go_wp2_with fail
  refine (New_ok A n cap l w1 (HRn.out.below bel1) hf OK.out.1 OK.out.2.1 OK.out.2.2.1 OK.out.2.2.2).mono ?_
  rintro e w2 ⟨g, rfl, hW, hb2⟩
  have bel2 := below_then bel1 hb2
  have HW := Lib.hid hW
  clear hW
  go_wp2_with fail
  refine (Times_no g n (val 4294967296 l) Aa na ca la Ab nb cb lb w2 HW.out (HRa.out.below bel2) hfa (HRb.out.below bel2) hfb (.inl HNO.out)).mono ?_
  rintro e w3 ⟨rfl, hb3⟩
  have bel3 := below_then bel2 hb3
  go_wp2_with fail
  refine (Short_no g n (val 4294967296 l) Aa na ca la Ab nb cb lb w3 (Whole.below HW.out hb3) (HRa.out.below bel3) hfa (HRb.out.below bel3) hfb (.inl HNO.out)).mono ?_
  rintro e w4 ⟨rfl, hb4⟩
  have bel4 := below_then bel3 hb4
  go_wp2_with fail
  refine (element_no Aa A na ca n cap la l w4 (HRa.out.below bel4) hfa (HRn.out.below bel4) hf (by omega) HNO.out).mono ?_
  rintro e w5 ⟨rfl, hb5⟩
  have bel5 := below_then bel4 hb5
  go_wp2
  go_ret
  exact ⟨rfl, bel5⟩

set_option maxRecDepth 100000 in
set_option maxHeartbeats 1000000 in
theorem walk_notb (A : Option Addr) (n cap : Nat) (l : List Nat) (Aa : Option Addr) (ca : Nat) (la : List Nat) (Ab : Option Addr) (nb cb : Nat) (lb : List Nat) (w : World) (h : Rd .u32 w A n l) (hf : Fit 4294967296 l) (ha : Rd .u32 w Aa n la) (hfa : Fit 4294967296 la) (hb : Rd .u32 w Ab nb lb) (hfb : Fit 4294967296 lb) (q0 : ¬ (8 : Int) < n) (q1 : ¬ (20 : Int) < n) (q2 : ¬ (20 : Int) < nb ) (hok : OkN n l) (hlt : val 4294967296 la < val 4294967296 l) (hno : ¬ (nb = n ∧ val 4294967296 lb < val 4294967296 l)) :
    Calls Tryd.prog 4 #[.slice A n cap, .slice Aa n ca, .slice Ab nb cb] w fun e w' => e = .returned (.bool true) ∧ Below w.heap.size w w' := by
  have HRn := Lib.hid h
  have HRa := Lib.hid ha
  have HRb := Lib.hid hb
  have OK := Lib.hid hok
  have HNO := Lib.hid hno
  have HLT := Lib.hid hlt
  clear h ha hb hno hok hlt
  go_enter Tryd.func4, Tryd.ntmps4
  go_wp2_with fail
  refine (anchor_any w).mono ?_
  rintro e w1 ⟨rfl, hb1⟩
  have bel1 := hb1
  go_wp2_with fail
  refine (New_ok A n cap l w1 (HRn.out.below bel1) hf OK.out.1 OK.out.2.1 OK.out.2.2.1 OK.out.2.2.2).mono ?_
  rintro e w2 ⟨g, rfl, hW, hb2⟩
  have bel2 := below_then bel1 hb2
  have HW := Lib.hid hW
  clear hW
  go_wp2_with fail
  refine (Times_no g n (val 4294967296 l) Aa n ca la Ab nb cb lb w2 HW.out (HRa.out.below bel2) hfa (HRb.out.below bel2) hfb (.inr HNO.out)).mono ?_
  rintro e w3 ⟨rfl, hb3⟩
  have bel3 := below_then bel2 hb3
  go_wp2_with fail
  refine (Short_no g n (val 4294967296 l) Aa n ca la Ab nb cb lb w3 (Whole.below HW.out hb3) (HRa.out.below bel3) hfa (HRb.out.below bel3) hfb (.inr HNO.out)).mono ?_
  rintro e w4 ⟨rfl, hb4⟩
  have bel4 := below_then bel3 hb4
  go_wp2_with fail
  refine (element_yes Aa A n ca cap la l w4 (HRa.out.below bel4) hfa (HRn.out.below bel4) hf (by omega) HLT.out).mono ?_
  rintro e w5 ⟨rfl, hb5⟩
  have bel5 := below_then bel4 hb5
  go_wp2_with fail
  refine (element_no Ab A nb cb n cap lb l w5 (HRb.out.below bel5) hfb (HRn.out.below bel5) hf (by omega) HNO.out).mono ?_
  rintro e w6 ⟨rfl, hb6⟩
  have bel6 := below_then bel5 hb6
  go_wp2
  go_ret
  exact ⟨rfl, bel6⟩

set_option maxRecDepth 100000 in
set_option maxHeartbeats 4000000 in
theorem walk_main (A : Option Addr) (n cap : Nat) (l : List Nat) (Aa : Option Addr) (ca : Nat) (la : List Nat) (Ab : Option Addr) (cb : Nat) (lb : List Nat) (w : World) (h : Rd .u32 w A n l) (hf : Fit 4294967296 l) (ha : Rd .u32 w Aa n la) (hfa : Fit 4294967296 la) (hb : Rd .u32 w Ab n lb) (hfb : Fit 4294967296 lb) (q0 : ¬ (8 : Int) < n) (q1 : ¬ (20 : Int) < n) (q2 : ¬ (20 : Int) < n) (hok : OkN n l) (hlt : val 4294967296 la < val 4294967296 l) (hltb : val 4294967296 lb < val 4294967296 l) :
    Calls Tryd.prog 4 #[.slice A n cap, .slice Aa n ca, .slice Ab n cb] w fun e w' => e = .returned (.bool true) ∧ Below w.heap.size w w' := by
  have HRn := Lib.hid h
  have HRa := Lib.hid ha
  have HRb := Lib.hid hb
  have OK := Lib.hid hok
  have HLT := Lib.hid hlt
  have HLB := Lib.hid hltb
  have HN : Hid (0 < val 4294967296 l) := by show _ < _; have := hok.2.2.2; omega
  have HNP : Hid (val 4294967296 l < 4294967296 ^ n) := val_ltn hf h.1
  have HAP : Hid (val 4294967296 la < 4294967296 ^ n) := val_ltn hfa ha.1
  have HBP : Hid (val 4294967296 lb < 4294967296 ^ n) := val_ltn hfb hb.1
  have n8 : n ≤ 8 := by omega
  clear h ha hb hok hlt hltb
  go_enter Tryd.func4, Tryd.ntmps4
  go_wp2_with fail
  refine (anchor_any w).mono ?_
  rintro e w1 ⟨rfl, hb1⟩
  have bel1 := hb1
  go_wp2_with fail
  refine (New_ok A n cap l w1 (HRn.out.below bel1) hf OK.out.1 OK.out.2.1 OK.out.2.2.1 OK.out.2.2.2).mono ?_
  rintro e w2 ⟨g, rfl, hW, hb2⟩
  have bel2 := below_then bel1 hb2
  have HW := Lib.hid hW
  clear hW
  go_wp2_with fail
  refine (Times_yes g n (val 4294967296 l) Aa ca la Ab cb lb w2 HW.out (HRa.out.below bel2) hfa HLT.out (HRb.out.below bel2) hfb HLB.out).mono ?_
  rintro e w3 ⟨Ap, cp, lp, rfl, hrp, hfp, hvp, hb3⟩
  have bel3 := below_then bel2 hb3
  have HRp := Lib.hid hrp
  have HVp := Lib.hid hvp
  clear hrp hvp
  go_wp2_with fail
  refine (Short_yes g n (val 4294967296 l) Aa ca la Ab cb lb w3 (Whole.below HW.out hb3) (HRa.out.below bel3) hfa HLT.out (HRb.out.below bel3) hfb HLB.out).mono ?_
  rintro e w4 ⟨As, cs, ls, rfl, hrs, hfs, hlts, hvs, hb4⟩
  have bel4 := below_then bel3 hb4
  have HRs := Lib.hid hrs
  have HVs := Lib.hid hvs
  have HLs := Lib.hid hlts
  clear hrs hvs hlts
  go_wp2_with fail
  refine (element_yes Aa A n ca cap la l w4 (HRa.out.below bel4) hfa (HRn.out.below bel4) hf (by omega) HLT.out).mono ?_
  rintro e w5 ⟨rfl, hb5⟩
  have bel5 := below_then bel4 hb5
  go_wp2_with fail
  refine (element_yes Ab A n cb cap lb l w5 (HRb.out.below bel5) hfb (HRn.out.below bel5) hf (by omega) HLB.out).mono ?_
  rintro e w6 ⟨rfl, hb6⟩
  have bel6 := below_then bel5 hb6
  go_wp2_with fail
  refine (Digits_any A n cap l w6 (HRn.out.below bel6) hf (by omega)).mono ?_
  rintro e w7 ⟨Am, mm, cm, rfl, hrm, hcm, hmm, hb7⟩
  have bel7 := below_then bel6 hb7
  have HRm := Lib.hid hrm
  clear hrm hcm hmm
  have HMm : Hid (mm ≤ 4 * n) := by show _ ≤ _; rw [← HRm.out.1]; exact digs_le_of HNP.out
  go_wp2_with fail
  refine (Digits_any Aa n ca la w7 (HRa.out.below bel7) hfa (by omega)).mono ?_
  rintro e w8 ⟨Ax, mx, cx, rfl, hrx, hcx, hmx, hb8⟩
  have bel8 := below_then bel7 hb8
  have HRx := Lib.hid hrx
  clear hrx hcx hmx
  have HMx : Hid (mx ≤ 4 * n) := by show _ ≤ _; rw [← HRx.out.1]; exact digs_le_of HAP.out
  go_wp2_with fail
  refine (Digits_any Ab n cb lb w8 (HRb.out.below bel8) hfb (by omega)).mono ?_
  rintro e w9 ⟨Ay, my, cy, rfl, hry, hcy, hmy, hb9⟩
  have bel9 := below_then bel8 hb9
  have HRy := Lib.hid hry
  clear hry hcy hmy
  have HMy : Hid (my ≤ 4 * n) := by show _ ≤ _; rw [← HRy.out.1]; exact digs_le_of HBP.out
  go_wp2_with fail
  refine (Mul_digs Ax Ay mx cx my cy _ _ w9 (HRx.out.below hb9) HRy.out (by have := HMx.out; omega) (by have := HMy.out; omega)).mono ?_
  rintro e w10 ⟨Az, mz, cz, rfl, hrz, hcz, hmz, hb10⟩
  have bel10 := below_then bel9 hb10
  have HRz := Lib.hid hrz
  clear hrz hcz hmz
  have HMz : Hid (mz ≤ 4 * (n + n)) := by show _ ≤ _; rw [← HRz.out.1]; exact digs_le_of (mul_lt_pow HAP.out HBP.out)
  go_wp2_with fail
  refine (Mod_digs Az Am mz cz mm cm _ _ w10 HRz.out (((HRm.out.below hb8).below hb9).below hb10) (by have := HMz.out; omega) (by have := HMm.out; omega) HN.out).mono ?_
  rintro e w11 ⟨At, mt, ct, rfl, hrt, hct, hmt, hb11⟩
  have bel11 := below_then bel10 hb11
  have HRt := Lib.hid hrt
  clear hrt hct hmt
  have HMt : Hid (mt ≤ 4 * n) := by show _ ≤ _; rw [← HRt.out.1]; exact digs_le_of (mod_ltn HN.out HNP.out)
  go_wp2_with fail
  refine (is_yes Ap At n cp mt ct lp _ _ w11 rfl ((((((((HRp.out.below hb4).below hb5).below hb6).below hb7).below hb8).below hb9).below hb10).below hb11) hfp (by omega) HRt.out HVp.out).mono ?_
  rintro e w12 ⟨rfl, hb12⟩
  have bel12 := below_then bel11 hb12
  go_wp2_with fail
  refine (element_yes As A n cs cap ls l w12 ((((((((HRs.out.below hb5).below hb6).below hb7).below hb8).below hb9).below hb10).below hb11).below hb12) hfs (HRn.out.below bel12) hf (by omega) HLs.out).mono ?_
  rintro e w13 ⟨rfl, hb13⟩
  have bel13 := below_then bel12 hb13
  have HSP : Hid (val 4294967296 ls < 4294967296 ^ n) := Nat.lt_trans HLs.out HNP.out
  go_wp2_with fail
  refine (Digits_any As n cs ls w13 (((((((((HRs.out.below hb5).below hb6).below hb7).below hb8).below hb9).below hb10).below hb11).below hb12).below hb13) hfs (by omega)).mono ?_
  rintro e w14 ⟨Au, mu, cu, rfl, hru, hcu, hmu, hb14⟩
  have bel14 := below_then bel13 hb14
  have HRu := Lib.hid hru
  clear hru hcu hmu
  have HMu : Hid (mu ≤ 4 * n) := by show _ ≤ _; rw [← HRu.out.1]; exact digs_le_of HSP.out
  go_wp2_with fail
  refine (Power_any _ (4 * n) (by omega) (by omega) w14).mono ?_
  rintro e w15 ⟨Av, mv, cv, rfl, hrv, hcv, hmv, hb15⟩
  have bel15 := below_then bel14 hb15
  have HRv := Lib.hid hrv
  clear hrv hcv hmv
  have HMv : Hid (mv ≤ 4 * (n + 1)) := by show _ ≤ _; rw [← HRv.out.1]; exact digs_le_of (pow_len n)
  go_wp2_with fail
  refine (Mul_digs Au Av mu cu mv cv _ _ w15 (HRu.out.below hb15) HRv.out (by have := HMu.out; omega) (by have := HMv.out; omega)).mono ?_
  rintro e w16 ⟨Ak, mk, ck, rfl, hrk, hck, hmk, hb16⟩
  have bel16 := below_then bel15 hb16
  have HRk := Lib.hid hrk
  clear hrk hck hmk
  have HMk : Hid (mk ≤ 4 * (n + (n + 1))) := by show _ ≤ _; rw [← HRk.out.1]; exact digs_le_of (mul_lt_pow HSP.out (pow_len n))
  go_wp2_with fail
  refine (Mod_digs Ak Am mk ck mm cm _ _ w16 HRk.out (((((((((HRm.out.below hb8).below hb9).below hb10).below hb11).below hb12).below hb13).below hb14).below hb15).below hb16) (by have := HMk.out; omega) (by have := HMm.out; omega) HN.out).mono ?_
  rintro e w17 ⟨Ab2, mb2, cb2, rfl, hrb2, hcb2, hmb2, hb17⟩
  have bel17 := below_then bel16 hb17
  have HRb2 := Lib.hid hrb2
  clear hrb2 hcb2 hmb2
  have HMb2 : Hid (mb2 ≤ 4 * n) := by show _ ≤ _; rw [← HRb2.out.1]; exact digs_le_of (mod_ltn HN.out HNP.out)
  go_wp2_with fail
  refine (Comp_digs Ab2 At mb2 cb2 mt ct _ _ w17 HRb2.out ((((((HRt.out.below hb12).below hb13).below hb14).below hb15).below hb16).below hb17) (by have := HMb2.out; omega) (by have := HMt.out; omega) (by rw [pow256_32]; exact HVs.out)).mono ?_
  rintro e w18 ⟨rfl, hb18⟩
  have bel18 := below_then bel17 hb18
  go_wp2
  go_ret
  exact ⟨rfl, bel18⟩

theorem walk (A : Option Addr) (n cap : Nat) (l : List Nat) (Aa : Option Addr) (na ca : Nat) (la : List Nat) (Ab : Option Addr) (nb cb : Nat) (lb : List Nat) (w : World) (h : Rd .u32 w A n l) (hf : Fit 4294967296 l) (hc : n ≤ cap) (hm : cap ≤ maxLen) (ha : Rd .u32 w Aa na la) (hfa : Fit 4294967296 la) (hca : na ≤ ca) (hma : ca ≤ maxLen) (hb : Rd .u32 w Ab nb lb) (hfb : Fit 4294967296 lb) (hcb : nb ≤ cb) (hmb : cb ≤ maxLen) :
    Calls Tryd.prog 4 #[.slice A n cap, .slice Aa na ca, .slice Ab nb cb] w fun e w' => e = .returned (.bool true) ∧ Below w.heap.size w w' := by
  by_cases q : (8 : Int) < n ∨ (20 : Int) < na ∨ (20 : Int) < nb
  · exact walk_guard A n cap Aa na ca Ab nb cb w q
  · have q0 : ¬ (8 : Int) < n := fun h => q (.inl h)
    have q1 : ¬ (20 : Int) < na := fun h => q (.inr (.inl h))
    have q2 : ¬ (20 : Int) < nb := fun h => q (.inr (.inr h))
    by_cases hok : OkN n l
    · by_cases hel : na = n ∧ val 4294967296 la < val 4294967296 l
      · obtain ⟨rfl, hlt⟩ := hel
        by_cases hel2 : nb = na ∧ val 4294967296 lb < val 4294967296 l
        · obtain ⟨rfl, hltb⟩ := hel2
          exact walk_main A nb cap l Aa ca la Ab cb lb w h hf ha hfa hb hfb q0 q1 q2 hok hlt hltb
        · exact walk_notb A na cap l Aa ca la Ab nb cb lb w h hf ha hfa hb hfb q0 q1 q2 hok hlt hel2
      · exact walk_nota A n cap l Aa na ca la Ab nb cb lb w h hf ha hfa hb hfb q0 q1 q2 hok hel
    · exact walk_bad A n cap l Aa na ca la Ab nb cb lb w h hf ha hfa hb hfb q0 q1 q2 hok

-- THE ROW's STEP
set_option maxRecDepth 100000 in
theorem lifted (os : Os) (started : os.Started) (H : Type) (enc : TypeId × Value → H) :
    ReturnsInHanded {} Tryd.checked os 4 .any (fun w args => (Rows.ringTimesSpec.pre enc Tryd.prog Tryd.f4 [] false w args ∧ laidMetH Tryd.prog listed w) ∧ sizedMet enc Tryd.prog Tryd.f4 (OpenSpec.ofChange Rows.ringTimesSpec) false w args)
      (Rows.ringTimesSpec.post enc Tryd.prog Tryd.f4 false true false false) := by
  refine returnsInHanded_of_change_and (C := Tryd.checked) (X := fun w _ => laidMetH Tryd.prog listed w) (fun _ _ _ hh h => h.of_heap hh) own started (by kernel_rfl) Tryd.func4
    (ChangeSpec.witness_shaped (enc := enc) (C := Tryd.checked) (os := os) (X := fun w _ => laidMetH Tryd.prog listed w) false (World.laidAll Tryd.prog os listed) #[.slice none 0 0, .slice none 0 0, .slice none 0 0] 8 (World.laidAll_os _ _ _)
      (World.shaped_of_ZipB (by kernel_rfl) (by kernel_rfl)) (by kernel_rfl) (by kernel_rfl) (by kernel_rfl)
      (by rw [MakeChecks.laidMetH_plain _ _ _ (by kernel_rfl)]; exact laidMet_laidAll _ (by kernel_rfl) (by kernel_rfl))) ?_
  intro W base args ds gs before hval0 hW _ _ hL _
  have hval : ∀ (j : Nat) t v, Tryd.f4.params[j]? = some t → args[j]? = some v → Value.okWide Tryd.prog W .any base t v := hval0
  have hW' := hW
  obtain ⟨p, q, hA0, hV, rfl, hfz, hnd⟩ := hW
  have hA : DataW.TrodAll enc Tryd.prog W 0 (fun _ => true) true Tryd.f4.params.toList args.toList ds p := hA0
  rw [Tryd.params4] at hA hval
  obtain ⟨v0, vs0, d0, ds0, p0, q0, hargs, rfl, rfl, h0, r0⟩ := trodAll_cons hA
  obtain ⟨v1, vs1, d1, ds1, p1, q1, rfl, rfl, rfl, h1, r1⟩ := trodAll_cons r0
  obtain ⟨v2, vs2, d2, ds2, p2, q2, rfl, rfl, rfl, h2, r2⟩ := trodAll_cons r1
  obtain ⟨rfl, rfl, rfl⟩ := trodAll_nil r2
  obtain rfl : args = #[v0, v1, v2] := by cases args; simp_all
  obtain ⟨rfl, rfl⟩ := trodVars_none hV
  have k0 := h0
  have lt0 : ∀ x ∈ p0, x.block < W.heap.size := by obtain ⟨m, hm⟩ := k0; exact DataW.trod_lt m _ _ _ hm
  obtain ⟨fuel0, hf0⟩ := h0
  obtain ⟨a0, len0, cap0, l0, e0, g0, hlc0, hcm0, hnil0⟩ := limbs_of_trod hf0
  obtain ⟨b0, lb0, cb0, hv0⟩ := okWide_slice Tryd.underlying23 (hval 0 23 v0 rfl rfl)
  have ev0 : v0 = .slice a0 len0 cap0 := by rw [hv0] at e0 ⊢; simpa [Value.cells] using e0
  subst ev0
  have k1 := h1
  have lt1 : ∀ x ∈ p1, x.block < W.heap.size := by obtain ⟨m, hm⟩ := k1; exact DataW.trod_lt m _ _ _ hm
  obtain ⟨fuel1, hf1⟩ := h1
  obtain ⟨a1, len1, cap1, l1, e1, g1, hlc1, hcm1, hnil1⟩ := limbs_of_trod hf1
  obtain ⟨b1, lb1, cb1, hv1⟩ := okWide_slice Tryd.underlying23 (hval 1 23 v1 rfl rfl)
  have ev1 : v1 = .slice a1 len1 cap1 := by rw [hv1] at e1 ⊢; simpa [Value.cells] using e1
  subst ev1
  have k2 := h2
  have lt2 : ∀ x ∈ p2, x.block < W.heap.size := by obtain ⟨m, hm⟩ := k2; exact DataW.trod_lt m _ _ _ hm
  obtain ⟨fuel2, hf2⟩ := h2
  obtain ⟨a2, len2, cap2, l2, e2, g2, hlc2, hcm2, hnil2⟩ := limbs_of_trod hf2
  obtain ⟨b2, lb2, cb2, hv2⟩ := okWide_slice Tryd.underlying23 (hval 2 23 v2 rfl rfl)
  have ev2 : v2 = .slice a2 len2 cap2 := by rw [hv2] at e2 ⊢; simpa [Value.cells] using e2
  subst ev2
  clear hA0 hval0
  refine (walk a0 len0 cap0 l0 a1 len1 cap1 l1 a2 len2 cap2 l2 W g0.1 g0.2 hlc0 hcm0 g1.1 g1.2 hlc1 hcm1 g2.1 g2.2 hlc2 hcm2).mono fun e W' ⟨he, bel⟩ => ?_
  subst he
  exact ⟨_, rfl, _, _, _, [], _, [], hW', trodAll_mk1 (shut_bool Tryd.underlying4 _), (trodAll_cons_mk (Below.trod laidOut (by kernel_rfl) (of_decide_eq_true (by kernel_rfl)) k0 bel lt0) (trodAll_cons_mk (Below.trod laidOut (by kernel_rfl) (of_decide_eq_true (by kernel_rfl)) k1 bel lt1) (trodAll_cons_mk (Below.trod laidOut (by kernel_rfl) (of_decide_eq_true (by kernel_rfl)) k2 bel lt2) trodAll_mk0))), rfl, bel.frame _, fun h => by cases h⟩

theorem row_holds : Rows.RingTimesSaid :=
  OpenClaim.holds_of_wide 4 Tryd.f4 rfl rfl rfl rfl rfl rfl rfl ⟨rfl, rfl, rfl, rfl, rfl⟩ rfl rfl rfl rfl rfl (by kernel_rfl) Tryd.func4 (by kernel_rfl)
    (of_decide_eq_true (by kernel_rfl)) (by unfold Func.isWrapper; first | (rw [if_pos (by decide +kernel)]; kernel_rfl) | (rw [if_neg (by decide +kernel)]; exact ⟨rfl, rfl⟩))
    (fun os started H enc _ => lifted os started H enc)

theorem proved : Rows.RingTimesCardSaid :=
  Claim7.holds_tied_plain_at .later [] [.data, .pinned] true Rows.ringTimesCard.stood.harness false
    row_holds (fun _ h => by cases h) (by kernel_rfl) (fun _ h => by cases h) ringTimes_row_tie rfl ⟨rfl, rfl⟩ (by kernel_rfl) rfl
    (fun f fn hf hfn => by
      obtain rfl : f = 4 := Option.some.inj ((show Tryd.prog.funcNamed Tryd.f4.name = some 4 by kernel_rfl).symm.trans hf) |>.symm
      obtain rfl : fn = Tryd.f4 := (Option.some.inj (Tryd.func4.symm.trans hfn)).symm
      exact ⟨by kernel_rfl, fun j t ht => by
        rw [Tryd.params4] at ht
        have hm : t ∈ [23, 23, 23] := by simpa using Array.mem_of_getElem? ht
        have hall : ([23, 23, 23].all fun u => !Tryd.prog.wantsStandIn u) = true := by kernel_rfl
        exact (show Tryd.prog.wantsStandIn t = false by simpa using List.all_eq_true.1 hall t hm)⟩)
    (by kernel_rfl)
end Go.Proofs.YtggnhncodiekhaaDoor.ringTimes
