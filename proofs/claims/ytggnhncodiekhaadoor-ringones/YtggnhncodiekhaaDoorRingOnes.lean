/-
  For every four numbers in limbs RingOnes returns true. No condition but that two tables of Go's library, which the call does not read, hold what their text lays there.
-/
import Derived.Test.YtggnhncodiekhaaDoorLaw3
import Derived.Test.YtggnhncodiekhaaDoorTie
import Derived.Test.YtggnhncodiekhaaDoorCards
namespace Go.Proofs.YtggnhncodiekhaaDoor.ringOnes
open Go.Proofs.YtggnhncodiekhaaDoor Go.ChangeShapes Go.WideShapes Go.ChangeAt Go.RowKit
set_option linter.unusedVariables false
set_option linter.unusedSimpArgs false

set_option maxRecDepth 100000 in
set_option maxHeartbeats 1000000 in
theorem walk_guard (A : Option Addr) (n cap : Nat) (Aa : Option Addr) (na ca : Nat) (Ab : Option Addr) (nb cb : Nat) (Ac : Option Addr) (nc cc : Nat) (w : World) (h : (16 : Int) < n ∨ (20 : Int) < na ∨ (20 : Int) < nb ∨ (20 : Int) < nc) :
    Calls Tryd.prog 7 #[.slice A n cap, .slice Aa na ca, .slice Ab nb cb, .slice Ac nc cc] w fun e w' => e = .returned (.bool true) ∧ Below w.heap.size w w' := by
  by_cases q0 : (16 : Int) < n
  · clear h
    go_enter Tryd.func7, Tryd.ntmps7
    go_wp2_with fail
    refine (anchor_any w).mono ?_
    rintro e w1 ⟨rfl, hb1⟩
    go_wp2
    go_ret
    exact ⟨rfl, hb1⟩
  · replace h := h.resolve_left q0
    by_cases q1 : (20 : Int) < na
    · clear h
      go_enter Tryd.func7, Tryd.ntmps7
      go_wp2_with fail
      refine (anchor_any w).mono ?_
      rintro e w1 ⟨rfl, hb1⟩
      go_wp2
      go_ret
      exact ⟨rfl, hb1⟩
    · replace h := h.resolve_left q1
      by_cases q2 : (20 : Int) < nb
      · clear h
        go_enter Tryd.func7, Tryd.ntmps7
        go_wp2_with fail
        refine (anchor_any w).mono ?_
        rintro e w1 ⟨rfl, hb1⟩
        go_wp2
        go_ret
        exact ⟨rfl, hb1⟩
      · replace h := h.resolve_left q2
        go_enter Tryd.func7, Tryd.ntmps7
        go_wp2_with fail
        refine (anchor_any w).mono ?_
        rintro e w1 ⟨rfl, hb1⟩
        go_wp2
        go_ret
        exact ⟨rfl, hb1⟩

theorem three_mod (a b c N : Nat) : a * b % N * c % N = a * (b * c % N) % N := by
  rw [Nat.mul_mod, Nat.mod_mod, ← Nat.mul_mod, Nat.mul_mod a, Nat.mod_mod, ← Nat.mul_mod, Nat.mul_assoc]
set_option maxRecDepth 100000 in
set_option maxHeartbeats 1000000 in
theorem walk_bad (A : Option Addr) (n cap : Nat) (l : List Nat) (Aa : Option Addr) (na ca : Nat) (la : List Nat) (Ab : Option Addr) (nb cb : Nat) (lb : List Nat) (Ac : Option Addr) (nc cc : Nat) (lc : List Nat) (w : World) (h : Rd .u32 w A n l) (hf : Fit 4294967296 l) (ha : Rd .u32 w Aa na la) (hfa : Fit 4294967296 la) (hb : Rd .u32 w Ab nb lb) (hfb : Fit 4294967296 lb) (hc : Rd .u32 w Ac nc lc) (hfc : Fit 4294967296 lc) (q0 : ¬ (16 : Int) < n) (q1 : ¬ (20 : Int) < na) (q2 : ¬ (20 : Int) < nb) (q3 : ¬ (20 : Int) < nc) (hno : ¬ OkN n l) :
    Calls Tryd.prog 7 #[.slice A n cap, .slice Aa na ca, .slice Ab nb cb, .slice Ac nc cc] w fun e w' => e = .returned (.bool true) ∧ Below w.heap.size w w' := by
  have HRn := Lib.hid h
  have HNO := Lib.hid hno
  clear h ha hb hc hno
  go_enter Tryd.func7, Tryd.ntmps7
  go_wp2_with fail
  refine (anchor_any w).mono ?_
  rintro e w1 ⟨rfl, hb1⟩
  have bel1 := hb1
  go_wp2_with fail
  refine (New_err A n cap l w1 (HRn.out.below bel1) hf HNO.out).mono ?_
  rintro e w2 ⟨rfl | rfl, hb2⟩
  · go_wp2
    go_ret
    exact ⟨rfl, below_then bel1 hb2⟩
  · go_wp2
    go_ret
    exact ⟨rfl, below_then bel1 hb2⟩

set_option maxRecDepth 100000 in
set_option maxHeartbeats 1000000 in
theorem walk_nota (A : Option Addr) (n cap : Nat) (l : List Nat) (Aa : Option Addr) (na ca : Nat) (la : List Nat) (Ab : Option Addr) (nb cb : Nat) (lb : List Nat) (Ac : Option Addr) (nc cc : Nat) (lc : List Nat) (w : World) (h : Rd .u32 w A n l) (hf : Fit 4294967296 l) (ha : Rd .u32 w Aa na la) (hfa : Fit 4294967296 la) (hb : Rd .u32 w Ab nb lb) (hfb : Fit 4294967296 lb) (hc : Rd .u32 w Ac nc lc) (hfc : Fit 4294967296 lc) (q0 : ¬ (16 : Int) < n) (q1 : ¬ (20 : Int) < na) (q2 : ¬ (20 : Int) < nb) (q3 : ¬ (20 : Int) < nc) (hok : OkN n l) (hno : ¬ (na = n ∧ val 4294967296 la < val 4294967296 l)) :
    Calls Tryd.prog 7 #[.slice A n cap, .slice Aa na ca, .slice Ab nb cb, .slice Ac nc cc] w fun e w' => e = .returned (.bool true) ∧ Below w.heap.size w w' := by
  have HRn := Lib.hid h
  have HRa := Lib.hid ha
  have HRb := Lib.hid hb
  have HRc := Lib.hid hc
  have OK := Lib.hid hok
  have HNO := Lib.hid hno
  clear h ha hb hc hno hok
  go_enter Tryd.func7, Tryd.ntmps7
  go_wp2_with fail
  refine (anchor_any w).mono ?_
  rintro e w1 ⟨rfl, hb1⟩
  have bel1 := hb1
  go_wp2_with fail
  refine (New_ok A n cap l w1 (HRn.out.below bel1) hf OK.out.1 OK.out.2.1 OK.out.2.2.1 OK.out.2.2.2).mono ?_
  rintro e w2 ⟨g, rfl, hW, hb2⟩
  have bel2 := below_then bel1 hb2
  have HW := Lib.hid hW
  clear hW
  go_wp2_with fail
  refine (element_no Aa A na ca n cap la l w2 (HRa.out.below bel2) hfa (HRn.out.below bel2) hf (by omega) HNO.out).mono ?_
  rintro e w3 ⟨rfl, hb3⟩
  have bel3 := below_then bel2 hb3
  go_wp2
  go_ret
  exact ⟨rfl, bel3⟩

set_option maxRecDepth 100000 in
set_option maxHeartbeats 1000000 in
theorem walk_notb (A : Option Addr) (n cap : Nat) (l : List Nat) (Aa : Option Addr) (ca : Nat) (la : List Nat) (Ab : Option Addr) (nb cb : Nat) (lb : List Nat) (Ac : Option Addr) (nc cc : Nat) (lc : List Nat) (w : World) (h : Rd .u32 w A n l) (hf : Fit 4294967296 l) (ha : Rd .u32 w Aa n la) (hfa : Fit 4294967296 la) (hb : Rd .u32 w Ab nb lb) (hfb : Fit 4294967296 lb) (hc : Rd .u32 w Ac nc lc) (hfc : Fit 4294967296 lc) (q0 : ¬ (16 : Int) < n) (q1 : ¬ (20 : Int) < n) (q2 : ¬ (20 : Int) < nb) (q3 : ¬ (20 : Int) < nc) (hok : OkN n l) (hlt : val 4294967296 la < val 4294967296 l) (hno : ¬ (nb = n ∧ val 4294967296 lb < val 4294967296 l)) :
    Calls Tryd.prog 7 #[.slice A n cap, .slice Aa n ca, .slice Ab nb cb, .slice Ac nc cc] w fun e w' => e = .returned (.bool true) ∧ Below w.heap.size w w' := by
  have HRn := Lib.hid h
  have HRa := Lib.hid ha
  have HRb := Lib.hid hb
  have HRc := Lib.hid hc
  have OK := Lib.hid hok
  have HNO := Lib.hid hno
  have HLT := Lib.hid hlt
  clear h ha hb hc hno hok
  go_enter Tryd.func7, Tryd.ntmps7
  go_wp2_with fail
  refine (anchor_any w).mono ?_
  rintro e w1 ⟨rfl, hb1⟩
  have bel1 := hb1
  go_wp2_with fail
  refine (New_ok A n cap l w1 (HRn.out.below bel1) hf OK.out.1 OK.out.2.1 OK.out.2.2.1 OK.out.2.2.2).mono ?_
  rintro e w2 ⟨g, rfl, hW, hb2⟩
  have bel2 := below_then bel1 hb2
  have HW := Lib.hid hW
  clear hW
  go_wp2_with fail
  refine (element_yes Aa A n ca cap la l w2 (HRa.out.below bel2) hfa (HRn.out.below bel2) hf (by omega) HLT.out).mono ?_
  rintro e w3 ⟨rfl, hb3⟩
  have bel3 := below_then bel2 hb3
  go_wp2_with fail
  refine (element_no Ab A nb cb n cap lb l w3 (HRb.out.below bel3) hfb (HRn.out.below bel3) hf (by omega) HNO.out).mono ?_
  rintro e w4 ⟨rfl, hb4⟩
  have bel4 := below_then bel3 hb4
  go_wp2
  go_ret
  exact ⟨rfl, bel4⟩

set_option maxRecDepth 100000 in
set_option maxHeartbeats 1000000 in
theorem walk_notc (A : Option Addr) (n cap : Nat) (l : List Nat) (Aa : Option Addr) (ca : Nat) (la : List Nat) (Ab : Option Addr) (cb : Nat) (lb : List Nat) (Ac : Option Addr) (nc cc : Nat) (lc : List Nat) (w : World) (h : Rd .u32 w A n l) (hf : Fit 4294967296 l) (ha : Rd .u32 w Aa n la) (hfa : Fit 4294967296 la) (hb : Rd .u32 w Ab n lb) (hfb : Fit 4294967296 lb) (hc : Rd .u32 w Ac nc lc) (hfc : Fit 4294967296 lc) (q0 : ¬ (16 : Int) < n) (q1 : ¬ (20 : Int) < n) (q2 : ¬ (20 : Int) < n) (q3 : ¬ (20 : Int) < nc) (hok : OkN n l) (hlt : val 4294967296 la < val 4294967296 l) (hltb : val 4294967296 lb < val 4294967296 l) (hno : ¬ (nc = n ∧ val 4294967296 lc < val 4294967296 l)) :
    Calls Tryd.prog 7 #[.slice A n cap, .slice Aa n ca, .slice Ab n cb, .slice Ac nc cc] w fun e w' => e = .returned (.bool true) ∧ Below w.heap.size w w' := by
  have HRn := Lib.hid h
  have HRa := Lib.hid ha
  have HRb := Lib.hid hb
  have HRc := Lib.hid hc
  have OK := Lib.hid hok
  have HNO := Lib.hid hno
  have HLT := Lib.hid hlt
  have HLB := Lib.hid hltb
  clear h ha hb hc hno hok
  go_enter Tryd.func7, Tryd.ntmps7
  go_wp2_with fail
  refine (anchor_any w).mono ?_
  rintro e w1 ⟨rfl, hb1⟩
  have bel1 := hb1
  go_wp2_with fail
  refine (New_ok A n cap l w1 (HRn.out.below bel1) hf OK.out.1 OK.out.2.1 OK.out.2.2.1 OK.out.2.2.2).mono ?_
  rintro e w2 ⟨g, rfl, hW, hb2⟩
  have bel2 := below_then bel1 hb2
  have HW := Lib.hid hW
  clear hW
  go_wp2_with fail
  refine (element_yes Aa A n ca cap la l w2 (HRa.out.below bel2) hfa (HRn.out.below bel2) hf (by omega) HLT.out).mono ?_
  rintro e w3 ⟨rfl, hb3⟩
  have bel3 := below_then bel2 hb3
  go_wp2_with fail
  refine (element_yes Ab A n cb cap lb l w3 (HRb.out.below bel3) hfb (HRn.out.below bel3) hf (by omega) HLB.out).mono ?_
  rintro e w4 ⟨rfl, hb4⟩
  have bel4 := below_then bel3 hb4
  go_wp2_with fail
  refine (element_no Ac A nc cc n cap lc l w4 (HRc.out.below bel4) hfc (HRn.out.below bel4) hf (by omega) HNO.out).mono ?_
  rintro e w5 ⟨rfl, hb5⟩
  have bel5 := below_then bel4 hb5
  go_wp2
  go_ret
  exact ⟨rfl, bel5⟩

set_option maxRecDepth 100000 in
set_option maxHeartbeats 4000000 in
theorem walk_main (A : Option Addr) (n cap : Nat) (l : List Nat) (Aa : Option Addr) (ca : Nat) (la : List Nat) (Ab : Option Addr) (cb : Nat) (lb : List Nat) (Ac : Option Addr) (cc : Nat) (lc : List Nat) (w : World) (h : Rd .u32 w A n l) (hf : Fit 4294967296 l) (ha : Rd .u32 w Aa n la) (hfa : Fit 4294967296 la) (hb : Rd .u32 w Ab n lb) (hfb : Fit 4294967296 lb) (hc : Rd .u32 w Ac n lc) (hfc : Fit 4294967296 lc) (q0 : ¬ (16 : Int) < n) (q1 : ¬ (20 : Int) < n) (q2 : ¬ (20 : Int) < n) (q3 : ¬ (20 : Int) < n) (hok : OkN n l) (hlt : val 4294967296 la < val 4294967296 l) (hltb : val 4294967296 lb < val 4294967296 l) (hltc : val 4294967296 lc < val 4294967296 l) :
    Calls Tryd.prog 7 #[.slice A n cap, .slice Aa n ca, .slice Ab n cb, .slice Ac n cc] w fun e w' => e = .returned (.bool true) ∧ Below w.heap.size w w' := by
  have HRn := Lib.hid h
  have HRa := Lib.hid ha
  have HRb := Lib.hid hb
  have HRc := Lib.hid hc
  have OK := Lib.hid hok
  have HLT := Lib.hid hlt
  have HLB := Lib.hid hltb
  have HLC := Lib.hid hltc
  have HN : Hid (0 < val 4294967296 l) := by show _ < _; have := hok.2.2.2; omega
  have n1 : 1 ≤ n := hok.1
  have n0 : 0 < n := hok.1
  clear h ha hb hc hok hlt hltb hltc
  go_enter Tryd.func7, Tryd.ntmps7
  go_wp2_with fail
  refine (anchor_any w).mono ?_
  rintro e w1 ⟨rfl, hb1⟩
  have bel1 := hb1
  go_wp2_with fail
  refine (New_ok A n cap l w1 (HRn.out.below bel1) hf OK.out.1 OK.out.2.1 OK.out.2.2.1 OK.out.2.2.2).mono ?_
  rintro e w2 ⟨g, rfl, hW, hb2⟩
  have bel2 := below_then bel1 hb2
  have HW := Lib.hid hW
  clear hW
  go_wp2_with fail
  refine (element_yes Aa A n ca cap la l w2 (HRa.out.below bel2) hfa (HRn.out.below bel2) hf (by omega) HLT.out).mono ?_
  rintro e w3 ⟨rfl, hb3⟩
  have bel3 := below_then bel2 hb3
  go_wp2_with fail
  refine (element_yes Ab A n cb cap lb l w3 (HRb.out.below bel3) hfb (HRn.out.below bel3) hf (by omega) HLB.out).mono ?_
  rintro e w4 ⟨rfl, hb4⟩
  have bel4 := below_then bel3 hb4
  go_wp2_with fail
  refine (element_yes Ac A n cc cap lc l w4 (HRc.out.below bel4) hfc (HRn.out.below bel4) hf (by omega) HLC.out).mono ?_
  rintro e w5 ⟨rfl, hb5⟩
  have bel5 := below_then bel4 hb5
  have hmk := run_make32 n (by omega)
  go_wp2
  go_region_law (fail)
  · clear hmk
    obtain ⟨hbm, hB1, hB2⟩ := two_made w5 n
    generalize ((w5.alloc (.cells (cn .u32 (List.replicate n 0)).toArray 31)).alloc (.cells (cn .u32 (List.replicate n 0)).toArray 31)).drew = wm at *
    have HB1 := Lib.hid hB1
    have HB2 := Lib.hid hB2
    clear hB1 hB2
    have hoc := first_zero HB1.out n1
    have hof := HB1.out.frozen 0
    go_wp2_with fail
    have hb6 : Below w5.heap.size w5 (wm.setCell ⟨w5.heap.size, 0, none⟩ (.int .u32 1)) := hbm.setCell (by simp) _
    have HRo := Lib.hid (rd_one HB1.out)
    have HRz := Lib.hid ((HB2.out.far (p := ⟨w5.heap.size, 0, none⟩) (by simp) (.int .u32 1)).rd n (by simp))
    clear HB1 HB2 hbm hoc hof
    generalize (wm.setCell ⟨w5.heap.size, 0, none⟩ (.int .u32 1)) = w6 at *
    have bel6 := below_then bel5 hb6
    refine (Times_yes g n (val 4294967296 l) _ _ la _ _ _ w6 (Whole.below (Whole.below (Whole.below (Whole.below HW.out hb3) hb4) hb5) hb6) (HRa.out.below bel6) hfa HLT.out HRo.out (fit_one n) (by rw [val_one n n1]; exact OK.out.2.2.2)).mono ?_
    rintro e w7 ⟨Ax, cx, lx, rfl, hrx, hfx, hvx, hb7⟩
    have bel7 := below_then bel6 hb7
    have HRx := Lib.hid hrx
    have HVx := Lib.hid hvx
    clear hrx hvx
    go_wp2_with fail
    refine (Times_yes g n (val 4294967296 l) _ _ (List.replicate n 0) _ _ la w7 (Whole.below (Whole.below (Whole.below (Whole.below (Whole.below HW.out hb3) hb4) hb5) hb6) hb7) (HRz.out.below hb7) (Fit.replicate _ _ _ (by omega)) (by rw [val_replicate]; exact HN.out) (HRa.out.below bel7) hfa HLT.out).mono ?_
    rintro e w8 ⟨Ay, cy, ly, rfl, hry, hfy, hvy, hb8⟩
    have bel8 := below_then bel7 hb8
    have HRy := Lib.hid hry
    have HVy := Lib.hid hvy
    clear hry hvy
    go_wp2_with fail
    refine (Times_yes g n (val 4294967296 l) _ _ la _ _ lb w8 (Whole.below (Whole.below (Whole.below (Whole.below (Whole.below (Whole.below HW.out hb3) hb4) hb5) hb6) hb7) hb8) (HRa.out.below bel8) hfa HLT.out (HRb.out.below bel8) hfb HLB.out).mono ?_
    rintro e w9 ⟨Aab, cab, lab, rfl, hrab, hfab, hvab, hb9⟩
    have bel9 := below_then bel8 hb9
    have HRab := Lib.hid hrab
    have HVab := Lib.hid hvab
    clear hrab hvab
    go_wp2_with fail
    refine (Times_yes g n (val 4294967296 l) _ _ lb _ _ la w9 (Whole.below (Whole.below (Whole.below (Whole.below (Whole.below (Whole.below (Whole.below HW.out hb3) hb4) hb5) hb6) hb7) hb8) hb9) (HRb.out.below bel9) hfb HLB.out (HRa.out.below bel9) hfa HLT.out).mono ?_
    rintro e w10 ⟨Aba, cba, lba, rfl, hrba, hfba, hvba, hb10⟩
    have bel10 := below_then bel9 hb10
    have HRba := Lib.hid hrba
    have HVba := Lib.hid hvba
    clear hrba hvba
    go_wp2_with fail
    refine (Times_yes g n (val 4294967296 l) _ _ lb _ _ lc w10 (Whole.below (Whole.below (Whole.below (Whole.below (Whole.below (Whole.below (Whole.below (Whole.below HW.out hb3) hb4) hb5) hb6) hb7) hb8) hb9) hb10) (HRb.out.below bel10) hfb HLB.out (HRc.out.below bel10) hfc HLC.out).mono ?_
    rintro e w11 ⟨Abc, cbc, lbc, rfl, hrbc, hfbc, hvbc, hb11⟩
    have bel11 := below_then bel10 hb11
    have HRbc := Lib.hid hrbc
    have HVbc := Lib.hid hvbc
    clear hrbc hvbc
    go_wp2_with fail
    refine (Times_yes g n (val 4294967296 l) _ _ lab _ _ lc w11 (Whole.below (Whole.below (Whole.below (Whole.below (Whole.below (Whole.below (Whole.below (Whole.below (Whole.below HW.out hb3) hb4) hb5) hb6) hb7) hb8) hb9) hb10) hb11) ((HRab.out.below hb10).below hb11) hfab (by rw [HVab.out]; exact Nat.mod_lt _ HN.out) (HRc.out.below bel11) hfc HLC.out).mono ?_
    rintro e w12 ⟨Ap, cp, lp, rfl, hrp, hfp, hvp, hb12⟩
    have bel12 := below_then bel11 hb12
    have HRp := Lib.hid hrp
    have HVp := Lib.hid hvp
    clear hrp hvp
    go_wp2_with fail
    refine (Times_yes g n (val 4294967296 l) _ _ la _ _ lbc w12 (Whole.below (Whole.below (Whole.below (Whole.below (Whole.below (Whole.below (Whole.below (Whole.below (Whole.below (Whole.below HW.out hb3) hb4) hb5) hb6) hb7) hb8) hb9) hb10) hb11) hb12) (HRa.out.below bel12) hfa HLT.out (HRbc.out.below hb12) hfbc (by rw [HVbc.out]; exact Nat.mod_lt _ HN.out)).mono ?_
    rintro e w13 ⟨Aq, cq, lq, rfl, hrq, hfq, hvq, hb13⟩
    have bel13 := below_then bel12 hb13
    have HRq := Lib.hid hrq
    have HVq := Lib.hid hvq
    clear hrq hvq
    go_wp2_with fail
    refine (Compare_same_ Ax Aa n cx n ca lx la w13 ((((((HRx.out.below hb8).below hb9).below hb10).below hb11).below hb12).below hb13) (HRa.out.below bel13) hfx hfa n1 (by omega) n1 (by omega) (by rw [HVx.out, val_one n n1, Nat.mul_one, Nat.mod_eq_of_lt HLT.out])).mono ?_
    rintro e w14 ⟨rfl, hb14⟩
    have bel14 := below_then bel13 hb14
    go_wp2_with fail
    refine (Bits_zero Ay n cy ly w14 ((((((HRy.out.below hb9).below hb10).below hb11).below hb12).below hb13).below hb14) hfy n1 (by omega) (by rw [HVy.out, val_replicate, Nat.zero_mul, Nat.zero_mod])).mono ?_
    rintro e w15 ⟨rfl, hb15⟩
    have bel15 := below_then bel14 hb15
    go_wp2_with fail
    refine (Compare_same_ Aab Aba n cab n cba lab lba w15 ((((((HRab.out.below hb10).below hb11).below hb12).below hb13).below hb14).below hb15) (((((HRba.out.below hb11).below hb12).below hb13).below hb14).below hb15) hfab hfba n1 (by omega) n1 (by omega) (by rw [HVab.out, HVba.out, Nat.mul_comm])).mono ?_
    rintro e w16 ⟨rfl, hb16⟩
    have bel16 := below_then bel15 hb16
    go_wp2_with fail
    refine (Compare_same_ Ap Aq n cp n cq lp lq w16 ((((HRp.out.below hb13).below hb14).below hb15).below hb16) (((HRq.out.below hb14).below hb15).below hb16) hfp hfq n1 (by omega) n1 (by omega) (by rw [HVp.out, HVq.out, HVab.out, HVbc.out]; exact three_mod _ _ _ _)).mono ?_
    rintro e w17 ⟨rfl, hb17⟩
    have bel17 := below_then bel16 hb17
    go_wp2
    go_ret
    exact ⟨rfl, bel17⟩
  · clear hmk
    obtain ⟨hbm, hB1, hB2⟩ := two_made w5 n
    generalize ((w5.alloc (.cells (cn .u32 (List.replicate n 0)).toArray 31)).alloc (.cells (cn .u32 (List.replicate n 0)).toArray 31)).drew = wm at *
    have HB1 := Lib.hid hB1
    have HB2 := Lib.hid hB2
    clear hB1 hB2
    have hoc := first_zero HB2.out n1
    have hof := HB2.out.frozen 0
    go_wp2_with fail
    have hb6 : Below w5.heap.size w5 (wm.setCell ⟨w5.heap.size + 1, 0, none⟩ (.int .u32 1)) := hbm.setCell (by simp) _
    have HRo := Lib.hid (rd_one HB2.out)
    have HRz := Lib.hid ((HB1.out.far (p := ⟨w5.heap.size + 1, 0, none⟩) (by simp) (.int .u32 1)).rd n (by simp))
    clear HB1 HB2 hbm hoc hof
    generalize (wm.setCell ⟨w5.heap.size + 1, 0, none⟩ (.int .u32 1)) = w6 at *
    have bel6 := below_then bel5 hb6
    refine (Times_yes g n (val 4294967296 l) _ _ la _ _ _ w6 (Whole.below (Whole.below (Whole.below (Whole.below HW.out hb3) hb4) hb5) hb6) (HRa.out.below bel6) hfa HLT.out HRo.out (fit_one n) (by rw [val_one n n1]; exact OK.out.2.2.2)).mono ?_
    rintro e w7 ⟨Ax, cx, lx, rfl, hrx, hfx, hvx, hb7⟩
    have bel7 := below_then bel6 hb7
    have HRx := Lib.hid hrx
    have HVx := Lib.hid hvx
    clear hrx hvx
    go_wp2_with fail
    refine (Times_yes g n (val 4294967296 l) _ _ (List.replicate n 0) _ _ la w7 (Whole.below (Whole.below (Whole.below (Whole.below (Whole.below HW.out hb3) hb4) hb5) hb6) hb7) (HRz.out.below hb7) (Fit.replicate _ _ _ (by omega)) (by rw [val_replicate]; exact HN.out) (HRa.out.below bel7) hfa HLT.out).mono ?_
    rintro e w8 ⟨Ay, cy, ly, rfl, hry, hfy, hvy, hb8⟩
    have bel8 := below_then bel7 hb8
    have HRy := Lib.hid hry
    have HVy := Lib.hid hvy
    clear hry hvy
    go_wp2_with fail
    refine (Times_yes g n (val 4294967296 l) _ _ la _ _ lb w8 (Whole.below (Whole.below (Whole.below (Whole.below (Whole.below (Whole.below HW.out hb3) hb4) hb5) hb6) hb7) hb8) (HRa.out.below bel8) hfa HLT.out (HRb.out.below bel8) hfb HLB.out).mono ?_
    rintro e w9 ⟨Aab, cab, lab, rfl, hrab, hfab, hvab, hb9⟩
    have bel9 := below_then bel8 hb9
    have HRab := Lib.hid hrab
    have HVab := Lib.hid hvab
    clear hrab hvab
    go_wp2_with fail
    refine (Times_yes g n (val 4294967296 l) _ _ lb _ _ la w9 (Whole.below (Whole.below (Whole.below (Whole.below (Whole.below (Whole.below (Whole.below HW.out hb3) hb4) hb5) hb6) hb7) hb8) hb9) (HRb.out.below bel9) hfb HLB.out (HRa.out.below bel9) hfa HLT.out).mono ?_
    rintro e w10 ⟨Aba, cba, lba, rfl, hrba, hfba, hvba, hb10⟩
    have bel10 := below_then bel9 hb10
    have HRba := Lib.hid hrba
    have HVba := Lib.hid hvba
    clear hrba hvba
    go_wp2_with fail
    refine (Times_yes g n (val 4294967296 l) _ _ lb _ _ lc w10 (Whole.below (Whole.below (Whole.below (Whole.below (Whole.below (Whole.below (Whole.below (Whole.below HW.out hb3) hb4) hb5) hb6) hb7) hb8) hb9) hb10) (HRb.out.below bel10) hfb HLB.out (HRc.out.below bel10) hfc HLC.out).mono ?_
    rintro e w11 ⟨Abc, cbc, lbc, rfl, hrbc, hfbc, hvbc, hb11⟩
    have bel11 := below_then bel10 hb11
    have HRbc := Lib.hid hrbc
    have HVbc := Lib.hid hvbc
    clear hrbc hvbc
    go_wp2_with fail
    refine (Times_yes g n (val 4294967296 l) _ _ lab _ _ lc w11 (Whole.below (Whole.below (Whole.below (Whole.below (Whole.below (Whole.below (Whole.below (Whole.below (Whole.below HW.out hb3) hb4) hb5) hb6) hb7) hb8) hb9) hb10) hb11) ((HRab.out.below hb10).below hb11) hfab (by rw [HVab.out]; exact Nat.mod_lt _ HN.out) (HRc.out.below bel11) hfc HLC.out).mono ?_
    rintro e w12 ⟨Ap, cp, lp, rfl, hrp, hfp, hvp, hb12⟩
    have bel12 := below_then bel11 hb12
    have HRp := Lib.hid hrp
    have HVp := Lib.hid hvp
    clear hrp hvp
    go_wp2_with fail
    refine (Times_yes g n (val 4294967296 l) _ _ la _ _ lbc w12 (Whole.below (Whole.below (Whole.below (Whole.below (Whole.below (Whole.below (Whole.below (Whole.below (Whole.below (Whole.below HW.out hb3) hb4) hb5) hb6) hb7) hb8) hb9) hb10) hb11) hb12) (HRa.out.below bel12) hfa HLT.out (HRbc.out.below hb12) hfbc (by rw [HVbc.out]; exact Nat.mod_lt _ HN.out)).mono ?_
    rintro e w13 ⟨Aq, cq, lq, rfl, hrq, hfq, hvq, hb13⟩
    have bel13 := below_then bel12 hb13
    have HRq := Lib.hid hrq
    have HVq := Lib.hid hvq
    clear hrq hvq
    go_wp2_with fail
    refine (Compare_same_ Ax Aa n cx n ca lx la w13 ((((((HRx.out.below hb8).below hb9).below hb10).below hb11).below hb12).below hb13) (HRa.out.below bel13) hfx hfa n1 (by omega) n1 (by omega) (by rw [HVx.out, val_one n n1, Nat.mul_one, Nat.mod_eq_of_lt HLT.out])).mono ?_
    rintro e w14 ⟨rfl, hb14⟩
    have bel14 := below_then bel13 hb14
    go_wp2_with fail
    refine (Bits_zero Ay n cy ly w14 ((((((HRy.out.below hb9).below hb10).below hb11).below hb12).below hb13).below hb14) hfy n1 (by omega) (by rw [HVy.out, val_replicate, Nat.zero_mul, Nat.zero_mod])).mono ?_
    rintro e w15 ⟨rfl, hb15⟩
    have bel15 := below_then bel14 hb15
    go_wp2_with fail
    refine (Compare_same_ Aab Aba n cab n cba lab lba w15 ((((((HRab.out.below hb10).below hb11).below hb12).below hb13).below hb14).below hb15) (((((HRba.out.below hb11).below hb12).below hb13).below hb14).below hb15) hfab hfba n1 (by omega) n1 (by omega) (by rw [HVab.out, HVba.out, Nat.mul_comm])).mono ?_
    rintro e w16 ⟨rfl, hb16⟩
    have bel16 := below_then bel15 hb16
    go_wp2_with fail
    refine (Compare_same_ Ap Aq n cp n cq lp lq w16 ((((HRp.out.below hb13).below hb14).below hb15).below hb16) (((HRq.out.below hb14).below hb15).below hb16) hfp hfq n1 (by omega) n1 (by omega) (by rw [HVp.out, HVq.out, HVab.out, HVbc.out]; exact three_mod _ _ _ _)).mono ?_
    rintro e w17 ⟨rfl, hb17⟩
    have bel17 := below_then bel16 hb17
    go_wp2
    go_ret
    exact ⟨rfl, bel17⟩

theorem walk (A : Option Addr) (n cap : Nat) (l : List Nat) (Aa : Option Addr) (na ca : Nat) (la : List Nat) (Ab : Option Addr) (nb cb : Nat) (lb : List Nat) (Ac : Option Addr) (nc cc : Nat) (lc : List Nat) (w : World) (h : Rd .u32 w A n l) (hf : Fit 4294967296 l) (hcn : n ≤ cap) (hmn : cap ≤ maxLen) (ha : Rd .u32 w Aa na la) (hfa : Fit 4294967296 la) (hca : na ≤ ca) (hma : ca ≤ maxLen) (hb : Rd .u32 w Ab nb lb) (hfb : Fit 4294967296 lb) (hcb : nb ≤ cb) (hmb : cb ≤ maxLen) (hc : Rd .u32 w Ac nc lc) (hfc : Fit 4294967296 lc) (hcc : nc ≤ cc) (hmc : cc ≤ maxLen) :
    Calls Tryd.prog 7 #[.slice A n cap, .slice Aa na ca, .slice Ab nb cb, .slice Ac nc cc] w fun e w' => e = .returned (.bool true) ∧ Below w.heap.size w w' := by
  by_cases q : (16 : Int) < n ∨ (20 : Int) < na ∨ (20 : Int) < nb ∨ (20 : Int) < nc
  · exact walk_guard A n cap Aa na ca Ab nb cb Ac nc cc w q
  · have q0 : ¬ (16 : Int) < n := fun h => q (.inl h)
    have q1 : ¬ (20 : Int) < na := fun h => q (.inr (.inl h))
    have q2 : ¬ (20 : Int) < nb := fun h => q (.inr (.inr (.inl h)))
    have q3 : ¬ (20 : Int) < nc := fun h => q (.inr (.inr (.inr h)))
    by_cases hok : OkN n l
    · by_cases hel : na = n ∧ val 4294967296 la < val 4294967296 l
      · obtain ⟨rfl, hlt⟩ := hel
        by_cases hel2 : nb = na ∧ val 4294967296 lb < val 4294967296 l
        · obtain ⟨rfl, hltb⟩ := hel2
          by_cases hel3 : nc = nb ∧ val 4294967296 lc < val 4294967296 l
          · obtain ⟨rfl, hltc⟩ := hel3
            exact walk_main A nc cap l Aa ca la Ab cb lb Ac cc lc w h hf ha hfa hb hfb hc hfc q0 q1 q2 q3 hok hlt hltb hltc
          · exact walk_notc A nb cap l Aa ca la Ab cb lb Ac nc cc lc w h hf ha hfa hb hfb hc hfc q0 q1 q2 q3 hok hlt hltb hel3
        · exact walk_notb A na cap l Aa ca la Ab nb cb lb Ac nc cc lc w h hf ha hfa hb hfb hc hfc q0 q1 q2 q3 hok hlt hel2
      · exact walk_nota A n cap l Aa na ca la Ab nb cb lb Ac nc cc lc w h hf ha hfa hb hfb hc hfc q0 q1 q2 q3 hok hel
    · exact walk_bad A n cap l Aa na ca la Ab nb cb lb Ac nc cc lc w h hf ha hfa hb hfb hc hfc q0 q1 q2 q3 hok

-- THE ROW's STEP
set_option maxRecDepth 100000 in
theorem lifted (os : Os) (started : os.Started) (H : Type) (enc : TypeId × Value → H) :
    ReturnsInHanded {} Tryd.checked os 7 .any (fun w args => (Rows.ringOnesSpec.pre enc Tryd.prog Tryd.f7 [] false w args ∧ laidMetH Tryd.prog listed w) ∧ sizedMet enc Tryd.prog Tryd.f7 (OpenSpec.ofChange Rows.ringOnesSpec) false w args)
      (Rows.ringOnesSpec.post enc Tryd.prog Tryd.f7 false true false false) := by
  refine returnsInHanded_of_change_and (C := Tryd.checked) (X := fun w _ => laidMetH Tryd.prog listed w) (fun _ _ _ hh h => h.of_heap hh) own started (by kernel_rfl) Tryd.func7
    (ChangeSpec.witness_shaped (enc := enc) (C := Tryd.checked) (os := os) (X := fun w _ => laidMetH Tryd.prog listed w) false (World.laidAll Tryd.prog os listed) #[.slice none 0 0, .slice none 0 0, .slice none 0 0, .slice none 0 0] 8 (World.laidAll_os _ _ _)
      (World.shaped_of_ZipB (by kernel_rfl) (by kernel_rfl)) (by kernel_rfl) (by kernel_rfl) (by kernel_rfl)
      (by rw [MakeChecks.laidMetH_plain _ _ _ (by kernel_rfl)]; exact laidMet_laidAll _ (by kernel_rfl) (by kernel_rfl))) ?_
  intro W base args ds gs before hval0 hW _ _ hL _
  have hval : ∀ (j : Nat) t v, Tryd.f7.params[j]? = some t → args[j]? = some v → Value.okWide Tryd.prog W .any base t v := hval0
  have hW' := hW
  obtain ⟨p, q, hA0, hV, rfl, hfz, hnd⟩ := hW
  have hA : DataW.TrodAll enc Tryd.prog W 0 (fun _ => true) true Tryd.f7.params.toList args.toList ds p := hA0
  rw [Tryd.params7] at hA hval
  obtain ⟨v0, vs0, d0, ds0, p0, q0, hargs, rfl, rfl, h0, r0⟩ := trodAll_cons hA
  obtain ⟨v1, vs1, d1, ds1, p1, q1, rfl, rfl, rfl, h1, r1⟩ := trodAll_cons r0
  obtain ⟨v2, vs2, d2, ds2, p2, q2, rfl, rfl, rfl, h2, r2⟩ := trodAll_cons r1
  obtain ⟨v3, vs3, d3, ds3, p3, q3, rfl, rfl, rfl, h3, r3⟩ := trodAll_cons r2
  obtain ⟨rfl, rfl, rfl⟩ := trodAll_nil r3
  obtain rfl : args = #[v0, v1, v2, v3] := by cases args; simp_all
  obtain ⟨rfl, rfl⟩ := trodVars_none hV
  have k0 := h0
  have lt0 : ∀ x ∈ p0, x.block < W.heap.size := by obtain ⟨m, hm⟩ := k0; exact DataW.trod_lt m _ _ _ hm
  obtain ⟨fuel0, hf0⟩ := h0
  obtain ⟨a0, len0, cap0, l0, e0, g0, hlc0, hcm0, hnil0⟩ := limbs_of_trod hf0
  obtain ⟨b0, lb0, cb0, hv0⟩ := okWide_slice Tryd.underlying23 (hval 0 23 v0 rfl rfl)
  have ev0 : v0 = .slice a0 len0 cap0 := by rw [hv0] at e0 ⊢; simpa [Value.cells] using e0
  subst ev0
  have k1 := h1
  have lt1 : ∀ x ∈ p1, x.block < W.heap.size := by obtain ⟨m, hm⟩ := k1; exact DataW.trod_lt m _ _ _ hm
  obtain ⟨fuel1, hf1⟩ := h1
  obtain ⟨a1, len1, cap1, l1, e1, g1, hlc1, hcm1, hnil1⟩ := limbs_of_trod hf1
  obtain ⟨b1, lb1, cb1, hv1⟩ := okWide_slice Tryd.underlying23 (hval 1 23 v1 rfl rfl)
  have ev1 : v1 = .slice a1 len1 cap1 := by rw [hv1] at e1 ⊢; simpa [Value.cells] using e1
  subst ev1
  have k2 := h2
  have lt2 : ∀ x ∈ p2, x.block < W.heap.size := by obtain ⟨m, hm⟩ := k2; exact DataW.trod_lt m _ _ _ hm
  obtain ⟨fuel2, hf2⟩ := h2
  obtain ⟨a2, len2, cap2, l2, e2, g2, hlc2, hcm2, hnil2⟩ := limbs_of_trod hf2
  obtain ⟨b2, lb2, cb2, hv2⟩ := okWide_slice Tryd.underlying23 (hval 2 23 v2 rfl rfl)
  have ev2 : v2 = .slice a2 len2 cap2 := by rw [hv2] at e2 ⊢; simpa [Value.cells] using e2
  subst ev2
  have k3 := h3
  have lt3 : ∀ x ∈ p3, x.block < W.heap.size := by obtain ⟨m, hm⟩ := k3; exact DataW.trod_lt m _ _ _ hm
  obtain ⟨fuel3, hf3⟩ := h3
  obtain ⟨a3, len3, cap3, l3, e3, g3, hlc3, hcm3, hnil3⟩ := limbs_of_trod hf3
  obtain ⟨b3, lb3, cb3, hv3⟩ := okWide_slice Tryd.underlying23 (hval 3 23 v3 rfl rfl)
  have ev3 : v3 = .slice a3 len3 cap3 := by rw [hv3] at e3 ⊢; simpa [Value.cells] using e3
  subst ev3
  clear hA0 hval0
  refine (walk a0 len0 cap0 l0 a1 len1 cap1 l1 a2 len2 cap2 l2 a3 len3 cap3 l3 W g0.1 g0.2 hlc0 hcm0 g1.1 g1.2 hlc1 hcm1 g2.1 g2.2 hlc2 hcm2 g3.1 g3.2 hlc3 hcm3).mono fun e W' ⟨he, bel⟩ => ?_
  subst he
  exact ⟨_, rfl, _, _, _, [], _, [], hW', trodAll_mk1 (shut_bool Tryd.underlying4 _), (trodAll_cons_mk (Below.trod laidOut (by kernel_rfl) (of_decide_eq_true (by kernel_rfl)) k0 bel lt0) (trodAll_cons_mk (Below.trod laidOut (by kernel_rfl) (of_decide_eq_true (by kernel_rfl)) k1 bel lt1) (trodAll_cons_mk (Below.trod laidOut (by kernel_rfl) (of_decide_eq_true (by kernel_rfl)) k2 bel lt2) (trodAll_cons_mk (Below.trod laidOut (by kernel_rfl) (of_decide_eq_true (by kernel_rfl)) k3 bel lt3) trodAll_mk0)))), rfl, bel.frame _, fun h => by cases h⟩

theorem row_holds : Rows.RingOnesSaid :=
  OpenClaim.holds_of_wide 7 Tryd.f7 rfl rfl rfl rfl rfl rfl rfl ⟨rfl, rfl, rfl, rfl, rfl⟩ rfl rfl rfl rfl rfl (by kernel_rfl) Tryd.func7 (by kernel_rfl)
    (of_decide_eq_true (by kernel_rfl)) (by unfold Func.isWrapper; first | (rw [if_pos (by decide +kernel)]; kernel_rfl) | (rw [if_neg (by decide +kernel)]; exact ⟨rfl, rfl⟩))
    (fun os started H enc _ => lifted os started H enc)

theorem proved : Rows.RingOnesCardSaid :=
  Claim7.holds_tied_plain_at .later [] [.data, .pinned] true Rows.ringOnesCard.stood.harness false
    row_holds (fun _ h => by cases h) (by kernel_rfl) (fun _ h => by cases h) ringOnes_row_tie rfl ⟨rfl, rfl⟩ (by kernel_rfl) rfl
    (fun f fn hf hfn => by
      obtain rfl : f = 7 := Option.some.inj ((show Tryd.prog.funcNamed Tryd.f7.name = some 7 by kernel_rfl).symm.trans hf) |>.symm
      obtain rfl : fn = Tryd.f7 := (Option.some.inj (Tryd.func7.symm.trans hfn)).symm
      exact ⟨by kernel_rfl, fun j t ht => by
        rw [Tryd.params7] at ht
        have hm : t ∈ [23, 23, 23, 23] := by simpa using Array.mem_of_getElem? ht
        have hall : ([23, 23, 23, 23].all fun u => !Tryd.prog.wantsStandIn u) = true := by kernel_rfl
        exact (show Tryd.prog.wantsStandIn t = false by simpa using List.all_eq_true.1 hall t hm)⟩)
    (by kernel_rfl)
end Go.Proofs.YtggnhncodiekhaaDoor.ringOnes
