/-
  For every number in limbs RingMakes returns true. No condition but that two tables of Go's library, which the call does not read, hold what their text lays there.
-/
import Derived.Test.YtggnhncodiekhaaDoorLaw3
import Derived.Test.YtggnhncodiekhaaDoorTie
import Derived.Test.YtggnhncodiekhaaDoorCards
namespace Go.Proofs.YtggnhncodiekhaaDoor.ringMakes
open Go.Proofs.YtggnhncodiekhaaDoor Go.ChangeShapes Go.WideShapes Go.ChangeAt Go.RowKit
set_option linter.unusedVariables false
set_option linter.unusedSimpArgs false

set_option maxRecDepth 100000 in
set_option maxHeartbeats 2000000 in
theorem walk_g1 (A : Option Addr) (n cap : Nat) (w : World) (h1 : (8 : Int) < n) (h2 : (n : Int) ≤ 128) :
    Calls Tryd.prog 3 #[.slice A n cap] w fun e w' => e = .returned (.bool true) ∧ Below w.heap.size w w' := by
  go_enter Tryd.func3, Tryd.ntmps3
  go_wp2_with fail
  refine (anchor_any w).mono ?_
  rintro e w1 ⟨rfl, hb1⟩
  go_wp2
  go_ret
  exact ⟨rfl, hb1⟩

set_option maxRecDepth 100000 in
set_option maxHeartbeats 2000000 in
theorem walk_g2 (A : Option Addr) (n cap : Nat) (w : World) (h3 : (300 : Int) < n) :
    Calls Tryd.prog 3 #[.slice A n cap] w fun e w' => e = .returned (.bool true) ∧ Below w.heap.size w w' := by
  have h1 : (8 : Int) < n := by omega
  have h2 : ¬ (n : Int) ≤ 128 := by omega
  go_enter Tryd.func3, Tryd.ntmps3
  go_wp2_with fail
  refine (anchor_any w).mono ?_
  rintro e w1 ⟨rfl, hb1⟩
  go_wp2
  go_ret
  exact ⟨rfl, hb1⟩

set_option maxRecDepth 100000 in
set_option maxHeartbeats 2000000 in
theorem walk_s0 (A : Option Addr) (cap : Nat) (w : World) :
    Calls Tryd.prog 3 #[.slice A 0 cap] w fun e w' => e = .returned (.bool true) ∧ Below w.heap.size w w' := by
  go_enter Tryd.func3, Tryd.ntmps3
  go_wp2_with fail
  refine (anchor_any w).mono ?_
  rintro e w1 ⟨rfl, hb1⟩
  have bel1 := hb1
  go_wp2_with fail
  refine (New_size A 0 cap w1 (by omega)).mono ?_
  rintro e w2 ⟨rfl, rfl⟩
  go_wp2
  go_ret
  exact ⟨rfl, bel1⟩

set_option maxRecDepth 100000 in
set_option maxHeartbeats 2000000 in
theorem walk_s1 (A : Option Addr) (n cap : Nat) (w : World) (h2 : (128 : Int) < n) (h3 : ¬ (300 : Int) < n) :
    Calls Tryd.prog 3 #[.slice A n cap] w fun e w' => e = .returned (.bool true) ∧ Below w.heap.size w w' := by
  have h1 : (8 : Int) < n := by omega
  have h4 : ¬ (n : Int) ≤ 128 := by omega
  have h5 : ¬ (n : Int) < 1 := by omega
  go_enter Tryd.func3, Tryd.ntmps3
  go_wp2_with fail
  refine (anchor_any w).mono ?_
  rintro e w1 ⟨rfl, hb1⟩
  have bel1 := hb1
  go_wp2_with fail
  refine (New_size A n cap w1 (by omega)).mono ?_
  rintro e w2 ⟨rfl, rfl⟩
  go_wp2
  go_ret
  exact ⟨rfl, bel1⟩

set_option maxRecDepth 100000 in
set_option maxHeartbeats 2000000 in
theorem walk_f0 (A : Option Addr) (n cap : Nat) (l : List Nat) (d : Nat) (w : World) (h : Rd .u32 w A n l) (hf : Fit 4294967296 l) (n1 : 1 ≤ n) (n8 : n ≤ 8) (hd : l[0]? = some d) (he : d % 2 = 0) :
    Calls Tryd.prog 3 #[.slice A n cap] w fun e w' => e = .returned (.bool true) ∧ Below w.heap.size w w' := by
  obtain ⟨ad, d2, rfl, hd2, hcell⟩ := h.get (j := 0) (by omega)
  obtain rfl : d = d2 := by rw [hd] at hd2; injection hd2
  rw [add_zero_] at hcell
  have had : ad.block < w.heap.size := h.lt (by omega) ad rfl
  have HRn := Lib.hid h
  have HD := Lib.hid hd
  have q0 : ¬ (8 : Int) < n := by omega
  have q1 : ¬ (300 : Int) < n := by omega
  have q2 : ¬ (n : Int) < 1 := by omega
  have q3 : ¬ (128 : Int) < n := by omega
  have n0 : 0 < n := by omega
  have HNP : Hid (val 4294967296 l < 4294967296 ^ n) := val_ltn hf h.1
  have HE : Hid (val 4294967296 l % 2 = 0) := by show _ = _; rw [odd_low hd]; exact he
  have hb : ((d : Int) % 2 == 0) = true := by simp; omega
  have hb2 : (d : Int) % 2 = 0 := by omega
  clear h hd hd2 he
  go_enter Tryd.func3, Tryd.ntmps3
  go_wp2_with fail
  refine (anchor_any w).mono ?_
  rintro e w1 ⟨rfl, hb1⟩
  have bel1 := hb1
  go_wp2_with fail
  refine (New_form (some ad) n cap l w1 (HRn.out.below bel1) hf n1 (by omega) (.inl HE.out)).mono ?_
  rintro e w2 ⟨rfl, hb2⟩
  have bel2 := below_then bel1 hb2
  go_wp2_with fail
  refine (Digits_any (some ad) n cap l w2 (HRn.out.below bel2) hf (by omega)).mono ?_
  rintro e w3 ⟨Am, mm, cm, rfl, hrm, hcm, hmm, hb3⟩
  have bel3 := below_then bel2 hb3
  have HRm := Lib.hid hrm
  clear hrm hcm hmm
  have hcell2 := (bel3.cell (p := ad) had).trans hcell
  go_wp2
  go_ret
  exact ⟨rfl, bel3⟩

set_option maxRecDepth 100000 in
set_option maxHeartbeats 2000000 in
theorem walk_f1 (A : Option Addr) (n cap : Nat) (l : List Nat) (d : Nat) (w : World) (h : Rd .u32 w A n l) (hf : Fit 4294967296 l) (n1 : 1 ≤ n) (n8 : n ≤ 8) (hd : l[0]? = some d) (he : d % 2 = 1) (hv : val 4294967296 l = 1) :
    Calls Tryd.prog 3 #[.slice A n cap] w fun e w' => e = .returned (.bool true) ∧ Below w.heap.size w w' := by
  obtain ⟨ad, d2, rfl, hd2, hcell⟩ := h.get (j := 0) (by omega)
  obtain rfl : d = d2 := by rw [hd] at hd2; injection hd2
  rw [add_zero_] at hcell
  have had : ad.block < w.heap.size := h.lt (by omega) ad rfl
  have HRn := Lib.hid h
  have HD := Lib.hid hd
  have q0 : ¬ (8 : Int) < n := by omega
  have q1 : ¬ (300 : Int) < n := by omega
  have q2 : ¬ (n : Int) < 1 := by omega
  have q3 : ¬ (128 : Int) < n := by omega
  have n0 : 0 < n := by omega
  have HNP : Hid (val 4294967296 l < 4294967296 ^ n) := val_ltn hf h.1
  have HV := Lib.hid hv
  have hb : ((d : Int) % 2 == 0) = false := by simp; omega
  have hb2 : (d : Int) % 2 = 1 := by omega
  clear h hd hd2 he hv
  go_enter Tryd.func3, Tryd.ntmps3
  go_wp2_with fail
  refine (anchor_any w).mono ?_
  rintro e w1 ⟨rfl, hb1⟩
  have bel1 := hb1
  go_wp2_with fail
  refine (New_form (some ad) n cap l w1 (HRn.out.below bel1) hf n1 (by omega) (.inr HV.out)).mono ?_
  rintro e w2 ⟨rfl, hb2⟩
  have bel2 := below_then bel1 hb2
  go_wp2_with fail
  refine (Digits_any (some ad) n cap l w2 (HRn.out.below bel2) hf (by omega)).mono ?_
  rintro e w3 ⟨Am, mm, cm, rfl, hrm, hcm, hmm, hb3⟩
  have bel3 := below_then bel2 hb3
  have HRm := Lib.hid hrm
  clear hrm hcm hmm
  have hcell2 := (bel3.cell (p := ad) had).trans hcell
  have hrm2 := HRm.out
  rw [HV.out, digs_one] at hrm2
  obtain rfl : mm = 1 := hrm2.1.symm
  obtain ⟨am, xm, rfl, hxm, hcm⟩ := hrm2.get (j := 0) (by omega)
  obtain rfl : 1 = xm := by injection hxm
  rw [add_zero_] at hcm
  clear hrm2 hxm
  go_wp2
  go_ret
  exact ⟨rfl, bel3⟩

theorem two_pow (n : Nat) : 4294967296 ^ (2 * n) = 256 ^ (8 * n) := by
  rw [show 8 * n = 4 * (2 * n) by omega, pow256_32]
theorem N0_z (g k N n0 : Nat) (A : Option Addr) (c : Nat) (R : Value) (ln : List Nat) (w : World) (hr : Ringed w g k N n0 A c R ln) (z : Int) (hz : z = (n0 : Int)) :
    Calls Tryd.prog 13 #[.pointer (some ⟨g, 0, none⟩)] w fun e w' => e = .returned (.int .i64 z) ∧ w = w' := by
  subst hz
  exact N0_any g k N n0 A c R ln w hr
set_option maxRecDepth 100000 in
set_option maxHeartbeats 2000000 in
theorem walk_ok (A : Option Addr) (n cap : Nat) (l : List Nat) (d : Nat) (w : World) (h : Rd .u32 w A n l) (hf : Fit 4294967296 l) (n1 : 1 ≤ n) (n8 : n ≤ 8) (hd : l[0]? = some d) (hok : OkN n l) :
    Calls Tryd.prog 3 #[.slice A n cap] w fun e w' => e = .returned (.bool true) ∧ Below w.heap.size w w' := by
  obtain ⟨ad, d2, rfl, hd2, hcell⟩ := h.get (j := 0) (by omega)
  obtain rfl : d = d2 := by rw [hd] at hd2; injection hd2
  rw [add_zero_] at hcell
  have had : ad.block < w.heap.size := h.lt (by omega) ad rfl
  have HRn := Lib.hid h
  have HD := Lib.hid hd
  have q0 : ¬ (8 : Int) < n := by omega
  have q1 : ¬ (300 : Int) < n := by omega
  have q2 : ¬ (n : Int) < 1 := by omega
  have q3 : ¬ (128 : Int) < n := by omega
  have n0 : 0 < n := by omega
  have HNP : Hid (val 4294967296 l < 4294967296 ^ n) := val_ltn hf h.1
  have OK := Lib.hid hok
  have hodd : d % 2 = 1 := by rw [← odd_low hd]; exact hok.2.2.1
  have hdb := hf.get hd
  have hb : ((d : Int) % 2 == 0) = false := by simp; omega
  have hb2 : (d : Int) % 2 = 1 := by omega
  have HN : Hid (0 < val 4294967296 l) := by show _ < _; have := hok.2.2.2; omega
  have HNE : Hid (val 4294967296 l ≠ 1) := by show _ ≠ _; have := hok.2.2.2; omega
  obtain ⟨rr, hrr⟩ : ∃ rr, val 4294967296 l = d + 4294967296 * rr := ⟨val 4294967296 (l.drop 1), by
    have e := drop_cons hd
    rw [List.drop_zero] at e
    conv => lhs; rw [e]
    rfl⟩
  have HRRR := Lib.hid hrr
  clear h hd hd2 hok hodd hrr
  go_enter Tryd.func3, Tryd.ntmps3
  go_wp2_with fail
  refine (anchor_any w).mono ?_
  rintro e w1 ⟨rfl, hb1⟩
  have bel1 := hb1
  go_wp2_with fail
  refine (New_ok (some ad) n cap l w1 (HRn.out.below bel1) hf OK.out.1 OK.out.2.1 OK.out.2.2.1 OK.out.2.2.2).mono ?_
  rintro e w2 ⟨g, rfl, hW, hb2⟩
  have bel2 := below_then bel1 hb2
  have HW := Lib.hid hW
  clear hW
  go_wp2_with fail
  refine (Digits_any (some ad) n cap l w2 (HRn.out.below bel2) hf (by omega)).mono ?_
  rintro e w3 ⟨Am, mm, cm, rfl, hrm, hcm, hmm, hb3⟩
  have bel3 := below_then bel2 hb3
  have HRm := Lib.hid hrm
  clear hrm hcm hmm
  have HMm : Hid (mm ≤ 4 * n) := by show _ ≤ _; rw [← HRm.out.1]; exact digs_le_of HNP.out
  have hcell2 := (bel3.cell (p := ad) had).trans hcell
  obtain ⟨n0v, Ag, cg, Rg, lg, hRg⟩ := Whole.ringed (Whole.below HW.out hb3)
  have HRG := Lib.hid hRg
  have hn0b := hRg.n1
  obtain ⟨z, hz⟩ : ∃ z : Int, z = (n0v : Int) := ⟨_, rfl⟩
  have g1 : ¬ z < 0 := by omega
  have g2 : ¬ (4294967296 : Int) ≤ z := by omega
  have hmul : n0v * d % 4294967296 = 4294967295 := by
    have e := hRg.inv
    rw [HRRR.out, Nat.mul_add, Nat.mul_left_comm, Nat.add_mul_mod_self_left] at e
    omega
  have hmw : IntKind.u32.wrap (z * d) = 4294967295 := by rw [IntKind.wrap_u32', hz, ← Int.natCast_mul]; omega
  have hnw : IntKind.u32.wrap z = z := by rw [IntKind.wrap_u32']; omega
  have h64 : IntKind.i64.wrap (64 * (n : Int)) = 64 * n := IntWalk.i64_in _ (by omega)
  have HMW := Lib.hid hmw
  have HNW := Lib.hid hnw
  have H64 := Lib.hid h64
  have HZ := Lib.hid hz
  clear hRg hmul hmw hnw h64 hz hn0b
  have hcase : (mm ≠ 1) ∨ (mm = 1 ∧ ∃ am xm, Am = some am ∧ xm ≠ 1 ∧ w3.cell? am = some (.int .i64 ((xm : Nat) : Int))) := by
    by_cases hm1 : mm = 1
    · refine .inr ⟨hm1, ?_⟩
      obtain ⟨am, xm, e1, e2, e3⟩ := HRm.out.get (j := 0) (by omega)
      rw [add_zero_] at e3
      refine ⟨am, xm, e1, fun hx => HNE.out ?_, e3⟩
      have hl := HRm.out.1
      rw [hm1] at hl
      have hq : digs (val 4294967296 l) = [xm] := by
        match hz : digs (val 4294967296 l), hl with
        | [z], _ => rw [hz] at e2; injection e2 with e2; rw [e2]
      have := digs_val (val 4294967296 l)
      rw [hq, hx] at this
      simpa [val] using this.symm
    · exact .inl hm1
  rcases hcase with hm1 | ⟨rfl, am, xm, rfl, hx1, hcm⟩
  · have t1 : ((mm : Int) == 1) = false := by simp; omega
    have t2 : (mm == 1) = false := by simp [hm1]
    go_wp2_with fail
    refine (N0_z g n _ n0v Ag cg Rg lg w3 HRG.out z HZ.out).mono ?_
    rintro e w' ⟨rfl, rfl⟩
    go_wp2_with fail
    refine (N0_z g n _ n0v Ag cg Rg lg w3 HRG.out z HZ.out).mono ?_
    rintro e w' ⟨rfl, rfl⟩
    go_wp2
    have hmw := HMW.out
    have hnw := HNW.out
    have h64 := H64.out
    have hdr : Below w3.heap.size w3 w3.drew := below_drew1 below_self
    have HWc := Lib.hid (Whole.below (Whole.below HW.out hb3) hdr)
    have HRGd := Lib.hid (HRG.out.below hdr)
    have HRmd := Lib.hid (HRm.out.below hdr)
    have HBel := Lib.hid bel3
    have hcd : w3.drew.cell? ad = some (.int .u32 (d : Int)) := hcell2
    have hlt3 : ad.block < w3.drew.heap.size := Nat.lt_of_lt_of_le had bel3.size
    have HLT3 := Lib.hid hlt3
    clear hlt3
    go_region_held3 (fun w' => w'.cell? ad = some (.int .u32 (d : Int))) (first | assumption | go_keep) (first
      | (go_at_call 13; refine (N0_z g n _ n0v Ag cg Rg lg _ HRGd.out z HZ.out).mono ?_; rintro e w' ⟨rfl, rfl⟩)
      | (go_at_call 15; refine (RR_any g n (val 4294967296 l) _ HWc.out).mono ?_; rintro e wr ⟨Ar, cr, lr, rfl, hrr, hfr, hvr, hbr⟩; have HRr := Lib.hid hrr; have HVr := Lib.hid hvr; have hcr := (hbr.cell (p := ad) HLT3.out).trans hcd; clear hrr hvr)
      | (go_at_call 17; refine (Power_any _ (8 * n) (by omega) (by omega) _).mono ?_; rintro e wp ⟨Ap, mp, cp, rfl, hrp, hcp, hmp, hbp⟩; have HRp := Lib.hid hrp; have HMp : Hid (mp ≤ 4 * (2 * n + 1)) := (by show _ ≤ _; rw [← hrp.1]; exact digs_le_of (pow_len2 n)); have hcp2 := (hbp.cell (p := ad) (Nat.lt_of_lt_of_le HLT3.out hbr.size)).trans hcr; clear hrp hcp hmp)
      | (go_at_call 16; refine (Mod_digs Ap Am mp cp mm cm _ _ _ HRp.out ((HRmd.out.below hbr).below hbp) (by have := HMp.out; omega) (by have := HMm.out; omega) HN.out).mono ?_; rintro e wq ⟨Aq, mq, cq, rfl, hrq, hcq, hmq, hbq⟩; have HRq := Lib.hid hrq; have hcq2 := (hbq.cell (p := ad) (Nat.lt_of_lt_of_le (Nat.lt_of_lt_of_le HLT3.out hbr.size) hbp.size)).trans hcp2; clear hrq hcq hmq)
      | (go_at_call 14; refine (is_yes Ar Aq n cr mq cq lr _ _ _ rfl ((HRr.out.below hbp).below hbq) hfr (by omega) HRq.out (by rw [HVr.out, two_pow])).mono ?_; rintro e wt ⟨rfl, hbt⟩; have hct := (hbt.cell (p := ad) (Nat.lt_of_lt_of_le (Nat.lt_of_lt_of_le (Nat.lt_of_lt_of_le HLT3.out hbr.size) hbp.size) hbq.size)).trans hcq2))
    clear hmw hnw h64
    go_wp2
    go_ret
    exact ⟨rfl, below_then (below_then (below_then (below_then (below_drew1 HBel.out) hbr) hbp) hbq) hbt⟩
  · have t1 : ((xm : Int) == 1) = false := by simp; omega
    have t2 : (xm == 1) = false := by simp [hx1]
    go_wp2_with fail
    refine (N0_z g n _ n0v Ag cg Rg lg w3 HRG.out z HZ.out).mono ?_
    rintro e w' ⟨rfl, rfl⟩
    go_wp2_with fail
    refine (N0_z g n _ n0v Ag cg Rg lg w3 HRG.out z HZ.out).mono ?_
    rintro e w' ⟨rfl, rfl⟩
    go_wp2
    have hmw := HMW.out
    have hnw := HNW.out
    have h64 := H64.out
    have hdr : Below w3.heap.size w3 w3.drew := below_drew1 below_self
    have HWc := Lib.hid (Whole.below (Whole.below HW.out hb3) hdr)
    have HRGd := Lib.hid (HRG.out.below hdr)
    have HRmd := Lib.hid (HRm.out.below hdr)
    have HBel := Lib.hid bel3
    have hcd : w3.drew.cell? ad = some (.int .u32 (d : Int)) := hcell2
    have hlt3 : ad.block < w3.drew.heap.size := Nat.lt_of_lt_of_le had bel3.size
    have HLT3 := Lib.hid hlt3
    clear hlt3
    go_region_held3 (fun w' => w'.cell? ad = some (.int .u32 (d : Int))) (first | assumption | go_keep) (first
      | (go_at_call 13; refine (N0_z g n _ n0v Ag cg Rg lg _ HRGd.out z HZ.out).mono ?_; rintro e w' ⟨rfl, rfl⟩)
      | (go_at_call 15; refine (RR_any g n (val 4294967296 l) _ HWc.out).mono ?_; rintro e wr ⟨Ar, cr, lr, rfl, hrr, hfr, hvr, hbr⟩; have HRr := Lib.hid hrr; have HVr := Lib.hid hvr; have hcr := (hbr.cell (p := ad) HLT3.out).trans hcd; clear hrr hvr)
      | (go_at_call 17; refine (Power_any _ (8 * n) (by omega) (by omega) _).mono ?_; rintro e wp ⟨Ap, mp, cp, rfl, hrp, hcp, hmp, hbp⟩; have HRp := Lib.hid hrp; have HMp : Hid (mp ≤ 4 * (2 * n + 1)) := (by show _ ≤ _; rw [← hrp.1]; exact digs_le_of (pow_len2 n)); have hcp2 := (hbp.cell (p := ad) (Nat.lt_of_lt_of_le HLT3.out hbr.size)).trans hcr; clear hrp hcp hmp)
      | (go_at_call 16; refine (Mod_digs Ap (some am) mp cp 1 cm _ _ _ HRp.out ((HRmd.out.below hbr).below hbp) (by have := HMp.out; omega) (by have := HMm.out; omega) HN.out).mono ?_; rintro e wq ⟨Aq, mq, cq, rfl, hrq, hcq, hmq, hbq⟩; have HRq := Lib.hid hrq; have hcq2 := (hbq.cell (p := ad) (Nat.lt_of_lt_of_le (Nat.lt_of_lt_of_le HLT3.out hbr.size) hbp.size)).trans hcp2; clear hrq hcq hmq)
      | (go_at_call 14; refine (is_yes Ar Aq n cr mq cq lr _ _ _ rfl ((HRr.out.below hbp).below hbq) hfr (by omega) HRq.out (by rw [HVr.out, two_pow])).mono ?_; rintro e wt ⟨rfl, hbt⟩; have hct := (hbt.cell (p := ad) (Nat.lt_of_lt_of_le (Nat.lt_of_lt_of_le (Nat.lt_of_lt_of_le HLT3.out hbr.size) hbp.size) hbq.size)).trans hcq2))
    clear hmw hnw h64
    go_wp2
    go_ret
    exact ⟨rfl, below_then (below_then (below_then (below_then (below_drew1 HBel.out) hbr) hbp) hbq) hbt⟩

theorem walk (A : Option Addr) (n cap : Nat) (l : List Nat) (w : World) (h : Rd .u32 w A n l) (hf : Fit 4294967296 l) (hcn : n ≤ cap) (hmn : cap ≤ maxLen) :
    Calls Tryd.prog 3 #[.slice A n cap] w fun e w' => e = .returned (.bool true) ∧ Below w.heap.size w w' := by
  by_cases z0 : n = 0
  · subst z0
    exact walk_s0 A cap w
  by_cases z1 : 300 < n
  · exact walk_g2 A n cap w (by omega)
  by_cases z2 : 128 < n
  · exact walk_s1 A n cap w (by omega) (by omega)
  by_cases z3 : 8 < n
  · exact walk_g1 A n cap w (by omega) (by omega)
  have n1 : 1 ≤ n := by omega
  have n8 : n ≤ 8 := by omega
  obtain ⟨d, hd⟩ := get_some (l := l) (i := 0) (by rw [h.1]; omega)
  have hodd := odd_low hd
  rcases (by omega : d % 2 = 0 ∨ d % 2 = 1) with he | he
  · exact walk_f0 A n cap l d w h hf n1 n8 hd he
  · by_cases hv : val 4294967296 l = 1
    · exact walk_f1 A n cap l d w h hf n1 n8 hd he hv
    · refine walk_ok A n cap l d w h hf n1 n8 hd ⟨n1, by omega, by omega, ?_⟩
      omega

-- THE ROW's STEP
set_option maxRecDepth 100000 in
theorem lifted (os : Os) (started : os.Started) (H : Type) (enc : TypeId × Value → H) :
    ReturnsInHanded {} Tryd.checked os 3 .any (fun w args => (Rows.ringMakesSpec.pre enc Tryd.prog Tryd.f3 [] false w args ∧ laidMetH Tryd.prog listed w) ∧ sizedMet enc Tryd.prog Tryd.f3 (OpenSpec.ofChange Rows.ringMakesSpec) false w args)
      (Rows.ringMakesSpec.post enc Tryd.prog Tryd.f3 false true false false) := by
  refine returnsInHanded_of_change_and (C := Tryd.checked) (X := fun w _ => laidMetH Tryd.prog listed w) (fun _ _ _ hh h => h.of_heap hh) own started (by kernel_rfl) Tryd.func3
    (ChangeSpec.witness_shaped (enc := enc) (C := Tryd.checked) (os := os) (X := fun w _ => laidMetH Tryd.prog listed w) false (World.laidAll Tryd.prog os listed) #[.slice none 0 0] 8 (World.laidAll_os _ _ _)
      (World.shaped_of_ZipB (by kernel_rfl) (by kernel_rfl)) (by kernel_rfl) (by kernel_rfl) (by kernel_rfl)
      (by rw [MakeChecks.laidMetH_plain _ _ _ (by kernel_rfl)]; exact laidMet_laidAll _ (by kernel_rfl) (by kernel_rfl))) ?_
  intro W base args ds gs before hval0 hW _ _ hL _
  have hval : ∀ (j : Nat) t v, Tryd.f3.params[j]? = some t → args[j]? = some v → Value.okWide Tryd.prog W .any base t v := hval0
  have hW' := hW
  obtain ⟨p, q, hA0, hV, rfl, hfz, hnd⟩ := hW
  have hA : DataW.TrodAll enc Tryd.prog W 0 (fun _ => true) true Tryd.f3.params.toList args.toList ds p := hA0
  rw [Tryd.params3] at hA hval
  obtain ⟨v0, vs0, d0, ds0, p0, q0, hargs, rfl, rfl, h0, r0⟩ := trodAll_cons hA
  obtain ⟨rfl, rfl, rfl⟩ := trodAll_nil r0
  obtain rfl : args = #[v0] := by cases args; simp_all
  obtain ⟨rfl, rfl⟩ := trodVars_none hV
  have k0 := h0
  have lt0 : ∀ x ∈ p0, x.block < W.heap.size := by obtain ⟨m, hm⟩ := k0; exact DataW.trod_lt m _ _ _ hm
  obtain ⟨fuel0, hf0⟩ := h0
  obtain ⟨a0, len0, cap0, l0, e0, g0, hlc0, hcm0, hnil0⟩ := limbs_of_trod hf0
  obtain ⟨b0, lb0, cb0, hv0⟩ := okWide_slice Tryd.underlying23 (hval 0 23 v0 rfl rfl)
  have ev0 : v0 = .slice a0 len0 cap0 := by rw [hv0] at e0 ⊢; simpa [Value.cells] using e0
  subst ev0
  clear hA0 hval0
  refine (walk a0 len0 cap0 l0 W g0.1 g0.2 hlc0 hcm0).mono fun e W' ⟨he, bel⟩ => ?_
  subst he
  exact ⟨_, rfl, _, _, _, [], _, [], hW', trodAll_mk1 (shut_bool Tryd.underlying4 _), (trodAll_cons_mk (Below.trod laidOut (by kernel_rfl) (of_decide_eq_true (by kernel_rfl)) k0 bel lt0) trodAll_mk0), rfl, bel.frame _, fun h => by cases h⟩

theorem row_holds : Rows.RingMakesSaid :=
  OpenClaim.holds_of_wide 3 Tryd.f3 rfl rfl rfl rfl rfl rfl rfl ⟨rfl, rfl, rfl, rfl, rfl⟩ rfl rfl rfl rfl rfl (by kernel_rfl) Tryd.func3 (by kernel_rfl)
    (of_decide_eq_true (by kernel_rfl)) (by unfold Func.isWrapper; first | (rw [if_pos (by decide +kernel)]; kernel_rfl) | (rw [if_neg (by decide +kernel)]; exact ⟨rfl, rfl⟩))
    (fun os started H enc _ => lifted os started H enc)

theorem proved : Rows.RingMakesCardSaid :=
  Claim7.holds_tied_plain_at .later [] [.data, .pinned] true Rows.ringMakesCard.stood.harness false
    row_holds (fun _ h => by cases h) (by kernel_rfl) (fun _ h => by cases h) ringMakes_row_tie rfl ⟨rfl, rfl⟩ (by kernel_rfl) rfl
    (fun f fn hf hfn => by
      obtain rfl : f = 3 := Option.some.inj ((show Tryd.prog.funcNamed Tryd.f3.name = some 3 by kernel_rfl).symm.trans hf) |>.symm
      obtain rfl : fn = Tryd.f3 := (Option.some.inj (Tryd.func3.symm.trans hfn)).symm
      exact ⟨by kernel_rfl, fun j t ht => by
        rw [Tryd.params3] at ht
        have hm : t ∈ [23] := by simpa using Array.mem_of_getElem? ht
        have hall : ([23].all fun u => !Tryd.prog.wantsStandIn u) = true := by kernel_rfl
        exact (show Tryd.prog.wantsStandIn t = false by simpa using List.all_eq_true.1 hall t hm)⟩)
    (by kernel_rfl)
end Go.Proofs.YtggnhncodiekhaaDoor.ringMakes
