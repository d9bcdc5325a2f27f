/-
  For every three numbers and every text SealSigns returns true. No condition but that six tables hold what their text lays there: the code's own four, which the sums are made with, and two of Go's library, which the call does not read.
-/
import Derived.Test.YtppoikamenbckaaGreatDoorF7
import Derived.Test.YtppoikamenbckaaGreatDoorTie
import Derived.Test.YtppoikamenbckaaGreatDoorCards
namespace Go.Proofs.YtppoikamenbckaaGreatDoor.sealSigns
open Go.Proofs.YtppoikamenbckaaGreatDoor Go.ChangeShapes Go.WideShapes Go.ChangeAt Go.RowKit
set_option linter.unusedVariables false
set_option linter.unusedSimpArgs false

theorem wf64 {z : Int} (h : (Lit.int .i64 z).wf = true) : -9223372036854775808 ≤ z ∧ z ≤ 9223372036854775807 := by
  simp [Lit.wf, IntKind.min, IntKind.max, IntKind.bits, IntKind.signed] at h
  omega
set_option maxRecDepth 100000 in
set_option maxHeartbeats 1000000 in
theorem walk_g0 (y z t : Int) (A : Option Addr) (n cap : Nat) (w : World) (ht : Both w) (g0 : y < 0) :
    Calls Tryz.prog 4 #[.int .i64 y, .int .i64 z, .slice A n cap, .int .i64 t] w fun e w' => e = .returned (.bool true) ∧ Below w.heap.size w w' := by
  have HT := Lib.hid ht
  clear ht
  go_enter Tryz.func4, Tryz.ntmps4
  go_wp2_with fail
  refine (anchor_any w HT.out).mono ?_
  rintro e w1 ⟨rfl, hb1⟩
  go_wp2
  go_ret
  exact ⟨rfl, hb1⟩

set_option maxRecDepth 100000 in
set_option maxHeartbeats 1000000 in
theorem walk_g1 (y z t : Int) (A : Option Addr) (n cap : Nat) (w : World) (ht : Both w) (g0 : ¬ y < 0) (g1 : 2 < y) :
    Calls Tryz.prog 4 #[.int .i64 y, .int .i64 z, .slice A n cap, .int .i64 t] w fun e w' => e = .returned (.bool true) ∧ Below w.heap.size w w' := by
  have HT := Lib.hid ht
  clear ht
  go_enter Tryz.func4, Tryz.ntmps4
  go_wp2_with fail
  refine (anchor_any w HT.out).mono ?_
  rintro e w1 ⟨rfl, hb1⟩
  go_wp2
  go_ret
  exact ⟨rfl, hb1⟩

set_option maxRecDepth 100000 in
set_option maxHeartbeats 1000000 in
theorem walk_g2 (y z t : Int) (A : Option Addr) (n cap : Nat) (w : World) (ht : Both w) (g0 : ¬ y < 0) (g1 : ¬ 2 < y) (g2 : (500 : Int) < n) :
    Calls Tryz.prog 4 #[.int .i64 y, .int .i64 z, .slice A n cap, .int .i64 t] w fun e w' => e = .returned (.bool true) ∧ Below w.heap.size w w' := by
  have HT := Lib.hid ht
  clear ht
  go_enter Tryz.func4, Tryz.ntmps4
  go_wp2_with fail
  refine (anchor_any w HT.out).mono ?_
  rintro e w1 ⟨rfl, hb1⟩
  go_wp2
  go_ret
  exact ⟨rfl, hb1⟩

set_option maxRecDepth 100000 in
set_option maxHeartbeats 1000000 in
theorem walk_g3 (y z t : Int) (A : Option Addr) (n cap : Nat) (w : World) (ht : Both w) (g0 : ¬ y < 0) (g1 : ¬ 2 < y) (g2 : ¬ (500 : Int) < n) (g3 : t < 0) :
    Calls Tryz.prog 4 #[.int .i64 y, .int .i64 z, .slice A n cap, .int .i64 t] w fun e w' => e = .returned (.bool true) ∧ Below w.heap.size w w' := by
  have HT := Lib.hid ht
  clear ht
  go_enter Tryz.func4, Tryz.ntmps4
  go_wp2_with fail
  refine (anchor_any w HT.out).mono ?_
  rintro e w1 ⟨rfl, hb1⟩
  go_wp2
  go_ret
  exact ⟨rfl, hb1⟩

set_option maxRecDepth 100000 in
set_option maxHeartbeats 1000000 in
theorem walk_alg (y k N D t : Nat) (hF : Fixed y k N D) (hy : y ≤ 2) (z : Int) (A : Option Addr) (n cap : Nat) (w : World) (ht : Both w) (h1 : ¬ (500 : Int) < n) (z1 : z ≠ 1) (z2 : z ≠ 2) :
    Calls Tryz.prog 4 #[.int .i64 (y : Int), .int .i64 z, .slice A n cap, .int .i64 (t : Int)] w fun e w' => e = .returned (.bool true) ∧ Below w.heap.size w w' := by
  have HF := Lib.hid hF
  have k1 := hF.k1
  have k2 := hF.k2
  have y0 : ¬ (y : Int) < 0 := by omega
  have y1 : ¬ (2 : Int) < y := by omega
  have t0 : ¬ (t : Int) < 0 := by omega
  clear hF hy
  have d1 : (z != 1) = true := by simp [z1]
  have d2 : (z != 2) = true := by simp [z2]
  have HT := Lib.hid ht
  clear ht
  go_enter Tryz.func4, Tryz.ntmps4
  go_wp2_with fail
  refine (anchor_any w HT.out).mono ?_
  rintro e w1 ⟨rfl, hb1⟩
  go_wp2_with fail
  refine (HF.out.mo w1).mono ?_
  rintro e w2 ⟨Am, cm, rfl, hrow2, hb2⟩
  have HM := Lib.hid hrow2.rd
  have hcm := hrow2.le.1
  have hmm := hrow2.le.2
  have bel2 := below_then hb1 hb2
  clear hrow2
  go_wp2_with fail
  refine (HF.out.se w2).mono ?_
  rintro e w3 ⟨Ad, cd, rfl, hrow3, hb3⟩
  have HD := Lib.hid hrow3.rd
  have hcd := hrow3.le.1
  have hmd := hrow3.le.2
  have bel3 := below_then bel2 hb3
  clear hrow3
  go_wp2_with fail
  refine (Sign_alg z z1 z2 _ _ _ _ _ _ _ _ _ _).mono ?_
  rintro e w4 ⟨rfl, hb4⟩
  have bel4 := below_then bel3 hb4
  go_wp2
  go_ret
  exact ⟨rfl, bel4⟩

set_option maxRecDepth 100000 in
set_option maxHeartbeats 1000000 in
theorem walk_bits (y k N D t : Nat) (hF : Fixed y k N D) (hy : y ≤ 2) (A : Option Addr) (n cap : Nat) (w : World) (ht : Both w) (h1 : ¬ (500 : Int) < n) (l : List Nat) (h : Rd .u8 w A n l) (hf : Fit 256 l) (hcn : n ≤ cap) (hy2 : y < 2) :
    Calls Tryz.prog 4 #[.int .i64 (y : Int), .int .i64 2, .slice A n cap, .int .i64 (t : Int)] w fun e w' => e = .returned (.bool true) ∧ Below w.heap.size w w' := by
  have hk := Lib.hid (hF.small hy2)
  have HR := Lib.hid h
  have y2 : (y : Int) < 2 := by omega
  clear h hy2
  have HF := Lib.hid hF
  have k1 := hF.k1
  have k2 := hF.k2
  have y0 : ¬ (y : Int) < 0 := by omega
  have y1 : ¬ (2 : Int) < y := by omega
  have t0 : ¬ (t : Int) < 0 := by omega
  clear hF hy
  have HT := Lib.hid ht
  clear ht
  go_enter Tryz.func4, Tryz.ntmps4
  go_wp2_with fail
  refine (anchor_any w HT.out).mono ?_
  rintro e w1 ⟨rfl, hb1⟩
  go_wp2_with fail
  refine (HF.out.mo w1).mono ?_
  rintro e w2 ⟨Am, cm, rfl, hrow2, hb2⟩
  have HM := Lib.hid hrow2.rd
  have hcm := hrow2.le.1
  have hmm := hrow2.le.2
  have bel2 := below_then hb1 hb2
  clear hrow2
  go_wp2_with fail
  refine (HF.out.se w2).mono ?_
  rintro e w3 ⟨Ad, cd, rfl, hrow3, hb3⟩
  have HD := Lib.hid hrow3.rd
  have hcd := hrow3.le.1
  have hmd := hrow3.le.2
  have bel3 := below_then bel2 hb3
  clear hrow3
  go_wp2_with fail
  refine (Sign_bits 2 (.inr rfl) 64 rfl Am k cm _ Ad k cd A n cap l w3 (HM.out.below hb3) (bytesOf_fit _ _) hcm hmm HF.out.modul (HR.out.below bel3) hf hcn (by omega) (HT.out.below bel3) (by have := hk.out; omega)).mono ?_
  rintro e w4 ⟨rfl, hb4⟩
  have bel4 := below_then bel3 hb4
  go_wp2
  go_ret
  exact ⟨rfl, bel4⟩

set_option maxRecDepth 100000 in
set_option maxHeartbeats 1000000 in
theorem walk_ok1 (y k N D t : Nat) (hF : Fixed y k N D) (hy : y ≤ 2) (z : Nat) (hz : z = 1 ∨ z = 2) (d1 : ((z : Int) != 1) = false) (d2 : ((z : Int) == 2) = false) (s : Nat) (hs : sizeOfAlg z = s) (A : Option Addr) (n cap : Nat) (w : World) (ht : Both w) (h1 : ¬ (500 : Int) < n) (l : List Nat) (h : Rd .u8 w A n l) (hf : Fit 256 l) (hcn : n ≤ cap) (hk0 : 30 + s ≤ k) (ht63 : t ≤ 9223372036854775807) :
    Calls Tryz.prog 4 #[.int .i64 (y : Int), .int .i64 (z : Int), .slice A n cap, .int .i64 (t : Int)] w fun e w' => e = .returned (.bool true) ∧ Below w.heap.size w w' := by
  obtain ⟨q, hq⟩ : ∃ q, q = t / 8 := ⟨_, rfl⟩
  obtain ⟨p, hp⟩ : ∃ p, p = q % k := ⟨_, rfl⟩
  obtain ⟨r, hr⟩ : ∃ r, r = t % 8 := ⟨_, rfl⟩
  have hkp := hF.k1
  have hpk : p < k := by rw [hp]; exact Nat.mod_lt _ (by omega)
  have hr8 : r < 8 := by omega
  have r1 : (t : Int) / 8 = (q : Int) := by omega
  have wq : IntKind.i64.wrap (q : Int) = (q : Int) := by rw [IntKind.wrap_i64]; omega
  have r1' : (t : Int).tdiv 8 = (q : Int) := by rw [Int.tdiv_eq_ediv_of_nonneg (by omega)]; exact r1
  have r2 : (q : Int) % (k : Int) = (p : Int) := by rw [hp, Int.natCast_emod]
  have r2' : (q : Int).tmod (k : Int) = (p : Int) := by rw [Int.tmod_eq_emod_of_nonneg (by omega)]; exact r2
  have r3 : (t : Int) % 8 = (r : Int) := by omega
  have r3' : (t : Int).tmod 8 = (r : Int) := by rw [Int.tmod_eq_emod_of_nonneg (by omega)]; exact r3
  have HZ := Lib.hid hz
  have HS := Lib.hid hs
  have HR := Lib.hid h
  clear hz hs h
  have HF := Lib.hid hF
  have k1 := hF.k1
  have k2 := hF.k2
  have y0 : ¬ (y : Int) < 0 := by omega
  have y1 : ¬ (2 : Int) < y := by omega
  have t0 : ¬ (t : Int) < 0 := by omega
  clear hF hy
  clear hq hp hr
  have HPU := Lib.hid hpk
  have HT := Lib.hid ht
  clear ht
  go_enter Tryz.func4, Tryz.ntmps4
  go_wp2_with fail
  refine (anchor_any w HT.out).mono ?_
  rintro e w1 ⟨rfl, hb1⟩
  go_wp2_with fail
  refine (HF.out.mo w1).mono ?_
  rintro e w2 ⟨Am, cm, rfl, hrow2, hb2⟩
  have HM := Lib.hid hrow2.rd
  have hcm := hrow2.le.1
  have hmm := hrow2.le.2
  have bel2 := below_then hb1 hb2
  clear hrow2
  go_wp2_with fail
  refine (HF.out.se w2).mono ?_
  rintro e w3 ⟨Ad, cd, rfl, hrow3, hb3⟩
  have HD := Lib.hid hrow3.rd
  have hcd := hrow3.le.1
  have hmd := hrow3.le.2
  have bel3 := below_then bel2 hb3
  clear hrow3
  go_wp2_with fail
  refine (Sign_ok z HZ.out s HS.out Am k cm _ Ad k cd _ A n cap l w3 (HM.out.below hb3) (bytesOf_fit _ _) hcm hmm HF.out.modul HD.out (bytesOf_fit _ _) hcd hmd (by omega) (HR.out.below bel3) hf hcn (by omega) (HT.out.below bel3) hk0).mono ?_
  rw [HF.out.vn, HF.out.vd]
  rintro e w4 ⟨g4, rfl, hg4, hB4, hb4⟩
  have HB4 : Hid (Rd .u8 w4 (some ⟨g4, 0, none⟩) k (bytesOf k (sigOf k N D z l))) := hB4.rd k (bytesOf_length _ _)
  clear hB4 hg4
  have bel4 := below_then bel3 hb4
  have HM4 := Lib.hid ((HM.out.below hb3).below hb4)
  clear HM HD hb3 hb2
  go_wp2_with fail
  refine (Make_ok Am k cm _ w4 HM4.out (bytesOf_fit _ _) hcm hmm HF.out.modul).mono ?_
  rintro e w5 ⟨gk, gm, rfl, ⟨ck, gr, hK⟩, hgm, hb5⟩
  rw [HF.out.vn] at hK
  have HK := Lib.hid hK
  have bel5 := below_then bel4 hb5
  clear hK hgm
  have HO := Lib.hid ((HF.out.opens HZ.out HS.out hk0 l l).2 rfl)
  go_wp2_with fail
  refine (Verify_any z HZ.out s HS.out gk k N gm ck gr A n cap l _ k k _ w5 HK.out (HR.out.below bel5) hf hcn (by omega) (HB4.out.below hb5) (bytesOf_fit _ _) (Nat.le_refl _) (by unfold maxLen; omega) (HT.out.below bel5) hk0 0 (.inl ⟨rfl, HO.out⟩)).mono ?_
  rintro e w6 ⟨rfl, hb6⟩
  have bel6 := below_then bel5 hb6
  have HB6 := Lib.hid ((HB4.out.below hb5).below hb6)
  have HK6 := Lib.hid (HK.out.below hb6)
  have HR6 := Lib.hid (HR.out.below bel6)
  have HT6 := Lib.hid (HT.out.below bel6)
  have HONLY : Hid (∀ ls : List Nat, Fit 256 ls → ls ≠ bytesOf k (sigOf k N D z l) → ¬ Opens k N ls (blockOf z (sumOf z l) k)) := fun ls h1 h2 h3 => h2 (HF.out.only HZ.out HS.out hk0 l h1 h3)
  clear HO HK HB4 HR HM4 HT bel2 bel3 bel4 bel5 hb1 hb4 hb5 hb6
  generalize sigOf k N D z l = x at *
  have HSa : Hid (Rd .u8 (w6.alloc (.cells #[] 5)) (some ⟨g4, 0, none⟩) k (bytesOf k x)) := HB6.out.below (below_alloc1 w6 _)
  have HEm : Hid (Row (w6.alloc (.cells #[] 5)) w6.heap.size 5 (some ⟨w6.heap.size, 0, none⟩) 0 0 (cn .u8 [])) := own_empty w6 5
  go_wp2_with (first
    | ((with_reducible refine at_dst (some 99) ?_); refine wpList_appBs0 (o := ⟨some 99, _, _, _, _, _⟩) rfl (.tmp 97) (.tmp 98) rfl ((Below.refl w6.heap.size w6).alloc (Nat.le_refl _) _) (by simp) rfl HEm.out rfl HSa.out (fun e => by cases e) (by omega) k (by omega) ?_; intro A7 c7 w7 HRow7 hb7 hB7 HG7))
  have hrow7 := HRow7.out
  rw [List.nil_append] at hrow7
  obtain ⟨g7, rfl, hg7, hlt7, _⟩ := hrow7.cells (by omega)
  obtain ⟨b, hb⟩ := get_some (l := bytesOf k x) (i := p) (by rw [bytesOf_length]; exact HPU.out)
  have hbb := (bytesOf_fit k x).get hb
  have hcell := hrow7.at_ HPU.out hb
  have hfz := hrow7.fz p
  have kz1 : ¬ (k : Int) = 0 := by omega
  have kz2 : ((k : Int) == 0) = false := by simp; omega
  have kz3 : ¬ k = 0 := by omega
  have kp1 : (p : Int) < k := by omega
  have kp2 : (0 : Int) ≤ p := by omega
  obtain ⟨yb, hyb⟩ : ∃ yb : Nat, yb = 2 ^ r := ⟨_, rfl⟩
  have hyb1 : 1 ≤ yb ∧ yb < 256 := by
    rw [hyb]
    exact ⟨Nat.pow_pos (by omega), Nat.pow_lt_pow_right (by omega) hr8⟩
  have hyw : IntKind.u8.wrap (2 ^ r) = (yb : Int) := by
    have e : ((2 : Int) ^ r) = (yb : Int) := by rw [hyb]; push_cast; rfl
    rw [e, IntKind.wrap_u8']
    omega
  obtain ⟨v, hv⟩ : ∃ v, v = b ^^^ yb := ⟨_, rfl⟩
  have hvb : v < 256 := by rw [hv]; exact Nat.xor_lt_two_pow (n := 8) hbb (by omega)
  have hx : bits .xor .u8 (b : Int) (yb : Int) = (v : Int) := by rw [hv]; exact u8_xor_nat b yb hbb (by omega)
  have hne := set_ne hb (show v ≠ b by rw [hv]; exact xor_ne (by omega))
  have HFL : Hid (Fit 256 ((bytesOf k x).set p v)) := (bytesOf_fit k x).set p v hvb
  have HNO := Lib.hid (HONLY.out _ HFL.out hne)
  have HROW : Hid (Row (w7.setCell ⟨g7, p, none⟩ (.int .u8 (v : Int))).drew w6.heap.size 5 (some ⟨g7, 0, none⟩) k c7 (cn .u8 ((bytesOf k x).set p v))) := hrow7.put p v
  have hc7 := hrow7.le.1
  have hm7 := hrow7.le.2
  have HBE : Hid (Below w6.heap.size w6 (w7.setCell ⟨g7, p, none⟩ (.int .u8 (v : Int))).drew) := below_drew1 (hb7.setCell hg7 _)
  clear hrow7 hb hne hv hyb HONLY HRow7 HG7 HSa HEm
  go_still_tail 12, (by kernel_rfl)
  change wpList _ _ _ _ _ w7.drew
  go_wp2_with fail
  have HRB := Lib.hid HROW.out.rd
  clear hcell hfz hx hyw
  generalize (w7.setCell ⟨g7, p, none⟩ (.int .u8 (v : Int))).drew = w8 at *
  have bel8 := below_then bel6 HBE.out
  refine (Verify_any z HZ.out s HS.out gk k N gm ck gr A n cap l _ k c7 _ w8 (HK6.out.below HBE.out) (HR6.out.below HBE.out) hf hcn (by omega) HRB.out HFL.out hc7 hm7 (HT6.out.below HBE.out) hk0 23 (.inr ⟨rfl, HNO.out⟩)).mono ?_
  rintro e w9 ⟨rfl, hb9⟩
  have bel9 := below_then bel8 hb9
  go_wp2
  go_ret
  exact ⟨rfl, bel9⟩

set_option maxRecDepth 100000 in
set_option maxHeartbeats 1000000 in
theorem walk_ok2 (y k N D t : Nat) (hF : Fixed y k N D) (hy : y ≤ 2) (z : Nat) (hz : z = 1 ∨ z = 2) (d1 : ((z : Int) != 1) = true) (d2 : ((z : Int) != 2) = false) (d3 : ((z : Int) == 2) = true) (d4 : ¬ (y : Int) < 2) (s : Nat) (hs : sizeOfAlg z = s) (A : Option Addr) (n cap : Nat) (w : World) (ht : Both w) (h1 : ¬ (500 : Int) < n) (l : List Nat) (h : Rd .u8 w A n l) (hf : Fit 256 l) (hcn : n ≤ cap) (hk0 : 30 + s ≤ k) (ht63 : t ≤ 9223372036854775807) :
    Calls Tryz.prog 4 #[.int .i64 (y : Int), .int .i64 (z : Int), .slice A n cap, .int .i64 (t : Int)] w fun e w' => e = .returned (.bool true) ∧ Below w.heap.size w w' := by
  obtain ⟨q, hq⟩ : ∃ q, q = t / 8 := ⟨_, rfl⟩
  obtain ⟨p, hp⟩ : ∃ p, p = q % k := ⟨_, rfl⟩
  obtain ⟨r, hr⟩ : ∃ r, r = t % 8 := ⟨_, rfl⟩
  have hkp := hF.k1
  have hpk : p < k := by rw [hp]; exact Nat.mod_lt _ (by omega)
  have hr8 : r < 8 := by omega
  have r1 : (t : Int) / 8 = (q : Int) := by omega
  have wq : IntKind.i64.wrap (q : Int) = (q : Int) := by rw [IntKind.wrap_i64]; omega
  have r1' : (t : Int).tdiv 8 = (q : Int) := by rw [Int.tdiv_eq_ediv_of_nonneg (by omega)]; exact r1
  have r2 : (q : Int) % (k : Int) = (p : Int) := by rw [hp, Int.natCast_emod]
  have r2' : (q : Int).tmod (k : Int) = (p : Int) := by rw [Int.tmod_eq_emod_of_nonneg (by omega)]; exact r2
  have r3 : (t : Int) % 8 = (r : Int) := by omega
  have r3' : (t : Int).tmod 8 = (r : Int) := by rw [Int.tmod_eq_emod_of_nonneg (by omega)]; exact r3
  have HZ := Lib.hid hz
  have HS := Lib.hid hs
  have HR := Lib.hid h
  clear hz hs h
  have HF := Lib.hid hF
  have k1 := hF.k1
  have k2 := hF.k2
  have y0 : ¬ (y : Int) < 0 := by omega
  have y1 : ¬ (2 : Int) < y := by omega
  have t0 : ¬ (t : Int) < 0 := by omega
  clear hF hy
  clear hq hp hr
  have HPU := Lib.hid hpk
  have HT := Lib.hid ht
  clear ht
  go_enter Tryz.func4, Tryz.ntmps4
  go_wp2_with fail
  refine (anchor_any w HT.out).mono ?_
  rintro e w1 ⟨rfl, hb1⟩
  go_wp2_with fail
  refine (HF.out.mo w1).mono ?_
  rintro e w2 ⟨Am, cm, rfl, hrow2, hb2⟩
  have HM := Lib.hid hrow2.rd
  have hcm := hrow2.le.1
  have hmm := hrow2.le.2
  have bel2 := below_then hb1 hb2
  clear hrow2
  go_wp2_with fail
  refine (HF.out.se w2).mono ?_
  rintro e w3 ⟨Ad, cd, rfl, hrow3, hb3⟩
  have HD := Lib.hid hrow3.rd
  have hcd := hrow3.le.1
  have hmd := hrow3.le.2
  have bel3 := below_then bel2 hb3
  clear hrow3
  go_wp2_with fail
  refine (Sign_ok z HZ.out s HS.out Am k cm _ Ad k cd _ A n cap l w3 (HM.out.below hb3) (bytesOf_fit _ _) hcm hmm HF.out.modul HD.out (bytesOf_fit _ _) hcd hmd (by omega) (HR.out.below bel3) hf hcn (by omega) (HT.out.below bel3) hk0).mono ?_
  rw [HF.out.vn, HF.out.vd]
  rintro e w4 ⟨g4, rfl, hg4, hB4, hb4⟩
  have HB4 : Hid (Rd .u8 w4 (some ⟨g4, 0, none⟩) k (bytesOf k (sigOf k N D z l))) := hB4.rd k (bytesOf_length _ _)
  clear hB4 hg4
  have bel4 := below_then bel3 hb4
  have HM4 := Lib.hid ((HM.out.below hb3).below hb4)
  clear HM HD hb3 hb2
  go_wp2_with fail
  refine (Make_ok Am k cm _ w4 HM4.out (bytesOf_fit _ _) hcm hmm HF.out.modul).mono ?_
  rintro e w5 ⟨gk, gm, rfl, ⟨ck, gr, hK⟩, hgm, hb5⟩
  rw [HF.out.vn] at hK
  have HK := Lib.hid hK
  have bel5 := below_then bel4 hb5
  clear hK hgm
  have HO := Lib.hid ((HF.out.opens HZ.out HS.out hk0 l l).2 rfl)
  go_wp2_with fail
  refine (Verify_any z HZ.out s HS.out gk k N gm ck gr A n cap l _ k k _ w5 HK.out (HR.out.below bel5) hf hcn (by omega) (HB4.out.below hb5) (bytesOf_fit _ _) (Nat.le_refl _) (by unfold maxLen; omega) (HT.out.below bel5) hk0 0 (.inl ⟨rfl, HO.out⟩)).mono ?_
  rintro e w6 ⟨rfl, hb6⟩
  have bel6 := below_then bel5 hb6
  have HB6 := Lib.hid ((HB4.out.below hb5).below hb6)
  have HK6 := Lib.hid (HK.out.below hb6)
  have HR6 := Lib.hid (HR.out.below bel6)
  have HT6 := Lib.hid (HT.out.below bel6)
  have HONLY : Hid (∀ ls : List Nat, Fit 256 ls → ls ≠ bytesOf k (sigOf k N D z l) → ¬ Opens k N ls (blockOf z (sumOf z l) k)) := fun ls h1 h2 h3 => h2 (HF.out.only HZ.out HS.out hk0 l h1 h3)
  clear HO HK HB4 HR HM4 HT bel2 bel3 bel4 bel5 hb1 hb4 hb5 hb6
  generalize sigOf k N D z l = x at *
  have HSa : Hid (Rd .u8 (w6.alloc (.cells #[] 5)) (some ⟨g4, 0, none⟩) k (bytesOf k x)) := HB6.out.below (below_alloc1 w6 _)
  have HEm : Hid (Row (w6.alloc (.cells #[] 5)) w6.heap.size 5 (some ⟨w6.heap.size, 0, none⟩) 0 0 (cn .u8 [])) := own_empty w6 5
  go_wp2_with (first
    | ((with_reducible refine at_dst (some 99) ?_); refine wpList_appBs0 (o := ⟨some 99, _, _, _, _, _⟩) rfl (.tmp 97) (.tmp 98) rfl ((Below.refl w6.heap.size w6).alloc (Nat.le_refl _) _) (by simp) rfl HEm.out rfl HSa.out (fun e => by cases e) (by omega) k (by omega) ?_; intro A7 c7 w7 HRow7 hb7 hB7 HG7))
  have hrow7 := HRow7.out
  rw [List.nil_append] at hrow7
  obtain ⟨g7, rfl, hg7, hlt7, _⟩ := hrow7.cells (by omega)
  obtain ⟨b, hb⟩ := get_some (l := bytesOf k x) (i := p) (by rw [bytesOf_length]; exact HPU.out)
  have hbb := (bytesOf_fit k x).get hb
  have hcell := hrow7.at_ HPU.out hb
  have hfz := hrow7.fz p
  have kz1 : ¬ (k : Int) = 0 := by omega
  have kz2 : ((k : Int) == 0) = false := by simp; omega
  have kz3 : ¬ k = 0 := by omega
  have kp1 : (p : Int) < k := by omega
  have kp2 : (0 : Int) ≤ p := by omega
  obtain ⟨yb, hyb⟩ : ∃ yb : Nat, yb = 2 ^ r := ⟨_, rfl⟩
  have hyb1 : 1 ≤ yb ∧ yb < 256 := by
    rw [hyb]
    exact ⟨Nat.pow_pos (by omega), Nat.pow_lt_pow_right (by omega) hr8⟩
  have hyw : IntKind.u8.wrap (2 ^ r) = (yb : Int) := by
    have e : ((2 : Int) ^ r) = (yb : Int) := by rw [hyb]; push_cast; rfl
    rw [e, IntKind.wrap_u8']
    omega
  obtain ⟨v, hv⟩ : ∃ v, v = b ^^^ yb := ⟨_, rfl⟩
  have hvb : v < 256 := by rw [hv]; exact Nat.xor_lt_two_pow (n := 8) hbb (by omega)
  have hx : bits .xor .u8 (b : Int) (yb : Int) = (v : Int) := by rw [hv]; exact u8_xor_nat b yb hbb (by omega)
  have hne := set_ne hb (show v ≠ b by rw [hv]; exact xor_ne (by omega))
  have HFL : Hid (Fit 256 ((bytesOf k x).set p v)) := (bytesOf_fit k x).set p v hvb
  have HNO := Lib.hid (HONLY.out _ HFL.out hne)
  have HROW : Hid (Row (w7.setCell ⟨g7, p, none⟩ (.int .u8 (v : Int))).drew w6.heap.size 5 (some ⟨g7, 0, none⟩) k c7 (cn .u8 ((bytesOf k x).set p v))) := hrow7.put p v
  have hc7 := hrow7.le.1
  have hm7 := hrow7.le.2
  have HBE : Hid (Below w6.heap.size w6 (w7.setCell ⟨g7, p, none⟩ (.int .u8 (v : Int))).drew) := below_drew1 (hb7.setCell hg7 _)
  clear hrow7 hb hne hv hyb HONLY HRow7 HG7 HSa HEm
  go_still_tail 12, (by kernel_rfl)
  change wpList _ _ _ _ _ w7.drew
  go_wp2_with fail
  have HRB := Lib.hid HROW.out.rd
  clear hcell hfz hx hyw
  generalize (w7.setCell ⟨g7, p, none⟩ (.int .u8 (v : Int))).drew = w8 at *
  have bel8 := below_then bel6 HBE.out
  refine (Verify_any z HZ.out s HS.out gk k N gm ck gr A n cap l _ k c7 _ w8 (HK6.out.below HBE.out) (HR6.out.below HBE.out) hf hcn (by omega) HRB.out HFL.out hc7 hm7 (HT6.out.below HBE.out) hk0 23 (.inr ⟨rfl, HNO.out⟩)).mono ?_
  rintro e w9 ⟨rfl, hb9⟩
  have bel9 := below_then bel8 hb9
  go_wp2
  go_ret
  exact ⟨rfl, bel9⟩

theorem walk (y z : Int) (A : Option Addr) (n cap : Nat) (l : List Nat) (t : Int) (w : World) (_ : (Lit.int .i64 y).wf = true) (_ : (Lit.int .i64 z).wf = true) (h : Rd .u8 w A n l) (hf : Fit 256 l) (hcn : n ≤ cap) (hmn : cap ≤ maxLen) (hnil : A = none → cap = 0) (hwt : (Lit.int .i64 t).wf = true) (ht : Both w) :
    Calls Tryz.prog 4 #[.int .i64 y, .int .i64 z, .slice A n cap, .int .i64 t] w fun e w' => e = .returned (.bool true) ∧ Below w.heap.size w w' := by
  have ht2 := (wf64 hwt).2
  by_cases g0 : y < 0
  · exact walk_g0 y z t A n cap w ht g0
  by_cases g1 : 2 < y
  · exact walk_g1 y z t A n cap w ht g0 g1
  by_cases g2 : 500 < n
  · exact walk_g2 y z t A n cap w ht g0 g1 (by omega)
  by_cases g3 : t < 0
  · exact walk_g3 y z t A n cap w ht g0 g1 (by omega) g3
  obtain ⟨x, rfl⟩ : ∃ x : Nat, y = (x : Int) := ⟨y.toNat, by omega⟩
  obtain ⟨u, rfl⟩ : ∃ u : Nat, t = (u : Int) := ⟨t.toNat, by omega⟩
  obtain ⟨k, N, D, hF⟩ := fixed_of (z := x) (by omega)
  have k1 := hF.k1
  by_cases z1 : z = 1
  · subst z1
    exact walk_ok1 x k N D u hF (by omega) 1 (.inl rfl) rfl rfl 32 rfl A n cap w ht (by omega) l h hf hcn (by omega) (by omega)
  by_cases z2 : z = 2
  · subst z2
    by_cases hx : x < 2
    · exact walk_bits x k N D u hF (by omega) A n cap w ht (by omega) l h hf hcn hx
    · have hk := hF.great (by omega)
      exact walk_ok2 x k N D u hF (by omega) 2 (.inr rfl) rfl rfl rfl (by omega) 64 rfl A n cap w ht (by omega) l h hf hcn (by omega) (by omega)
  exact walk_alg x k N D u hF (by omega) z A n cap w ht (by omega) z1 z2

-- THE ROW's STEP
set_option maxRecDepth 100000 in
theorem lifted (os : Os) (started : os.Started) (H : Type) (enc : TypeId × Value → H) :
    ReturnsInHanded {} Tryz.checked os 4 .any (fun w args => (Rows.sealSignsSpec.pre enc Tryz.prog Tryz.f4 [] false w args ∧ laidMetH Tryz.prog listed w) ∧ sizedMet enc Tryz.prog Tryz.f4 (OpenSpec.ofChange Rows.sealSignsSpec) false w args)
      (Rows.sealSignsSpec.post enc Tryz.prog Tryz.f4 false true false false) := by
  refine returnsInHanded_of_change_and (C := Tryz.checked) (X := fun w _ => laidMetH Tryz.prog listed w) (fun _ _ _ hh h => h.of_heap hh) own started (by kernel_rfl) Tryz.func4
    (ChangeSpec.witness_shaped (enc := enc) (C := Tryz.checked) (os := os) (X := fun w _ => laidMetH Tryz.prog listed w) false (World.laidAll Tryz.prog os listed) #[.int .i64 0, .int .i64 0, .slice none 0 0, .int .i64 0] 8 (World.laidAll_os _ _ _)
      (World.shaped_of_ZipB (by kernel_rfl) (by kernel_rfl)) (by kernel_rfl) (by kernel_rfl) (by kernel_rfl)
      (by rw [MakeChecks.laidMetH_plain _ _ _ (by kernel_rfl)]; exact laidMet_laidAll _ (by kernel_rfl) (by kernel_rfl))) ?_
  intro W base args ds gs before hval0 hW _ _ hL _
  have hval : ∀ (j : Nat) t v, Tryz.f4.params[j]? = some t → args[j]? = some v → Value.okWide Tryz.prog W .any base t v := hval0
  have hW' := hW
  obtain ⟨p, q, hA0, hV, rfl, hfz, hnd⟩ := hW
  have hA : DataW.TrodAll enc Tryz.prog W 0 (fun _ => true) true Tryz.f4.params.toList args.toList ds p := hA0
  rw [Tryz.params4] at hA hval
  obtain ⟨v0, vs0, d0, ds0, p0, q0, hargs, rfl, rfl, h0, r0⟩ := trodAll_cons hA
  obtain ⟨v1, vs1, d1, ds1, p1, q1, rfl, rfl, rfl, h1, r1⟩ := trodAll_cons r0
  obtain ⟨v2, vs2, d2, ds2, p2, q2, rfl, rfl, rfl, h2, r2⟩ := trodAll_cons r1
  obtain ⟨v3, vs3, d3, ds3, p3, q3, rfl, rfl, rfl, h3, r3⟩ := trodAll_cons r2
  obtain ⟨rfl, rfl, rfl⟩ := trodAll_nil r3
  obtain rfl : args = #[v0, v1, v2, v3] := by cases args; simp_all
  obtain ⟨rfl, rfl⟩ := trodVars_none hV
  obtain ⟨a0, rfl, rfl, rfl, w0⟩ := open_int Tryz.underlying3 (hval 0 3 v0 rfl rfl) h0
  obtain ⟨a1, rfl, rfl, rfl, w1⟩ := open_int Tryz.underlying3 (hval 1 3 v1 rfl rfl) h1
  have k2 := h2
  have lt2 : ∀ x ∈ p2, x.block < W.heap.size := by obtain ⟨m, hm⟩ := k2; exact DataW.trod_lt m _ _ _ hm
  obtain ⟨fuel2, hf2⟩ := h2
  obtain ⟨a2, len2, cap2, l2, e2, g2, hlc2, hcm2, hnil2⟩ := bytes_of_trod hf2
  obtain ⟨b2, lb2, cb2, hv2⟩ := okWide_slice Tryz.underlying22 (hval 2 22 v2 rfl rfl)
  have ev2 : v2 = .slice a2 len2 cap2 := by rw [hv2] at e2 ⊢; simpa [Value.cells] using e2
  subst ev2
  obtain ⟨a3, rfl, rfl, rfl, w3⟩ := open_int Tryz.underlying3 (hval 3 3 v3 rfl rfl) h3
  clear hA0 hval0
  refine (walk a0 a1 a2 len2 cap2 l2 a3 W w0 w1 g2.1 g2.2 hlc2 hcm2 hnil2 w3 (tabs_of_laid hL)).mono fun e W' ⟨he, bel⟩ => ?_
  subst he
  exact ⟨_, rfl, _, _, _, [], _, [], hW', trodAll_mk1 (shut_bool Tryz.underlying4 _), (trodAll_cons_mk (shut_int Tryz.underlying3 w0) (trodAll_cons_mk (shut_int Tryz.underlying3 w1) (trodAll_cons_mk (Below.trod laidOut (by kernel_rfl) (of_decide_eq_true (by kernel_rfl)) k2 bel lt2) (trodAll_cons_mk (shut_int Tryz.underlying3 w3) trodAll_mk0)))), rfl, bel.frame _, fun h => by cases h⟩

theorem row_holds : Rows.SealSignsSaid :=
  OpenClaim.holds_of_wide 4 Tryz.f4 rfl rfl rfl rfl rfl rfl rfl ⟨rfl, rfl, rfl, rfl, rfl⟩ rfl rfl rfl rfl rfl (by kernel_rfl) Tryz.func4 (by kernel_rfl)
    (of_decide_eq_true (by kernel_rfl)) (by unfold Func.isWrapper; first | (rw [if_pos (by decide +kernel)]; kernel_rfl) | (rw [if_neg (by decide +kernel)]; exact ⟨rfl, rfl⟩))
    (fun os started H enc _ => lifted os started H enc)

theorem proved : Rows.SealSignsCardSaid :=
  Claim7.holds_tied_plain_at .later [] [.data, .data, .data, .data, .data, .pinned] true Rows.sealSignsCard.stood.harness false
    row_holds (fun _ h => by cases h) (by kernel_rfl) (fun _ h => by cases h) sealSigns_row_tie rfl ⟨rfl, rfl⟩ (by kernel_rfl) rfl
    (fun f fn hf hfn => by
      obtain rfl : f = 4 := Option.some.inj ((show Tryz.prog.funcNamed Tryz.f4.name = some 4 by kernel_rfl).symm.trans hf) |>.symm
      obtain rfl : fn = Tryz.f4 := (Option.some.inj (Tryz.func4.symm.trans hfn)).symm
      exact ⟨by kernel_rfl, fun j t ht => by
        rw [Tryz.params4] at ht
        have hm : t ∈ [3, 3, 22, 3] := by simpa using Array.mem_of_getElem? ht
        have hall : ([3, 3, 22, 3].all fun u => !Tryz.prog.wantsStandIn u) = true := by kernel_rfl
        exact (show Tryz.prog.wantsStandIn t = false by simpa using List.all_eq_true.1 hall t hm)⟩)
    (by kernel_rfl)
end Go.Proofs.YtppoikamenbckaaGreatDoor.sealSigns
