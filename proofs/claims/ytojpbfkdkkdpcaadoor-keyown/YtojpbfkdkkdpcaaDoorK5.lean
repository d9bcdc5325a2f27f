/-
  What power, Open and Close of package key answer.
-/
import Derived.Test.YtojpbfkdkkdpcaaDoorK4
import Derived.Test.YtojpbfkdkkdpcaaDoorKeys01
namespace Go.Proofs.YtojpbfkdkkdpcaaDoor
open Go.RowKit
set_option linter.unusedVariables false
set_option linter.unusedSimpArgs false
set_option maxRecDepth 100000

/-- An answer: a number in k bytes of its own, and no error. -/
def GivesSig (w : World) (k x : Nat) (e : Ending) (w' : World) : Prop :=
  ∃ g, e = .returned (.tuple #[.slice (some ⟨g, 0, none⟩) k k, .int .i64 0]) ∧ w.heap.size ≤ g ∧ Blk w' g 5 (cn .u8 (bytesOf k x)) ∧ Below w.heap.size w w'

set_option maxHeartbeats 400000 in
theorem power_size (g k N gm c gr : Nat) (Ab : Option Addr) (nb cb : Nat) (Ae : Option Addr) (ne ce : Nat) (w : World) (h : Keyed w g k N gm c gr) (hnb : nb ≠ k) :
    Calls Tryd.prog 47 #[.pointer (some ⟨g, 0, none⟩), .slice Ab nb cb, .slice Ae ne ce] w (Refused w 24) := by
  have HK := Lib.hid h
  have hd : ((nb : Int) != (k : Int)) = true := by simp; omega
  have hd2 : (nb != k) = true := by simp [hnb]
  clear h
  go_enter Tryd.func47, Tryd.ntmps47
  go_wp2_with fail
  refine (Size_any g k N gm c gr w HK.out).mono ?_
  rintro e w1 ⟨rfl, rfl⟩
  go_wp2
  go_ret2
  exact ⟨rfl, below_self⟩

set_option maxHeartbeats 1000000 in
theorem power_no (g k N gm c gr : Nat) (Ab : Option Addr) (cb : Nat) (lb : List Nat) (Ae : Option Addr) (ne ce : Nat) (w : World) (h : Keyed w g k N gm c gr) (hr : Rd .u8 w Ab k lb) (hf : Fit 256 lb) (hc1 : k ≤ cb) (hc2 : cb ≤ maxLen) (er : Int) (hno : er = 13 ∧ N ≤ vbe lb ∨ er = 11 ∧ vbe lb < N ∧ 1024 < ne) :
    Calls Tryd.prog 47 #[.pointer (some ⟨g, 0, none⟩), .slice Ab k cb, .slice Ae ne ce] w (Refused w er) := by
  have HK := Lib.hid h
  have HR := Lib.hid hr
  have k1 := h.k1
  have k2 := h.k2
  have k3 := h.k3
  obtain ⟨W, hW⟩ : ∃ W, k = 4 * W := ⟨k / 4, by omega⟩
  have HW := Lib.hid hW
  have HLT := Lib.hid (limbs_room hf hr.1 hW)
  have w1_ : 1 ≤ W := by omega
  have w2_ : W ≤ 128 := by omega
  have hring := h.ring
  rw [show k / 4 = W by omega] at hring
  have HG := Lib.hid hring
  have HNO := Lib.hid hno
  have her : er = 13 ∨ er = 11 := by rcases hno with h | h <;> simp [h]
  have hd : (er != 0) = true := by rcases her with h | h <;> simp [h]
  have HER := Lib.hid her
  clear h hr hring hW hno her
  go_enter Tryd.func47, Tryd.ntmps47
  go_wp2_with fail
  refine (Size_any g k N gm c gr w HK.out).mono ?_
  rintro e w1 ⟨rfl, rfl⟩
  go_wp2_with fail
  refine (Size_any g k N gm c gr w HK.out).mono ?_
  rintro e w1 ⟨rfl, rfl⟩
  go_wp2_with fail
  refine (From_okz Ab k cb lb W _ (by have := HW.out; omega) w HR.out hf hc1 hc2 (by omega) w1_ (by omega) HLT.out).mono ?_
  rintro e w1 ⟨A1, zs, rfl, ⟨hr1, hf1, _, _, hb1⟩, hv1⟩
  have HR1 := Lib.hid hr1
  have HV1 := Lib.hid hv1
  have q1 := (HK.out.below hb1).q1
  clear hr1 hv1
  go_wp2_with fail
  have step : Calls Tryd.prog 73 #[.pointer (some ⟨gr, 0, none⟩), .slice A1 W W, .slice Ae ne ce] w1 (Refused w1 er) := by
    rcases HNO.out with ⟨rfl, h1⟩ | ⟨rfl, h1, h2⟩
    · exact Power_no gr W N A1 W W zs Ae ne ce w1 (Whole.below HG.out hb1) HR1.out hf1 (fun h => by rw [HV1.out] at h; omega)
    · exact Power_big gr W N A1 W zs Ae ne ce w1 (Whole.below HG.out hb1) HR1.out hf1 (by rw [HV1.out]; exact h1) h2
  refine step.mono ?_
  rintro e w2 ⟨rfl, hb2⟩
  have bel2 := below_then hb1 hb2
  clear step
  go_wp2
  go_ret2
  exact ⟨rfl, bel2⟩

set_option maxHeartbeats 1000000 in
theorem power_yes (g k N gm c gr : Nat) (Ab : Option Addr) (cb : Nat) (lb : List Nat) (Ae : Option Addr) (ne ce : Nat) (le : List Nat) (w : World) (h : Keyed w g k N gm c gr) (hr : Rd .u8 w Ab k lb) (hf : Fit 256 lb) (hc1 : k ≤ cb) (hc2 : cb ≤ maxLen) (hlt : vbe lb < N) (hre : Rd .u8 w Ae ne le) (hfe : Fit 256 le) (hnc : ne ≤ ce) (hcm : ce ≤ maxLen) (hne : ne ≤ 1024) :
    Calls Tryd.prog 47 #[.pointer (some ⟨g, 0, none⟩), .slice Ab k cb, .slice Ae ne ce] w (GivesSig w k (vbe lb ^ vbe le % N)) := by
  have HK := Lib.hid h
  have HR := Lib.hid hr
  have HRE := Lib.hid hre
  have HLTN := Lib.hid hlt
  have k1 := h.k1
  have k2 := h.k2
  have k3 := h.k3
  obtain ⟨W, hW⟩ : ∃ W, k = 4 * W := ⟨k / 4, by omega⟩
  have HW := Lib.hid hW
  have HLT := Lib.hid (limbs_room hf hr.1 hW)
  have w1_ : 1 ≤ W := by omega
  have w2_ : W ≤ 128 := by omega
  have hring := h.ring
  rw [show k / 4 = W by omega] at hring
  have HG := Lib.hid hring
  have HN := Lib.hid (Nat.lt_trans (by omega) hring.gt : 0 < N)
  clear h hr hring hW hre hlt
  go_enter Tryd.func47, Tryd.ntmps47
  go_wp2_with fail
  refine (Size_any g k N gm c gr w HK.out).mono ?_
  rintro e w1 ⟨rfl, rfl⟩
  go_wp2_with fail
  refine (Size_any g k N gm c gr w HK.out).mono ?_
  rintro e w1 ⟨rfl, rfl⟩
  go_wp2_with fail
  refine (From_okz Ab k cb lb W _ (by have := HW.out; omega) w HR.out hf hc1 hc2 (by omega) w1_ (by omega) HLT.out).mono ?_
  rintro e w1 ⟨A1, zs, rfl, ⟨hr1, hf1, _, _, hb1⟩, hv1⟩
  have HR1 := Lib.hid hr1
  have HV1 := Lib.hid hv1
  have q1 := (HK.out.below hb1).q1
  clear hr1 hv1
  go_wp2_with fail
  refine (Power_yes gr W N A1 W zs Ae ne ce le w1 (Whole.below HG.out hb1) HR1.out hf1 (by rw [HV1.out]; exact HLTN.out) (HRE.out.below hb1) hfe hnc hcm hne).mono ?_
  rintro e w2 ⟨A2, c2, l2, rfl, hr2, hf2, hv2, hb2⟩
  rw [HV1.out] at hv2
  have bel2 := below_then hb1 hb2
  have HR2 := Lib.hid hr2
  have HV2 := Lib.hid hv2
  clear hr2 hv2
  go_wp2_with fail
  refine (Size_any g k N gm c gr w2 (HK.out.below bel2)).mono ?_
  rintro e w3 ⟨rfl, rfl⟩
  go_wp2_with fail
  refine (Bytes_okz A2 W c2 l2 k _ rfl w2 HR2.out hf2 w1_ (by omega) (by omega) (by rw [HV2.out]; exact Nat.lt_trans (Nat.mod_lt _ HN.out) HK.out.room)).mono ?_
  rintro e w3 ⟨g3, rfl, hg3, hB3, hb3⟩
  rw [HV2.out] at hB3
  have bel3 := below_then bel2 hb3
  have HB3 := Lib.hid hB3
  have hsz := bel2.size
  clear hB3
  go_wp2
  go_ret2
  exact ⟨g3, rfl, Nat.le_trans hsz hg3, HB3.out, bel3⟩

theorem keyE_lt : keyE < 256 ^ 4 := by decide
theorem keyE_val : vbe (bytesOf 4 keyE) = keyE := bytesOf_val keyE_lt
theorem Put_exp (w : World) :
    Calls Tryd.prog 34 #[.slice none 0 0, .int .i64 4, .int .i64 65537] w fun e w' => e = .returned (.tuple #[.slice (some ⟨w.heap.size, 0, none⟩) 4 4, .int .i64 0]) ∧ Rd .u8 w' (some ⟨w.heap.size, 0, none⟩) 4 (bytesOf 4 keyE) ∧ Below w.heap.size w w' := by
  refine (Put4_any none 0 0 [] keyE _ rfl (by decide) 4 rfl w (Rd.nil _ _ _) (Fit.nil _) (by omega)).mono ?_
  rintro e w' ⟨he, hB, hb⟩
  rw [List.nil_append] at hB
  exact ⟨he, hB.rd 4 (bytesOf_length _ _), hb⟩

set_option maxHeartbeats 400000 in
theorem Open_size (g k N gm c gr : Nat) (Ab : Option Addr) (nb cb : Nat) (w : World) (h : Keyed w g k N gm c gr) (hnb : nb ≠ k) :
    Calls Tryd.prog 21 #[.pointer (some ⟨g, 0, none⟩), .slice Ab nb cb] w (Refused w 24) := by
  have HK := Lib.hid h
  clear h
  go_enter Tryd.func21, Tryd.ntmps21
  go_wp2_with fail
  refine (Put_exp w).mono ?_
  rintro e w1 ⟨rfl, hr1, hb1⟩
  clear hr1
  go_wp2_with fail
  refine (power_size g k N gm c gr Ab nb cb _ 4 4 w1 (HK.out.below hb1) hnb).mono ?_
  rintro e w2 ⟨rfl, hb2⟩
  go_wp2
  go_ret2
  exact ⟨rfl, below_then hb1 hb2⟩
set_option maxHeartbeats 400000 in
theorem Open_no (g k N gm c gr : Nat) (Ab : Option Addr) (cb : Nat) (lb : List Nat) (w : World) (h : Keyed w g k N gm c gr) (hr : Rd .u8 w Ab k lb) (hf : Fit 256 lb) (hc1 : k ≤ cb) (hc2 : cb ≤ maxLen) (hno : N ≤ vbe lb) :
    Calls Tryd.prog 21 #[.pointer (some ⟨g, 0, none⟩), .slice Ab k cb] w (Refused w 13) := by
  have HK := Lib.hid h
  have HR := Lib.hid hr
  have HNO := Lib.hid hno
  clear h hr hno
  go_enter Tryd.func21, Tryd.ntmps21
  go_wp2_with fail
  refine (Put_exp w).mono ?_
  rintro e w1 ⟨rfl, hr1, hb1⟩
  clear hr1
  go_wp2_with fail
  refine (power_no g k N gm c gr Ab cb lb _ 4 4 w1 (HK.out.below hb1) (HR.out.below hb1) hf hc1 hc2 13 (.inl ⟨rfl, HNO.out⟩)).mono ?_
  rintro e w2 ⟨rfl, hb2⟩
  go_wp2
  go_ret2
  exact ⟨rfl, below_then hb1 hb2⟩
set_option maxHeartbeats 400000 in
theorem Open_yes (g k N gm c gr : Nat) (Ab : Option Addr) (cb : Nat) (lb : List Nat) (w : World) (h : Keyed w g k N gm c gr) (hr : Rd .u8 w Ab k lb) (hf : Fit 256 lb) (hc1 : k ≤ cb) (hc2 : cb ≤ maxLen) (hlt : vbe lb < N) :
    Calls Tryd.prog 21 #[.pointer (some ⟨g, 0, none⟩), .slice Ab k cb] w (GivesSig w k (vbe lb ^ keyE % N)) := by
  have HK := Lib.hid h
  have HR := Lib.hid hr
  have HLT := Lib.hid hlt
  clear h hr hlt
  go_enter Tryd.func21, Tryd.ntmps21
  go_wp2_with fail
  refine (Put_exp w).mono ?_
  rintro e w1 ⟨rfl, hr1, hb1⟩
  have HR1 := Lib.hid hr1
  clear hr1
  go_wp2_with fail
  refine (power_yes g k N gm c gr Ab cb lb _ 4 4 (bytesOf 4 keyE) w1 (HK.out.below hb1) (HR.out.below hb1) hf hc1 hc2 HLT.out HR1.out (bytesOf_fit _ _) (by omega) (by unfold maxLen; omega) (by omega)).mono ?_
  rw [keyE_val]
  rintro e w2 ⟨g2, rfl, hg2, hB2, hb2⟩
  have HB2 := Lib.hid hB2
  have hsz := hb1.size
  clear hB2
  go_wp2
  go_ret2
  exact ⟨g2, rfl, Nat.le_trans hsz hg2, HB2.out, below_then hb1 hb2⟩

set_option maxHeartbeats 400000 in
theorem Close_size (A : Option Addr) (n cap : Nat) (l : List Nat) (As : Option Addr) (ns cs : Nat) (Ab : Option Addr) (nb cb : Nat) (w : World) (h : Rd .u8 w A n l) (hf : Fit 256 l) (hn : n ≤ cap) (hm : cap ≤ maxLen) (hM : Modul n l) (hnb : nb ≠ n) :
    Calls Tryd.prog 24 #[.slice A n cap, .slice As ns cs, .slice Ab nb cb] w (Refused w 24) := by
  have HR := Lib.hid h
  have HM := Lib.hid hM
  clear h hM
  go_enter Tryd.func24, Tryd.ntmps24
  go_wp2_with fail
  refine (Make_ok A n cap l w HR.out hf hn hm HM.out).mono ?_
  rintro e w1 ⟨g, gm, rfl, ⟨c, gr, hK⟩, hgm, hb1⟩
  have HK := Lib.hid hK
  clear hK
  go_wp2_with fail
  refine (power_size g n _ gm c gr Ab nb cb As ns cs w1 HK.out hnb).mono ?_
  rintro e w2 ⟨rfl, hb2⟩
  go_wp2
  go_ret2
  exact ⟨rfl, below_then hb1 hb2⟩
set_option maxHeartbeats 400000 in
theorem Close_no (A : Option Addr) (n cap : Nat) (l : List Nat) (As : Option Addr) (ns cs : Nat) (Ab : Option Addr) (cb : Nat) (lb : List Nat) (w : World) (h : Rd .u8 w A n l) (hf : Fit 256 l) (hn : n ≤ cap) (hm : cap ≤ maxLen) (hM : Modul n l) (hr : Rd .u8 w Ab n lb) (hfb : Fit 256 lb) (hc1 : n ≤ cb) (hc2 : cb ≤ maxLen) (er : Int) (hno : er = 13 ∧ vbe l ≤ vbe lb ∨ er = 11 ∧ vbe lb < vbe l ∧ 1024 < ns) :
    Calls Tryd.prog 24 #[.slice A n cap, .slice As ns cs, .slice Ab n cb] w (Refused w er) := by
  have HR := Lib.hid h
  have HRB := Lib.hid hr
  have HM := Lib.hid hM
  have HNO := Lib.hid hno
  clear h hM hr hno
  go_enter Tryd.func24, Tryd.ntmps24
  go_wp2_with fail
  refine (Make_ok A n cap l w HR.out hf hn hm HM.out).mono ?_
  rintro e w1 ⟨g, gm, rfl, ⟨c, gr, hK⟩, hgm, hb1⟩
  have HK := Lib.hid hK
  clear hK
  go_wp2_with fail
  refine (power_no g n _ gm c gr Ab cb lb As ns cs w1 HK.out (HRB.out.below hb1) hfb hc1 hc2 er HNO.out).mono ?_
  rintro e w2 ⟨rfl, hb2⟩
  go_wp2
  go_ret2
  exact ⟨rfl, below_then hb1 hb2⟩
set_option maxHeartbeats 400000 in
theorem Close_yes (A : Option Addr) (n cap : Nat) (l : List Nat) (As : Option Addr) (ns cs : Nat) (ls : List Nat) (Ab : Option Addr) (cb : Nat) (lb : List Nat) (w : World) (h : Rd .u8 w A n l) (hf : Fit 256 l) (hn : n ≤ cap) (hm : cap ≤ maxLen) (hM : Modul n l) (hr : Rd .u8 w Ab n lb) (hfb : Fit 256 lb) (hc1 : n ≤ cb) (hc2 : cb ≤ maxLen) (hlt : vbe lb < vbe l) (hrs : Rd .u8 w As ns ls) (hfs : Fit 256 ls) (hnc : ns ≤ cs) (hcm : cs ≤ maxLen) (hns : ns ≤ 1024) :
    Calls Tryd.prog 24 #[.slice A n cap, .slice As ns cs, .slice Ab n cb] w (GivesSig w n (vbe lb ^ vbe ls % vbe l)) := by
  have HR := Lib.hid h
  have HRB := Lib.hid hr
  have HRS := Lib.hid hrs
  have HM := Lib.hid hM
  have HLT := Lib.hid hlt
  clear h hM hr hlt hrs
  go_enter Tryd.func24, Tryd.ntmps24
  go_wp2_with fail
  refine (Make_ok A n cap l w HR.out hf hn hm HM.out).mono ?_
  rintro e w1 ⟨g, gm, rfl, ⟨c, gr, hK⟩, hgm, hb1⟩
  have HK := Lib.hid hK
  clear hK
  go_wp2_with fail
  refine (power_yes g n _ gm c gr Ab cb lb As ns cs ls w1 HK.out (HRB.out.below hb1) hfb hc1 hc2 HLT.out (HRS.out.below hb1) hfs hnc hcm hns).mono ?_
  rintro e w2 ⟨g2, rfl, hg2, hB2, hb2⟩
  have HB2 := Lib.hid hB2
  have hsz := hb1.size
  clear hB2
  go_wp2
  go_ret2
  exact ⟨g2, rfl, Nat.le_trans hsz hg2, HB2.out, below_then hb1 hb2⟩
end Go.Proofs.YtojpbfkdkkdpcaaDoor
