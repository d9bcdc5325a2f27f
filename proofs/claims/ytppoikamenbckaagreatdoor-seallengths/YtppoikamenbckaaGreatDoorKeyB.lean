/-
  What Open, Close and Parse of package key answer; a byte written over.
-/
import Derived.Test.YtppoikamenbckaaGreatDoorKeyA
import Derived.Test.YtppoikamenbckaaGreatDoorKeys0
namespace Go.Proofs.YtppoikamenbckaaGreatDoor
open Go.RowKit
set_option linter.unusedVariables false
set_option linter.unusedSimpArgs false
set_option maxRecDepth 100000

/-- An answer: a number in k bytes of its own, and no error. -/
def GivesSig (w : World) (k x : Nat) (e : Ending) (w' : World) : Prop :=
  ∃ g, e = .returned (.tuple #[.slice (some ⟨g, 0, none⟩) k k, .int .i64 0]) ∧ w.heap.size ≤ g ∧ Blk w' g 5 (cn .u8 (bytesOf k x)) ∧ Below w.heap.size w w'

set_option maxHeartbeats 400000 in
theorem power_size (g k N gm c gr : Nat) (Ab : Option Addr) (nb cb : Nat) (Ae : Option Addr) (ne ce : Nat) (w : World) (h : Keyed w g k N gm c gr) (hnb : nb ≠ k) :
    Calls Tryz.prog 50 #[.pointer (some ⟨g, 0, none⟩), .slice Ab nb cb, .slice Ae ne ce] w (Refused w 24) := by
  have HK := Lib.hid h
  have hd : ((nb : Int) != (k : Int)) = true := by simp; omega
  have hd2 : (nb != k) = true := by simp [hnb]
  clear h
  go_enter Tryz.func50, Tryz.ntmps50
  go_wp2_with fail
  refine (Size_any g k N gm c gr w HK.out).mono ?_
  rintro e w1 ⟨rfl, rfl⟩
  go_wp2
  go_ret2
  exact ⟨rfl, below_self⟩

set_option maxHeartbeats 1000000 in
theorem power_no (g k N gm c gr : Nat) (Ab : Option Addr) (cb : Nat) (lb : List Nat) (Ae : Option Addr) (ne ce : Nat) (w : World) (h : Keyed w g k N gm c gr) (hr : Rd .u8 w Ab k lb) (hf : Fit 256 lb) (hc1 : k ≤ cb) (hc2 : cb ≤ maxLen) (er : Int) (hno : er = 13 ∧ N ≤ vbe lb ∨ er = 11 ∧ vbe lb < N ∧ 1024 < ne) :
    Calls Tryz.prog 50 #[.pointer (some ⟨g, 0, none⟩), .slice Ab k cb, .slice Ae ne ce] w (Refused w er) := by
  have HK := Lib.hid h
  have HR := Lib.hid hr
  have k1 := h.k1
  have k2 := h.k2
  have k3 := h.k3
  obtain ⟨W, hW⟩ : ∃ W, k = 4 * W := ⟨k / 4, by omega⟩
  have HW := Lib.hid hW
  have HLT := Lib.hid (limbs_room hf hr.1 hW)
  have w1_ : 1 ≤ W := by omega
  have w2_ : W ≤ 128 := by omega
  have hring := h.ring
  rw [show k / 4 = W by omega] at hring
  have HG := Lib.hid hring
  have HNO := Lib.hid hno
  have her : er = 13 ∨ er = 11 := by rcases hno with h | h <;> simp [h]
  have hd : (er != 0) = true := by rcases her with h | h <;> simp [h]
  have HER := Lib.hid her
  clear h hr hring hW hno her
  go_enter Tryz.func50, Tryz.ntmps50
  go_wp2_with fail
  refine (Size_any g k N gm c gr w HK.out).mono ?_
  rintro e w1 ⟨rfl, rfl⟩
  go_wp2_with fail
  refine (Size_any g k N gm c gr w HK.out).mono ?_
  rintro e w1 ⟨rfl, rfl⟩
  go_wp2_with fail
  refine (From_okz Ab k cb lb W _ (by have := HW.out; omega) w HR.out hf hc1 hc2 (by omega) w1_ (by omega) HLT.out).mono ?_
  rintro e w1 ⟨A1, zs, rfl, ⟨hr1, hf1, _, _, hb1⟩, hv1⟩
  have HR1 := Lib.hid hr1
  have HV1 := Lib.hid hv1
  have q1 := (HK.out.below hb1).q1
  clear hr1 hv1
  go_wp2_with fail
  have step : Calls Tryz.prog 75 #[.pointer (some ⟨gr, 0, none⟩), .slice A1 W W, .slice Ae ne ce] w1 (Refused w1 er) := by
    rcases HNO.out with ⟨rfl, h1⟩ | ⟨rfl, h1, h2⟩
    · exact Power_no gr W N A1 W W zs Ae ne ce w1 (Whole.below HG.out hb1) HR1.out hf1 (fun h => by rw [HV1.out] at h; omega)
    · exact Power_big gr W N A1 W zs Ae ne ce w1 (Whole.below HG.out hb1) HR1.out hf1 (by rw [HV1.out]; exact h1) h2
  refine step.mono ?_
  rintro e w2 ⟨rfl, hb2⟩
  have bel2 := below_then hb1 hb2
  clear step
  go_wp2
  go_ret2
  exact ⟨rfl, bel2⟩

set_option maxHeartbeats 1000000 in
theorem power_yes (g k N gm c gr : Nat) (Ab : Option Addr) (cb : Nat) (lb : List Nat) (Ae : Option Addr) (ne ce : Nat) (le : List Nat) (w : World) (h : Keyed w g k N gm c gr) (hr : Rd .u8 w Ab k lb) (hf : Fit 256 lb) (hc1 : k ≤ cb) (hc2 : cb ≤ maxLen) (hlt : vbe lb < N) (hre : Rd .u8 w Ae ne le) (hfe : Fit 256 le) (hnc : ne ≤ ce) (hcm : ce ≤ maxLen) (hne : ne ≤ 1024) :
    Calls Tryz.prog 50 #[.pointer (some ⟨g, 0, none⟩), .slice Ab k cb, .slice Ae ne ce] w (GivesSig w k (vbe lb ^ vbe le % N)) := by
  have HK := Lib.hid h
  have HR := Lib.hid hr
  have HRE := Lib.hid hre
  have HLTN := Lib.hid hlt
  have k1 := h.k1
  have k2 := h.k2
  have k3 := h.k3
  obtain ⟨W, hW⟩ : ∃ W, k = 4 * W := ⟨k / 4, by omega⟩
  have HW := Lib.hid hW
  have HLT := Lib.hid (limbs_room hf hr.1 hW)
  have w1_ : 1 ≤ W := by omega
  have w2_ : W ≤ 128 := by omega
  have hring := h.ring
  rw [show k / 4 = W by omega] at hring
  have HG := Lib.hid hring
  have HN := Lib.hid (Nat.lt_trans (by omega) hring.gt : 0 < N)
  clear h hr hring hW hre hlt
  go_enter Tryz.func50, Tryz.ntmps50
  go_wp2_with fail
  refine (Size_any g k N gm c gr w HK.out).mono ?_
  rintro e w1 ⟨rfl, rfl⟩
  go_wp2_with fail
  refine (Size_any g k N gm c gr w HK.out).mono ?_
  rintro e w1 ⟨rfl, rfl⟩
  go_wp2_with fail
  refine (From_okz Ab k cb lb W _ (by have := HW.out; omega) w HR.out hf hc1 hc2 (by omega) w1_ (by omega) HLT.out).mono ?_
  rintro e w1 ⟨A1, zs, rfl, ⟨hr1, hf1, _, _, hb1⟩, hv1⟩
  have HR1 := Lib.hid hr1
  have HV1 := Lib.hid hv1
  have q1 := (HK.out.below hb1).q1
  clear hr1 hv1
  go_wp2_with fail
  refine (Power_yes gr W N A1 W zs Ae ne ce le w1 (Whole.below HG.out hb1) HR1.out hf1 (by rw [HV1.out]; exact HLTN.out) (HRE.out.below hb1) hfe hnc hcm hne).mono ?_
  rintro e w2 ⟨A2, c2, l2, rfl, hr2, hf2, hv2, hb2⟩
  rw [HV1.out] at hv2
  have bel2 := below_then hb1 hb2
  have HR2 := Lib.hid hr2
  have HV2 := Lib.hid hv2
  clear hr2 hv2
  go_wp2_with fail
  refine (Size_any g k N gm c gr w2 (HK.out.below bel2)).mono ?_
  rintro e w3 ⟨rfl, rfl⟩
  go_wp2_with fail
  refine (Bytes_okz A2 W c2 l2 k _ rfl w2 HR2.out hf2 w1_ (by omega) (by omega) (by rw [HV2.out]; exact Nat.lt_trans (Nat.mod_lt _ HN.out) HK.out.room)).mono ?_
  rintro e w3 ⟨g3, rfl, hg3, hB3, hb3⟩
  rw [HV2.out] at hB3
  have bel3 := below_then bel2 hb3
  have HB3 := Lib.hid hB3
  have hsz := bel2.size
  clear hB3
  go_wp2
  go_ret2
  exact ⟨g3, rfl, Nat.le_trans hsz hg3, HB3.out, bel3⟩

theorem keyE_lt : keyE < 256 ^ 4 := by decide
theorem keyE_val : vbe (bytesOf 4 keyE) = keyE := bytesOf_val keyE_lt
theorem Put_exp (w : World) :
    Calls Tryz.prog 49 #[.slice none 0 0, .int .i64 4, .int .i64 65537] w fun e w' => e = .returned (.tuple #[.slice (some ⟨w.heap.size, 0, none⟩) 4 4, .int .i64 0]) ∧ Rd .u8 w' (some ⟨w.heap.size, 0, none⟩) 4 (bytesOf 4 keyE) ∧ Below w.heap.size w w' := by
  refine (Put4_any none 0 0 [] keyE _ rfl (by decide) 4 rfl w (Rd.nil _ _ _) (Fit.nil _) (by omega)).mono ?_
  rintro e w' ⟨he, hB, hb⟩
  rw [List.nil_append] at hB
  exact ⟨he, hB.rd 4 (bytesOf_length _ _), hb⟩

set_option maxHeartbeats 400000 in
theorem Open_size (g k N gm c gr : Nat) (Ab : Option Addr) (nb cb : Nat) (w : World) (h : Keyed w g k N gm c gr) (hnb : nb ≠ k) :
    Calls Tryz.prog 27 #[.pointer (some ⟨g, 0, none⟩), .slice Ab nb cb] w (Refused w 24) := by
  have HK := Lib.hid h
  clear h
  go_enter Tryz.func27, Tryz.ntmps27
  go_wp2_with fail
  refine (Put_exp w).mono ?_
  rintro e w1 ⟨rfl, hr1, hb1⟩
  clear hr1
  go_wp2_with fail
  refine (power_size g k N gm c gr Ab nb cb _ 4 4 w1 (HK.out.below hb1) hnb).mono ?_
  rintro e w2 ⟨rfl, hb2⟩
  go_wp2
  go_ret2
  exact ⟨rfl, below_then hb1 hb2⟩
set_option maxHeartbeats 400000 in
theorem Open_no (g k N gm c gr : Nat) (Ab : Option Addr) (cb : Nat) (lb : List Nat) (w : World) (h : Keyed w g k N gm c gr) (hr : Rd .u8 w Ab k lb) (hf : Fit 256 lb) (hc1 : k ≤ cb) (hc2 : cb ≤ maxLen) (hno : N ≤ vbe lb) :
    Calls Tryz.prog 27 #[.pointer (some ⟨g, 0, none⟩), .slice Ab k cb] w (Refused w 13) := by
  have HK := Lib.hid h
  have HR := Lib.hid hr
  have HNO := Lib.hid hno
  clear h hr hno
  go_enter Tryz.func27, Tryz.ntmps27
  go_wp2_with fail
  refine (Put_exp w).mono ?_
  rintro e w1 ⟨rfl, hr1, hb1⟩
  clear hr1
  go_wp2_with fail
  refine (power_no g k N gm c gr Ab cb lb _ 4 4 w1 (HK.out.below hb1) (HR.out.below hb1) hf hc1 hc2 13 (.inl ⟨rfl, HNO.out⟩)).mono ?_
  rintro e w2 ⟨rfl, hb2⟩
  go_wp2
  go_ret2
  exact ⟨rfl, below_then hb1 hb2⟩
set_option maxHeartbeats 400000 in
theorem Open_yes (g k N gm c gr : Nat) (Ab : Option Addr) (cb : Nat) (lb : List Nat) (w : World) (h : Keyed w g k N gm c gr) (hr : Rd .u8 w Ab k lb) (hf : Fit 256 lb) (hc1 : k ≤ cb) (hc2 : cb ≤ maxLen) (hlt : vbe lb < N) :
    Calls Tryz.prog 27 #[.pointer (some ⟨g, 0, none⟩), .slice Ab k cb] w (GivesSig w k (vbe lb ^ keyE % N)) := by
  have HK := Lib.hid h
  have HR := Lib.hid hr
  have HLT := Lib.hid hlt
  clear h hr hlt
  go_enter Tryz.func27, Tryz.ntmps27
  go_wp2_with fail
  refine (Put_exp w).mono ?_
  rintro e w1 ⟨rfl, hr1, hb1⟩
  have HR1 := Lib.hid hr1
  clear hr1
  go_wp2_with fail
  refine (power_yes g k N gm c gr Ab cb lb _ 4 4 (bytesOf 4 keyE) w1 (HK.out.below hb1) (HR.out.below hb1) hf hc1 hc2 HLT.out HR1.out (bytesOf_fit _ _) (by omega) (by unfold maxLen; omega) (by omega)).mono ?_
  rw [keyE_val]
  rintro e w2 ⟨g2, rfl, hg2, hB2, hb2⟩
  have HB2 := Lib.hid hB2
  have hsz := hb1.size
  clear hB2
  go_wp2
  go_ret2
  exact ⟨g2, rfl, Nat.le_trans hsz hg2, HB2.out, below_then hb1 hb2⟩

set_option maxHeartbeats 400000 in
theorem Close_size (A : Option Addr) (n cap : Nat) (l : List Nat) (As : Option Addr) (ns cs : Nat) (Ab : Option Addr) (nb cb : Nat) (w : World) (h : Rd .u8 w A n l) (hf : Fit 256 l) (hn : n ≤ cap) (hm : cap ≤ maxLen) (hM : Modul n l) (hnb : nb ≠ n) :
    Calls Tryz.prog 38 #[.slice A n cap, .slice As ns cs, .slice Ab nb cb] w (Refused w 24) := by
  have HR := Lib.hid h
  have HM := Lib.hid hM
  clear h hM
  go_enter Tryz.func38, Tryz.ntmps38
  go_wp2_with fail
  refine (Make_ok A n cap l w HR.out hf hn hm HM.out).mono ?_
  rintro e w1 ⟨g, gm, rfl, ⟨c, gr, hK⟩, hgm, hb1⟩
  have HK := Lib.hid hK
  clear hK
  go_wp2_with fail
  refine (power_size g n _ gm c gr Ab nb cb As ns cs w1 HK.out hnb).mono ?_
  rintro e w2 ⟨rfl, hb2⟩
  go_wp2
  go_ret2
  exact ⟨rfl, below_then hb1 hb2⟩
set_option maxHeartbeats 400000 in
theorem Close_no (A : Option Addr) (n cap : Nat) (l : List Nat) (As : Option Addr) (ns cs : Nat) (Ab : Option Addr) (cb : Nat) (lb : List Nat) (w : World) (h : Rd .u8 w A n l) (hf : Fit 256 l) (hn : n ≤ cap) (hm : cap ≤ maxLen) (hM : Modul n l) (hr : Rd .u8 w Ab n lb) (hfb : Fit 256 lb) (hc1 : n ≤ cb) (hc2 : cb ≤ maxLen) (er : Int) (hno : er = 13 ∧ vbe l ≤ vbe lb ∨ er = 11 ∧ vbe lb < vbe l ∧ 1024 < ns) :
    Calls Tryz.prog 38 #[.slice A n cap, .slice As ns cs, .slice Ab n cb] w (Refused w er) := by
  have HR := Lib.hid h
  have HRB := Lib.hid hr
  have HM := Lib.hid hM
  have HNO := Lib.hid hno
  clear h hM hr hno
  go_enter Tryz.func38, Tryz.ntmps38
  go_wp2_with fail
  refine (Make_ok A n cap l w HR.out hf hn hm HM.out).mono ?_
  rintro e w1 ⟨g, gm, rfl, ⟨c, gr, hK⟩, hgm, hb1⟩
  have HK := Lib.hid hK
  clear hK
  go_wp2_with fail
  refine (power_no g n _ gm c gr Ab cb lb As ns cs w1 HK.out (HRB.out.below hb1) hfb hc1 hc2 er HNO.out).mono ?_
  rintro e w2 ⟨rfl, hb2⟩
  go_wp2
  go_ret2
  exact ⟨rfl, below_then hb1 hb2⟩
set_option maxHeartbeats 400000 in
theorem Close_yes (A : Option Addr) (n cap : Nat) (l : List Nat) (As : Option Addr) (ns cs : Nat) (ls : List Nat) (Ab : Option Addr) (cb : Nat) (lb : List Nat) (w : World) (h : Rd .u8 w A n l) (hf : Fit 256 l) (hn : n ≤ cap) (hm : cap ≤ maxLen) (hM : Modul n l) (hr : Rd .u8 w Ab n lb) (hfb : Fit 256 lb) (hc1 : n ≤ cb) (hc2 : cb ≤ maxLen) (hlt : vbe lb < vbe l) (hrs : Rd .u8 w As ns ls) (hfs : Fit 256 ls) (hnc : ns ≤ cs) (hcm : cs ≤ maxLen) (hns : ns ≤ 1024) :
    Calls Tryz.prog 38 #[.slice A n cap, .slice As ns cs, .slice Ab n cb] w (GivesSig w n (vbe lb ^ vbe ls % vbe l)) := by
  have HR := Lib.hid h
  have HRB := Lib.hid hr
  have HRS := Lib.hid hrs
  have HM := Lib.hid hM
  have HLT := Lib.hid hlt
  clear h hM hr hlt hrs
  go_enter Tryz.func38, Tryz.ntmps38
  go_wp2_with fail
  refine (Make_ok A n cap l w HR.out hf hn hm HM.out).mono ?_
  rintro e w1 ⟨g, gm, rfl, ⟨c, gr, hK⟩, hgm, hb1⟩
  have HK := Lib.hid hK
  clear hK
  go_wp2_with fail
  refine (power_yes g n _ gm c gr Ab cb lb As ns cs ls w1 HK.out (HRB.out.below hb1) hfb hc1 hc2 HLT.out (HRS.out.below hb1) hfs hnc hcm hns).mono ?_
  rintro e w2 ⟨g2, rfl, hg2, hB2, hb2⟩
  have HB2 := Lib.hid hB2
  have hsz := hb1.size
  clear hB2
  go_wp2
  go_ret2
  exact ⟨g2, rfl, Nat.le_trans hsz hg2, HB2.out, below_then hb1 hb2⟩
end Go.Proofs.YtppoikamenbckaaGreatDoor

namespace Go.Proofs.YtppoikamenbckaaGreatDoor
open Go.RowKit
set_option linter.unusedVariables false
set_option linter.unusedSimpArgs false
set_option maxRecDepth 100000

theorem num_vbe : ∀ (l : List Nat), YtppoikamenbckaaGreatDoorSp.num (ints l) = ((vbe l : Nat) : Int) := by
  intro l
  have key : ∀ (l : List Nat) (a : Nat), (ints l).foldl (fun n x => n * 256 + x) (a : Int) = ((a * 256 ^ l.length + vbe l : Nat) : Int) := by
    intro l
    induction l with
    | nil => intro a; simp [ints, vbe, val]
    | cons x l ih =>
      intro a
      have e : ints (x :: l) = (x : Int) :: ints l := rfl
      rw [e, List.foldl_cons, show (a : Int) * 256 + (x : Int) = ((a * 256 + x : Nat) : Int) by omega, ih, vbe_cons_, List.length_cons, Nat.pow_succ, Nat.add_mul, Nat.mul_assoc, Nat.mul_comm 256, Nat.add_assoc]
  have := key l 0
  simpa [YtppoikamenbckaaGreatDoorSp.num] using this
theorem take4_lt {l : List Nat} (hf : Fit 256 l) : vbe (l.take 4) < 4294967296 := by
  have h1 := vbe_ltp (hf.take 4)
  have h2 : (l.take 4).length ≤ 4 := by rw [List.length_take]; omega
  exact Nat.lt_of_lt_of_le h1 (Nat.pow_le_pow_right (by omega) h2)
theorem run_mid8 (A : Option Addr) (k cap lo hi : Nat) (h1 : lo ≤ hi) (h2 : hi ≤ cap) (L H : Int) (hL : L = (lo : Int)) (hH : H = (hi : Int)) (w : World) :
    (Instr.slice 22 (.slice A k cap) (some (.int .i64 L)) (some (.int .i64 H)) none).run Tryz.prog w = .ok (.slice (if cap = lo then A else A.map (·.add lo)) (hi - lo) (cap - lo)) w := by
  subst hL hH
  obtain ⟨i0, hi0, hz0, hz1, hz2⟩ := info_parts byteInfo
  simp [Instr.slice, run_underlying Tryz.underlying22, Instr.sliceBounds, run_sliceBound, sizeOf, typeInfo, hi0, hz1, h1, h2]
/-- The number of bits that a key's bytes say. -/
def bitsOf (l : List Nat) : Nat := vbe (l.take 4)
def BitsOk (b : Nat) : Prop := 512 ≤ b ∧ b ≤ 4096 ∧ b % 512 = 0
/-- The modulus within a key's bytes. -/
def modOf (l : List Nat) (k : Nat) : List Nat := (l.drop 8).take k
/-- What isn't right of a key's bytes: the document's first error. -/
inductive BadParse (l : List Nat) : Int → Prop
  | short : l.length < 8 → BadParse l 10
  | bits : 8 ≤ l.length → ¬ BitsOk (bitsOf l) → BadParse l 21
  | lack (k : Nat) : 8 ≤ l.length → BitsOk (bitsOf l) → bitsOf l = 8 * k → l.length < 8 + 2 * k → BadParse l 10
  | over (k : Nat) : 8 ≤ l.length → BitsOk (bitsOf l) → bitsOf l = 8 * k → 8 + 2 * k < l.length → BadParse l 12
  | form (k : Nat) : BitsOk (bitsOf l) → bitsOf l = 8 * k → l.length = 8 + 2 * k → ¬ Modul k (modOf l k) → BadParse l 22
  | key (k : Nat) : BitsOk (bitsOf l) → bitsOf l = 8 * k → l.length = 8 + 2 * k → Modul k (modOf l k) → keyBytes k (vbe (modOf l k)) ≠ l → BadParse l 22
structure GoodParse (l : List Nat) (k : Nat) : Prop where
  ok : BitsOk (bitsOf l)
  bits : bitsOf l = 8 * k
  len : l.length = 8 + 2 * k
  modul : Modul k (modOf l k)
  same : keyBytes k (vbe (modOf l k)) = l
theorem parse_cases (l : List Nat) : (∃ er, BadParse l er) ∨ ∃ k, GoodParse l k := by
  by_cases h1 : l.length < 8
  · exact .inl ⟨_, .short h1⟩
  by_cases h2 : BitsOk (bitsOf l)
  · obtain ⟨k, hk⟩ : ∃ k, bitsOf l = 8 * k := ⟨bitsOf l / 8, by have := h2.2.2; omega⟩
    by_cases h3 : l.length < 8 + 2 * k
    · exact .inl ⟨_, .lack k (by omega) h2 hk h3⟩
    by_cases h4 : 8 + 2 * k < l.length
    · exact .inl ⟨_, .over k (by omega) h2 hk h4⟩
    by_cases h5 : Modul k (modOf l k)
    · by_cases h6 : keyBytes k (vbe (modOf l k)) = l
      · exact .inr ⟨k, h2, hk, by omega, h5, h6⟩
      · exact .inl ⟨_, .key k h2 hk (by omega) h5 h6⟩
    · exact .inl ⟨_, .form k h2 hk (by omega) h5⟩
  · exact .inl ⟨_, .bits (by omega) h2⟩
theorem BadParse.ne {l : List Nat} {er : Int} (h : BadParse l er) : er ≠ 0 := by cases h <;> omega
theorem Rd.mid {q : IntKind} {w : World} {A : Option Addr} {n : Nat} {l : List Nat} (h : Rd q w A n l) (k m cap : Nat) (hk : k + m ≤ n) (hc : n ≤ cap) : Rd q w (if cap = k then A else A.map (·.add k)) m ((l.drop k).take m) :=
  (h.drop k cap (by omega) hc).take m (by omega)

/-- The last part: the bytes are held against the key's own. -/
def GivesKeyOr (w : World) (l : List Nat) (k N : Nat) (e : Ending) (w' : World) : Prop := (keyBytes k N = l → GivesKey w k N e w') ∧ (keyBytes k N ≠ l → NoKey w 22 e w')
end Go.Proofs.YtppoikamenbckaaGreatDoor

namespace Go.Proofs.YtppoikamenbckaaGreatDoor
open Go.RowKit
set_option linter.unusedVariables false
set_option linter.unusedSimpArgs false
set_option maxRecDepth 100000

theorem Row.blk {w : World} {B : Nat} {g n cap : Nat} {xs : List Value} (h : Row w B 5 (some ⟨g, 0, none⟩) n cap xs) : B ≤ g ∧ ∃ cs, Blk w g 5 cs ∧ cs.length = cap ∧ cs.take n = xs := by
  rcases h.2 with ⟨e, _⟩ | ⟨g', cap', cur, e, hB, hg, h1, h2, h3, h4⟩
  · cases e
  · injection e with e1 e2 e3
    injection e1 with e1
    injection e1 with e1
    subst e1; subst e3
    refine ⟨hB, cur.toList, ?_, ?_, ?_⟩
    · unfold Blk; simpa using hg
    · simpa using h3
    · simpa using h4
theorem Row.fz {w : World} {B : Nat} {g n cap : Nat} {xs : List Value} (h : Row w B 5 (some ⟨g, 0, none⟩) n cap xs) (p : Nat) : w.frozen? ⟨g, p, none⟩ = false := by
  obtain ⟨_, cs, hb, _⟩ := h.blk
  exact hb.frozen p
theorem Row.put {w : World} {B g n cap : Nat} {l : List Nat} (h : Row w B 5 (some ⟨g, 0, none⟩) n cap (cn .u8 l)) (p y : Nat) : Row (w.setCell ⟨g, p, none⟩ (.int .u8 (y : Int))) B 5 (some ⟨g, 0, none⟩) n cap (cn .u8 (l.set p y)) := by
  obtain ⟨hB, cs, hb, hc, ht⟩ := h.blk
  have hl := h.length
  have hle := h.le
  have hb2 := hb.set_ p (.int .u8 (y : Int))
  refine ⟨by rw [cn_length, List.length_set, ← cn_length .u8 l]; simpa using hl, .inr ⟨g, cap, (cs.set p (.int .u8 (y : Int))).toArray, rfl, hB, hb2, hle.1, hle.2, by simp [hc], ?_⟩⟩
  rw [List.toList_toArray, Nat.mul_one, List.take_set, ht, cn_set]
theorem Row.at_ {w : World} {B g n cap : Nat} {l : List Nat} (h : Row w B 5 (some ⟨g, 0, none⟩) n cap (cn .u8 l)) {p x : Nat} (hp : p < n) (hx : l[p]? = some x) : w.cell? ⟨g, p, none⟩ = some (.int .u8 (x : Int)) := by
  obtain ⟨ad, y, e, hy, hc⟩ := h.rd.get hp
  injection e with e
  rw [hx] at hy
  injection hy with hy
  rw [← e, addr_add, Nat.zero_add, ← hy] at hc
  exact hc
/-- A row elsewhere. -/
theorem Rd.setFar {q : IntKind} {w : World} {A : Option Addr} {n : Nat} {l : List Nat} (h : Rd q w A n l) {p : Addr} (hne : ∀ ad, A = some ad → ad.block ≠ p.block) (u : Value) : Rd q (w.setCell p u) A n l :=
  ⟨h.1, fun hn => by
    obtain ⟨ad, e, hlt, hc⟩ := h.2 hn
    refine ⟨ad, e, by simpa [World.setCell] using hlt, fun j x hj => ?_⟩
    rw [World.cell?_of_block (Below.heap_setCell w p u _ (by rw [block_add]; exact hne ad e))]
    exact hc j x hj⟩
theorem Row.setFar {w : World} {B g n cap : Nat} {l : List Nat} (h : Row w B 5 (some ⟨g, 0, none⟩) n cap (cn .u8 l)) {p : Addr} (hne : g ≠ p.block) (u : Value) : Row (w.setCell p u) B 5 (some ⟨g, 0, none⟩) n cap (cn .u8 l) := by
  obtain ⟨hB, cs, hb, hc, ht⟩ := h.blk
  exact ⟨h.1, .inr ⟨g, cap, cs.toArray, rfl, hB, hb.far hne u, h.le.1, h.le.2, by simp [hc], by simpa using ht⟩⟩
/-- A byte's cell lies in no ring. -/
theorem Whole.set8 {w : World} {g k N gp j : Nat} {x : Int} (h : Whole w g k N) (hp : w.cell? ⟨gp, j, none⟩ = some (.int .u8 x)) (u : Value) : Whole (w.setCell ⟨gp, j, none⟩ u) g k N := by
  obtain ⟨n0, A, c, ln, A', c', lr, h1, h2, h3, h4⟩ := h
  have hne : g ≠ gp := by
    rintro rfl
    rw [h1.blk.cell j] at hp
    match j, hp with
    | 0, hp => cases hp
    | 1, hp => cases hp
    | 2, hp => cases hp
    | j + 3, hp => simp at hp
  refine ⟨n0, A, c, ln, A', c', lr, ⟨h1.blk.far hne u, h1.rd.setOther hp (fun x e => by cases e) u, h1.fit, h1.num, h1.k1, h1.k2, h1.odd, h1.gt, h1.n1, h1.inv⟩, h2.setOther hp (fun x e => by cases e) u, h3, h4⟩
theorem Keyed.set8 {w : World} {g k N gm c gr gp j : Nat} {x : Int} (h : Keyed w g k N gm c gr) (hp : w.cell? ⟨gp, j, none⟩ = some (.int .u8 x)) (hgm : gm ≠ gp) (u : Value) : Keyed (w.setCell ⟨gp, j, none⟩ u) g k N gm c gr := by
  have hne : g ≠ gp := by
    rintro rfl
    rw [h.blk.cell j] at hp
    match j, hp with
    | 0, hp => cases hp
    | 1, hp => cases hp
    | j + 2, hp => simp at hp
  exact ⟨h.blk.far hne u, h.rd.setFar (fun ad e => by injection e with e; rw [← e]; exact hgm) u, h.c1, h.c2, h.ring.set8 hp u, h.k1, h.k2, h.k3, h.room⟩
theorem xor_ne {o y : Nat} (hy : y ≠ 0) : o ^^^ y ≠ o := by
  intro h
  have h1 : o ^^^ (o ^^^ y) = y := by rw [← Nat.xor_assoc, Nat.xor_self, Nat.zero_xor]
  rw [h, Nat.xor_self] at h1
  exact hy h1.symm
theorem set_ne {l : List Nat} {p o v : Nat} (ho : l[p]? = some o) (hv : v ≠ o) : l.set p v ≠ l := by
  intro h
  have hp := (List.getElem?_eq_some_iff.1 ho).1
  have : (l.set p v)[p]? = some v := by rw [List.getElem?_set_self hp]
  rw [h, ho] at this
  injection this with this
  exact hv this.symm
end Go.Proofs.YtppoikamenbckaaGreatDoor
