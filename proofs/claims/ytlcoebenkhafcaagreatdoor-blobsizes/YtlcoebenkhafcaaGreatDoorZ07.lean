/-
  What Open, Close and Parse of package key answer; a byte written over. A region that draws its order, by one property for each operation's value: each operation, whatever came before it but what it waits for, yields a value of its property, and only new blocks come; then behind the region all of them hold. No condition. Numbers in memory: a slice that reads as a list of numbers, a block known whole, a row of the call's own; make and append. No condition.
-/
import Derived.Test.YtlcoebenkhafcaaGreatDoorZ05
import Derived.Test.YtlcoebenkhafcaaGreatDoorZ06
import Derived.RegionTactic
import Derived.KernelRfl
import Derived.WalkKit
import Derived.WalkSpells
import Derived.WalkLawsBesides
import Derived.Lib.Hide
import Derived.Outline
import Derived.Deep.QuietTactic
import Derived.BigQuiet
import Derived.Laws.BitsAllLaws
import Derived.Laws.CopyOwn
import Derived.Laws.BytesArg
import Derived.Deep.MidRow
import Derived.Maps.AppendAt
import Derived.Deep.AppendLies
import Derived.OwnWalk
import Derived.WalkSmall
import Derived.Laws.AppendOwnNone
import Derived.StillTailTactics
import Derived.IntWalk
import Derived.Maps.OwnSet
import Derived.Laws.RangeString
import Derived.WalkArith
namespace Go.Proofs.YtlcoebenkhafcaaGreatDoor
open Go.RowKit
set_option linter.unusedVariables false
set_option linter.unusedSimpArgs false
set_option maxRecDepth 100000
def GivesSig (w : World) (k x : Nat) (e : Ending) (w' : World) : Prop :=
  ∃ g, e = .returned (.tuple #[.slice (some ⟨g, 0, none⟩) k k, .int .i64 0]) ∧ w.heap.size ≤ g ∧ Blk w' g 5 (cn .u8 (bytesOf k x)) ∧ Below w.heap.size w w'
set_option maxHeartbeats 400000 in
theorem power_size (g k N gm c gr : Nat) (Ab : Option Addr) (nb cb : Nat) (Ae : Option Addr) (ne ce : Nat) (w : World) (h : Keyed w g k N gm c gr) (hnb : nb ≠ k) :
    Calls Tryz.prog 143 #[.pointer (some ⟨g, 0, none⟩), .slice Ab nb cb, .slice Ae ne ce] w (Refused w 24) := by
  have HK := Lib.hid h
  have hd : ((nb : Int) != (k : Int)) = true := by simp; omega
  have hd2 : (nb != k) = true := by simp [hnb]
  clear h
  go_enter Tryz.func143, Tryz.ntmps143
  go_wp2_with fail
  refine (Size_any g k N gm c gr w HK.out).mono ?_
  rintro e w1 ⟨rfl, rfl⟩
  go_wp2
  go_ret2
  exact ⟨rfl, below_self⟩
set_option maxHeartbeats 1000000 in
theorem power_no (g k N gm c gr : Nat) (Ab : Option Addr) (cb : Nat) (lb : List Nat) (Ae : Option Addr) (ne ce : Nat) (w : World) (h : Keyed w g k N gm c gr) (hr : Rd .u8 w Ab k lb) (hf : Fit 256 lb) (hc1 : k ≤ cb) (hc2 : cb ≤ maxLen) (er : Int) (hno : er = 13 ∧ N ≤ vbe lb ∨ er = 11 ∧ vbe lb < N ∧ 1024 < ne) :
    Calls Tryz.prog 143 #[.pointer (some ⟨g, 0, none⟩), .slice Ab k cb, .slice Ae ne ce] w (Refused w er) := by
  have HK := Lib.hid h
  have HR := Lib.hid hr
  have k1 := h.k1
  have k2 := h.k2
  have k3 := h.k3
  obtain ⟨W, hW⟩ : ∃ W, k = 4 * W := ⟨k / 4, by omega⟩
  have HW := Lib.hid hW
  have HLT := Lib.hid (limbs_room hf hr.1 hW)
  have w1_ : 1 ≤ W := by omega
  have w2_ : W ≤ 128 := by omega
  have hring := h.ring
  rw [show k / 4 = W by omega] at hring
  have HG := Lib.hid hring
  have HNO := Lib.hid hno
  have her : er = 13 ∨ er = 11 := by rcases hno with h | h <;> simp [h]
  have hd : (er != 0) = true := by rcases her with h | h <;> simp [h]
  have HER := Lib.hid her
  clear h hr hring hW hno her
  go_enter Tryz.func143, Tryz.ntmps143
  go_wp2_with fail
  refine (Size_any g k N gm c gr w HK.out).mono ?_
  rintro e w1 ⟨rfl, rfl⟩
  go_wp2_with fail
  refine (Size_any g k N gm c gr w HK.out).mono ?_
  rintro e w1 ⟨rfl, rfl⟩
  go_wp2_with fail
  refine (From_okz Ab k cb lb W _ (by have := HW.out; omega) w HR.out hf hc1 hc2 (by omega) w1_ (by omega) HLT.out).mono ?_
  rintro e w1 ⟨A1, zs, rfl, ⟨hr1, hf1, _, _, hb1⟩, hv1⟩
  have HR1 := Lib.hid hr1
  have HV1 := Lib.hid hv1
  have q1 := (HK.out.below hb1).q1
  clear hr1 hv1
  go_wp2_with fail
  have step : Calls Tryz.prog 173 #[.pointer (some ⟨gr, 0, none⟩), .slice A1 W W, .slice Ae ne ce] w1 (Refused w1 er) := by
    rcases HNO.out with ⟨rfl, h1⟩ | ⟨rfl, h1, h2⟩
    · exact Power_no gr W N A1 W W zs Ae ne ce w1 (Whole.below HG.out hb1) HR1.out hf1 (fun h => by rw [HV1.out] at h; omega)
    · exact Power_big gr W N A1 W zs Ae ne ce w1 (Whole.below HG.out hb1) HR1.out hf1 (by rw [HV1.out]; exact h1) h2
  refine step.mono ?_
  rintro e w2 ⟨rfl, hb2⟩
  have bel2 := below_then hb1 hb2
  clear step
  go_wp2
  go_ret2
  exact ⟨rfl, bel2⟩
set_option maxHeartbeats 1000000 in
theorem power_yes (g k N gm c gr : Nat) (Ab : Option Addr) (cb : Nat) (lb : List Nat) (Ae : Option Addr) (ne ce : Nat) (le : List Nat) (w : World) (h : Keyed w g k N gm c gr) (hr : Rd .u8 w Ab k lb) (hf : Fit 256 lb) (hc1 : k ≤ cb) (hc2 : cb ≤ maxLen) (hlt : vbe lb < N) (hre : Rd .u8 w Ae ne le) (hfe : Fit 256 le) (hnc : ne ≤ ce) (hcm : ce ≤ maxLen) (hne : ne ≤ 1024) :
    Calls Tryz.prog 143 #[.pointer (some ⟨g, 0, none⟩), .slice Ab k cb, .slice Ae ne ce] w (GivesSig w k (vbe lb ^ vbe le % N)) := by
  have HK := Lib.hid h
  have HR := Lib.hid hr
  have HRE := Lib.hid hre
  have HLTN := Lib.hid hlt
  have k1 := h.k1
  have k2 := h.k2
  have k3 := h.k3
  obtain ⟨W, hW⟩ : ∃ W, k = 4 * W := ⟨k / 4, by omega⟩
  have HW := Lib.hid hW
  have HLT := Lib.hid (limbs_room hf hr.1 hW)
  have w1_ : 1 ≤ W := by omega
  have w2_ : W ≤ 128 := by omega
  have hring := h.ring
  rw [show k / 4 = W by omega] at hring
  have HG := Lib.hid hring
  have HN := Lib.hid (Nat.lt_trans (by omega) hring.gt : 0 < N)
  clear h hr hring hW hre hlt
  go_enter Tryz.func143, Tryz.ntmps143
  go_wp2_with fail
  refine (Size_any g k N gm c gr w HK.out).mono ?_
  rintro e w1 ⟨rfl, rfl⟩
  go_wp2_with fail
  refine (Size_any g k N gm c gr w HK.out).mono ?_
  rintro e w1 ⟨rfl, rfl⟩
  go_wp2_with fail
  refine (From_okz Ab k cb lb W _ (by have := HW.out; omega) w HR.out hf hc1 hc2 (by omega) w1_ (by omega) HLT.out).mono ?_
  rintro e w1 ⟨A1, zs, rfl, ⟨hr1, hf1, _, _, hb1⟩, hv1⟩
  have HR1 := Lib.hid hr1
  have HV1 := Lib.hid hv1
  have q1 := (HK.out.below hb1).q1
  clear hr1 hv1
  go_wp2_with fail
  refine (Power_yes gr W N A1 W zs Ae ne ce le w1 (Whole.below HG.out hb1) HR1.out hf1 (by rw [HV1.out]; exact HLTN.out) (HRE.out.below hb1) hfe hnc hcm hne).mono ?_
  rintro e w2 ⟨A2, c2, l2, rfl, hr2, hf2, hv2, hb2⟩
  rw [HV1.out] at hv2
  have bel2 := below_then hb1 hb2
  have HR2 := Lib.hid hr2
  have HV2 := Lib.hid hv2
  clear hr2 hv2
  go_wp2_with fail
  refine (Size_any g k N gm c gr w2 (HK.out.below bel2)).mono ?_
  rintro e w3 ⟨rfl, rfl⟩
  go_wp2_with fail
  refine (Bytes_okz A2 W c2 l2 k _ rfl w2 HR2.out hf2 w1_ (by omega) (by omega) (by rw [HV2.out]; exact Nat.lt_trans (Nat.mod_lt _ HN.out) HK.out.room)).mono ?_
  rintro e w3 ⟨g3, rfl, hg3, hB3, hb3⟩
  rw [HV2.out] at hB3
  have bel3 := below_then bel2 hb3
  have HB3 := Lib.hid hB3
  have hsz := bel2.size
  clear hB3
  go_wp2
  go_ret2
  exact ⟨g3, rfl, Nat.le_trans hsz hg3, HB3.out, bel3⟩
theorem keyE_lt : keyE < 256 ^ 4 := by decide
theorem keyE_val : vbe (bytesOf 4 keyE) = keyE := bytesOf_val keyE_lt
theorem Put_exp (w : World) :
    Calls Tryz.prog 101 #[.slice none 0 0, .int .i64 4, .int .i64 65537] w fun e w' => e = .returned (.tuple #[.slice (some ⟨w.heap.size, 0, none⟩) 4 4, .int .i64 0]) ∧ Rd .u8 w' (some ⟨w.heap.size, 0, none⟩) 4 (bytesOf 4 keyE) ∧ Below w.heap.size w w' := by
  refine (Put4_any none 0 0 [] keyE _ rfl (by decide) 4 rfl w (Rd.nil _ _ _) (Fit.nil _) (by omega)).mono ?_
  rintro e w' ⟨he, hB, hb⟩
  rw [List.nil_append] at hB
  exact ⟨he, hB.rd 4 (bytesOf_length _ _), hb⟩
set_option maxHeartbeats 400000 in
theorem Open_size (g k N gm c gr : Nat) (Ab : Option Addr) (nb cb : Nat) (w : World) (h : Keyed w g k N gm c gr) (hnb : nb ≠ k) :
    Calls Tryz.prog 127 #[.pointer (some ⟨g, 0, none⟩), .slice Ab nb cb] w (Refused w 24) := by
  have HK := Lib.hid h
  clear h
  go_enter Tryz.func127, Tryz.ntmps127
  go_wp2_with fail
  refine (Put_exp w).mono ?_
  rintro e w1 ⟨rfl, hr1, hb1⟩
  clear hr1
  go_wp2_with fail
  refine (power_size g k N gm c gr Ab nb cb _ 4 4 w1 (HK.out.below hb1) hnb).mono ?_
  rintro e w2 ⟨rfl, hb2⟩
  go_wp2
  go_ret2
  exact ⟨rfl, below_then hb1 hb2⟩
set_option maxHeartbeats 400000 in
theorem Open_no (g k N gm c gr : Nat) (Ab : Option Addr) (cb : Nat) (lb : List Nat) (w : World) (h : Keyed w g k N gm c gr) (hr : Rd .u8 w Ab k lb) (hf : Fit 256 lb) (hc1 : k ≤ cb) (hc2 : cb ≤ maxLen) (hno : N ≤ vbe lb) :
    Calls Tryz.prog 127 #[.pointer (some ⟨g, 0, none⟩), .slice Ab k cb] w (Refused w 13) := by
  have HK := Lib.hid h
  have HR := Lib.hid hr
  have HNO := Lib.hid hno
  clear h hr hno
  go_enter Tryz.func127, Tryz.ntmps127
  go_wp2_with fail
  refine (Put_exp w).mono ?_
  rintro e w1 ⟨rfl, hr1, hb1⟩
  clear hr1
  go_wp2_with fail
  refine (power_no g k N gm c gr Ab cb lb _ 4 4 w1 (HK.out.below hb1) (HR.out.below hb1) hf hc1 hc2 13 (.inl ⟨rfl, HNO.out⟩)).mono ?_
  rintro e w2 ⟨rfl, hb2⟩
  go_wp2
  go_ret2
  exact ⟨rfl, below_then hb1 hb2⟩
set_option maxHeartbeats 400000 in
theorem Open_yes (g k N gm c gr : Nat) (Ab : Option Addr) (cb : Nat) (lb : List Nat) (w : World) (h : Keyed w g k N gm c gr) (hr : Rd .u8 w Ab k lb) (hf : Fit 256 lb) (hc1 : k ≤ cb) (hc2 : cb ≤ maxLen) (hlt : vbe lb < N) :
    Calls Tryz.prog 127 #[.pointer (some ⟨g, 0, none⟩), .slice Ab k cb] w (GivesSig w k (vbe lb ^ keyE % N)) := by
  have HK := Lib.hid h
  have HR := Lib.hid hr
  have HLT := Lib.hid hlt
  clear h hr hlt
  go_enter Tryz.func127, Tryz.ntmps127
  go_wp2_with fail
  refine (Put_exp w).mono ?_
  rintro e w1 ⟨rfl, hr1, hb1⟩
  have HR1 := Lib.hid hr1
  clear hr1
  go_wp2_with fail
  refine (power_yes g k N gm c gr Ab cb lb _ 4 4 (bytesOf 4 keyE) w1 (HK.out.below hb1) (HR.out.below hb1) hf hc1 hc2 HLT.out HR1.out (bytesOf_fit _ _) (by omega) (by unfold maxLen; omega) (by omega)).mono ?_
  rw [keyE_val]
  rintro e w2 ⟨g2, rfl, hg2, hB2, hb2⟩
  have HB2 := Lib.hid hB2
  have hsz := hb1.size
  clear hB2
  go_wp2
  go_ret2
  exact ⟨g2, rfl, Nat.le_trans hsz hg2, HB2.out, below_then hb1 hb2⟩
set_option maxHeartbeats 400000 in
theorem Close_yes (A : Option Addr) (n cap : Nat) (l : List Nat) (As : Option Addr) (ns cs : Nat) (ls : List Nat) (Ab : Option Addr) (cb : Nat) (lb : List Nat) (w : World) (h : Rd .u8 w A n l) (hf : Fit 256 l) (hn : n ≤ cap) (hm : cap ≤ maxLen) (hM : Modul n l) (hr : Rd .u8 w Ab n lb) (hfb : Fit 256 lb) (hc1 : n ≤ cb) (hc2 : cb ≤ maxLen) (hlt : vbe lb < vbe l) (hrs : Rd .u8 w As ns ls) (hfs : Fit 256 ls) (hnc : ns ≤ cs) (hcm : cs ≤ maxLen) (hns : ns ≤ 1024) :
    Calls Tryz.prog 106 #[.slice A n cap, .slice As ns cs, .slice Ab n cb] w (GivesSig w n (vbe lb ^ vbe ls % vbe l)) := by
  have HR := Lib.hid h
  have HRB := Lib.hid hr
  have HRS := Lib.hid hrs
  have HM := Lib.hid hM
  have HLT := Lib.hid hlt
  clear h hM hr hlt hrs
  go_enter Tryz.func106, Tryz.ntmps106
  go_wp2_with fail
  refine (Make_ok A n cap l w HR.out hf hn hm HM.out).mono ?_
  rintro e w1 ⟨g, gm, rfl, ⟨c, gr, hK⟩, hgm, hb1⟩
  have HK := Lib.hid hK
  clear hK
  go_wp2_with fail
  refine (power_yes g n _ gm c gr Ab cb lb As ns cs ls w1 HK.out (HRB.out.below hb1) hfb hc1 hc2 HLT.out (HRS.out.below hb1) hfs hnc hcm hns).mono ?_
  rintro e w2 ⟨g2, rfl, hg2, hB2, hb2⟩
  have HB2 := Lib.hid hB2
  have hsz := hb1.size
  clear hB2
  go_wp2
  go_ret2
  exact ⟨g2, rfl, Nat.le_trans hsz hg2, HB2.out, below_then hb1 hb2⟩
end Go.Proofs.YtlcoebenkhafcaaGreatDoor
namespace Go.Proofs.YtlcoebenkhafcaaGreatDoor
open Go.RowKit
set_option linter.unusedVariables false
set_option linter.unusedSimpArgs false
set_option maxRecDepth 100000
theorem num_vbe : ∀ (l : List Nat), YtlcoebenkhafcaaGreatDoorSp.num (ints l) = ((vbe l : Nat) : Int) := by
  intro l
  have key : ∀ (l : List Nat) (a : Nat), (ints l).foldl (fun n x => n * 256 + x) (a : Int) = ((a * 256 ^ l.length + vbe l : Nat) : Int) := by
    intro l
    induction l with
    | nil => intro a; simp [ints, vbe, val]
    | cons x l ih =>
      intro a
      have e : ints (x :: l) = (x : Int) :: ints l := rfl
      rw [e, List.foldl_cons, show (a : Int) * 256 + (x : Int) = ((a * 256 + x : Nat) : Int) by omega, ih, vbe_cons_, List.length_cons, Nat.pow_succ, Nat.add_mul, Nat.mul_assoc, Nat.mul_comm 256, Nat.add_assoc]
  have := key l 0
  simpa [YtlcoebenkhafcaaGreatDoorSp.num] using this
theorem take4_lt {l : List Nat} (hf : Fit 256 l) : vbe (l.take 4) < 4294967296 := by
  have h1 := vbe_ltp (hf.take 4)
  have h2 : (l.take 4).length ≤ 4 := by rw [List.length_take]; omega
  exact Nat.lt_of_lt_of_le h1 (Nat.pow_le_pow_right (by omega) h2)
theorem Get4_any (A : Option Addr) (n cap : Nat) (l : List Nat) (w : World) (h : Rd .u8 w A n l) (hf : Fit 256 l) (hn : 8 ≤ n) (hn2 : n ≤ 10000) (hc : n ≤ cap) (hm : cap ≤ maxLen) :
    Calls Tryz.prog 79 #[.slice A n cap, .int .i64 0, .int .i64 4] w fun e w' => e = .returned (.tuple #[.int .i64 ((vbe (l.take 4) : Nat) : Int), .int .i64 0]) ∧ w = w' := by
  have := YtlcoebenkhafcaaGreatDoorSp.Get_num A n cap (ints l) 0 4 w (h.seg hf) (by omega) hc hm (by omega) (by omega) ⟨by omega, by omega, by omega, by omega⟩
  have e : ((ints l).drop (0 : Int).toNat).take (4 : Int).toNat = ints (l.take 4) := by
    show ((ints l).drop 0).take 4 = _
    rw [List.drop_zero]
    simp [ints, List.map_take]
  rw [e, num_vbe] at this
  have hlt := take4_lt hf
  have e2 : YtlcoebenkhafcaaGreatDoorSp.getEnd ((vbe (l.take 4) : Nat) : Int) = .tuple #[.int .i64 ((vbe (l.take 4) : Nat) : Int), .int .i64 0] := by
    unfold YtlcoebenkhafcaaGreatDoorSp.getEnd
    rw [if_neg (by omega)]
  rw [e2] at this
  exact this
theorem run_mid8 (A : Option Addr) (k cap lo hi : Nat) (h1 : lo ≤ hi) (h2 : hi ≤ cap) (L H : Int) (hL : L = (lo : Int)) (hH : H = (hi : Int)) (w : World) :
    (Instr.slice 25 (.slice A k cap) (some (.int .i64 L)) (some (.int .i64 H)) none).run Tryz.prog w = .ok (.slice (if cap = lo then A else A.map (·.add lo)) (hi - lo) (cap - lo)) w := by
  subst hL hH
  obtain ⟨i0, hi0, hz0, hz1, hz2⟩ := info_parts byteInfo
  simp [Instr.slice, run_underlying Tryz.underlying25, Instr.sliceBounds, run_sliceBound, sizeOf, typeInfo, hi0, hz1, h1, h2]
def bitsOf (l : List Nat) : Nat := vbe (l.take 4)
def BitsOk (b : Nat) : Prop := 512 ≤ b ∧ b ≤ 4096 ∧ b % 512 = 0
def modOf (l : List Nat) (k : Nat) : List Nat := (l.drop 8).take k
inductive BadParse (l : List Nat) : Int → Prop
  | short : l.length < 8 → BadParse l 10
  | bits : 8 ≤ l.length → ¬ BitsOk (bitsOf l) → BadParse l 21
  | lack (k : Nat) : 8 ≤ l.length → BitsOk (bitsOf l) → bitsOf l = 8 * k → l.length < 8 + 2 * k → BadParse l 10
  | over (k : Nat) : 8 ≤ l.length → BitsOk (bitsOf l) → bitsOf l = 8 * k → 8 + 2 * k < l.length → BadParse l 12
  | form (k : Nat) : BitsOk (bitsOf l) → bitsOf l = 8 * k → l.length = 8 + 2 * k → ¬ Modul k (modOf l k) → BadParse l 22
  | key (k : Nat) : BitsOk (bitsOf l) → bitsOf l = 8 * k → l.length = 8 + 2 * k → Modul k (modOf l k) → keyBytes k (vbe (modOf l k)) ≠ l → BadParse l 22
structure GoodParse (l : List Nat) (k : Nat) : Prop where
  ok : BitsOk (bitsOf l)
  bits : bitsOf l = 8 * k
  len : l.length = 8 + 2 * k
  modul : Modul k (modOf l k)
  same : keyBytes k (vbe (modOf l k)) = l
theorem parse_cases (l : List Nat) : (∃ er, BadParse l er) ∨ ∃ k, GoodParse l k := by
  by_cases h1 : l.length < 8
  · exact .inl ⟨_, .short h1⟩
  by_cases h2 : BitsOk (bitsOf l)
  · obtain ⟨k, hk⟩ : ∃ k, bitsOf l = 8 * k := ⟨bitsOf l / 8, by have := h2.2.2; omega⟩
    by_cases h3 : l.length < 8 + 2 * k
    · exact .inl ⟨_, .lack k (by omega) h2 hk h3⟩
    by_cases h4 : 8 + 2 * k < l.length
    · exact .inl ⟨_, .over k (by omega) h2 hk h4⟩
    by_cases h5 : Modul k (modOf l k)
    · by_cases h6 : keyBytes k (vbe (modOf l k)) = l
      · exact .inr ⟨k, h2, hk, by omega, h5, h6⟩
      · exact .inl ⟨_, .key k h2 hk (by omega) h5 h6⟩
    · exact .inl ⟨_, .form k h2 hk (by omega) h5⟩
  · exact .inl ⟨_, .bits (by omega) h2⟩
theorem BadParse.ne {l : List Nat} {er : Int} (h : BadParse l er) : er ≠ 0 := by cases h <;> omega
theorem Rd.mid {q : IntKind} {w : World} {A : Option Addr} {n : Nat} {l : List Nat} (h : Rd q w A n l) (k m cap : Nat) (hk : k + m ≤ n) (hc : n ≤ cap) : Rd q w (if cap = k then A else A.map (·.add k)) m ((l.drop k).take m) :=
  (h.drop k cap (by omega) hc).take m (by omega)
set_option maxHeartbeats 400000 in
theorem Parse_short (A : Option Addr) (n cap : Nat) (w : World) (hn : n < 8) :
    Calls Tryz.prog 86 #[.slice A n cap] w (NoKey w 10) := by
  go_enter Tryz.func86, Tryz.ntmps86
  go_wp2
  go_ret2
  exact ⟨rfl, below_self⟩
set_option maxHeartbeats 400000 in
theorem Parse_bits (A : Option Addr) (n cap : Nat) (l : List Nat) (w : World) (h : Rd .u8 w A n l) (hf : Fit 256 l) (hn : 8 ≤ n) (hn2 : n ≤ 10000) (hc : n ≤ cap) (hm : cap ≤ maxLen) (hb : ¬ BitsOk (bitsOf l)) :
    Calls Tryz.prog 86 #[.slice A n cap] w (NoKey w 21) := by
  have HR := Lib.hid h
  have HB := Lib.hid hb
  have hlt := take4_lt hf
  have q : ¬ (n : Int) < 8 := by omega
  clear h hb
  go_enter Tryz.func86, Tryz.ntmps86
  go_wp2_with fail
  refine (Get4_any A n cap l w HR.out hf hn hn2 hc hm).mono ?_
  rintro e w1 ⟨rfl, rfl⟩
  have HB2 : Hid (vbe (l.take 4) < 512 ∨ 4096 < vbe (l.take 4) ∨ vbe (l.take 4) % 512 ≠ 0) := by
    have := HB.out
    unfold BitsOk bitsOf at this
    show _ ∨ _
    omega
  clear HB
  generalize vbe (l.take 4) = b at *
  go_wp2_with fail
  refine (bitsRight_no _ _ (by omega) (by have := HB2.out; omega)).mono ?_
  rintro e w1 ⟨rfl, rfl⟩
  go_wp2
  go_ret2
  exact ⟨rfl, below_self⟩
set_option maxHeartbeats 800000 in
theorem Parse_len (A : Option Addr) (n cap : Nat) (l : List Nat) (k : Nat) (er : Int) (w : World) (h : Rd .u8 w A n l) (hf : Fit 256 l) (hn : 8 ≤ n) (hn2 : n ≤ 10000) (hc : n ≤ cap) (hm : cap ≤ maxLen) (hb : BitsOk (bitsOf l)) (hk : bitsOf l = 8 * k) (hl : n < 8 + 2 * k ∧ er = 10 ∨ 8 + 2 * k < n ∧ er = 12) :
    Calls Tryz.prog 86 #[.slice A n cap] w (NoKey w er) := by
  have HR := Lib.hid h
  have q : ¬ (n : Int) < 8 := by omega
  have hv : vbe (l.take 4) = 8 * k := hk
  have b1 : 64 ≤ k := by have := hb.1; omega
  have b2 : k ≤ 512 := by have := hb.2.1; omega
  have HB3 : Hid (8 * k % 512 = 0) := by have := hb.2.2; rw [hk] at this; exact this
  have HV := Lib.hid hv
  clear h hb hk hv
  have HL := Lib.hid hl
  clear hl
  rcases HL.out with ⟨h1, rfl⟩ | ⟨h1, rfl⟩
  · have q1 : (n : Int) < 8 + 2 * k := by omega
    have q2 : (8 * (k : Int)) / 8 = k := by omega
    go_enter Tryz.func86, Tryz.ntmps86
    go_wp2_with fail
    refine (Get4_any A n cap l w HR.out hf hn hn2 hc hm).mono ?_
    rintro e w1 ⟨rfl, rfl⟩
    rw [HV.out, show ((8 * k : Nat) : Int) = 8 * (k : Int) by omega]
    go_wp2_with fail
    refine (bitsRight_yes _ _ (by omega) (by omega) (by have := HB3.out; omega)).mono ?_
    rintro e w1 ⟨rfl, rfl⟩
    go_wp2
    go_ret2
    exact ⟨rfl, below_self⟩
  · have q1 : ¬ (n : Int) < 8 + 2 * k := by omega
    have q3 : 8 + 2 * (k : Int) < n := by omega
    have q2 : (8 * (k : Int)) / 8 = k := by omega
    go_enter Tryz.func86, Tryz.ntmps86
    go_wp2_with fail
    refine (Get4_any A n cap l w HR.out hf hn hn2 hc hm).mono ?_
    rintro e w1 ⟨rfl, rfl⟩
    rw [HV.out, show ((8 * k : Nat) : Int) = 8 * (k : Int) by omega]
    go_wp2_with fail
    refine (bitsRight_yes _ _ (by omega) (by omega) (by have := HB3.out; omega)).mono ?_
    rintro e w1 ⟨rfl, rfl⟩
    go_wp2
    go_ret2
    exact ⟨rfl, below_self⟩
set_option maxHeartbeats 800000 in
theorem Parse_form (A : Option Addr) (n cap : Nat) (l : List Nat) (k : Nat) (w : World) (h : Rd .u8 w A n l) (hf : Fit 256 l) (hn2 : n ≤ 10000) (hc : n ≤ cap) (hm : cap ≤ maxLen) (hb : BitsOk (bitsOf l)) (hk : bitsOf l = 8 * k) (hl : n = 8 + 2 * k) (hM : ¬ Modul k (modOf l k)) :
    Calls Tryz.prog 86 #[.slice A n cap] w (NoKey w 22) := by
  have HR := Lib.hid h
  have hv : vbe (l.take 4) = 8 * k := hk
  have b1 : 64 ≤ k := by have := hb.1; omega
  have b2 : k ≤ 512 := by have := hb.2.1; omega
  have HB3 : Hid (8 * k % 512 = 0) := by have := hb.2.2; rw [hk] at this; exact this
  have q : ¬ (n : Int) < 8 := by omega
  have q1 : ¬ (n : Int) < 8 + 2 * k := by omega
  have q3 : ¬ 8 + 2 * (k : Int) < n := by omega
  have q2 : (8 * (k : Int)) / 8 = k := by omega
  have hcut := run_mid8 A n cap 8 (8 + k) (by omega) (by omega) 8 (8 + (k : Int)) rfl (by omega) w
  have hmid := h.mid 8 k cap (by omega) hc
  rw [show 8 + k - 8 = k by omega] at hcut
  obtain ⟨a, z, ha, hz, hbad⟩ : ∃ a z, (modOf l k)[0]? = some a ∧ (modOf l k)[k - 1]? = some z ∧ (a < 128 ∨ z % 2 = 0) := by
    have hml : (modOf l k).length = k := hmid.1
    obtain ⟨a, ha⟩ := get_some (l := modOf l k) (i := 0) (by omega)
    obtain ⟨z, hz⟩ := get_some (l := modOf l k) (i := k - 1) (by omega)
    refine ⟨a, z, ha, hz, ?_⟩
    by_cases h1 : a < 128
    · exact .inl h1
    · by_cases h2 : z % 2 = 0
      · exact .inr h2
      · exact absurd ⟨b1, b2, by have := HB3.out; omega, a, z, ha, hz, by omega, by omega⟩ hM
  have HMID : Hid (Rd .u8 w (if cap = 8 then A else A.map (·.add 8)) k (modOf l k)) := hmid
  generalize (if cap = 8 then A else A.map (·.add 8)) = A2 at *
  have HV := Lib.hid hv
  have HA := Lib.hid ha
  have HZ := Lib.hid hz
  have HBAD := Lib.hid hbad
  have HFM : Hid (Fit 256 (modOf l k)) := fun x hx => hf x (List.mem_of_mem_drop (List.mem_of_mem_take hx))
  have HN := Lib.hid hl
  have hn : 8 ≤ n := by omega
  clear h hb hk hv hmid ha hz hbad hM hl
  go_enter Tryz.func86, Tryz.ntmps86
  go_wp2_with fail
  refine (Get4_any A n cap l w HR.out hf hn hn2 hc hm).mono ?_
  rintro e w1 ⟨rfl, rfl⟩
  rw [HV.out, show ((8 * k : Nat) : Int) = 8 * (k : Int) by omega]
  go_wp2_with fail
  refine (bitsRight_yes _ _ (by omega) (by omega) (by have := HB3.out; omega)).mono ?_
  rintro e w1 ⟨rfl, rfl⟩
  go_wp2_with fail
  refine (Make_form A2 k (cap - 8) (modOf l k) w HMID.out HFM.out ⟨b1, b2, by have := HB3.out; omega⟩ a z HA.out HZ.out HBAD.out).mono ?_
  rintro e w1 ⟨rfl, hb1⟩
  go_wp2
  go_ret2
  exact ⟨rfl, hb1⟩
def GivesKeyOr (w : World) (l : List Nat) (k N : Nat) (e : Ending) (w' : World) : Prop := (keyBytes k N = l → GivesKey w k N e w') ∧ (keyBytes k N ≠ l → NoKey w 22 e w')
set_option maxHeartbeats 1600000 in
theorem Parse_key (A : Option Addr) (n cap : Nat) (l : List Nat) (k : Nat) (w : World) (h : Rd .u8 w A n l) (hf : Fit 256 l) (hn2 : n ≤ 10000) (hc : n ≤ cap) (hm : cap ≤ maxLen) (hb : BitsOk (bitsOf l)) (hk : bitsOf l = 8 * k) (hl : n = 8 + 2 * k) (hM : Modul k (modOf l k)) :
    Calls Tryz.prog 86 #[.slice A n cap] w (GivesKeyOr w l k (vbe (modOf l k))) := by
  have HR := Lib.hid h
  have hv : vbe (l.take 4) = 8 * k := hk
  have b1 : 64 ≤ k := by have := hb.1; omega
  have b2 : k ≤ 512 := by have := hb.2.1; omega
  have HB3 : Hid (8 * k % 512 = 0) := by have := hb.2.2; rw [hk] at this; exact this
  have q : ¬ (n : Int) < 8 := by omega
  have q1 : ¬ (n : Int) < 8 + 2 * k := by omega
  have q3 : ¬ 8 + 2 * (k : Int) < n := by omega
  have q2 : (8 * (k : Int)) / 8 = k := by omega
  have hcut := run_mid8 A n cap 8 (8 + k) (by omega) (by omega) 8 (8 + (k : Int)) rfl (by omega) w
  have hmid := h.mid 8 k cap (by omega) hc
  rw [show 8 + k - 8 = k by omega] at hcut
  have HMID : Hid (Rd .u8 w (if cap = 8 then A else A.map (·.add 8)) k (modOf l k)) := hmid
  generalize (if cap = 8 then A else A.map (·.add 8)) = A2 at *
  have HV := Lib.hid hv
  have HFM : Hid (Fit 256 (modOf l k)) := fun x hx => hf x (List.mem_of_mem_drop (List.mem_of_mem_take hx))
  have HN := Lib.hid hl
  have HM := Lib.hid hM
  have hn : 8 ≤ n := by omega
  have hck : k ≤ cap - 8 := by omega
  have hcm2 : cap - 8 ≤ maxLen := by omega
  clear h hb hk hv hmid hM hl
  go_enter Tryz.func86, Tryz.ntmps86
  go_wp2_with fail
  refine (Get4_any A n cap l w HR.out hf hn hn2 hc hm).mono ?_
  rintro e w1 ⟨rfl, rfl⟩
  rw [HV.out, show ((8 * k : Nat) : Int) = 8 * (k : Int) by omega]
  go_wp2_with fail
  refine (bitsRight_yes _ _ (by omega) (by omega) (by have := HB3.out; omega)).mono ?_
  rintro e w1 ⟨rfl, rfl⟩
  go_wp2_with fail
  refine (Make_ok A2 k (cap - 8) (modOf l k) w HMID.out HFM.out hck hcm2 HM.out).mono ?_
  rintro e w1 ⟨g, gm, rfl, ⟨ck, gr, hK⟩, hgm, hb1⟩
  have HK := Lib.hid hK
  clear hK
  go_wp2_with fail
  refine (KBytes_any g k _ gm ck gr w1 HK.out n HN.out).mono ?_
  rintro e w2 ⟨g2, c2, rfl, hg2, hrow2, hb2⟩
  have HR2 := Lib.hid hrow2.rd
  have bel2 := below_then hb1 hb2
  clear hrow2 hg2
  go_wp2_with fail
  refine (Equal_any _ A n c2 n cap _ l w2 HR2.out (HR.out.below bel2) (keyBytes_fit _ _) hf).mono ?_
  rintro e w3 ⟨rfl, rfl⟩
  by_cases hq : keyBytes k (vbe (modOf l k)) = l
  · rw [decide_eq_true hq]
    have HQ := Lib.hid hq
    clear hq
    go_wp2
    go_ret2
    exact ⟨fun _ => ⟨g, gm, rfl, ⟨ck, gr, HK.out.below hb2⟩, hgm, bel2⟩, fun h => absurd HQ.out h⟩
  · rw [decide_eq_false hq]
    have HQ := Lib.hid hq
    clear hq
    go_wp2
    go_ret2
    exact ⟨fun h => absurd h HQ.out, fun _ => ⟨rfl, bel2⟩⟩
theorem Parse_bad (A : Option Addr) (n cap : Nat) (l : List Nat) (er : Int) (w : World) (h : Rd .u8 w A n l) (hf : Fit 256 l) (hn2 : n ≤ 10000) (hc : n ≤ cap) (hm : cap ≤ maxLen) (hB : BadParse l er) :
    Calls Tryz.prog 86 #[.slice A n cap] w (NoKey w er) := by
  have hl := h.1
  cases hB with
  | short h1 => exact Parse_short A n cap w (by omega)
  | bits h1 h2 => exact Parse_bits A n cap l w h hf (by omega) hn2 hc hm h2
  | lack k h1 h2 h3 h4 => exact Parse_len A n cap l k _ w h hf (by omega) hn2 hc hm h2 h3 (.inl ⟨by omega, rfl⟩)
  | over k h1 h2 h3 h4 => exact Parse_len A n cap l k _ w h hf (by omega) hn2 hc hm h2 h3 (.inr ⟨by omega, rfl⟩)
  | form k h1 h2 h3 h4 => exact Parse_form A n cap l k w h hf hn2 hc hm h1 h2 (by omega) h4
  | key k h1 h2 h3 h4 h5 => exact (Parse_key A n cap l k w h hf hn2 hc hm h1 h2 (by omega) h4).mono fun e w' he => he.2 h5
theorem Parse_good (A : Option Addr) (n cap : Nat) (l : List Nat) (k : Nat) (w : World) (h : Rd .u8 w A n l) (hf : Fit 256 l) (hn2 : n ≤ 10000) (hc : n ≤ cap) (hm : cap ≤ maxLen) (hG : GoodParse l k) :
    Calls Tryz.prog 86 #[.slice A n cap] w (GivesKey w k (vbe (modOf l k))) :=
  (Parse_key A n cap l k w h hf hn2 hc hm hG.ok hG.bits (by have := hG.len; have := h.1; omega) hG.modul).mono fun e w' he => he.1 hG.same
end Go.Proofs.YtlcoebenkhafcaaGreatDoor
namespace Go.Proofs.YtlcoebenkhafcaaGreatDoor
open Go.RowKit
set_option linter.unusedVariables false
set_option linter.unusedSimpArgs false
set_option maxRecDepth 100000
theorem Row.blk {w : World} {B : Nat} {g n cap : Nat} {xs : List Value} (h : Row w B 5 (some ⟨g, 0, none⟩) n cap xs) : B ≤ g ∧ ∃ cs, Blk w g 5 cs ∧ cs.length = cap ∧ cs.take n = xs := by
  rcases h.2 with ⟨e, _⟩ | ⟨g', cap', cur, e, hB, hg, h1, h2, h3, h4⟩
  · cases e
  · injection e with e1 e2 e3
    injection e1 with e1
    injection e1 with e1
    subst e1; subst e3
    refine ⟨hB, cur.toList, ?_, ?_, ?_⟩
    · unfold Blk; simpa using hg
    · simpa using h3
    · simpa using h4
theorem Row.put {w : World} {B g n cap : Nat} {l : List Nat} (h : Row w B 5 (some ⟨g, 0, none⟩) n cap (cn .u8 l)) (p y : Nat) : Row (w.setCell ⟨g, p, none⟩ (.int .u8 (y : Int))) B 5 (some ⟨g, 0, none⟩) n cap (cn .u8 (l.set p y)) := by
  obtain ⟨hB, cs, hb, hc, ht⟩ := h.blk
  have hl := h.length
  have hle := h.le
  have hb2 := hb.set_ p (.int .u8 (y : Int))
  refine ⟨by rw [cn_length, List.length_set, ← cn_length .u8 l]; simpa using hl, .inr ⟨g, cap, (cs.set p (.int .u8 (y : Int))).toArray, rfl, hB, hb2, hle.1, hle.2, by simp [hc], ?_⟩⟩
  rw [List.toList_toArray, Nat.mul_one, List.take_set, ht, cn_set]
theorem Row.at_ {w : World} {B g n cap : Nat} {l : List Nat} (h : Row w B 5 (some ⟨g, 0, none⟩) n cap (cn .u8 l)) {p x : Nat} (hp : p < n) (hx : l[p]? = some x) : w.cell? ⟨g, p, none⟩ = some (.int .u8 (x : Int)) := by
  obtain ⟨ad, y, e, hy, hc⟩ := h.rd.get hp
  injection e with e
  rw [hx] at hy
  injection hy with hy
  rw [← e, addr_add, Nat.zero_add, ← hy] at hc
  exact hc
end Go.Proofs.YtlcoebenkhafcaaGreatDoor
namespace Go.Proofs.YtlcoebenkhafcaaGreatDoor
open Go.RowKit
set_option linter.unusedVariables false
set_option linter.unusedSimpArgs false
def eachB (l : List Oper) (size : Nat) : Bool :=
  (List.range l.length).all fun i => match l[i]? with
    | some o => (match o.dst with
      | some d => decide (d < size) && (List.range i).all fun j => match l[j]? with
        | some o' => o'.dst != some d
        | none => true
      | none => false) && o.after.all fun e => decide (e.on < i)
    | none => true
theorem each_dst {l : List Oper} {size : Nat} (h : eachB l size = true) {i : Nat} {o : Oper} (ho : l[i]? = some o) : ∃ d, o.dst = some d ∧ d < size := by
  have hi := (List.getElem?_eq_some_iff.1 ho).1
  have := List.all_eq_true.1 h i (List.mem_range.2 hi)
  rw [ho] at this
  simp only [Bool.and_eq_true] at this
  rcases hd : o.dst with _ | d
  · rw [hd] at this; simp at this
  · rw [hd] at this
    simp only [Bool.and_eq_true, decide_eq_true_eq] at this
    exact ⟨d, rfl, this.1.1⟩
theorem each_ne_lt {l : List Oper} {size : Nat} (h : eachB l size = true) {i j : Nat} {o o' : Oper} {d : Nat} (ho : l[i]? = some o) (ho' : l[j]? = some o') (hd : o.dst = some d) (hlt : j < i) : o'.dst ≠ some d := by
  have hi := (List.getElem?_eq_some_iff.1 ho).1
  have := List.all_eq_true.1 h i (List.mem_range.2 hi)
  rw [ho] at this
  simp only [hd, Bool.and_eq_true] at this
  have h2 := List.all_eq_true.1 this.1.2 j (List.mem_range.2 hlt)
  rw [ho'] at h2
  simpa using h2
theorem each_ne {l : List Oper} {size : Nat} (h : eachB l size = true) {i j : Nat} {o o' : Oper} {d d' : Nat} (ho : l[i]? = some o) (ho' : l[j]? = some o') (hd : o.dst = some d) (hd' : o'.dst = some d') (hne : i ≠ j) : d ≠ d' := by
  rintro rfl
  rcases Nat.lt_or_gt_of_ne hne with hlt | hlt
  · exact each_ne_lt h ho' ho hd' hlt hd
  · exact each_ne_lt h ho ho' hd hlt hd'
theorem each_on {l : List Oper} {size : Nat} (h : eachB l size = true) {i : Nat} {o : Oper} (ho : l[i]? = some o) {e : Edge} (he : e ∈ o.after) : e.on < i := by
  have hi := (List.getElem?_eq_some_iff.1 ho).1
  have := List.all_eq_true.1 h i (List.mem_range.2 hi)
  rw [ho] at this
  simp only [Bool.and_eq_true] at this
  have h2 := Array.all_eq_true_iff_forall_mem.1 this.2 e he
  simpa using h2
theorem count_drop (f g : Nat → Bool) (i : Nat) (hf : f i = true) (hg : g i = false) (hs : ∀ j, j ≠ i → g j = f j) : ∀ n, i < n → (List.range n).countP f = (List.range n).countP g + 1
  | 0, h => by omega
  | n + 1, h => by
    rw [List.range_succ, List.countP_append, List.countP_append]
    by_cases hin : i < n
    · have := count_drop f g i hf hg hs n hin
      have e : g n = f n := hs n (by omega)
      simp only [List.countP_cons, List.countP_nil, e]
      omega
    · have hi : i = n := by omega
      subst hi
      have e : (List.range i).countP f = (List.range i).countP g := by
        apply List.countP_congr
        intro j hj
        have := List.mem_range.1 hj
        rw [hs j (by omega)]
      simp [List.countP_cons, hf, hg, e]
structure Keeps (l : List Oper) (a0 a : Act) : Prop where
  defers : a.defers = a0.defers
  size : a.tmps.size = a0.tmps.size
  slot : ∀ s, (∀ o ∈ l, o.dst ≠ some s) → a.tmps.getD s undef = a0.tmps.getD s undef
theorem wp_region_each {P : Program} {id : Nat} {l : List Oper} {Q : Exit → Act → World → Prop} {a0 : Act} {w0 : World} (hm : P.follows .mixedOrders = true) (hB : eachB l a0.tmps.size = true)
    (V : Nat → Value → World → Prop) (R : World → Prop)
    (mono : ∀ i v w w', V i v w → R w → Below w.heap.size w w' → V i v w') (hR : ∀ w w', R w → Below w.heap.size w w' → R w') (h0 : R w0.drew)
    (step : ∀ i o, l[i]? = some o → ∀ (a : Act) (w : World), R w → Keeps l a0 a → (∀ j o' d, l[j]? = some o' → o'.dst = some d → (∃ e ∈ o.after, Region.binds .any e = true ∧ e.on = j) → V j (a.tmps.getD d undef) w) →
      ∀ K : Act → World → Prop, (∀ v w', V i v w' → Below w.heap.size w w' → K (a.put o.dst v) w') → (if Region.wanted o (yielded l.toArray a.tmps) then o.wp P a w K Q else K (a.put o.dst undef) w))
    (fin : ∀ (a : Act) (w : World), R w → Keeps l a0 a → (∀ i o d, l[i]? = some o → o.dst = some d → V i (a.tmps.getD d undef) w) → Q .normal a w) :
    (Code.region id l.toArray true).wp P Q a0 w0 := by
  refine wp_region_any hm ?_
  have key : ∀ (fuel : Nat) (listed : Array Bool) (a : Act) (w : World), listed.size = l.length → (List.range l.length).countP (fun j => !listed.getD j true) = fuel → R w → Keeps l a0 a →
      (∀ i o d, l[i]? = some o → o.dst = some d → listed.getD i true = true → V i (a.tmps.getD d undef) w) → wpAny P .any l.toArray Q fuel listed a w := by
    intro fuel
    induction fuel with
    | zero =>
      intro listed a w hsz hc hr hk hv
      have all : ∀ i, i < l.length → listed.getD i true = true := by
        intro i hi
        have := List.countP_eq_zero.1 hc i (List.mem_range.2 hi)
        simpa using this
      refine ⟨?_, fin a w hr hk (fun i o d ho hd => hv i o d ho hd (all i (List.getElem?_eq_some_iff.1 ho).1))⟩
      apply List.eq_nil_iff_forall_not_mem.2
      intro j hj
      obtain ⟨h1, o, ho, _⟩ := mem_ready.1 hj
      have hjl : j < l.length := by
        have := (Array.getElem?_eq_some_iff.1 ho).1
        simpa using this
      rw [all j hjl] at h1
      cases h1
    | succ fuel ih =>
      intro listed a w hsz hc hr hk hv
      refine ⟨fun hnil => ?_, fun i hi => ?_⟩
      · -- the least operation that is not listed is ready
        exfalso
        have hex : ∃ j, j < l.length ∧ listed.getD j true = false := by
          have hpos : 0 < (List.range l.length).countP (fun j => !listed.getD j true) := by omega
          obtain ⟨j, hj, hf⟩ := List.countP_pos_iff.1 hpos
          exact ⟨j, List.mem_range.1 hj, by simpa using hf⟩
        have least : ∀ n, (∃ j, j < n ∧ j < l.length ∧ listed.getD j true = false) → ∃ j, j < l.length ∧ listed.getD j true = false ∧ ∀ k, k < j → listed.getD k true = true := by
          intro n
          induction n with
          | zero => rintro ⟨j, h, _⟩; omega
          | succ n ihn =>
            rintro ⟨j, h1, h2, h3⟩
            by_cases hb : ∃ j, j < n ∧ j < l.length ∧ listed.getD j true = false
            · exact ihn hb
            · refine ⟨j, h2, h3, fun k hk => ?_⟩
              cases hq : listed.getD k true with
              | true => rfl
              | false => exact absurd ⟨k, by omega, by omega, hq⟩ hb
        obtain ⟨j, hj, hf⟩ := hex
        obtain ⟨j, hj, hf, hlow⟩ := least (j + 1) ⟨j, by omega, hj, hf⟩
        have hmem : j ∈ Region.ready .any l.toArray listed := by
          refine mem_ready.2 ⟨hf, l[j], by simp [hj], fun e he _ => ?_⟩
          have hon := each_on hB (List.getElem?_eq_getElem hj) he
          have h1 := hlow e.on hon
          have hlt : e.on < listed.size := by omega
          simp [Array.getD, hlt] at h1 ⊢
          exact h1
        rw [hnil] at hmem
        cases hmem
      · obtain ⟨hun, o, ho, hall⟩ := mem_ready.1 hi
        have ho' : l[i]? = some o := by simpa using ho
        have hil := (List.getElem?_eq_some_iff.1 ho').1
        obtain ⟨d, hd, hds⟩ := each_dst hB ho'
        have hst := step i o ho' a w hr hk (fun j oj dj hj hdj ⟨e, he, hbd, hej⟩ => hv j oj dj hj hdj (by
          have h1 := hall e he hbd
          rw [hej] at h1
          have hlt : j < listed.size := by rw [hsz]; exact (List.getElem?_eq_some_iff.1 hj).1
          simp [Array.getD, hlt] at h1 ⊢
          exact h1)) (wpAny P .any l.toArray Q fuel (listed.setIfInBounds i true)) (fun v w' hvv hb => by
          have hkd : (a.put o.dst v).tmps = a.tmps.setIfInBounds d v := by rw [hd]; rfl
          refine ih _ _ _ (by simpa using hsz) ?_ (hR _ _ hr hb) ⟨?_, ?_, ?_⟩ ?_
          · have hlt : i < listed.size := by omega
            have := count_drop (fun j => !listed.getD j true) (fun j => !(listed.setIfInBounds i true).getD j true) i (by simp [hun]) (by simp [Array.getD, hlt]) (fun j hj => by simp [Array.getD_eq_getD_getElem?, Ne.symm hj]) l.length hil
            omega
          · rw [hd]; exact hk.defers
          · rw [hkd]; simpa using hk.size
          · intro s hs
            rw [hkd, ← hk.slot s hs]
            have hne : d ≠ s := fun e => hs o (List.mem_of_getElem? ho') (by rw [hd, e])
            simp [Array.getD_eq_getD_getElem?, Array.getElem?_setIfInBounds, hne]
          · intro j oj dj hj hdj hlj
            rw [hkd]
            by_cases hij : i = j
            · subst hij
              rw [ho'] at hj
              injection hj with hj
              subst hj
              rw [hd] at hdj
              injection hdj with hdj
              subst hdj
              have hlt : d < a.tmps.size := by rw [hk.size]; exact hds
              simp [Array.getD_eq_getD_getElem?, Array.getElem?_setIfInBounds, hlt]
              exact hvv
            · have hne := each_ne hB ho' hj hd hdj hij
              have : (a.tmps.setIfInBounds d v).getD dj undef = a.tmps.getD dj undef := by
                simp [Array.getD_eq_getD_getElem?, Array.getElem?_setIfInBounds, hne]
              rw [this]
              refine mono j _ w w' (hv j oj dj hj hdj ?_) hr hb
              have hlt : j < listed.size := by rw [hsz]; exact (List.getElem?_eq_some_iff.1 hj).1
              have e : (listed.setIfInBounds i true).getD j true = listed.getD j true := by
                simp [Array.getD_eq_getD_getElem?, Array.getElem?_setIfInBounds, hij]
              rw [e] at hlj
              exact hlj)
        unfold wpOp
        rw [ho]
        simp only []
        split
        · next hw => rw [if_pos hw] at hst; exact .inl hst
        · next hw => rw [if_neg hw] at hst; exact hst
  have hsz : (Array.replicate l.toArray.size false).size = l.length := by simp
  have hcnt : (List.range l.length).countP (fun j => !(Array.replicate l.toArray.size false).getD j true) = l.toArray.size := by
    have e : (List.range l.length).countP (fun j => !(Array.replicate l.toArray.size false).getD j true) = (List.range l.length).length := by
      apply List.countP_eq_length.2
      intro j hj
      have := List.mem_range.1 hj
      simp [Array.getD, this]
    rw [e]; simp
  refine key _ _ a0 _ hsz hcnt h0 ⟨rfl, rfl, fun _ _ => rfl⟩ ?_
  intro i o d ho hd hl
  have := (List.getElem?_eq_some_iff.1 ho).1
  simp [Array.getD, this] at hl
theorem want_none {o : Oper} {y : Nat → Option Bool} (h : o.guard = none) : Region.wanted o y = true := by simp [Region.wanted, h]
theorem want_some {l : List Oper} {o oj : Oper} {a : Act} {j d : Nat} {b : Bool} (h : o.guard = some (j, b)) (hj : l[j]? = some oj) (hd : oj.dst = some d) (hv : a.tmps.getD d undef = .bool b) : Region.wanted o (yielded l.toArray a.tmps) = true := by
  have ht : a.tmps[d]? = some (.bool b) := by
    rw [Array.getD_eq_getD_getElem?] at hv
    cases hq : a.tmps[d]? with
    | none => rw [hq] at hv; cases hv
    | some x => rw [hq] at hv; simp at hv; rw [hv]
  simp [Region.wanted, h, yielded, hj, hd, ht]
section
variable {o : Oper} {a : Act} {w : World} {K : Act → World → Prop} {Q : Exit → Act → World → Prop} {E : Prop} {b : Bool}
theorem st_move (x : Operand) (ho : o.op = .move x) (hw : b = true) (v : Value) (hx : a.eval x = v) (h : K (a.put o.dst v) w) : if b = true then o.wp Tryz.prog a w K Q else E := by
  rw [if_pos hw]; unfold Oper.wp execOp; simp only [ho, hx, Sem.run_pure]; exact h
theorem st_assign (x : Operand) (ho : o.op = .assign x) (hw : b = true) (v : Value) (hx : a.eval x = v) (h : K (a.put o.dst v) w) : if b = true then o.wp Tryz.prog a w K Q else E := by
  rw [if_pos hw]; unfold Oper.wp execOp; simp only [ho, hx, Sem.run_pure]; exact h
theorem st_pick (c x y : Operand) (ho : o.op = .pick c x y) (hw : b = true) (cb : Bool) (hc : a.eval c = .bool cb) (v : Value) (hv : (if cb = true then a.eval x else a.eval y) = v) (h : K (a.put o.dst v) w) : if b = true then o.wp Tryz.prog a w K Q else E := by
  rw [if_pos hw]; unfold Oper.wp execOp
  subst hv
  simp only [ho, hc, asBool, Sem.run_bind, Sem.run_pure, Result.andThen_ok]
  exact h
theorem st_len (x : Operand) (ho : o.op = .call { callee := .builtin .len, args := #[x], argTypes := #[25] }) (hw : b = true) (A : Option Addr) (n cap : Nat) (hx : a.eval x = .slice A n cap) (h : K (a.put o.dst (.int .i64 (n : Int))) w) : if b = true then o.wp Tryz.prog a w K Q else E := by
  rw [if_pos hw]; unfold Oper.wp execOp
  simp [ho, resolve, invoke, builtin, hx, Builtin.len_, run_underlying Tryz.underlying25, Builtin.lenOf, Result.andThen, goInt]
  exact h
end
end Go.Proofs.YtlcoebenkhafcaaGreatDoor
namespace Go.Proofs.YtlcoebenkhafcaaGreatDoor
set_option maxRecDepth 100000
open Go.RowKit
set_option linter.unusedVariables false
section
variable {w w' : World} {g : Nat} {t : TypeId} {cs : List Value}
end
section
variable {a w : World}
end
section
variable {k : IntKind} {w w' : World} {A : Option Addr} {n : Nat} {l : List Nat}
end
section
variable {w w' : World} {B : Nat} {e : TypeId} {A : Option Addr} {n cap : Nat} {xs : List Value}
end
end Go.Proofs.YtlcoebenkhafcaaGreatDoor
