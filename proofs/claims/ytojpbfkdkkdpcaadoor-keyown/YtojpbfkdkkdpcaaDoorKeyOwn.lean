/-
  For every number KeyOwn returns true. No condition but that four tables hold what their text lays there: two of the code's own, which the sums are made with, and two of Go's library, which the call does not read.
-/
import Derived.Test.YtojpbfkdkkdpcaaDoorLaw4
import Derived.Test.YtojpbfkdkkdpcaaDoorEach6
import Derived.Test.YtojpbfkdkkdpcaaDoorK10
import Derived.Test.YtojpbfkdkkdpcaaDoorTie
import Derived.Test.YtojpbfkdkkdpcaaDoorCards
namespace Go.Proofs.YtojpbfkdkkdpcaaDoor.keyOwn
open Go.Proofs.YtojpbfkdkkdpcaaDoor Go.ChangeShapes Go.WideShapes Go.ChangeAt Go.RowKit
set_option linter.unusedVariables false
set_option linter.unusedSimpArgs false

set_option maxRecDepth 100000 in
set_option maxHeartbeats 4000000 in
theorem walk_g0 (z : Int) (w : World) (h0 : z < 0) :
    Calls Tryd.prog 7 #[.int .i64 z] w fun e w' => e = .returned (.bool true) ∧ Below w.heap.size w w' := by
  go_enter Tryd.func7, Tryd.ntmps7
  go_wp2_with fail
  refine (anchor_any w).mono ?_
  rintro e w1 ⟨rfl, hb1⟩
  go_wp2
  go_ret
  exact ⟨rfl, hb1⟩

set_option maxRecDepth 100000 in
set_option maxHeartbeats 4000000 in
theorem walk_g1 (z : Int) (w : World) (h0 : ¬ z < 0) (h1 : 3 < z) :
    Calls Tryd.prog 7 #[.int .i64 z] w fun e w' => e = .returned (.bool true) ∧ Below w.heap.size w w' := by
  go_enter Tryd.func7, Tryd.ntmps7
  go_wp2_with fail
  refine (anchor_any w).mono ?_
  rintro e w1 ⟨rfl, hb1⟩
  go_wp2
  go_ret
  exact ⟨rfl, hb1⟩

/-- What the walk needs of a fixed key: its modulus N in k bytes. -/
structure Fixed (z k N : Nat) : Prop where
  k1 : 64 ≤ k
  k2 : k ≤ 256
  mo : ∀ w, Calls Tryd.prog 23 #[.int .i64 (z : Int)] w (GivesRow w k (bytesOf k N))
  modul : Modul k (bytesOf k N)
  vn : vbe (bytesOf k N) = N
  room : N < 256 ^ k
theorem fixed_of {z : Nat} (hz : z ≤ 3) : ∃ k N, Fixed z k N :=
  ⟨keyK z, keyN z, (keyK_ok hz).1, (keyK_ok hz).2.1, ModulusOf_any z hz, keyN_modul hz, bytesOf_val (keyN_room hz), keyN_room hz⟩
/-- One of four. -/
def sel (a b c d : Nat) : Nat → Nat
  | 0 => a
  | 1 => b
  | 2 => c
  | _ => d
theorem four_cases {t : Nat} (h : t < 4) : t = 0 ∨ t = 1 ∨ t = 2 ∨ t = 3 := by omega
set_option maxRecDepth 100000 in
set_option maxHeartbeats 4000000 in
theorem walk_main (z k N : Nat) (hF : Fixed z k N) (w : World) (hz : z ≤ 3) (ht : YtojpbfkdkkdpcaaDoorSh.Tabs w) :
    Calls Tryd.prog 7 #[.int .i64 (z : Int)] w fun e w' => e = .returned (.bool true) ∧ Below w.heap.size w w' := by
  have HF := Lib.hid hF
  have k1 := hF.k1
  have k2 := hF.k2
  have HT := Lib.hid ht
  have z0 : ¬ (z : Int) < 0 := by omega
  have z1 : ¬ (3 : Int) < z := by omega
  obtain ⟨M, hMM⟩ : ∃ M, M = 8 + 2 * k := ⟨_, rfl⟩
  have HMM := Lib.hid hMM
  have M1 : 136 ≤ M := by omega
  have M2 : M ≤ 600 := by omega
  clear hF hz ht hMM
  go_enter Tryd.func7, Tryd.ntmps7
  go_wp2_with fail
  refine (anchor_any w).mono ?_
  rintro e w1 ⟨rfl, hb1⟩
  go_wp2_with fail
  refine (HF.out.mo w1).mono ?_
  rintro e w2 ⟨Am, cm, rfl, hrow2, hb2⟩
  obtain ⟨gA, rfl, hA1, hA2, _⟩ := hrow2.cells (by omega)
  have HROW2 := Lib.hid hrow2
  have hcm := hrow2.le.1
  have hmm := hrow2.le.2
  have bel2 := below_then hb1 hb2
  clear hrow2
  go_wp2_with fail
  refine (Make_ok _ k cm _ w2 HROW2.out.rd (bytesOf_fit _ _) hcm hmm HF.out.modul).mono ?_
  rintro e w3 ⟨g, gm, rfl, ⟨ck, gr, hK⟩, hgm, hb3⟩
  rw [HF.out.vn] at hK
  have hgm2 : gm < w3.heap.size := hK.rd.lt (by omega) _ rfl
  have HK := Lib.hid hK
  have bel3 := below_then bel2 hb3
  clear hK
  go_wp2_with fail
  refine (KBytes_any g k N gm ck gr w3 HK.out M HMM.out).mono ?_
  rintro e w4 ⟨g4, c4, rfl, hg4, hrow4, hb4⟩
  have hs4 := rd_str hrow4.rd c4
  have bel4 := below_then bel3 hb4
  clear hrow4 hg4
  go_wp2_with fail
  refine (KBytes_any g k N gm ck gr w4 (HK.out.below hb4) M HMM.out).mono ?_
  rintro e w5 ⟨g5, c5, rfl, hg5, hrow5, hb5⟩
  have h5 := (hrow5.lt _ rfl).2
  have HROW5 := Lib.hid hrow5
  have bel5 := below_then bel4 hb5
  clear hrow5 hs4
  go_wp2_with fail
  refine (Modulus_any g k N gm ck gr w5 ((HK.out.below hb4).below hb5)).mono ?_
  rintro e w6 ⟨g6, c6, rfl, hg6, hrow6, hb6⟩
  have h6 := (hrow6.lt _ rfl).2
  have HROW6 := Lib.hid hrow6
  have bel6 := below_then bel5 hb6
  clear hrow6
  go_wp2_with fail
  refine (Name_any g k N gm ck gr w6 (((HK.out.below hb4).below hb5).below hb6) (HT.out.below bel6)).mono ?_
  rintro e w7 ⟨g7, rfl, hg7, hB7, hb7⟩
  have h7 := hB7.lt
  have HB7 := Lib.hid hB7
  have bel7 := below_then bel6 hb7
  clear hB7
  have hx8 : Below w7.heap.size w7 (w7.alloc (.cells #[.slice (some ⟨gA, 0, none⟩) k cm, .slice (some ⟨g5, 0, none⟩) M c5, .slice (some ⟨g6, 0, none⟩) k c6, .slice (some ⟨g7, 0, none⟩) 32 32] 22)) := (Below.refl _ _).alloc (Nat.le_refl _) _
  have hblk := Blk.new w7 22 [.slice (some ⟨gA, 0, none⟩) k cm, .slice (some ⟨g5, 0, none⟩) M c5, .slice (some ⟨g6, 0, none⟩) k c6, .slice (some ⟨g7, 0, none⟩) 32 32]
  have bel8 := below_then bel7 hx8
  have s1 := hb1.size
  have s3 := hb3.size
  have s4 := hb4.size
  have s5 := hb5.size
  have s6 := hb6.size
  have s7 := hb7.size
  have d1 : gA < g5 := by omega
  have d2 : g5 < g6 := by omega
  have d3 : g6 < g7 := by omega
  have d4 : gA < gm := by omega
  have d5 : gm < g5 := by omega
  have d6 : w.heap.size ≤ gA := by omega
  have d7 : g7 < w7.heap.size := h7
  have HFOUR : Hid (Four w (w7.alloc (.cells #[.slice (some ⟨gA, 0, none⟩) k cm, .slice (some ⟨g5, 0, none⟩) M c5, .slice (some ⟨g6, 0, none⟩) k c6, .slice (some ⟨g7, 0, none⟩) 32 32] 22)) w7.heap.size (sel gA g5 g6 g7) (sel k M k 32) (sel cm c5 c6 32) g k N gm ck gr) := by
    refine ⟨fun t ht => ?_, fun t ht => ?_, ((((HK.out.below hb4).below hb5).below hb6).below hb7).below hx8, HT.out.below bel8, bel8, fun s t hs ht hne => ?_, fun t ht => ?_, fun t ht => ?_, fun t ht => ?_, HT.out.lt⟩
    · rcases four_cases ht with rfl | rfl | rfl | rfl
      · exact hblk.cell 0
      · exact hblk.cell 1
      · exact hblk.cell 2
      · exact hblk.cell 3
    · rcases four_cases ht with rfl | rfl | rfl | rfl
      · exact ⟨_, bytesOf_fit k N, (((((((HROW2.out.below hb3).below hb4).below hb5).below hb6).below hb7).below hx8).mono (Nat.zero_le _))⟩
      · exact ⟨_, keyBytes_fit k N, (((HROW5.out.below hb6).below hb7).below hx8).mono (Nat.zero_le _)⟩
      · exact ⟨_, bytesOf_fit k N, ((HROW6.out.below hb7).below hx8).mono (Nat.zero_le _)⟩
      · exact ⟨_, nameOf_fit k N, Blk.row (HB7.out.below hx8 HB7.out.lt) (Nat.zero_le _) 32 (nameOf_length _ _) (by omega)⟩
    · rcases four_cases hs with rfl | rfl | rfl | rfl <;> rcases four_cases ht with rfl | rfl | rfl | rfl <;> simp only [sel] <;> omega
    · rcases four_cases ht with rfl | rfl | rfl | rfl <;> simp only [sel] <;> omega
    · rcases four_cases ht with rfl | rfl | rfl | rfl <;> simp only [sel] <;> omega
    · rcases four_cases ht with rfl | rfl | rfl | rfl <;> simp only [sel] <;> omega
  have HLEN : Hid (∀ t, t < 4 → sel k M k 32 t ≤ 1000) := fun t ht => by
    rcases four_cases ht with rfl | rfl | rfl | rfl <;> simp only [sel] <;> omega
  clear hblk hx8 bel2 bel3 bel4 bel5 bel6 bel7 bel8 s1 s3 s4 s5 s6 s7 d1 d2 d3 d4 d5 d6 d7 h5 h6 h7 hg5 hg6 hg7 hgm hgm2 hA1 hA2 hb1 hb2 hb3 hb4 hb5 hb6 hb7 HK HROW2 HROW5 HROW6 HB7
  go_wp2
  go_loopw [45] (fun i wr => ∃ t : Nat, t ≤ 4 ∧ i = .int .i64 (t : Int) ∧ Hid (Four w wr w7.heap.size (sel gA g5 g6 g7) (sel k M k 32) (sel cm c5 c6 32) g k N gm ck gr)) (fun i _ => 4 - (intOf i).toNat)
  case atStart => exact ⟨0, by omega, rfl, HFOUR⟩
  case round =>
    obtain ⟨t, ht, rfl, HW⟩ := hrel
    by_cases htl : t < 4
    · have hcell := HW.out.cell t htl
      have hlen := HLEN.out t htl
      obtain ⟨gt, hgt⟩ : ∃ x, x = sel gA g5 g6 g7 t := ⟨_, rfl⟩
      obtain ⟨lt, hlt⟩ : ∃ x, x = sel k M k 32 t := ⟨_, rfl⟩
      obtain ⟨ct, hct⟩ : ∃ x, x = sel cm c5 c6 32 t := ⟨_, rfl⟩
      rw [← hgt, ← hlt, ← hct] at hcell
      rw [← hlt] at hlen
      have HGT := Lib.hid hgt
      have HLT := Lib.hid hlt
      have HCT := Lib.hid hct
      clear hgt hlt hct
      go_wp2
      rename World => wo
      go_loopw [51] (fun i wr => ∃ p : Nat, p ≤ lt ∧ i = .int .i64 (p : Int) ∧ Hid (Four w wr w7.heap.size (sel gA g5 g6 g7) (sel k M k 32) (sel cm c5 c6 32) g k N gm ck gr)) (fun i _ => lt - (intOf i).toNat)
      case atStart => exact ⟨0, by omega, rfl, HW⟩
      case round =>
        obtain ⟨p, hp, rfl, HI⟩ := hrel
        by_cases hpl : p < lt
        · obtain ⟨lr, hfit, hrow⟩ := HI.out.row t htl
          rw [← HGT.out, ← HLT.out, ← HCT.out] at hrow
          obtain ⟨x, hx⟩ := get_some (l := lr) (i := p) (by have := hrow.length; rw [cn_length] at this; omega)
          have hxb := hfit.get hx
          have hcell2 := hrow.at_ hpl hx
          have hfz := hrow.fz p
          obtain ⟨v, hv⟩ : ∃ v, v = x ^^^ 255 := ⟨_, rfl⟩
          have hvb : v < 256 := by rw [hv]; exact Nat.xor_lt_two_pow (n := 8) hxb (by omega)
          have hxor : bits .xor .u8 (x : Int) 255 = (v : Int) := by rw [hv]; exact u8_xor_nat x 255 hxb (by omega)
          have HST : Hid (Four w (wr.setCell ⟨gt, p, none⟩ (.int .u8 (v : Int))) w7.heap.size (sel gA g5 g6 g7) (sel k M k 32) (sel cm c5 c6 32) g k N gm ck gr) := by
            have := HI.out.store t p v htl (by rw [← HLT.out]; exact hpl) hvb
            rw [← HGT.out] at this
            exact this
          clear hrow hx hv
          go_wp2
          go_roundw
          case rel => exact ⟨p + 1, by omega, by go_num, HST⟩
          case measure => simp [intOf]; omega
        · obtain rfl : p = lt := by omega
          go_wp2
          go_roundw
          case rel => exact ⟨t + 1, by omega, by go_num, HI⟩
          case measure => simp [intOf]; omega
    · obtain rfl : t = 4 := by omega
      have hKB := keyBytes_length k N
      rw [← HMM.out] at hKB
      have hcv := Lib.run_convert_string_bytes (P := Tryd.prog) wr 9 22 5 (str (keyBytes k N)) Tryd.underlying9 Tryd.underlying22 Tryd.underlying5
      have hrq := rd_bytesWorld wr (keyBytes k N) (keyBytes_fit k N)
      rw [str_size, hKB] at hcv
      rw [hKB] at hrq
      have hq1 := grownCap_ge wr M 0 5
      have hq2 := grownCap_le_maxLen wr M 0 5 (by unfold maxLen; omega)
      have hb9 := below_bytesWorld wr (str (keyBytes k N))
      generalize Lib.bytesWorld wr 5 (str (keyBytes k N)) = w9 at *
      generalize grownCap wr M 0 5 = cq at *
      have HRQ := Lib.hid hrq
      have HB9 := Lib.hid hb9
      clear hrq hKB
      go_wp2_with fail
      refine (Parse_good _ M cq (keyBytes k N) k w9 HRQ.out (keyBytes_fit _ _) (by omega) hq1 hq2 (key_good HF.out.modul HF.out.room)).mono ?_
      rw [key_mod, HF.out.vn]
      rintro e w10 ⟨gp, gmp, rfl, ⟨ckp, grp, hKp⟩, _, hb10⟩
      have HKP := Lib.hid hKp
      have HKA := Lib.hid ((HW.out.key.below HB9.out).below hb10)
      have HTA := Lib.hid ((HW.out.tabs.below HB9.out).below hb10)
      have HBEL := Lib.hid (below_then (below_then HW.out.bel HB9.out) hb10)
      clear hKp hb10 hb9 hcv HB9 HRQ HW
      go_wp2
      rename_i hKx
      refine wp_region_each (by kernel_rfl) (by kernel_rfl) (fun iX v w => match iX with
          | 0 => v = .pointer (some ⟨g, 0, none⟩)
          | 1 => ∃ A c, v = .slice A M c ∧ Rd .u8 w A M (keyBytes k N)
          | 2 => v = .string (str (keyBytes k N))
          | 3 => v = .string (str (keyBytes k N))
          | 4 => v = .bool true
          | 5 => v = .bool true
          | 6 => v = .int .i64 0
          | 7 => v = .bool true
          | 8 => v = .bool true
          | 9 => v = .bool true
          | 10 => v = .pointer (some ⟨gp, 0, none⟩)
          | 11 => v = .bool true
          | 12 => v = .bool true
          | 13 => v = .bool true
          | 14 => v = .pointer (some ⟨gp, 0, none⟩)
          | 15 => ∃ A c, v = .slice A 32 c ∧ Rd .u8 w A 32 (nameOf k N)
          | 16 => v = .string (str (nameOf k N))
          | 17 => v = .pointer (some ⟨g, 0, none⟩)
          | 18 => ∃ A c, v = .slice A 32 c ∧ Rd .u8 w A 32 (nameOf k N)
          | 19 => v = .string (str (nameOf k N))
          | 20 => v = .bool true
          | 21 => v = .bool true
          | 22 => v = .bool true
          | 23 => v = .pointer (some ⟨gp, 0, none⟩)
          | 24 => v = .int .i64 (k : Int)
          | 25 => v = .slice (some ⟨gA, 0, none⟩) k cm
          | 26 => v = .int .i64 (k : Int)
          | 27 => v = .bool true
          | 28 => v = .bool true
          | 29 => v = .bool true
          | _ => True) (fun u => Below w10.heap.size w10 u) ?m1 (fun _ _ h1 h2 => h1.trans (h2.mono h1.size)) ⟨rfl, rfl, rfl, Nat.le_refl _, fun _ _ => rfl⟩ ?m2 ?m3
      case m1 =>
        intro iX v w w' h hr hb
        rcases iX with _ | _ | _ | _ | _ | _ | _ | _ | _ | _ | _ | _ | _ | _ | _ | _ | _ | _ | _ | _ | _ | _ | _ | _ | _ | _ | _ | _ | _ | _ | iX
        · exact h
        · obtain ⟨A, c, e, hk⟩ := h; exact ⟨A, c, e, hk.below hb⟩
        · exact h
        · exact h
        · exact h
        · exact h
        · exact h
        · exact h
        · exact h
        · exact h
        · exact h
        · exact h
        · exact h
        · exact h
        · exact h
        · obtain ⟨A, c, e, hk⟩ := h; exact ⟨A, c, e, hk.below hb⟩
        · exact h
        · exact h
        · obtain ⟨A, c, e, hk⟩ := h; exact ⟨A, c, e, hk.below hb⟩
        · exact h
        · exact h
        · exact h
        · exact h
        · exact h
        · exact h
        · exact h
        · exact h
        · exact h
        · exact h
        · exact h
        · trivial
      case m2 =>
        intro iX o ho a w hr hk hpre K hK
        have e4 : a.tmps.getD 4 undef = .pointer (some ⟨g, 0, none⟩) := hk.slot 4 (by simp)
        have e6 : a.tmps.getD 6 undef = .string (str (keyBytes k N)) := hk.slot 6 (by simp)
        have e11 : a.tmps.getD 11 undef = .int .i64 0 := hk.slot 11 (by simp)
        have e10 : a.tmps.getD 10 undef = .pointer (some ⟨gp, 0, none⟩) := hk.slot 10 (by simp)
        have e3 : a.tmps.getD 3 undef = .slice (some ⟨gA, 0, none⟩) k cm := hk.slot 3 (by simp)
        rcases iX with _ | _ | _ | _ | _ | _ | _ | _ | _ | _ | _ | _ | _ | _ | _ | _ | _ | _ | _ | _ | _ | _ | _ | _ | _ | _ | _ | _ | _ | _ | iX
        · obtain rfl := Option.some.inj ho
          exact st_move (.tmp 4) rfl (want_none rfl) _ e4 (hK _ _ rfl (Below.refl _ _))
        · obtain rfl := Option.some.inj ho
          exact st_call1 13 (.tmp 68) 24 rfl (want_none rfl) _ (hpre 0 _ 68 rfl rfl ⟨⟨0, .data⟩, by simp, rfl, rfl⟩) (cf13 _ _) _ (KBytes_any g k N gm ck gr w (HKA.out.below hr) M HMM.out) (fun e w' ⟨_, _, he, _, hrow, hb⟩ => ⟨_, he, hK _ _ ⟨_, _, rfl, hrow.rd⟩ hb⟩)
        · obtain rfl := Option.some.inj ho
          obtain ⟨A, c, eg, hs⟩ := (hpre 1 _ 69 rfl rfl ⟨⟨1, .data⟩, by simp, rfl, rfl⟩)
          exact st_conv (.tmp 69) rfl (want_none rfl) _ _ _ _ eg hs (hK _ _ rfl (Below.refl _ _))
        · obtain rfl := Option.some.inj ho
          exact st_move (.tmp 6) rfl (want_none rfl) _ e6 (hK _ _ rfl (Below.refl _ _))
        · obtain rfl := Option.some.inj ho
          exact st_eqlStr (.tmp 70) (.tmp 71) rfl (want_none rfl) _ (hpre 2 _ 70 rfl rfl ⟨⟨2, .data⟩, by simp, rfl, rfl⟩) (hpre 3 _ 71 rfl rfl ⟨⟨3, .data⟩, by simp, rfl, rfl⟩) (hK _ _ rfl (Below.refl _ _))
        · obtain rfl := Option.some.inj ho
          exact st_move (.tmp 72) rfl (want_none rfl) _ (hpre 4 _ 72 rfl rfl ⟨⟨4, .data⟩, by simp, rfl, rfl⟩) (hK _ _ rfl (Below.refl _ _))
        · obtain rfl := Option.some.inj ho
          exact st_move (.tmp 11) rfl (want_some rfl rfl rfl (hpre 5 _ 73 rfl rfl ⟨⟨5, .guard⟩, by simp, rfl, rfl⟩)) _ e11 (hK _ _ rfl (Below.refl _ _))
        · obtain rfl := Option.some.inj ho
          exact st_eqlInt 25 (.tmp 74) (.const (.int .i64 0)) rfl (want_some rfl rfl rfl (hpre 5 _ 73 rfl rfl ⟨⟨5, .guard⟩, by simp, rfl, rfl⟩)) _ (hpre 6 _ 74 rfl rfl ⟨⟨6, .data⟩, by simp, rfl, rfl⟩) rfl (hK _ _ rfl (Below.refl _ _))
        · obtain rfl := Option.some.inj ho
          exact st_pick (.tmp 73) (.tmp 75) (.const (.bool false)) rfl (want_none rfl) true (hpre 5 _ 73 rfl rfl ⟨⟨5, .data⟩, by simp, rfl, rfl⟩) _ ((if_pos rfl).trans (hpre 7 _ 75 rfl rfl ⟨⟨7, .data⟩, by simp, rfl, rfl⟩)) (hK _ _ rfl (Below.refl _ _))
        · obtain rfl := Option.some.inj ho
          exact st_move (.tmp 76) rfl (want_none rfl) _ (hpre 8 _ 76 rfl rfl ⟨⟨8, .data⟩, by simp, rfl, rfl⟩) (hK _ _ rfl (Below.refl _ _))
        · obtain rfl := Option.some.inj ho
          exact st_move (.tmp 10) rfl (want_some rfl rfl rfl (hpre 9 _ 77 rfl rfl ⟨⟨9, .guard⟩, by simp, rfl, rfl⟩)) _ e10 (hK _ _ rfl (Below.refl _ _))
        · obtain rfl := Option.some.inj ho
          exact st_neqPtr (.tmp 78) rfl (want_some rfl rfl rfl (hpre 9 _ 77 rfl rfl ⟨⟨9, .guard⟩, by simp, rfl, rfl⟩)) _ (hpre 10 _ 78 rfl rfl ⟨⟨10, .data⟩, by simp, rfl, rfl⟩) (hK _ _ rfl (Below.refl _ _))
        · obtain rfl := Option.some.inj ho
          exact st_pick (.tmp 77) (.tmp 79) (.const (.bool false)) rfl (want_none rfl) true (hpre 9 _ 77 rfl rfl ⟨⟨9, .data⟩, by simp, rfl, rfl⟩) _ ((if_pos rfl).trans (hpre 11 _ 79 rfl rfl ⟨⟨11, .data⟩, by simp, rfl, rfl⟩)) (hK _ _ rfl (Below.refl _ _))
        · obtain rfl := Option.some.inj ho
          exact st_move (.tmp 80) rfl (want_none rfl) _ (hpre 12 _ 80 rfl rfl ⟨⟨12, .data⟩, by simp, rfl, rfl⟩) (hK _ _ rfl (Below.refl _ _))
        · obtain rfl := Option.some.inj ho
          exact st_move (.tmp 10) rfl (want_some rfl rfl rfl (hpre 13 _ 81 rfl rfl ⟨⟨13, .guard⟩, by simp, rfl, rfl⟩)) _ e10 (hK _ _ rfl (Below.refl _ _))
        · obtain rfl := Option.some.inj ho
          exact st_call1 17 (.tmp 82) 24 rfl (want_some rfl rfl rfl (hpre 13 _ 81 rfl rfl ⟨⟨13, .guard⟩, by simp, rfl, rfl⟩)) _ (hpre 14 _ 82 rfl rfl ⟨⟨14, .data⟩, by simp, rfl, rfl⟩) (cf17 _ _) _ (Name_any gp k N gmp ckp grp w (HKP.out.below hr) (HTA.out.below hr)) (fun e w' ⟨_, he, _, hB, hb⟩ => ⟨_, he, hK _ _ ⟨_, _, rfl, hB.rd 32 (nameOf_length _ _)⟩ hb⟩)
        · obtain rfl := Option.some.inj ho
          obtain ⟨A, c, eg, hs⟩ := (hpre 15 _ 83 rfl rfl ⟨⟨15, .data⟩, by simp, rfl, rfl⟩)
          exact st_conv (.tmp 83) rfl (want_some rfl rfl rfl (hpre 13 _ 81 rfl rfl ⟨⟨13, .guard⟩, by simp, rfl, rfl⟩)) _ _ _ _ eg hs (hK _ _ rfl (Below.refl _ _))
        · obtain rfl := Option.some.inj ho
          exact st_move (.tmp 4) rfl (want_some rfl rfl rfl (hpre 13 _ 81 rfl rfl ⟨⟨13, .guard⟩, by simp, rfl, rfl⟩)) _ e4 (hK _ _ rfl (Below.refl _ _))
        · obtain rfl := Option.some.inj ho
          exact st_call1 17 (.tmp 85) 24 rfl (want_some rfl rfl rfl (hpre 13 _ 81 rfl rfl ⟨⟨13, .guard⟩, by simp, rfl, rfl⟩)) _ (hpre 17 _ 85 rfl rfl ⟨⟨17, .data⟩, by simp, rfl, rfl⟩) (cf17 _ _) _ (Name_any g k N gm ck gr w (HKA.out.below hr) (HTA.out.below hr)) (fun e w' ⟨_, he, _, hB, hb⟩ => ⟨_, he, hK _ _ ⟨_, _, rfl, hB.rd 32 (nameOf_length _ _)⟩ hb⟩)
        · obtain rfl := Option.some.inj ho
          obtain ⟨A, c, eg, hs⟩ := (hpre 18 _ 86 rfl rfl ⟨⟨18, .data⟩, by simp, rfl, rfl⟩)
          exact st_conv (.tmp 86) rfl (want_some rfl rfl rfl (hpre 13 _ 81 rfl rfl ⟨⟨13, .guard⟩, by simp, rfl, rfl⟩)) _ _ _ _ eg hs (hK _ _ rfl (Below.refl _ _))
        · obtain rfl := Option.some.inj ho
          exact st_eqlStr (.tmp 84) (.tmp 87) rfl (want_some rfl rfl rfl (hpre 13 _ 81 rfl rfl ⟨⟨13, .guard⟩, by simp, rfl, rfl⟩)) _ (hpre 16 _ 84 rfl rfl ⟨⟨16, .data⟩, by simp, rfl, rfl⟩) (hpre 19 _ 87 rfl rfl ⟨⟨19, .data⟩, by simp, rfl, rfl⟩) (hK _ _ rfl (Below.refl _ _))
        · obtain rfl := Option.some.inj ho
          exact st_pick (.tmp 81) (.tmp 88) (.const (.bool false)) rfl (want_none rfl) true (hpre 13 _ 81 rfl rfl ⟨⟨13, .data⟩, by simp, rfl, rfl⟩) _ ((if_pos rfl).trans (hpre 20 _ 88 rfl rfl ⟨⟨20, .data⟩, by simp, rfl, rfl⟩)) (hK _ _ rfl (Below.refl _ _))
        · obtain rfl := Option.some.inj ho
          exact st_move (.tmp 89) rfl (want_none rfl) _ (hpre 21 _ 89 rfl rfl ⟨⟨21, .data⟩, by simp, rfl, rfl⟩) (hK _ _ rfl (Below.refl _ _))
        · obtain rfl := Option.some.inj ho
          exact st_move (.tmp 10) rfl (want_some rfl rfl rfl (hpre 22 _ 90 rfl rfl ⟨⟨22, .guard⟩, by simp, rfl, rfl⟩)) _ e10 (hK _ _ rfl (Below.refl _ _))
        · obtain rfl := Option.some.inj ho
          exact st_call1 15 (.tmp 91) 24 rfl (want_some rfl rfl rfl (hpre 22 _ 90 rfl rfl ⟨⟨22, .guard⟩, by simp, rfl, rfl⟩)) _ (hpre 23 _ 91 rfl rfl ⟨⟨23, .data⟩, by simp, rfl, rfl⟩) (cf15 _ _) _ (Size_any gp k N gmp ckp grp w (HKP.out.below hr)) (fun e w' ⟨he, hw⟩ => ⟨_, he, hK _ _ rfl (by rw [← hw]; exact Below.refl _ _)⟩)
        · obtain rfl := Option.some.inj ho
          exact st_move (.tmp 3) rfl (want_some rfl rfl rfl (hpre 22 _ 90 rfl rfl ⟨⟨22, .guard⟩, by simp, rfl, rfl⟩)) _ e3 (hK _ _ rfl (Below.refl _ _))
        · obtain rfl := Option.some.inj ho
          exact st_len (.tmp 93) rfl (want_some rfl rfl rfl (hpre 22 _ 90 rfl rfl ⟨⟨22, .guard⟩, by simp, rfl, rfl⟩)) _ _ _ (hpre 25 _ 93 rfl rfl ⟨⟨25, .data⟩, by simp, rfl, rfl⟩) (hK _ _ rfl (Below.refl _ _))
        · obtain rfl := Option.some.inj ho
          exact st_eqlInt 3 (.tmp 92) (.tmp 94) rfl (want_some rfl rfl rfl (hpre 22 _ 90 rfl rfl ⟨⟨22, .guard⟩, by simp, rfl, rfl⟩)) _ (hpre 24 _ 92 rfl rfl ⟨⟨24, .data⟩, by simp, rfl, rfl⟩) (hpre 26 _ 94 rfl rfl ⟨⟨26, .data⟩, by simp, rfl, rfl⟩) (hK _ _ rfl (Below.refl _ _))
        · obtain rfl := Option.some.inj ho
          exact st_pick (.tmp 90) (.tmp 95) (.const (.bool false)) rfl (want_none rfl) true (hpre 22 _ 90 rfl rfl ⟨⟨22, .data⟩, by simp, rfl, rfl⟩) _ ((if_pos rfl).trans (hpre 27 _ 95 rfl rfl ⟨⟨27, .data⟩, by simp, rfl, rfl⟩)) (hK _ _ rfl (Below.refl _ _))
        · obtain rfl := Option.some.inj ho
          exact st_assign (.tmp 96) rfl (want_none rfl) _ (hpre 28 _ 96 rfl rfl ⟨⟨28, .data⟩, by simp, rfl, rfl⟩) (hK _ _ rfl (Below.refl _ _))
        · cases ho
      case m3 =>
        intro a w hr hk hv
        have h6 := hv 29 _ 2 rfl rfl
        refine hKx a w (wp_ret (bodyPost_ret (results_tmp rfl _ _ _) hk.defers ⟨?_, below_then HBEL.out hr⟩))
        exact congrArg Ending.returned h6

theorem walk (z : Int) (w : World) (_ : (Lit.int .i64 z).wf = true) (ht : YtojpbfkdkkdpcaaDoorSh.Tabs w) :
    Calls Tryd.prog 7 #[.int .i64 z] w fun e w' => e = .returned (.bool true) ∧ Below w.heap.size w w' := by
  by_cases h0 : z < 0
  · exact walk_g0 z w h0
  by_cases h1 : 3 < z
  · exact walk_g1 z w h0 h1
  obtain ⟨y, rfl⟩ : ∃ y : Nat, z = (y : Int) := ⟨z.toNat, by omega⟩
  obtain ⟨k, N, hF⟩ := fixed_of (z := y) (by omega)
  exact walk_main y k N hF w (by omega) ht

-- THE ROW's STEP
set_option maxRecDepth 100000 in
theorem lifted (os : Os) (started : os.Started) (H : Type) (enc : TypeId × Value → H) :
    ReturnsInHanded {} Tryd.checked os 7 .any (fun w args => (Rows.keyOwnSpec.pre enc Tryd.prog Tryd.f7 [] false w args ∧ laidMetH Tryd.prog listed4 w) ∧ sizedMet enc Tryd.prog Tryd.f7 (OpenSpec.ofChange Rows.keyOwnSpec) false w args)
      (Rows.keyOwnSpec.post enc Tryd.prog Tryd.f7 false true false false) := by
  refine returnsInHanded_of_change_and (C := Tryd.checked) (X := fun w _ => laidMetH Tryd.prog listed4 w) (fun _ _ _ hh h => h.of_heap hh) own started (by kernel_rfl) Tryd.func7
    (ChangeSpec.witness_shaped (enc := enc) (C := Tryd.checked) (os := os) (X := fun w _ => laidMetH Tryd.prog listed4 w) false (World.laidAll Tryd.prog os listed4) #[.int .i64 0] 8 (World.laidAll_os _ _ _)
      (World.shaped_of_ZipB (by kernel_rfl) (by kernel_rfl)) (by kernel_rfl) (by kernel_rfl) (by kernel_rfl)
      (by rw [MakeChecks.laidMetH_plain _ _ _ (by kernel_rfl)]; exact laidMet_laidAll _ (by kernel_rfl) (by kernel_rfl))) ?_
  intro W base args ds gs before hval0 hW _ _ hL _
  have hval : ∀ (j : Nat) t v, Tryd.f7.params[j]? = some t → args[j]? = some v → Value.okWide Tryd.prog W .any base t v := hval0
  have hW' := hW
  obtain ⟨p, q, hA0, hV, rfl, hfz, hnd⟩ := hW
  have hA : DataW.TrodAll enc Tryd.prog W 0 (fun _ => true) true Tryd.f7.params.toList args.toList ds p := hA0
  rw [Tryd.params7] at hA hval
  obtain ⟨v0, vs0, d0, ds0, p0, q0, hargs, rfl, rfl, h0, r0⟩ := trodAll_cons hA
  obtain ⟨rfl, rfl, rfl⟩ := trodAll_nil r0
  obtain rfl : args = #[v0] := by cases args; simp_all
  obtain ⟨rfl, rfl⟩ := trodVars_none hV
  obtain ⟨a0, rfl, rfl, rfl, w0⟩ := open_int Tryd.underlying3 (hval 0 3 v0 rfl rfl) h0
  clear hA0 hval0
  refine (walk a0 W w0 (tabs_of_laid hL)).mono fun e W' ⟨he, bel⟩ => ?_
  subst he
  exact ⟨_, rfl, _, _, _, [], _, [], hW', trodAll_mk1 (shut_bool Tryd.underlying4 _), (trodAll_cons_mk (shut_int Tryd.underlying3 w0) trodAll_mk0), rfl, bel.frame _, fun h => by cases h⟩

theorem row_holds : Rows.KeyOwnSaid :=
  OpenClaim.holds_of_wide 7 Tryd.f7 rfl rfl rfl rfl rfl rfl rfl ⟨rfl, rfl, rfl, rfl, rfl⟩ rfl rfl rfl rfl rfl (by kernel_rfl) Tryd.func7 (by kernel_rfl)
    (of_decide_eq_true (by kernel_rfl)) (by unfold Func.isWrapper; first | (rw [if_pos (by decide +kernel)]; kernel_rfl) | (rw [if_neg (by decide +kernel)]; exact ⟨rfl, rfl⟩))
    (fun os started H enc _ => lifted os started H enc)

theorem proved : Rows.KeyOwnCardSaid :=
  Claim7.holds_tied_plain_at .later [] [.data, .data, .data, .pinned] true Rows.keyOwnCard.stood.harness false
    row_holds (fun _ h => by cases h) (by kernel_rfl) (fun _ h => by cases h) keyOwn_row_tie rfl ⟨rfl, rfl⟩ (by kernel_rfl) rfl
    (fun f fn hf hfn => by
      obtain rfl : f = 7 := Option.some.inj ((show Tryd.prog.funcNamed Tryd.f7.name = some 7 by kernel_rfl).symm.trans hf) |>.symm
      obtain rfl : fn = Tryd.f7 := (Option.some.inj (Tryd.func7.symm.trans hfn)).symm
      exact ⟨by kernel_rfl, fun j t ht => by
        rw [Tryd.params7] at ht
        have hm : t ∈ [3] := by simpa using Array.mem_of_getElem? ht
        have hall : ([3].all fun u => !Tryd.prog.wantsStandIn u) = true := by kernel_rfl
        exact (show Tryd.prog.wantsStandIn t = false by simpa using List.all_eq_true.1 hall t hm)⟩)
    (by kernel_rfl)
end Go.Proofs.YtojpbfkdkkdpcaaDoor.keyOwn
