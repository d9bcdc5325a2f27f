/-
  For every two numbers and every text SealLengths returns true. No condition but that six tables hold what their text lays there: the code's own four, which the sums are made with, and two of Go's library, which the call does not read.
-/
import Derived.Test.YtppoikamenbckaaGreatDoorG7
import Derived.Test.YtppoikamenbckaaGreatDoorTie
import Derived.Test.YtppoikamenbckaaGreatDoorCards
namespace Go.Proofs.YtppoikamenbckaaGreatDoor.sealLengths
open Go.Proofs.YtppoikamenbckaaGreatDoor Go.ChangeShapes Go.WideShapes Go.ChangeAt Go.RowKit
set_option linter.unusedVariables false
set_option linter.unusedSimpArgs false

set_option maxRecDepth 100000 in
set_option maxHeartbeats 1000000 in
theorem walk_g0 (y t : Int) (A : Option Addr) (n cap : Nat) (w : World) (ht : Both w) (g0 : y < 0) :
    Calls Tryz.prog 6 #[.int .i64 y, .slice A n cap, .int .i64 t] w fun e w' => e = .returned (.bool true) ∧ Below w.heap.size w w' := by
  have HT := Lib.hid ht
  clear ht
  go_enter Tryz.func6, Tryz.ntmps6
  go_wp2_with fail
  refine (anchor_any w HT.out).mono ?_
  rintro e w1 ⟨rfl, hb1⟩
  go_wp2
  go_ret
  exact ⟨rfl, hb1⟩

set_option maxRecDepth 100000 in
set_option maxHeartbeats 1000000 in
theorem walk_g1 (y t : Int) (A : Option Addr) (n cap : Nat) (w : World) (ht : Both w) (g0 : ¬ y < 0) (g1 : 2 < y) :
    Calls Tryz.prog 6 #[.int .i64 y, .slice A n cap, .int .i64 t] w fun e w' => e = .returned (.bool true) ∧ Below w.heap.size w w' := by
  have HT := Lib.hid ht
  clear ht
  go_enter Tryz.func6, Tryz.ntmps6
  go_wp2_with fail
  refine (anchor_any w HT.out).mono ?_
  rintro e w1 ⟨rfl, hb1⟩
  go_wp2
  go_ret
  exact ⟨rfl, hb1⟩

set_option maxRecDepth 100000 in
set_option maxHeartbeats 1000000 in
theorem walk_g2 (y t : Int) (A : Option Addr) (n cap : Nat) (w : World) (ht : Both w) (g0 : ¬ y < 0) (g1 : ¬ 2 < y) (g2 : (300 : Int) < n) :
    Calls Tryz.prog 6 #[.int .i64 y, .slice A n cap, .int .i64 t] w fun e w' => e = .returned (.bool true) ∧ Below w.heap.size w w' := by
  have HT := Lib.hid ht
  clear ht
  go_enter Tryz.func6, Tryz.ntmps6
  go_wp2_with fail
  refine (anchor_any w HT.out).mono ?_
  rintro e w1 ⟨rfl, hb1⟩
  go_wp2
  go_ret
  exact ⟨rfl, hb1⟩

set_option maxRecDepth 100000 in
set_option maxHeartbeats 1000000 in
theorem walk_g3 (y t : Int) (A : Option Addr) (n cap : Nat) (w : World) (ht : Both w) (g0 : ¬ y < 0) (g1 : ¬ 2 < y) (g2 : ¬ (300 : Int) < n) (g3 : t < 0) :
    Calls Tryz.prog 6 #[.int .i64 y, .slice A n cap, .int .i64 t] w fun e w' => e = .returned (.bool true) ∧ Below w.heap.size w w' := by
  have HT := Lib.hid ht
  clear ht
  go_enter Tryz.func6, Tryz.ntmps6
  go_wp2_with fail
  refine (anchor_any w HT.out).mono ?_
  rintro e w1 ⟨rfl, hb1⟩
  go_wp2
  go_ret
  exact ⟨rfl, hb1⟩

theorem bld_z (w : World) : (Instr.buildSlice 22 1 #[(0, .int .u8 0)]).run Tryz.prog w = .ok (.slice (some ⟨w.heap.size, 0, none⟩) 1 1) (w.alloc (.cells #[.int .u8 0] 5)) := by kernel_rfl
theorem bld_n (w : World) : (Instr.buildSlice 22 0 #[]).run Tryz.prog w = .ok (.slice (some ⟨w.heap.size, 0, none⟩) 0 0) (w.alloc (.cells #[] 5)) := by kernel_rfl
theorem bld_4 (A0 : Option Addr) (n0 c0 : Nat) (A1 : Option Addr) (n1 c1 : Nat) (A2 : Option Addr) (n2 c2 : Nat) (w : World) : (Instr.buildSlice 42 4 #[(0, .slice A0 n0 c0), (1, .slice A1 n1 c1), (2, .slice A2 n2 c2), (3, .slice none 0 0)]).run Tryz.prog w = .ok (.slice (some ⟨w.heap.size, 0, none⟩) 4 4) (w.alloc (.cells #[.slice A0 n0 c0, .slice A1 n1 c1, .slice A2 n2 c2, .slice none 0 0] 22)) := by kernel_rfl
set_option maxRecDepth 100000 in
set_option maxHeartbeats 2000000 in
theorem walk_ok (y k N D t : Nat) (hF : Fixed y k N D) (hy : y ≤ 2) (A : Option Addr) (n cap : Nat) (w : World) (ht : Both w) (h1 : ¬ (300 : Int) < n) (l : List Nat) (h : Rd .u8 w A n l) (hf : Fit 256 l) (hcn : n ≤ cap) :
    Calls Tryz.prog 6 #[.int .i64 (y : Int), .slice A n cap, .int .i64 (t : Int)] w fun e w' => e = .returned (.bool true) ∧ Below w.heap.size w w' := by
  obtain ⟨p, hp⟩ : ∃ p, p = t % k := ⟨_, rfl⟩
  have k1 := hF.k1
  have k2 := hF.k2
  have hpk' : p < k := by rw [hp]; exact Nat.mod_lt _ (by omega)
  have hpk : p ≤ k := by omega
  have r2' : (t : Int).tmod (k : Int) = (p : Int) := by rw [Int.tmod_eq_emod_of_nonneg (by omega), hp, Int.natCast_emod]
  have kz : ¬ k = 0 := by omega
  have HF := Lib.hid hF
  have HR := Lib.hid h
  have y0 : ¬ (y : Int) < 0 := by omega
  have y1 : ¬ (2 : Int) < y := by omega
  have t0 : ¬ (t : Int) < 0 := by omega
  have HP1 : Hid (sizeOfAlg ((1 : Nat) : Int) = 32) := rfl
  clear hF hy h hp
  have HT := Lib.hid ht
  clear ht
  go_enter Tryz.func6, Tryz.ntmps6
  go_wp2_with fail
  refine (anchor_any w HT.out).mono ?_
  rintro e w1 ⟨rfl, hb1⟩
  go_wp2_with fail
  refine (HF.out.mo w1).mono ?_
  rintro e w2 ⟨Am, cm, rfl, hrow2, hb2⟩
  have HM := Lib.hid hrow2.rd
  have hcm := hrow2.le.1
  have hmm := hrow2.le.2
  have bel2 := below_then hb1 hb2
  clear hrow2
  go_wp2_with fail
  refine (HF.out.se w2).mono ?_
  rintro e w3 ⟨Ad, cd, rfl, hrow3, hb3⟩
  have HD := Lib.hid hrow3.rd
  have hcd := hrow3.le.1
  have hmd := hrow3.le.2
  have bel3 := below_then bel2 hb3
  clear hrow3
  go_wp2_with fail
  refine (Sign_ok 1 (.inl rfl) 32 rfl Am k cm _ Ad k cd _ A n cap l w3 (HM.out.below hb3) (bytesOf_fit _ _) hcm hmm HF.out.modul HD.out (bytesOf_fit _ _) hcd hmd (by omega) (HR.out.below bel3) hf hcn (by omega) (HT.out.below bel3) (by omega)).mono ?_
  rw [HF.out.vn, HF.out.vd]
  rintro e w4 ⟨g4, rfl, hg4, hB4, hb4⟩
  have HB4 : Hid (Rd .u8 w4 (some ⟨g4, 0, none⟩) k (bytesOf k (sigOf k N D 1 l))) := hB4.rd k (bytesOf_length _ _)
  clear hB4 hg4
  have bel4 := below_then bel3 hb4
  have HM4 := Lib.hid ((HM.out.below hb3).below hb4)
  clear HM HD hb3 hb2
  go_wp2_with fail
  refine (Make_ok Am k cm _ w4 HM4.out (bytesOf_fit _ _) hcm hmm HF.out.modul).mono ?_
  rintro e w5 ⟨gk, gm, rfl, ⟨ck, gr, hK⟩, hgm, hb5⟩
  rw [HF.out.vn] at hK
  have HK := Lib.hid hK
  have bel5 := below_then bel4 hb5
  clear hK hgm
  have HPP := Lib.hid (parts_one ⟨A, n, cap, l⟩ w5 ⟨HR.out.below bel5, hf, hcn⟩)
  have hba5 := below_alloc1 w5 (.cells #[.slice A n cap] 22)
  have hl5 : (flat [Bt.mk A n cap l]).length ≤ 40000 := by simp [flat, HR.out.1]; omega
  have e5 : [] ++ flat [Bt.mk A n cap l] = l := by simp [flat]
  have belA := below_then bel5 hba5
  go_wp2_with fail
  refine (Digest_ok 1 (.inl rfl) 32 rfl none 0 0 [] _ 1 1 _ _ (Rd.nil _ _ _) (Fit.nil _) (Nat.le_refl _) (by omega) HPP.out (fun e => by cases e) (by omega) hl5 (HT.out.below belA)).mono ?_
  rw [e5]
  rintro e w6 ⟨g6, rfl, hg6, hB6, hb6⟩
  have HR6 := Lib.hid (hB6.rd 32 (sumOf_length1 _))
  have hb56 := below_then hba5 hb6
  have bel6 := below_then bel5 hb56
  clear hB6 hg6 hb6 HPP hba5 hl5 e5 belA
  go_wp2_with fail
  refine (Block_ok 1 (.inl rfl) _ 32 32 _ rfl (Nat.le_refl _) k w6 HR6.out (sumOf_fit _ _) (by omega) (by omega)).mono ?_
  rintro e w7 ⟨g7, rfl, hg7, hR7, hb7⟩
  have HBL := Lib.hid hR7
  have hb57 := below_then hb56 hb7
  have HBEL7 := Lib.hid (below_then bel6 hb7)
  have HSG := Lib.hid ((HB4.out.below hb5).below hb57)
  have HK7 := Lib.hid (HK.out.below hb57)
  have HR7 := Lib.hid (HR.out.below HBEL7.out)
  have HT7 := Lib.hid (HT.out.below HBEL7.out)
  have HFB : Hid (Fit 256 (blockOf 1 (sumOf 1 l) k)) := blockOf_fit (sumOf_fit _ _)
  have HO := Lib.hid ((HF.out.opens (.inl rfl) HP1.out (by omega) l l).2 rfl)
  have HONLY : Hid (∀ ls : List Nat, Fit 256 ls → ls ≠ bytesOf k (sigOf k N D 1 l) → ¬ Opens k N ls (blockOf 1 (sumOf 1 l) k)) := fun ls h1 h2 h3 => h2 (HF.out.only (.inl rfl) HP1.out (by omega) l h1 h3)
  clear hR7 hg7 hb7 hb57 hb56 bel2 bel3 bel4 bel5 bel6 hb1 hb4 hb5 HM4 HB4 HK HR HT HR6 HF
  generalize sigOf k N D 1 l = x at *
  go_wp2
  rename_i hKx
  refine wp_region_each (by kernel_rfl) (by kernel_rfl) (fun iX v w => match iX with
      | 0 => v = .slice (some ⟨g4, 0, none⟩) k k
      | 1 => v = .int .i64 (t : Int)
      | 2 => v = .slice (some ⟨g4, 0, none⟩) k k
      | 3 => v = .int .i64 (k : Int)
      | 4 => v = .int .i64 (p : Int)
      | 5 => v = .slice (some ⟨g4, 0, none⟩) p k
      | 6 => ∃ g, v = .slice (some ⟨g, 0, none⟩) 1 1 ∧ Blk w g 5 (cn .u8 [0])
      | 7 => v = .slice (some ⟨g4, 0, none⟩) k k
      | 8 => ∃ A c, v = .slice A (1 + k) c
      | 9 => ∃ g, v = .slice (some ⟨g, 0, none⟩) 0 0
      | 10 => v = .slice (some ⟨g4, 0, none⟩) k k
      | 11 => ∃ g c, v = .slice (some ⟨g, 0, none⟩) k c ∧ k ≤ c ∧ Blk w g 5 (cn .u8 (bytesOf k x ++ List.replicate (c - k) 0))
      | 12 => ∃ g, v = .slice (some ⟨g, 0, none⟩) 1 1 ∧ Blk w g 5 (cn .u8 [0])
      | 13 => ∃ A c, v = .slice A (k + 1) c
      | 14 => ∃ g A1 c1 A2 c2, v = .slice (some ⟨g, 0, none⟩) 4 4 ∧ Blk w g 22 [.slice (some ⟨g4, 0, none⟩) p k, .slice A1 (1 + k) c1, .slice A2 (k + 1) c2, .slice none 0 0]
      | 15 => v = .int .i64 4
      | 16 => v = .int .i64 0
      | _ => True) (fun u => Below w7.heap.size w7 u) ?m1 (fun _ _ h1 h2 => h1.trans (h2.mono h1.size)) ⟨rfl, rfl, rfl, Nat.le_refl _, fun _ _ => rfl⟩ ?m2 ?m3
  case m1 =>
    intro iX v w w' h hr hb
    rcases iX with _ | _ | _ | _ | _ | _ | _ | _ | _ | _ | _ | _ | _ | _ | _ | _ | _ | iX
    · exact h
    · exact h
    · exact h
    · exact h
    · exact h
    · exact h
    · obtain ⟨g, e, hB⟩ := h; exact ⟨g, e, hB.below hb hB.lt⟩
    · exact h
    · exact h
    · exact h
    · exact h
    · obtain ⟨g, c, e, h1, hB⟩ := h; exact ⟨g, c, e, h1, hB.below hb hB.lt⟩
    · obtain ⟨g, e, hB⟩ := h; exact ⟨g, e, hB.below hb hB.lt⟩
    · exact h
    · obtain ⟨g, A1, c1, A2, c2, e, hB⟩ := h; exact ⟨g, A1, c1, A2, c2, e, hB.below hb hB.lt⟩
    · exact h
    · exact h
    · trivial
  case m2 =>
    intro iX o ho a w hr hk hpre K hK
    have e8 : a.tmps.getD 8 undef = .slice (some ⟨g4, 0, none⟩) k k := hk.slot 8 (by simp)
    have e2 : a.tmps.getD 2 undef = .int .i64 (t : Int) := hk.slot 2 (by simp)
    rcases iX with _ | _ | _ | _ | _ | _ | _ | _ | _ | _ | _ | _ | _ | _ | _ | _ | _ | iX
    · obtain rfl := Option.some.inj ho
      exact st_move (.tmp 8) rfl (want_none rfl) _ e8 (hK _ _ rfl (Below.refl _ _))
    · obtain rfl := Option.some.inj ho
      exact st_move (.tmp 2) rfl (want_none rfl) _ e2 (hK _ _ rfl (Below.refl _ _))
    · obtain rfl := Option.some.inj ho
      exact st_move (.tmp 8) rfl (want_none rfl) _ e8 (hK _ _ rfl (Below.refl _ _))
    · obtain rfl := Option.some.inj ho
      exact st_len (.tmp 71) rfl (want_none rfl) _ _ _ (hpre 2 _ 71 rfl rfl ⟨⟨2, .data⟩, by simp, rfl, rfl⟩) (hK _ _ rfl (Below.refl _ _))
    · obtain rfl := Option.some.inj ho
      exact st_rem (.tmp 70) (.tmp 72) rfl (want_none rfl) t k p kz r2' (hpre 1 _ 70 rfl rfl ⟨⟨1, .data⟩, by simp, rfl, rfl⟩) (hpre 3 _ 72 rfl rfl ⟨⟨3, .data⟩, by simp, rfl, rfl⟩) (hK _ _ rfl (Below.refl _ _))
    · obtain rfl := Option.some.inj ho
      exact st_sliceTo (.tmp 69) (.tmp 73) rfl (want_none rfl) g4 k k p hpk (hpre 0 _ 69 rfl rfl ⟨⟨0, .data⟩, by simp, rfl, rfl⟩) (hpre 4 _ 73 rfl rfl ⟨⟨4, .data⟩, by simp, rfl, rfl⟩) (hK _ _ rfl (Below.refl _ _))
    · obtain rfl := Option.some.inj ho
      exact st_buildN 22 1 #[(0, .const (.int .u8 0))] rfl (want_none rfl) #[(0, .int .u8 0)] (by simp [Act.eval]) _ _ (bld_z w) (hK _ _ ⟨w.heap.size, rfl, Blk.new w 5 (cn .u8 [0])⟩ (below_alloc1 w _))
    · obtain rfl := Option.some.inj ho
      exact st_move (.tmp 8) rfl (want_none rfl) _ e8 (hK _ _ rfl (Below.refl _ _))
    · obtain rfl := Option.some.inj ho
      obtain ⟨g, eg, hB⟩ := (hpre 6 _ 75 rfl rfl ⟨⟨6, .data⟩, by simp, rfl, rfl⟩)
      obtain ⟨c', w', hrun, hc', hBk, hbw⟩ := run_grow 22 w ⟨g, 0, none⟩ 1 1 [0] rfl (fun j x hj => by rw [addr_add, Nat.zero_add, hB.cell]; exact cn_get hj) ⟨g4, 0, none⟩ k k _ (HSG.out.below hr) (by omega) (by omega) (by omega)
      exact st_app (.tmp 75) (.tmp 76) #[22, 22] rfl (want_none rfl) _ _ eg (hpre 7 _ 76 rfl rfl ⟨⟨7, .data⟩, by simp, rfl, rfl⟩) _ _ hrun (hK _ _ ⟨_, c', rfl⟩ hbw)
    · obtain rfl := Option.some.inj ho
      exact st_buildN 22 0 #[] rfl (want_none rfl) #[] (by simp) _ _ (bld_n w) (hK _ _ ⟨w.heap.size, rfl⟩ (below_alloc1 w _))
    · obtain rfl := Option.some.inj ho
      exact st_move (.tmp 8) rfl (want_none rfl) _ e8 (hK _ _ rfl (Below.refl _ _))
    · obtain rfl := Option.some.inj ho
      obtain ⟨g, eg⟩ := (hpre 9 _ 78 rfl rfl ⟨⟨9, .data⟩, by simp, rfl, rfl⟩)
      obtain ⟨c', w', hrun, hc', hBk, hbw⟩ := run_grow 22 w ⟨g, 0, none⟩ 0 0 [] rfl (fun j x hj => by simp at hj) ⟨g4, 0, none⟩ k k _ (HSG.out.below hr) (by omega) (by omega) (by omega)
      rw [Nat.zero_add] at hrun hc' hBk
      rw [List.nil_append] at hBk
      exact st_app (.tmp 78) (.tmp 79) #[22, 22] rfl (want_none rfl) _ _ eg (hpre 10 _ 79 rfl rfl ⟨⟨10, .data⟩, by simp, rfl, rfl⟩) _ _ hrun (hK _ _ ⟨_, c', rfl, hc', hBk⟩ hbw)
    · obtain rfl := Option.some.inj ho
      exact st_buildN 22 1 #[(0, .const (.int .u8 0))] rfl (want_none rfl) #[(0, .int .u8 0)] (by simp [Act.eval]) _ _ (bld_z w) (hK _ _ ⟨w.heap.size, rfl, Blk.new w 5 (cn .u8 [0])⟩ (below_alloc1 w _))
    · obtain rfl := Option.some.inj ho
      obtain ⟨g, c, eg, hkc, hB⟩ := (hpre 11 _ 80 rfl rfl ⟨⟨11, .data⟩, by simp, rfl, rfl⟩)
      obtain ⟨g', eg', hB'⟩ := (hpre 12 _ 81 rfl rfl ⟨⟨12, .data⟩, by simp, rfl, rfl⟩)
      by_cases hck : c = k
      · obtain ⟨c', w', hrun, hc', hBk, hbw⟩ := run_grow 22 w ⟨g, 0, none⟩ k c _ (bytesOf_length k x) (fun j y hj => by rw [addr_add, Nat.zero_add, hB.cell]; exact cn_get (by rw [List.getElem?_append_left (List.getElem?_eq_some_iff.1 hj).1]; exact hj)) ⟨g', 0, none⟩ 1 1 [0] (hB'.rd 1 rfl) (by omega) (by omega) (by omega)
        exact st_app (.tmp 80) (.tmp 81) #[22, 22] rfl (want_none rfl) _ _ eg eg' _ _ hrun (hK _ _ ⟨_, c', rfl⟩ hbw)
      · obtain ⟨m, rfl⟩ : ∃ m, c = k + (m + 1) := ⟨c - k - 1, by omega⟩
        rw [show k + (m + 1) - k = m + 1 by omega] at hB
        obtain ⟨w', hrun, hbw⟩ := run_nought 22 w g k m _ (bytesOf_length k x) hB ⟨g', 0, none⟩ 1 (hB'.cell 0)
        exact st_app (.tmp 80) (.tmp 81) #[22, 22] rfl (want_none rfl) _ _ eg eg' _ _ hrun (hK _ _ ⟨_, _, rfl⟩ hbw)
    · obtain rfl := Option.some.inj ho
      obtain ⟨A1, c1, e1⟩ := (hpre 8 _ 77 rfl rfl ⟨⟨8, .data⟩, by simp, rfl, rfl⟩)
      obtain ⟨A2, c2, e2⟩ := (hpre 13 _ 82 rfl rfl ⟨⟨13, .data⟩, by simp, rfl, rfl⟩)
      have e0 := (hpre 5 _ 74 rfl rfl ⟨⟨5, .data⟩, by simp, rfl, rfl⟩)
      have f0 : a.eval (.tmp 74) = _ := e0
      have f1 : a.eval (.tmp 77) = _ := e1
      have f2 : a.eval (.tmp 82) = _ := e2
      exact st_buildN 42 4 #[(0, .tmp 74), (1, .tmp 77), (2, .tmp 82), (3, .const (.slice none 0 0))] rfl (want_none rfl) #[(0, .slice (some ⟨g4, 0, none⟩) p k), (1, .slice A1 (1 + k) c1), (2, .slice A2 (k + 1) c2), (3, .slice none 0 0)] (by simp [f0, f1, f2]; rfl) _ _ (bld_4 _ _ _ _ _ _ _ _ _ w) (hK _ _ ⟨w.heap.size, A1, c1, A2, c2, rfl, Blk.new w 22 [.slice (some ⟨g4, 0, none⟩) p k, .slice A1 (1 + k) c1, .slice A2 (k + 1) c2, .slice none 0 0]⟩ (below_alloc1 w _))
    · obtain rfl := Option.some.inj ho
      obtain ⟨g, A1, c1, A2, c2, eg, _⟩ := (hpre 14 _ 83 rfl rfl ⟨⟨14, .data⟩, by simp, rfl, rfl⟩)
      exact st_len42 (.tmp 83) rfl (want_none rfl) _ _ _ eg (hK _ _ rfl (Below.refl _ _))
    · obtain rfl := Option.some.inj ho
      exact st_move (.const (.int .i64 0)) rfl (want_none rfl) _ rfl (hK _ _ rfl (Below.refl _ _))
    · cases ho
  case m3 =>
    intro a w hr hk hv
    obtain ⟨g83, A1, c1, A2, c2, h83, hB83⟩ := hv 14 _ 83 rfl rfl
    have h84 := hv 15 _ 84 rfl rfl
    have h85 := hv 16 _ 85 rfl rfl
    have hfr := keeps_frameP (fun s => decide (69 ≤ s ∧ s ≤ 85)) hk (by simp)
    refine hKx a w ?_
    rw [hfr]
    generalize hff : (fun s => a.tmps.getD s undef) = ff
    have hf83 : ff 83 = .slice (some ⟨g83, 0, none⟩) 4 4 := by rw [← hff]; exact h83
    have hf84 : ff 84 = .int .i64 4 := by rw [← hff]; exact h84
    have hf85 : ff 85 = .int .i64 0 := by rw [← hff]; exact h85
    simp only [mixP, hf83, hf84, hf85, decide_eq_true_eq, Nat.reduceAdd, Nat.reduceLeDiff, Nat.reduceEqDiff, false_or, true_or, or_false, or_true, and_true, and_false, true_and, false_and, and_self, if_true, if_false, Nat.zero_le]
    have HB83 := Lib.hid hB83
    have hb8 := hr
    have bel8 := below_then HBEL7.out hb8
    clear hfr hff h83 h84 h85 hf83 hf84 hf85 hv hk hr hKx hB83
    have HKE := Lib.hid (HK7.out.below hb8)
    have HRE := Lib.hid (HR7.out.below hb8)
    have HTE := Lib.hid (HT7.out.below hb8)
    have HSE := Lib.hid (HSG.out.below hb8)
    have HBLE := Lib.hid (HBL.out.below hb8)
    clear HK7 HR7 HT7 HSG HBL hb8
    go_wp2
    go_loopw [85] (fun o wr => ∃ j : Nat, j ≤ 4 ∧ o = .int .i64 (j : Int) ∧ Below w.heap.size w wr) (fun o _ => 4 - (intOf o).toNat)
    case atStart => exact ⟨0, by omega, rfl, Below.refl _ _⟩
    case round =>
      obtain ⟨j, hj, rfl, hbr⟩ := hrel
      by_cases hj4 : j < 4
      · have hcell : ∃ A n c, wr.cell? ⟨g83, j, none⟩ = some (.slice A n c) ∧ n ≠ k := by
          have hB := HB83.out.below hbr HB83.out.lt
          rcases (by omega : j = 0 ∨ j = 1 ∨ j = 2 ∨ j = 3) with rfl | rfl | rfl | rfl
          · exact ⟨_, _, _, hB.cell 0, by omega⟩
          · exact ⟨_, _, _, hB.cell 1, by omega⟩
          · exact ⟨_, _, _, hB.cell 2, by omega⟩
          · exact ⟨_, _, _, hB.cell 3, by omega⟩
        obtain ⟨Aj, nj, cj, hcj, hnj⟩ := hcell
        have HNJ := Lib.hid hnj
        have hjz : (j : Int) < 4 := by omega
        clear hnj
        go_wp2_with fail
        refine (Verify_size 1 (.inl rfl) 32 rfl gk k N gm ck gr A n cap l Aj nj cj wr (HKE.out.below hbr) (HRE.out.below hbr) hf hcn (by omega) HNJ.out (HTE.out.below hbr) (by omega)).mono ?_
        rintro e w9 ⟨rfl, hb9⟩
        have hb10 := hbr.trans (hb9.mono hbr.size)
        clear hcj
        go_wp2
        go_roundw
        case rel => exact ⟨j + 1, by omega, by go_num, hb10⟩
        case measure => simp [intOf]; omega
      · obtain rfl : j = 4 := by omega
        have belr := below_then bel8 hbr
        go_wp2_with fail
        refine (Verify_any 1 (.inl rfl) 32 rfl gk k N gm ck gr A n cap l _ k k _ wr (HKE.out.below hbr) (HRE.out.below hbr) hf hcn (by omega) (HSE.out.below hbr) (bytesOf_fit _ _) (Nat.le_refl _) (by unfold maxLen; omega) (HTE.out.below hbr) (by omega) 0 (.inl ⟨rfl, HO.out⟩)).mono ?_
        rintro e w9 ⟨rfl, hb9⟩
        have hb10 := hbr.trans (hb9.mono hbr.size)
        have bel9 := below_then belr hb9
        have hc1 := rd_str (HBLE.out.below hb10) k
        have hc2 := rd_str (HSE.out.below hb10) k
        by_cases heq : blockOf 1 (sumOf 1 l) k = bytesOf k x
        · rw [heq] at hc1
          generalize str (bytesOf k x) = S at *
          clear heq
          go_wp2
          go_ret
          exact ⟨rfl, bel9⟩
        · have e1 := str_same HFB.out (bytesOf_fit k x)
          rw [decide_eq_false heq] at e1
          have HNO := Lib.hid (HONLY.out _ HFB.out heq)
          have HBL9 := Lib.hid (HBLE.out.below hb10)
          generalize str (blockOf 1 (sumOf 1 l) k) = S1 at *
          generalize str (bytesOf k x) = S2 at *
          clear heq
          go_wp2_with fail
          refine (Verify_any 1 (.inl rfl) 32 rfl gk k N gm ck gr A n cap l _ k k _ w9 (HKE.out.below hb10) (HRE.out.below hb10) hf hcn (by omega) HBL9.out HFB.out (Nat.le_refl _) (by unfold maxLen; omega) (HTE.out.below hb10) (by omega) 23 (.inr ⟨rfl, HNO.out⟩)).mono ?_
          rintro e w11 ⟨rfl, hb11⟩
          have bel11 := below_then bel9 hb11
          go_wp2
          go_ret
          exact ⟨rfl, bel11⟩

theorem walk (y : Int) (A : Option Addr) (n cap : Nat) (l : List Nat) (t : Int) (w : World) (_ : (Lit.int .i64 y).wf = true) (h : Rd .u8 w A n l) (hf : Fit 256 l) (hcn : n ≤ cap) (hmn : cap ≤ maxLen) (hnil : A = none → cap = 0) (_ : (Lit.int .i64 t).wf = true) (ht : Both w) :
    Calls Tryz.prog 6 #[.int .i64 y, .slice A n cap, .int .i64 t] w fun e w' => e = .returned (.bool true) ∧ Below w.heap.size w w' := by
  by_cases g0 : y < 0
  · exact walk_g0 y t A n cap w ht g0
  by_cases g1 : 2 < y
  · exact walk_g1 y t A n cap w ht g0 g1
  by_cases g2 : 300 < n
  · exact walk_g2 y t A n cap w ht g0 g1 (by omega)
  by_cases g3 : t < 0
  · exact walk_g3 y t A n cap w ht g0 g1 (by omega) g3
  obtain ⟨x, rfl⟩ : ∃ x : Nat, y = (x : Int) := ⟨y.toNat, by omega⟩
  obtain ⟨u, rfl⟩ : ∃ u : Nat, t = (u : Int) := ⟨t.toNat, by omega⟩
  obtain ⟨k, N, D, hF⟩ := fixed_of (z := x) (by omega)
  exact walk_ok x k N D u hF (by omega) A n cap w ht (by omega) l h hf hcn

-- THE ROW's STEP
set_option maxRecDepth 100000 in
theorem lifted (os : Os) (started : os.Started) (H : Type) (enc : TypeId × Value → H) :
    ReturnsInHanded {} Tryz.checked os 6 .any (fun w args => (Rows.sealLengthsSpec.pre enc Tryz.prog Tryz.f6 [] false w args ∧ laidMetH Tryz.prog listed w) ∧ sizedMet enc Tryz.prog Tryz.f6 (OpenSpec.ofChange Rows.sealLengthsSpec) false w args)
      (Rows.sealLengthsSpec.post enc Tryz.prog Tryz.f6 false true false false) := by
  refine returnsInHanded_of_change_and (C := Tryz.checked) (X := fun w _ => laidMetH Tryz.prog listed w) (fun _ _ _ hh h => h.of_heap hh) own started (by kernel_rfl) Tryz.func6
    (ChangeSpec.witness_shaped (enc := enc) (C := Tryz.checked) (os := os) (X := fun w _ => laidMetH Tryz.prog listed w) false (World.laidAll Tryz.prog os listed) #[.int .i64 0, .slice none 0 0, .int .i64 0] 8 (World.laidAll_os _ _ _)
      (World.shaped_of_ZipB (by kernel_rfl) (by kernel_rfl)) (by kernel_rfl) (by kernel_rfl) (by kernel_rfl)
      (by rw [MakeChecks.laidMetH_plain _ _ _ (by kernel_rfl)]; exact laidMet_laidAll _ (by kernel_rfl) (by kernel_rfl))) ?_
  intro W base args ds gs before hval0 hW _ _ hL _
  have hval : ∀ (j : Nat) t v, Tryz.f6.params[j]? = some t → args[j]? = some v → Value.okWide Tryz.prog W .any base t v := hval0
  have hW' := hW
  obtain ⟨p, q, hA0, hV, rfl, hfz, hnd⟩ := hW
  have hA : DataW.TrodAll enc Tryz.prog W 0 (fun _ => true) true Tryz.f6.params.toList args.toList ds p := hA0
  rw [Tryz.params6] at hA hval
  obtain ⟨v0, vs0, d0, ds0, p0, q0, hargs, rfl, rfl, h0, r0⟩ := trodAll_cons hA
  obtain ⟨v1, vs1, d1, ds1, p1, q1, rfl, rfl, rfl, h1, r1⟩ := trodAll_cons r0
  obtain ⟨v2, vs2, d2, ds2, p2, q2, rfl, rfl, rfl, h2, r2⟩ := trodAll_cons r1
  obtain ⟨rfl, rfl, rfl⟩ := trodAll_nil r2
  obtain rfl : args = #[v0, v1, v2] := by cases args; simp_all
  obtain ⟨rfl, rfl⟩ := trodVars_none hV
  obtain ⟨a0, rfl, rfl, rfl, w0⟩ := open_int Tryz.underlying3 (hval 0 3 v0 rfl rfl) h0
  have k1 := h1
  have lt1 : ∀ x ∈ p1, x.block < W.heap.size := by obtain ⟨m, hm⟩ := k1; exact DataW.trod_lt m _ _ _ hm
  obtain ⟨fuel1, hf1⟩ := h1
  obtain ⟨a1, len1, cap1, l1, e1, g1, hlc1, hcm1, hnil1⟩ := bytes_of_trod hf1
  obtain ⟨b1, lb1, cb1, hv1⟩ := okWide_slice Tryz.underlying22 (hval 1 22 v1 rfl rfl)
  have ev1 : v1 = .slice a1 len1 cap1 := by rw [hv1] at e1 ⊢; simpa [Value.cells] using e1
  subst ev1
  obtain ⟨a2, rfl, rfl, rfl, w2⟩ := open_int Tryz.underlying3 (hval 2 3 v2 rfl rfl) h2
  clear hA0 hval0
  refine (walk a0 a1 len1 cap1 l1 a2 W w0 g1.1 g1.2 hlc1 hcm1 hnil1 w2 (tabs_of_laid hL)).mono fun e W' ⟨he, bel⟩ => ?_
  subst he
  exact ⟨_, rfl, _, _, _, [], _, [], hW', trodAll_mk1 (shut_bool Tryz.underlying4 _), (trodAll_cons_mk (shut_int Tryz.underlying3 w0) (trodAll_cons_mk (Below.trod laidOut (by kernel_rfl) (of_decide_eq_true (by kernel_rfl)) k1 bel lt1) (trodAll_cons_mk (shut_int Tryz.underlying3 w2) trodAll_mk0))), rfl, bel.frame _, fun h => by cases h⟩

theorem row_holds : Rows.SealLengthsSaid :=
  OpenClaim.holds_of_wide 6 Tryz.f6 rfl rfl rfl rfl rfl rfl rfl ⟨rfl, rfl, rfl, rfl, rfl⟩ rfl rfl rfl rfl rfl (by kernel_rfl) Tryz.func6 (by kernel_rfl)
    (of_decide_eq_true (by kernel_rfl)) (by unfold Func.isWrapper; first | (rw [if_pos (by decide +kernel)]; kernel_rfl) | (rw [if_neg (by decide +kernel)]; exact ⟨rfl, rfl⟩))
    (fun os started H enc _ => lifted os started H enc)

theorem proved : Rows.SealLengthsCardSaid :=
  Claim7.holds_tied_plain_at .later [] [.data, .data, .data, .data, .data, .pinned] true Rows.sealLengthsCard.stood.harness false
    row_holds (fun _ h => by cases h) (by kernel_rfl) (fun _ h => by cases h) sealLengths_row_tie rfl ⟨rfl, rfl⟩ (by kernel_rfl) rfl
    (fun f fn hf hfn => by
      obtain rfl : f = 6 := Option.some.inj ((show Tryz.prog.funcNamed Tryz.f6.name = some 6 by kernel_rfl).symm.trans hf) |>.symm
      obtain rfl : fn = Tryz.f6 := (Option.some.inj (Tryz.func6.symm.trans hfn)).symm
      exact ⟨by kernel_rfl, fun j t ht => by
        rw [Tryz.params6] at ht
        have hm : t ∈ [3, 22, 3] := by simpa using Array.mem_of_getElem? ht
        have hall : ([3, 22, 3].all fun u => !Tryz.prog.wantsStandIn u) = true := by kernel_rfl
        exact (show Tryz.prog.wantsStandIn t = false by simpa using List.all_eq_true.1 hall t hm)⟩)
    (by kernel_rfl)
end Go.Proofs.YtppoikamenbckaaGreatDoor.sealLengths
