/-
  What textBlock and Sign of package seal answer. What Verify of package seal answers. What holds and Check of package blob answer. No condition but that the sums' tables hold what their text lays there, and that bytes are bytes. What Make of package blob answers where no blob is made, or one that isn't signed. No condition but that texts are bytes that fit.
-/
import Derived.Test.YtlcoebenkhafcaaGreatDoorZ29
import Derived.Test.YtlcoebenkhafcaaGreatDoorZ24
namespace Go.Proofs.YtlcoebenkhafcaaGreatDoor
open Go.RowKit
set_option linter.unusedVariables false
set_option linter.unusedSimpArgs false
set_option maxRecDepth 100000
theorem parts_one (p : Bt) (w : World) (h : Rd .u8 w p.A p.n p.l ∧ Fit 256 p.l ∧ p.n ≤ p.cap) : PartsR (w.alloc (.cells #[.slice p.A p.n p.cap] 25)) (some ⟨w.heap.size, 0, none⟩) 1 [p] := by
  have hbl : Blk (w.alloc (.cells #[.slice p.A p.n p.cap] 25)) w.heap.size 25 (cells_ [p]) := Blk.new w 25 (cells_ [p])
  have hb1 : Below w.heap.size w (w.alloc (.cells #[.slice p.A p.n p.cap] 25)) := (Below.refl _ _).alloc (Nat.le_refl _) _
  refine ⟨rfl, fun _ => ⟨_, rfl, hbl.lt, fun j q hj => ?_⟩, fun q hq => ?_⟩
  · rw [addr_add, Nat.zero_add, hbl.cell, cells_, List.getElem?_map, hj]
    rfl
  · rw [List.mem_singleton.1 hq]
    exact ⟨h.1.below hb1, h.2⟩
set_option maxHeartbeats 1000000 in
theorem TB_bits (z : Nat) (hz : z = 1 ∨ z = 2) (s : Nat) (hs : sizeOfAlg z = s) (A : Option Addr) (n cap : Nat) (l : List Nat) (sz : Int) (w : World) (hr : Rd .u8 w A n l) (hf : Fit 256 l) (hc : n ≤ cap) (hn : n ≤ 60000) (ht : Both w) (hs1 : -9223372036854775808 ≤ sz) (hs2 : sz ≤ 9223372036854775807) (h : 512 < sz ∨ sz < 30 + s) :
    Calls Tryz.prog 105 #[.int .i64 (z : Int), .slice A n cap, .int .i64 sz] w (NoBs w 21) := by
  have HP := Lib.hid (parts_one ⟨A, n, cap, l⟩ w ⟨hr, hf, hc⟩)
  have hb1 : Below w.heap.size w (w.alloc (.cells #[.slice A n cap] 25)) := (Below.refl _ _).alloc (Nat.le_refl _) _
  have HT := Lib.hid (ht.below hb1)
  have HB1 := Lib.hid hb1
  have HL : Hid ((flat [Bt.mk A n cap l]).length ≤ 60000) := by show _ ≤ _; simp [flat, hr.1]; omega
  have HZ := Lib.hid hz
  have HS := Lib.hid hs
  have HH := Lib.hid h
  clear hr hf ht hb1 hz hs h
  go_enter Tryz.func105, Tryz.ntmps105
  go_wp2_with fail
  refine (Digest_ok z HZ.out s HS.out none 0 0 [] _ 1 1 _ _ (Rd.nil _ _ _) (Fit.nil _) (Nat.le_refl _) (by omega) HP.out (fun e => by cases e) (by omega) HL.out HT.out).mono ?_
  rintro e w2 ⟨g2, rfl, hg2, hB2, hb2⟩
  have bel2 := below_then HB1.out hb2
  clear hB2
  go_wp2_with fail
  refine (Block_bits z HZ.out _ s s HS.out sz hs1 hs2 HH.out w2).mono ?_
  rintro e w3 ⟨rfl, hb3⟩
  have bel3 := below_then bel2 hb3
  go_wp2
  go_ret2
  exact ⟨rfl, bel3⟩
set_option maxHeartbeats 1000000 in
theorem TB_ok (z : Nat) (hz : z = 1 ∨ z = 2) (s : Nat) (hs : sizeOfAlg z = s) (A : Option Addr) (n cap : Nat) (l : List Nat) (sz : Nat) (w : World) (hr : Rd .u8 w A n l) (hf : Fit 256 l) (hc : n ≤ cap) (hn : n ≤ 60000) (ht : Both w) (h1 : 30 + s ≤ sz) (h2 : sz ≤ 512) :
    Calls Tryz.prog 105 #[.int .i64 (z : Int), .slice A n cap, .int .i64 (sz : Int)] w (GivesOwnT w sz (blockOf z (sumOf z l) sz)) := by
  have HP := Lib.hid (parts_one ⟨A, n, cap, l⟩ w ⟨hr, hf, hc⟩)
  have hb1 : Below w.heap.size w (w.alloc (.cells #[.slice A n cap] 25)) := (Below.refl _ _).alloc (Nat.le_refl _) _
  have HT := Lib.hid (ht.below hb1)
  have HB1 := Lib.hid hb1
  have HL : Hid ((flat [Bt.mk A n cap l]).length ≤ 60000) := by show _ ≤ _; simp [flat, hr.1]; omega
  have HE : Hid ([] ++ flat [Bt.mk A n cap l] = l) := by show _ = _; simp [flat]
  have HZ := Lib.hid hz
  have HS := Lib.hid hs
  have HSL := Lib.hid ((sizeAlg hz l).trans hs)
  clear hr hf ht hb1 hz hs
  go_enter Tryz.func105, Tryz.ntmps105
  go_wp2_with fail
  refine (Digest_ok z HZ.out s HS.out none 0 0 [] _ 1 1 _ _ (Rd.nil _ _ _) (Fit.nil _) (Nat.le_refl _) (by omega) HP.out (fun e => by cases e) (by omega) HL.out HT.out).mono ?_
  rw [HE.out]
  rintro e w2 ⟨g2, rfl, hg2, hB2, hb2⟩
  have HR2 := Lib.hid (hB2.rd s HSL.out)
  have bel2 := below_then HB1.out hb2
  have hgs := Nat.le_trans HB1.out.size hg2
  clear hB2 hg2
  go_wp2_with fail
  refine (Block_ok z HZ.out _ s s _ HS.out (Nat.le_refl _) sz w2 HR2.out (sumOf_fit _ _) h1 h2).mono ?_
  rintro e w3 ⟨g3, rfl, hg3, hR3, hb3⟩
  have HR3 := Lib.hid hR3
  have bel3 := below_then bel2 hb3
  have hg4 := Nat.le_trans bel2.size hg3
  clear hR3 hg3
  go_wp2
  go_ret2
  exact ⟨g3, rfl, hg4, HR3.out, bel3⟩
set_option maxHeartbeats 1000000 in
theorem Sign_bits (z : Nat) (hz : z = 1 ∨ z = 2) (s : Nat) (hs : sizeOfAlg z = s) (Am : Option Addr) (k cm : Nat) (lm : List Nat) (As : Option Addr) (ns cs : Nat) (A : Option Addr) (n cap : Nat) (l : List Nat) (w : World)
    (hm : Rd .u8 w Am k lm) (hfm : Fit 256 lm) (hcm : k ≤ cm) (hmm : cm ≤ maxLen) (hM : Modul k lm) (hr : Rd .u8 w A n l) (hf : Fit 256 l) (hc : n ≤ cap) (hn : n ≤ 60000) (ht : Both w) (h : k < 30 + s) :
    Calls Tryz.prog 64 #[.slice Am k cm, .slice As ns cs, .int .i64 (z : Int), .slice A n cap] w (NoBs w 21) := by
  have hs2 : s = 32 ∨ s = 64 := by have := sizeAlg_cases hz; omega
  have d0 : ((s : Int) == 0) = false := by simp; omega
  have HZ := Lib.hid hz
  have HS := Lib.hid hs
  have HMD := Lib.hid hM
  have HMR := Lib.hid hm
  have HR := Lib.hid hr
  have HT := Lib.hid ht
  clear hz hs hM hm hr ht
  go_enter Tryz.func64, Tryz.ntmps64
  go_wp2_with fail
  refine (Size7_any z w).mono ?_
  rintro e w1 ⟨rfl, rfl⟩
  rw [HS.out]
  go_wp2_with fail
  refine (Make_ok Am k cm _ w HMR.out hfm hcm hmm HMD.out).mono ?_
  rintro e w2 ⟨gk, gm, rfl, ⟨ck, gr, hK⟩, hgm, hb2⟩
  have HK := Lib.hid hK
  have k2 := hK.k2
  clear hK hgm
  go_wp2_with fail
  refine (Size_any gk k _ gm ck gr w2 HK.out).mono ?_
  rintro e w3 ⟨rfl, rfl⟩
  go_wp2_with fail
  refine (TB_bits z HZ.out s HS.out A n cap l (k : Int) w2 (HR.out.below hb2) hf hc hn (HT.out.below hb2) (by omega) (by omega) (.inr (by omega))).mono ?_
  rintro e w4 ⟨rfl, hb4⟩
  have bel4 := below_then hb2 hb4
  go_wp2
  go_ret2
  exact ⟨rfl, bel4⟩
set_option maxHeartbeats 1000000 in
theorem Sign_ok (z : Nat) (hz : z = 1 ∨ z = 2) (s : Nat) (hs : sizeOfAlg z = s) (Am : Option Addr) (k cm : Nat) (lm : List Nat) (As : Option Addr) (ns cs : Nat) (ls : List Nat) (A : Option Addr) (n cap : Nat) (l : List Nat) (w : World)
    (hm : Rd .u8 w Am k lm) (hfm : Fit 256 lm) (hcm : k ≤ cm) (hmm : cm ≤ maxLen) (hM : Modul k lm) (hrs : Rd .u8 w As ns ls) (hfs : Fit 256 ls) (hnc : ns ≤ cs) (hcs : cs ≤ maxLen) (hns : ns ≤ 1024) (hr : Rd .u8 w A n l) (hf : Fit 256 l) (hc : n ≤ cap) (hn : n ≤ 60000) (ht : Both w) (h : 30 + s ≤ k) :
    Calls Tryz.prog 64 #[.slice Am k cm, .slice As ns cs, .int .i64 (z : Int), .slice A n cap] w (GivesSig w k (vbe (blockOf z (sumOf z l) k) ^ vbe ls % vbe lm)) := by
  have hs2 : s = 32 ∨ s = 64 := by have := sizeAlg_cases hz; omega
  have d0 : ((s : Int) == 0) = false := by simp; omega
  have HZ := Lib.hid hz
  have HS := Lib.hid hs
  have HMD := Lib.hid hM
  have HMR := Lib.hid hm
  have HR := Lib.hid hr
  have HSR := Lib.hid hrs
  have HT := Lib.hid ht
  have HLT : Hid (vbe (blockOf z (sumOf z l) k) < vbe lm) := block_below hM hm.1 (sumOf_fit _ _) (by rw [sizeAlg hz, hs]; omega)
  have HFB : Hid (Fit 256 (blockOf z (sumOf z l) k)) := blockOf_fit (sumOf_fit _ _)
  have hk5 := hM.2.1
  clear hz hs hM hm hr ht hrs
  go_enter Tryz.func64, Tryz.ntmps64
  go_wp2_with fail
  refine (Size7_any z w).mono ?_
  rintro e w1 ⟨rfl, rfl⟩
  rw [HS.out]
  go_wp2_with fail
  refine (Make_ok Am k cm _ w HMR.out hfm hcm hmm HMD.out).mono ?_
  rintro e w2 ⟨gk, gm, rfl, ⟨ck, gr, hK⟩, hgm, hb2⟩
  have HK := Lib.hid hK
  clear hK hgm
  go_wp2_with fail
  refine (Size_any gk k _ gm ck gr w2 HK.out).mono ?_
  rintro e w3 ⟨rfl, rfl⟩
  go_wp2_with fail
  refine (TB_ok z HZ.out s HS.out A n cap l k w2 (HR.out.below hb2) hf hc hn (HT.out.below hb2) h hk5).mono ?_
  rintro e w4 ⟨g4, rfl, hg4, hR4, hb4⟩
  have HR4 := Lib.hid hR4
  have bel4 := below_then hb2 hb4
  clear hR4 hg4
  go_wp2_with fail
  refine (Close_yes Am k cm _ As ns cs _ _ k _ w4 (HMR.out.below bel4) hfm hcm hmm HMD.out HR4.out HFB.out (Nat.le_refl _) (by unfold maxLen; omega) HLT.out (HSR.out.below bel4) hfs hnc hcs hns).mono ?_
  generalize vbe (blockOf z (sumOf z l) k) ^ vbe ls % vbe lm = x at *
  rintro e w5 ⟨g5, rfl, hg5, hB5, hb5⟩
  have HB5 := Lib.hid hB5
  have bel5 := below_then bel4 hb5
  have hg6 := Nat.le_trans bel4.size hg5
  clear hB5 hg5
  go_wp2
  go_ret2
  exact ⟨g5, rfl, hg6, HB5.out, bel5⟩
end Go.Proofs.YtlcoebenkhafcaaGreatDoor
namespace Go.Proofs.YtlcoebenkhafcaaGreatDoor
open Go.RowKit
set_option linter.unusedVariables false
set_option linter.unusedSimpArgs false
set_option maxRecDepth 100000
def Tells (w : World) (er : Int) (e : Ending) (w' : World) : Prop := e = .returned (.int .i64 er) ∧ Below w.heap.size w w'
def Opens (k N : Nat) (ls blk : List Nat) : Prop := ls.length = k ∧ vbe ls < N ∧ bytesOf k (vbe ls ^ keyE % N) = blk
set_option maxHeartbeats 1000000 in
theorem Verify_bits (z : Nat) (hz : z = 1 ∨ z = 2) (s : Nat) (hs : sizeOfAlg z = s) (g k N gm c gr : Nat) (A : Option Addr) (n cap : Nat) (l : List Nat) (As : Option Addr) (ns cs : Nat) (w : World) (h : Keyed w g k N gm c gr) (hr : Rd .u8 w A n l) (hf : Fit 256 l) (hc : n ≤ cap) (hn : n ≤ 60000) (ht : Both w) (hk : k < 30 + s) :
    Calls Tryz.prog 87 #[.pointer (some ⟨g, 0, none⟩), .int .i64 (z : Int), .slice A n cap, .slice As ns cs] w (Tells w 21) := by
  have HZ := Lib.hid hz
  have HS := Lib.hid hs
  have HK := Lib.hid h
  have HR := Lib.hid hr
  have HT := Lib.hid ht
  have k2 := h.k2
  clear hz hs h hr ht
  go_enter Tryz.func87, Tryz.ntmps87
  go_wp2_with fail
  refine (Size_any g k N gm c gr w HK.out).mono ?_
  rintro e w1 ⟨rfl, rfl⟩
  go_wp2_with fail
  refine (TB_bits z HZ.out s HS.out A n cap l (k : Int) w HR.out hf hc hn HT.out (by omega) (by omega) (.inr (by omega))).mono ?_
  rintro e w2 ⟨rfl, hb2⟩
  go_wp2
  go_ret
  exact ⟨rfl, hb2⟩
set_option maxHeartbeats 1000000 in
theorem Verify_any (z : Nat) (hz : z = 1 ∨ z = 2) (s : Nat) (hs : sizeOfAlg z = s) (g k N gm c gr : Nat) (A : Option Addr) (n cap : Nat) (l : List Nat) (As : Option Addr) (ns cs : Nat) (ls : List Nat) (w : World) (h : Keyed w g k N gm c gr) (hr : Rd .u8 w A n l) (hf : Fit 256 l) (hc : n ≤ cap) (hn : n ≤ 60000)
    (hrs : Rd .u8 w As ns ls) (hfs : Fit 256 ls) (hnc : ns ≤ cs) (hcs : cs ≤ maxLen) (ht : Both w) (hk : 30 + s ≤ k) (er : Int) (her : (er = 0 ∧ Opens k N ls (blockOf z (sumOf z l) k)) ∨ (er = 23 ∧ ¬ Opens k N ls (blockOf z (sumOf z l) k))) :
    Calls Tryz.prog 87 #[.pointer (some ⟨g, 0, none⟩), .int .i64 (z : Int), .slice A n cap, .slice As ns cs] w (Tells w er) := by
  have HZ := Lib.hid hz
  have HS := Lib.hid hs
  have HK := Lib.hid h
  have HR := Lib.hid hr
  have HSR := Lib.hid hrs
  have HT := Lib.hid ht
  have HER := Lib.hid her
  have k2 := h.k2
  have HFB : Hid (Fit 256 (blockOf z (sumOf z l) k)) := blockOf_fit (sumOf_fit _ _)
  clear hz hs h hr ht hrs her
  go_enter Tryz.func87, Tryz.ntmps87
  go_wp2_with fail
  refine (Size_any g k N gm c gr w HK.out).mono ?_
  rintro e w1 ⟨rfl, rfl⟩
  go_wp2_with fail
  refine (TB_ok z HZ.out s HS.out A n cap l k w HR.out hf hc hn HT.out hk k2).mono ?_
  generalize blockOf z (sumOf z l) k = blk at *
  rintro e w2 ⟨g2, rfl, hg2, hR2, hb2⟩
  have HR2 := Lib.hid hR2
  clear hR2 hg2
  by_cases hne : ns = k
  · by_cases hlt : vbe ls < N
    · subst hne
      go_wp2_with fail
      refine (Open_yes g ns N gm c gr As cs ls w2 (HK.out.below hb2) (HSR.out.below hb2) hfs hnc hcs hlt).mono ?_
      have hO : Opens ns N ls blk ↔ bytesOf ns (vbe ls ^ keyE % N) = blk := ⟨fun h => h.2.2, fun h => ⟨HSR.out.1, hlt, h⟩⟩
      generalize vbe ls ^ keyE % N = x at *
      rintro e w3 ⟨g3, rfl, hg3, hB3, hb3⟩
      have HB3 := Lib.hid (hB3.rd ns (bytesOf_length _ _))
      have bel3 := below_then hb2 hb3
      have hD : decide (bytesOf ns x = blk) = decide (er = 0) := by
        rw [Bool.eq_iff_iff]
        simp only [decide_eq_true_eq]
        rw [← hO]
        rcases HER.out with ⟨rfl, ho⟩ | ⟨rfl, ho⟩
        · simp [ho]
        · simp [ho]
      have hE : er = 0 ∨ er = 23 := HER.out.imp (fun h => h.1) (fun h => h.1)
      have HD := Lib.hid hD
      clear hB3 hg3 hO hD
      go_wp2_with fail
      refine (Equal_any _ _ ns ns ns ns _ _ w3 HB3.out (HR2.out.below hb3) (bytesOf_fit _ _) HFB.out).mono ?_
      rw [HD.out]
      rintro e w4 ⟨rfl, rfl⟩
      rcases hE with rfl | rfl
      · go_wp2
        go_ret
        exact ⟨rfl, bel3⟩
      · go_wp2
        go_ret
        exact ⟨rfl, bel3⟩
    · obtain rfl : er = 23 := (HER.out.resolve_left (fun h => hlt h.2.2.1)).1
      subst hne
      go_wp2_with fail
      refine (Open_no g ns N gm c gr As cs ls w2 (HK.out.below hb2) (HSR.out.below hb2) hfs hnc hcs (by omega)).mono ?_
      rintro e w3 ⟨rfl, hb3⟩
      have bel3 := below_then hb2 hb3
      go_wp2
      go_ret
      exact ⟨rfl, bel3⟩
  · obtain rfl : er = 23 := (HER.out.resolve_left (fun h => hne (HSR.out.1.symm.trans h.2.1))).1
    go_wp2_with fail
    refine (Open_size g k N gm c gr As ns cs w2 (HK.out.below hb2) hne).mono ?_
    rintro e w3 ⟨rfl, hb3⟩
    have bel3 := below_then hb2 hb3
    go_wp2
    go_ret
    exact ⟨rfl, bel3⟩
end Go.Proofs.YtlcoebenkhafcaaGreatDoor
namespace Go.Proofs.YtlcoebenkhafcaaGreatDoor
open Go.RowKit
set_option linter.unusedVariables false
set_option linter.unusedSimpArgs false
set_option maxRecDepth 100000
theorem szOf_nat (a : Int) : szOf a = (sizeOfAlg a : Nat) := by unfold szOf sizeOfAlg; split <;> first | rfl | (split <;> rfl)
def VErr (z k N : Nat) (sig text : List Nat) (er : Int) : Prop :=
  (k < 30 + sizeOfAlg z ∧ er = 21) ∨ (30 + sizeOfAlg z ≤ k ∧ Opens k N sig (blockOf z (sumOf z text) k) ∧ er = 0) ∨ (30 + sizeOfAlg z ≤ k ∧ ¬ Opens k N sig (blockOf z (sumOf z text) k) ∧ er = 23)
def Tried (b : Bl) (er : Int) : Prop :=
  (b.alg = 0 ∧ er = 23) ∨ ∃ z : Nat, (z = 1 ∨ z = 2) ∧ b.alg = (z : Int) ∧ ((sumOf z (btext b) ≠ b.hash ∧ er = 50) ∨ (sumOf z (btext b) = b.hash ∧ ((BadParse b.key er) ∨ ∃ k, GoodParse b.key k ∧ VErr z k (vbe (modOf b.key k)) b.sig (btext b) er)))
set_option maxHeartbeats 8000000 in
theorem holds_any (x : BX) (w : World) (hx : BXOk w x) (hr : BRight x.b) (ht : Both w) : Calls Tryz.prog 56 #[x.val] w fun e w' => ∃ er : Int, e = .returned (.int .i64 er) ∧ Tried x.b er ∧ Below w.heap.size w w' := by
  obtain ⟨dH, huH, hdH⟩ := uH
  obtain ⟨dB, huB, hdB⟩ := uBl
  obtain ⟨dP, huP, hdP⟩ := uPc
  have HRI := Lib.hid hr
  have HX := Lib.hid hx
  unfold BX.val
  obtain ⟨W, hW⟩ : ∃ W, w.alloc (.cells x.cells.toArray 27) = W := ⟨_, rfl⟩
  have X := Lib.hid (BIn.new hx hW)
  have HT := Lib.hid ht
  clear hx hr ht
  have HSG := Lib.hid (signed_any x.b W)
  by_cases ha : x.b.alg = 0
  · have ea : (x.b.alg != 0) = false := by simp [ha]
    rw [ea] at HSG
    have E : Hid (Tried x.b 23) := .inl ⟨ha, rfl⟩
    clear ha ea
    go_enter Tryz.func56, Tryz.ntmps56
    go_wp2_with ((with_reducible refine at_dst (some 11) ?_); refine wpList_loadAt (op := ⟨some 11, _, _, _, _, _⟩) rfl 23 (.tmp 10) rfl ⟨w.heap.size, 0, none⟩ rfl (hcells x.b) dH X.out.hat huH hdH iH ?_)
    refine HSG.out.mono ?_
    rintro e w1 ⟨rfl, hb1⟩
    have X1 := Lib.hid (X.out.next hb1)
    clear hb1
    go_wp2
    go_ret
    exact ⟨23, rfl, E.out, X1.out.below⟩
  · have ea : (x.b.alg != 0) = true := by simp [ha]
    rw [ea] at HSG
    obtain ⟨z, hz, hza⟩ : ∃ z : Nat, (z = 1 ∨ z = 2) ∧ x.b.alg = (z : Int) := by
      have h1 := HRI.out.1
      unfold Headed at h1
      exact ⟨x.b.alg.toNat, by omega, by omega⟩
    have HZ := Lib.hid (And.intro hz hza)
    have hle := HRI.out.2.1.le
    have hls := HRI.out.2.2.le
    have htx : (btext x.b).length ≤ 60000 := by rw [btext_length]; unfold up64; omega
    have HTX := Lib.hid htx
    have hlk := HX.out.key.rd.1
    have hkn : x.sk.n ≤ 10000 := by omega
    have HMX : Hid (x.sk.cap ≤ maxLen ∧ x.ss.cap ≤ maxLen) := by
      unfold maxLen
      exact ⟨HX.out.key.max, HX.out.sig.max⟩
    clear ha ea hz hza hle hls htx hlk
    go_enter Tryz.func56, Tryz.ntmps56
    go_wp2_with ((with_reducible refine at_dst (some 11) ?_); refine wpList_loadAt (op := ⟨some 11, _, _, _, _, _⟩) rfl 23 (.tmp 10) rfl ⟨w.heap.size, 0, none⟩ rfl (hcells x.b) dH X.out.hat huH hdH iH ?_)
    refine HSG.out.mono ?_
    rintro e w1 ⟨rfl, hb1⟩
    have X1 := Lib.hid (X.out.next hb1)
    have HPI := Lib.hid (pieces_any x w1 X1.out.ok)
    clear hb1
    go_wp2_with ((with_reducible refine at_dst (some 15) ?_); refine wpList_loadAt (op := ⟨some 15, _, _, _, _, _⟩) rfl 27 (.tmp 1) rfl ⟨w.heap.size, 0, none⟩ rfl x.cells dB X1.out.blk.at huB hdB iBl ?_)
    refine HPI.out.mono ?_
    rintro e w2 ⟨cs, er, rfl, hcl, hco, hyes, hno, hb2⟩
    obtain ⟨rfl, ph, pa, pu, rfl, hpc⟩ := hyes HRI.out
    have X2 := Lib.hid (X1.out.next hb2)
    have hb3 : Below w2.heap.size w2 (w2.alloc (.cells (pcells ph pa pu).toArray 57)) := (Below.refl _ _).alloc (Nat.le_refl _) _
    have hk3 : Blk (w2.alloc (.cells (pcells ph pa pu).toArray 57)) w2.heap.size 57 (pcells ph pa pu) := Blk.new _ _ _
    obtain ⟨w3, hw3⟩ : ∃ w3, w2.alloc (.cells (pcells ph pa pu).toArray 57) = w3 := ⟨_, rfl⟩
    rw [hw3] at hb3 hk3
    obtain ⟨g3, hg3⟩ : ∃ g3, w2.heap.size = g3 := ⟨_, rfl⟩
    rw [hg3] at hk3
    have X3 : Hid (BIn w w.heap.size x w3 ∧ Blk w3 g3 57 (pcells ph pa pu) ∧ PcOk w3 x.b ph pa pu) := ⟨X2.out.next hb3, hk3, hpc.below hb3⟩
    have l1 := X3.out.2.2.head.rd.1
    have l3 := X3.out.2.2.aux.rd.1
    obtain ⟨T, hT⟩ : ∃ T, ph.n + pu.n = T := ⟨_, rfl⟩
    have hTl : (btext x.b).length = T := by unfold btext; rw [List.length_append, l1, l3]; exact hT
    have hT6 : T ≤ 60000 := by rw [← hTl]; exact HTX.out
    have HTL := Lib.hid hTl
    have HTE := Lib.hid (ptext_any ph pa pu _ _ w3 X3.out.2.2.head X3.out.2.2.aux T hT (by omega))
    clear hcl hco hyes hno hpc hb2 hb3 hk3 l1 l3 hT hTl HPI HSG
    go_wp2_with (first
      | ((with_reducible refine at_dst none ?_); refine wpList_storeNew (w := w2) (op := ⟨none, _, _, _, _, _⟩) rfl 57 (.tmp 3) (.tmp 17) rfl zeroP (pcells ph pa pu) (by rw [← hg3]; rfl) rfl rfl iPc (pcells_one _ _ _) ?_; rw [hw3])
      | ((with_reducible refine at_dst (some 19) ?_); refine wpList_loadAt (op := ⟨some 19, _, _, _, _, _⟩) rfl 57 (.tmp 3) rfl ⟨g3, 0, none⟩ rfl (pcells ph pa pu) dP X3.out.2.1.at huP hdP iPc ?_))
    refine HTE.out.mono ?_
    rintro e w4 ⟨A4, c4, rfl, hr4, hb4⟩
    have X4 := Lib.hid (X3.out.1.next hb4)
    have hrow4 : Row w4 w3.heap.size 5 A4 T c4 (cn .u8 (btext x.b)) := hr4
    have hft : Fit 256 (btext x.b) := btext_fit X4.out.ok.fits
    have hbs4 := hrow4.bs hft
    have hb5 : Below w4.heap.size w4 (w4.alloc (.cells #[.slice A4 T c4] 25)) := (Below.refl _ _).alloc (Nat.le_refl _) _
    have hpp := parts_one ⟨A4, T, c4, btext x.b⟩ w4 hbs4.part3
    obtain ⟨w5, hw5⟩ : ∃ w5, w4.alloc (.cells #[.slice A4 T c4] 25) = w5 := ⟨_, rfl⟩
    rw [hw5] at hb5 hpp
    have X5 : Hid (BIn w w.heap.size x w5 ∧ Bs w5 A4 T c4 (btext x.b)) := ⟨X4.out.next hb5, hbs4.below hb5⟩
    have k0 : w4.cell? ⟨w.heap.size, 0, none⟩ = some (.int .i64 (z : Int)) := by rw [← HZ.out.2]; exact X4.out.c0
    obtain ⟨s, hs⟩ : ∃ s, sizeOfAlg z = s := ⟨_, rfl⟩
    have HSZ := Lib.hid hs
    have HFLT : Hid (flat [⟨A4, T, c4, btext x.b⟩] = btext x.b) := by show _ = _; simp [flat]
    have HDG := Lib.hid (Digest_ok z HZ.out.1 s hs none 0 0 [] (some ⟨w4.heap.size, 0, none⟩) 1 1 _ w5 (Rd.nil _ _ _) (Fit.nil _) (Nat.le_refl _) (by omega) hpp (fun e => by cases e) (by omega) (by rw [HFLT.out, HTL.out]; exact hT6) (HT.out.below X5.out.1.below))
    rw [HFLT.out, List.nil_append] at HDG
    clear hr4 hb4 hrow4 hbs4 hb5 hpp hs
    go_wp2_with fail
    (try rw [hw5])
    refine HDG.out.mono ?_
    rintro e w6 ⟨gd, rfl, hgd, hBd, hb6⟩
    have hsl : (sumOf z (btext x.b)).length = s := by
      rw [← HSZ.out]
      rcases HZ.out.1 with rfl | rfl
      · rw [sumOf_length1]; rfl
      · rw [sumOf_length2]; rfl
    have hs64 : s ≤ 64 := by
      rw [← HSZ.out]
      rcases HZ.out.1 with rfl | rfl <;> decide
    have X6 : Hid (BIn w w.heap.size x w6 ∧ Bs w6 A4 T c4 (btext x.b)) := ⟨X5.out.1.next hb6, X5.out.2.below hb6⟩
    have k6 := X6.out.1.c6
    have k5 := X6.out.1.c5
    have HEQ := Lib.hid (EqualB_any (some ⟨gd, 0, none⟩) s s (sumOf z (btext x.b)) x.sh.A x.sh.n x.sh.cap x.b.hash w6 (hBd.rd s hsl) (sumOf_fit _ _) X6.out.1.ok.hash.rd X6.out.1.ok.hash.fit)
    clear hgd hBd hb6 hsl k0
    by_cases hh : sumOf z (btext x.b) = x.b.hash
    · rw [decide_eq_true hh] at HEQ
      have HH := Lib.hid hh
      clear hh
      go_wp2_with fail
      refine HEQ.out.mono ?_
      rintro e w7 ⟨rfl, rfl⟩
      rcases parse_cases x.b.key with ⟨er, hbad⟩ | ⟨k, hgood⟩
      · have HKP := Lib.hid (Parse_bad x.sk.A x.sk.n x.sk.cap x.b.key er w6 X6.out.1.ok.key.rd X6.out.1.ok.key.fit hkn X6.out.1.ok.key.le HMX.out.1 hbad)
        have e0 : (er != 0) = true := by have := hbad.ne; simp [this]
        have E : Hid (Tried x.b er) := .inr ⟨z, HZ.out.1, HZ.out.2, .inr ⟨HH.out, .inl hbad⟩⟩
        clear hbad
        go_wp2_with fail
        refine HKP.out.mono ?_
        rintro e w8 ⟨rfl, hb8⟩
        have X8 := Lib.hid (X6.out.1.next hb8)
        clear hb8
        go_wp2
        go_ret
        exact ⟨er, rfl, E.out, X8.out.below⟩
      · have HKP := Lib.hid (Parse_good x.sk.A x.sk.n x.sk.cap x.b.key k w6 X6.out.1.ok.key.rd X6.out.1.ok.key.fit hkn X6.out.1.ok.key.le HMX.out.1 hgood)
        have HGD := Lib.hid hgood
        clear hgood
        go_wp2_with fail
        refine HKP.out.mono ?_
        rintro e w8 ⟨gK, gm, rfl, hkey, hgm, hb8⟩
        have X8 : Hid (BIn w w.heap.size x w8 ∧ Bs w8 A4 T c4 (btext x.b) ∧ Both w8) := ⟨X6.out.1.next hb8, X6.out.2.below hb8, HT.out.below (X6.out.1.next hb8).below⟩
        have q0 : w8.cell? ⟨w.heap.size, 0, none⟩ = some (.int .i64 (z : Int)) := by rw [← HZ.out.2]; exact X8.out.1.c0
        have q7 := X8.out.1.c7
        obtain ⟨c0, gr, hkd⟩ := hkey
        have HV : Hid (∃ er : Int, VErr z k (vbe (modOf x.b.key k)) x.b.sig (btext x.b) er ∧ Calls Tryz.prog 87 #[.pointer (some ⟨gK, 0, none⟩), .int .i64 (z : Int), .slice A4 T c4, .slice x.ss.A x.ss.n x.ss.cap] w8 (Tells w8 er)) := by
          by_cases hk : k < 30 + s
          · exact ⟨21, .inl ⟨by rw [HSZ.out]; exact hk, rfl⟩, Verify_bits z HZ.out.1 s HSZ.out gK k _ gm c0 gr A4 T c4 (btext x.b) _ _ _ w8 hkd X8.out.2.1.rd X8.out.2.1.fit X8.out.2.1.le hT6 X8.out.2.2 hk⟩
          · by_cases ho : Opens k (vbe (modOf x.b.key k)) x.b.sig (blockOf z (sumOf z (btext x.b)) k)
            · exact ⟨0, .inr (.inl ⟨by rw [HSZ.out]; omega, ho, rfl⟩), Verify_any z HZ.out.1 s HSZ.out gK k _ gm c0 gr A4 T c4 (btext x.b) _ _ _ x.b.sig w8 hkd X8.out.2.1.rd X8.out.2.1.fit X8.out.2.1.le hT6 X8.out.1.ok.sig.rd X8.out.1.ok.sig.fit X8.out.1.ok.sig.le HMX.out.2 X8.out.2.2 (by omega) 0 (.inl ⟨rfl, ho⟩)⟩
            · exact ⟨23, .inr (.inr ⟨by rw [HSZ.out]; omega, ho, rfl⟩), Verify_any z HZ.out.1 s HSZ.out gK k _ gm c0 gr A4 T c4 (btext x.b) _ _ _ x.b.sig w8 hkd X8.out.2.1.rd X8.out.2.1.fit X8.out.2.1.le hT6 X8.out.1.ok.sig.rd X8.out.1.ok.sig.fit X8.out.1.ok.sig.le HMX.out.2 X8.out.2.2 (by omega) 23 (.inr ⟨rfl, ho⟩)⟩
        obtain ⟨er, hver, hvc⟩ := HV.out
        have HVC := Lib.hid hvc
        have E : Hid (Tried x.b er) := .inr ⟨z, HZ.out.1, HZ.out.2, .inr ⟨HH.out, .inr ⟨k, HGD.out, hver⟩⟩⟩
        clear hkd hgm hb8 hver hvc k5 k6
        go_wp2_with fail
        refine HVC.out.mono ?_
        rintro e w9 ⟨rfl, hb9⟩
        have X9 := Lib.hid (X8.out.1.next hb9)
        clear hb9
        go_wp2
        go_ret
        exact ⟨er, rfl, E.out, X9.out.below⟩
    · rw [decide_eq_false hh] at HEQ
      have E : Hid (Tried x.b 50) := .inr ⟨z, HZ.out.1, HZ.out.2, .inl ⟨hh, rfl⟩⟩
      clear hh
      go_wp2_with fail
      refine HEQ.out.mono ?_
      rintro e w7 ⟨rfl, rfl⟩
      go_wp2
      go_ret
      exact ⟨50, rfl, E.out, X6.out.1.below⟩
def CheckP (l : List Nat) (w : World) (e : Ending) (w' : World) : Prop :=
  ∃ x : BX, ∃ er : Int, e = .returned (.tuple #[x.val, .int .i64 er]) ∧ ((∃ k : Nat, k ≠ 0 ∧ bparse l = (Bl.zero, k) ∧ er = (k : Int)) ∨ (∃ y : Bl, bparse l = (y, 0) ∧ Tried y er ∧ (er = 0 → x.b = y))) ∧ (er ≠ 0 → x = zeroX) ∧ BXOk w' x ∧ NewX w.heap.size x ∧ Below w.heap.size w w'
set_option maxHeartbeats 8000000 in
theorem BCheck_any (A : Option Addr) (n cap : Nat) (l : List Nat) (w : World) (hb : Bs w A n cap l) (hn : n ≤ 100000) (ht : Both w) : Calls Tryz.prog 20 #[.slice A n cap] w (CheckP l w) := by
  obtain ⟨dB, huB, hdB⟩ := uBl
  have hb1 : Below w.heap.size w (w.alloc (.cells zeroB.toArray 27)) := (Below.refl _ _).alloc (Nat.le_refl _) _
  have hk1 : Blk (w.alloc (.cells zeroB.toArray 27)) w.heap.size 27 zeroB := Blk.new _ _ _
  obtain ⟨W, hW⟩ : ∃ W, w.alloc (.cells zeroB.toArray 27) = W := ⟨_, rfl⟩
  rw [hW] at hb1 hk1
  have hz : zeroB.toArray = #[.int .i64 0, .int .i64 0, .int .i64 0, .int .i64 0, .slice none 0 0, .slice none 0 0, .slice none 0 0, .slice none 0 0] := rfl
  rw [hz] at hW
  have I1 : Hid (Below w.heap.size w W ∧ Blk W w.heap.size 27 zeroB) := ⟨hb1, hk1⟩
  have HT := Lib.hid ht
  have HPA := Lib.hid (BParse_any A n cap l W (hb.below hb1) hn)
  clear hb1 hk1 hz hb ht
  go_enter Tryz.func20, Tryz.ntmps20
  go_wp2_with fail
  refine HPA.out.mono ?_
  rintro e w2 ⟨x, er, rfl, hpr, hxo, hxn, hno, hb2⟩
  have hb3 : Below w2.heap.size w2 (w2.alloc (.cells x.cells.toArray 27)) := (Below.refl _ _).alloc (Nat.le_refl _) _
  have hk3 : Blk (w2.alloc (.cells x.cells.toArray 27)) w2.heap.size 27 x.cells := Blk.new _ _ _
  obtain ⟨w3, hw3⟩ : ∃ w3, w2.alloc (.cells x.cells.toArray 27) = w3 := ⟨_, rfl⟩
  rw [hw3] at hb3 hk3
  obtain ⟨g3, hg3⟩ : ∃ g3, w2.heap.size = g3 := ⟨_, rfl⟩
  rw [hg3] at hk3
  have I2 : Below w.heap.size w w2 := I1.out.1.trans (hb2.mono I1.out.1.size)
  have I3 : Hid (Below w.heap.size w w3 ∧ Blk w3 w.heap.size 27 zeroB ∧ Blk w3 g3 27 x.cells ∧ BXOk w3 x) := ⟨I2.trans (hb3.mono I2.size), (I1.out.2.below hb2 I1.out.2.lt).below hb3 (I1.out.2.below hb2 I1.out.2.lt).lt, hk3, hxo.below hb3⟩
  have HPR := Lib.hid hpr
  have HXN := Lib.hid hxn
  have HNO := Lib.hid hno
  have HLT : Hid (w.heap.size < W.heap.size) := I1.out.2.lt
  clear hb2 hb3 hk3 I2 hpr hxo hxn hno HPA
  by_cases he : er = 0
  · subst he
    have hbr : BRight x.b := (bparse_ok HPR.out).1
    have HHO := Lib.hid (holds_any x w3 I3.out.2.2.2 hbr (HT.out.below I3.out.1))
    clear hbr
    go_wp2_with (first
      | ((with_reducible refine at_dst none ?_); refine wpList_storeNew (w := w2) (op := ⟨none, _, _, _, _, _⟩) rfl 27 (.tmp 4) (.tmp 10) rfl zeroB x.cells (by rw [← hg3]; rfl) rfl rfl iBl x.one ?_; rw [hw3])
      | ((with_reducible refine at_dst (some 16) ?_); refine wpList_loadAt (op := ⟨some 16, _, _, _, _, _⟩) rfl 27 (.tmp 4) rfl ⟨g3, 0, none⟩ rfl x.cells dB I3.out.2.2.1.at huB hdB iBl ?_))
    refine HHO.out.mono ?_
    rintro e w4 ⟨er2, rfl, htr, hb4⟩
    have I4 : Hid (Below w.heap.size w w4 ∧ Blk w4 w.heap.size 27 zeroB ∧ Blk w4 g3 27 x.cells ∧ BXOk w4 x) := ⟨I3.out.1.trans (hb4.mono I3.out.1.size), I3.out.2.1.below hb4 I3.out.2.1.lt, I3.out.2.2.1.below hb4 I3.out.2.2.1.lt, I3.out.2.2.2.below hb4⟩
    have HTR := Lib.hid htr
    clear hb4 htr
    by_cases h2 : er2 = 0
    · subst h2
      go_wp2_with (first
        | ((with_reducible refine at_dst (some 22) ?_); refine wpList_loadAt (op := ⟨some 22, _, _, _, _, _⟩) rfl 27 (.tmp 4) rfl ⟨g3, 0, none⟩ rfl x.cells dB I4.out.2.2.1.at huB hdB iBl ?_)
        | ((with_reducible refine at_dst none ?_); refine wpList_storeBlk (op := ⟨none, _, _, _, _, _⟩) rfl 27 (.tmp 2) (.tmp 22) rfl (g := w.heap.size) (t := 27) (old := zeroB) (cs := x.cells) rfl rfl I4.out.2.1 rfl iBl x.one ?_; intro u9 hB9 ht9))
      exact ret_cell_tmp rfl rfl hB9.out.at huB hdB iBl rfl ⟨x, 0, rfl, .inr ⟨x.b, HPR.out, HTR.out, fun _ => rfl⟩, fun h => absurd rfl h, I4.out.2.2.2.off HXN.out ht9 HLT.out, HXN.out.mono (Nat.le_of_lt HLT.out), ht9.belowAt I4.out.1 (Nat.le_refl _) I4.out.1.size⟩
    · have e0 : (er2 != 0) = true := by simp [h2]
      have HE := Lib.hid h2
      clear h2
      go_wp2_with ((with_reducible refine at_dst none ?_); refine wpList_storeBlk (op := ⟨none, _, _, _, _, _⟩) rfl 27 (.tmp 2) (.tmp 20) rfl (g := w.heap.size) (t := 27) (old := zeroB) (cs := zeroB) rfl rfl I4.out.2.1 rfl iBl zeroB_one ?_; intro u9 hB9 ht9)
      exact ret_cell_tmp rfl rfl hB9.out.at huB hdB iBl rfl ⟨zeroX, er2, rfl, .inr ⟨x.b, HPR.out, HTR.out, fun h => absurd h HE.out⟩, fun _ => rfl, zeroX_ok _, NewX.zero _, ht9.belowAt I4.out.1 (Nat.le_refl _) I4.out.1.size⟩
  · obtain rfl := HNO.out he
    have e0 : ((er : Int) != 0) = true := by simp [he]
    have HE := Lib.hid he
    clear he
    go_wp2_with (first
      | ((with_reducible refine at_dst none ?_); refine wpList_storeNew (w := w2) (op := ⟨none, _, _, _, _, _⟩) rfl 27 (.tmp 4) (.tmp 10) rfl zeroB zeroX.cells (by rw [← hg3]; rfl) rfl rfl iBl zeroX.one ?_; rw [hw3])
      | ((with_reducible refine at_dst none ?_); refine wpList_storeBlk (op := ⟨none, _, _, _, _, _⟩) rfl 27 (.tmp 2) (.tmp 14) rfl (g := w.heap.size) (t := 27) (old := zeroB) (cs := zeroB) rfl rfl I3.out.2.1 rfl iBl zeroB_one ?_; intro u9 hB9 ht9))
    exact ret_cell_tmp rfl rfl hB9.out.at huB hdB iBl rfl ⟨zeroX, er, rfl, .inl ⟨er, HE.out, HPR.out, rfl⟩, fun _ => rfl, zeroX_ok _, NewX.zero _, ht9.belowAt I3.out.1 (Nat.le_refl _) I3.out.1.size⟩
end Go.Proofs.YtlcoebenkhafcaaGreatDoor
namespace Go.Proofs.YtlcoebenkhafcaaGreatDoor
open Go.RowKit
set_option linter.unusedVariables false
set_option linter.unusedSimpArgs false
set_option maxRecDepth 100000
structure Bare (x : BX) : Prop where
  key : x.b.key = []
  hash : x.b.hash = []
  sig : x.b.sig = []
  sk : x.sk = nilS
  sh : x.sh = nilS
  ss : x.ss = nilS
theorem Bare.cells {x : BX} (h : Bare x) : x.cells = hcells x.b ++ [.slice x.sd.A x.sd.n x.sd.cap, .slice none 0 0, .slice none 0 0, .slice none 0 0] := by
  unfold BX.cells BX.tail
  rw [h.sk, h.sh, h.ss]
  rfl
theorem Bare.right {x : BX} (h : Bare x) (hh : Headed x.b) (hl : Listed x.b.ds) (ha : x.b.alg = 0) : BRight x.b := ⟨hh, hl, .inl ⟨ha, by rw [h.key]; rfl, by rw [h.hash]; rfl, by rw [h.sig]; rfl⟩⟩
structure HIn (w : World) (g : Nat) (x : BX) (wr : World) : Prop where
  below : Below w.heap.size w wr
  blk : Blk wr g 23 (hcells x.b)
  ok : BXOk wr x
theorem HIn.next {w wr w2 : World} {g : Nat} {x : BX} (h : HIn w g x wr) (hb : Below wr.heap.size wr w2) : HIn w g x w2 := ⟨h.below.trans (hb.mono h.below.size), h.blk.below hb h.blk.lt, h.ok.below hb⟩
theorem HIn.new {w wr : World} {x : BX} (hx : BXOk w x) (hW : w.alloc (.cells (hcells x.b).toArray 23) = wr) : HIn w w.heap.size x wr := by
  have hb : Below w.heap.size w (w.alloc (.cells (hcells x.b).toArray 23)) := (Below.refl _ _).alloc (Nat.le_refl _) _
  have hk : Blk (w.alloc (.cells (hcells x.b).toArray 23)) w.heap.size 23 (hcells x.b) := Blk.new _ _ _
  rw [hW] at hb hk
  exact ⟨hb, hk, hx.below hb⟩
set_option maxHeartbeats 4000000 in
theorem BMake_no (x : BX) (Am : Option Addr) (km cm : Nat) (As : Option Addr) (ns cs : Nat) (w : World) (hx : BXOk w x) (hn : ¬ (Headed x.b ∧ Listed x.b.ds)) : Calls Tryz.prog 23 #[.agg (hcells x.b).toArray, .slice x.sd.A x.sd.n x.sd.cap, .slice Am km cm, .slice As ns cs] w fun e w' => e = .returned (.tuple #[.slice none 0 0, .int .i64 12]) ∧ Below w.heap.size w w' := by
  obtain ⟨dH, huH, hdH⟩ := uH
  obtain ⟨W, hW⟩ : ∃ W, w.alloc (.cells (hcells x.b).toArray 23) = W := ⟨_, rfl⟩
  have X := Lib.hid (HIn.new hx hW)
  have HDS := Lib.hid hx.ds
  clear hx
  have HR1 := Lib.hid (inRange_any x.b W)
  by_cases hh : Headed x.b
  · have hl : ¬ Listed x.b.ds := fun h => hn ⟨hh, h⟩
    rw [decide_eq_true hh] at HR1
    have HE : Hid (∀ w', HIn w w.heap.size x w' → Calls Tryz.prog 36 #[.slice x.sd.A x.sd.n x.sd.cap] w' fun e w2 => e = .returned (.bool false) ∧ Below w'.heap.size w' w2) := fun w' h => by
      have := encodes_any x.sd.A x.sd.n x.sd.cap x.xs w' h.ok.dl h.ok.dn h.ok.dc h.ok.dm h.ok.nm
      rw [HDS.out, decide_eq_false hl] at this
      exact this
    clear hh hl hn
    go_enter Tryz.func23, Tryz.ntmps23
    go_wp2_with ((with_reducible refine at_dst (some 18) ?_); refine wpList_loadAt (op := ⟨some 18, _, _, _, _, _⟩) rfl 23 (.tmp 4) rfl ⟨w.heap.size, 0, none⟩ rfl (hcells x.b) dH X.out.blk.at huH hdH iH ?_)
    refine HR1.out.mono ?_
    rintro e w1 ⟨rfl, hb1⟩
    have X1 := Lib.hid (X.out.next hb1)
    clear hb1
    go_wp2_with fail
    refine (HE.out w1 X1.out).mono ?_
    rintro e w2 ⟨rfl, hb2⟩
    have X2 := Lib.hid (X1.out.next hb2)
    clear hb2
    go_wp2
    go_ret2
    exact ⟨rfl, X2.out.below⟩
  · rw [decide_eq_false hh] at HR1
    clear hh hn
    go_enter Tryz.func23, Tryz.ntmps23
    go_wp2_with ((with_reducible refine at_dst (some 18) ?_); refine wpList_loadAt (op := ⟨some 18, _, _, _, _, _⟩) rfl 23 (.tmp 4) rfl ⟨w.heap.size, 0, none⟩ rfl (hcells x.b) dH X.out.blk.at huH hdH iH ?_)
    refine HR1.out.mono ?_
    rintro e w1 ⟨rfl, hb1⟩
    have X1 := Lib.hid (X.out.next hb1)
    clear hb1
    go_wp2
    go_ret2
    exact ⟨rfl, X1.out.below⟩
set_option maxHeartbeats 4000000 in
theorem BMake_open (x : BX) (hbx : Bare x) (Am : Option Addr) (km cm : Nat) (As : Option Addr) (ns cs : Nat) (w : World) (hx : BXOk w x) (hh : Headed x.b) (hl : Listed x.b.ds) (ha : x.b.alg = 0) : Calls Tryz.prog 23 #[.agg (hcells x.b).toArray, .slice x.sd.A x.sd.n x.sd.cap, .slice Am km cm, .slice As ns cs] w fun e w' => ∃ A n c, e = .returned (.tuple #[.slice A n c, .int .i64 0]) ∧ Row w' w.heap.size 5 A n c (cn .u8 (bbytes x.b)) ∧ Below w.heap.size w w' := by
  obtain ⟨dH, huH, hdH⟩ := uH
  obtain ⟨W, hW⟩ : ∃ W, w.alloc (.cells (hcells x.b).toArray 23) = W := ⟨_, rfl⟩
  have X := Lib.hid (HIn.new hx hW)
  have HDS := Lib.hid hx.ds
  clear hx
  have HR1 := Lib.hid (inRange_any x.b W)
  rw [decide_eq_true hh] at HR1
  have HE : Hid (∀ w', HIn w w.heap.size x w' → Calls Tryz.prog 36 #[.slice x.sd.A x.sd.n x.sd.cap] w' fun e w2 => e = .returned (.bool true) ∧ Below w'.heap.size w' w2) := fun w' h => by
    have := encodes_any x.sd.A x.sd.n x.sd.cap x.xs w' h.ok.dl h.ok.dn h.ok.dc h.ok.dm h.ok.nm
    rw [HDS.out, decide_eq_true hl] at this
    exact this
  have HS : Hid (∀ w' : World, Calls Tryz.prog 37 #[.agg (hcells x.b).toArray] w' fun e w2 => e = .returned (.bool false) ∧ Below w'.heap.size w' w2) := fun w' => by
    have := signed_any x.b w'
    rwa [show (x.b.alg != 0) = false by simp [ha]] at this
  have HBR := Lib.hid (hbx.right hh hl ha)
  have HCL := Lib.hid hbx.cells
  have HBLD : ∀ W : World, (Instr.build 27 #[(0, .agg (hcells x.b).toArray), (1, .slice x.sd.A x.sd.n x.sd.cap)]).run Tryz.prog W = .ok (.agg x.cells.toArray) W := fun W => by
    rw [HCL.out]; kernel_rfl
  clear hh hl ha hbx
  go_enter Tryz.func23, Tryz.ntmps23
  go_wp2_with ((with_reducible refine at_dst (some 18) ?_); refine wpList_loadAt (op := ⟨some 18, _, _, _, _, _⟩) rfl 23 (.tmp 4) rfl ⟨w.heap.size, 0, none⟩ rfl (hcells x.b) dH X.out.blk.at huH hdH iH ?_)
  refine HR1.out.mono ?_
  rintro e w1 ⟨rfl, hb1⟩
  have X1 := Lib.hid (X.out.next hb1)
  clear hb1
  go_wp2_with fail
  refine (HE.out w1 X1.out).mono ?_
  rintro e w2 ⟨rfl, hb2⟩
  have X2 := Lib.hid (X1.out.next hb2)
  clear hb2
  go_wp2_with ((with_reducible refine at_dst (some 26) ?_); refine wpList_loadAt (op := ⟨some 26, _, _, _, _, _⟩) rfl 23 (.tmp 4) rfl ⟨w.heap.size, 0, none⟩ rfl (hcells x.b) dH X2.out.blk.at huH hdH iH ?_)
  refine (HS.out w2).mono ?_
  rintro e w3 ⟨rfl, hb3⟩
  have X3 := Lib.hid (X2.out.next hb3)
  have HEN := Lib.hid (BEncode_any x w3 X3.out.ok)
  clear hb3
  go_wp2_with (first
    | ((with_reducible refine at_dst (some 29) ?_); refine wpList_loadAt (op := ⟨some 29, _, _, _, _, _⟩) rfl 23 (.tmp 4) rfl ⟨w.heap.size, 0, none⟩ rfl (hcells x.b) dH X3.out.blk.at huH hdH iH ?_)
    | ((with_reducible refine at_dst (some 31) ?_); refine wpList_bld (op := ⟨some 31, _, _, _, _, _⟩) rfl 27 _ rfl #[(0, .agg (hcells x.b).toArray), (1, .slice x.sd.A x.sd.n x.sd.cap)] (by simp [Act.eval]) (.agg x.cells.toArray) (HBLD _) ?_))
  refine HEN.out.mono ?_
  rintro e w4 ⟨A4, n4, c4, l4, er, rfl, hr4, hy4, hn4, hb4⟩
  obtain ⟨rfl, rfl⟩ := hy4 HBR.out
  have HF : Hid (Row w4 w.heap.size 5 A4 n4 c4 (cn .u8 (bbytes x.b)) ∧ Below w.heap.size w w4) := ⟨hr4.mono X3.out.below.size, X3.out.below.trans (hb4.mono X3.out.below.size)⟩
  clear hr4 hy4 hn4 hb4
  go_wp2
  go_ret2
  exact ⟨A4, n4, c4, rfl, HF.out⟩
end Go.Proofs.YtlcoebenkhafcaaGreatDoor
