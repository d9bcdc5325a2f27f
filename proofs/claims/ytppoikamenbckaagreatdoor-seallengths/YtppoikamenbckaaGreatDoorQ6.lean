/-
  What textBlock and Sign of package seal answer.
-/
import Derived.Test.YtppoikamenbckaaGreatDoorQ5
namespace Go.Proofs.YtppoikamenbckaaGreatDoor
open Go.RowKit
set_option linter.unusedVariables false
set_option linter.unusedSimpArgs false
set_option maxRecDepth 100000

theorem parts_one (p : Bt) (w : World) (h : Rd .u8 w p.A p.n p.l ∧ Fit 256 p.l ∧ p.n ≤ p.cap) : PartsR (w.alloc (.cells #[.slice p.A p.n p.cap] 22)) (some ⟨w.heap.size, 0, none⟩) 1 [p] := by
  have hbl : Blk (w.alloc (.cells #[.slice p.A p.n p.cap] 22)) w.heap.size 22 (cells_ [p]) := Blk.new w 22 (cells_ [p])
  have hb1 : Below w.heap.size w (w.alloc (.cells #[.slice p.A p.n p.cap] 22)) := (Below.refl _ _).alloc (Nat.le_refl _) _
  refine ⟨rfl, fun _ => ⟨_, rfl, hbl.lt, fun j q hj => ?_⟩, fun q hq => ?_⟩
  · rw [addr_add, Nat.zero_add, hbl.cell, cells_, List.getElem?_map, hj]
    rfl
  · rw [List.mem_singleton.1 hq]
    exact ⟨h.1.below hb1, h.2⟩
theorem TB_alg (z : Int) (h1 : z ≠ 1) (h2 : z ≠ 2) (A : Option Addr) (n cap : Nat) (sz : Int) (w : World) :
    Calls Tryz.prog 25 #[.int .i64 z, .slice A n cap, .int .i64 sz] w (NoBs w 20) := by
  go_enter Tryz.func25, Tryz.ntmps25
  go_wp2_with fail
  refine (Digest_alg z h1 h2 _ _ _ _ _ _ _).mono ?_
  rintro e w1 ⟨rfl, hb1⟩
  have bel1 := below_then ((Below.refl w.heap.size w).alloc (Nat.le_refl _) _) hb1
  go_wp2
  go_ret2
  exact ⟨rfl, bel1⟩
set_option maxHeartbeats 1000000 in
theorem TB_bits (z : Nat) (hz : z = 1 ∨ z = 2) (s : Nat) (hs : sizeOfAlg z = s) (A : Option Addr) (n cap : Nat) (l : List Nat) (sz : Int) (w : World) (hr : Rd .u8 w A n l) (hf : Fit 256 l) (hc : n ≤ cap) (hn : n ≤ 10000) (ht : Both w) (hs1 : -9223372036854775808 ≤ sz) (hs2 : sz ≤ 9223372036854775807) (h : 512 < sz ∨ sz < 30 + s) :
    Calls Tryz.prog 25 #[.int .i64 (z : Int), .slice A n cap, .int .i64 sz] w (NoBs w 21) := by
  have HP := Lib.hid (parts_one ⟨A, n, cap, l⟩ w ⟨hr, hf, hc⟩)
  have hb1 : Below w.heap.size w (w.alloc (.cells #[.slice A n cap] 22)) := (Below.refl _ _).alloc (Nat.le_refl _) _
  have HT := Lib.hid (ht.below hb1)
  have HB1 := Lib.hid hb1
  have HL : Hid ((flat [Bt.mk A n cap l]).length ≤ 40000) := by show _ ≤ _; simp [flat, hr.1]; omega
  have HZ := Lib.hid hz
  have HS := Lib.hid hs
  have HH := Lib.hid h
  clear hr hf ht hb1 hz hs h
  go_enter Tryz.func25, Tryz.ntmps25
  go_wp2_with fail
  refine (Digest_ok z HZ.out s HS.out none 0 0 [] _ 1 1 _ _ (Rd.nil _ _ _) (Fit.nil _) (Nat.le_refl _) (by omega) HP.out (fun e => by cases e) (by omega) HL.out HT.out).mono ?_
  rintro e w2 ⟨g2, rfl, hg2, hB2, hb2⟩
  have bel2 := below_then HB1.out hb2
  clear hB2
  go_wp2_with fail
  refine (Block_bits z HZ.out _ s s HS.out sz hs1 hs2 HH.out w2).mono ?_
  rintro e w3 ⟨rfl, hb3⟩
  have bel3 := below_then bel2 hb3
  go_wp2
  go_ret2
  exact ⟨rfl, bel3⟩
set_option maxHeartbeats 1000000 in
theorem TB_ok (z : Nat) (hz : z = 1 ∨ z = 2) (s : Nat) (hs : sizeOfAlg z = s) (A : Option Addr) (n cap : Nat) (l : List Nat) (sz : Nat) (w : World) (hr : Rd .u8 w A n l) (hf : Fit 256 l) (hc : n ≤ cap) (hn : n ≤ 10000) (ht : Both w) (h1 : 30 + s ≤ sz) (h2 : sz ≤ 512) :
    Calls Tryz.prog 25 #[.int .i64 (z : Int), .slice A n cap, .int .i64 (sz : Int)] w (GivesOwnT w sz (blockOf z (sumOf z l) sz)) := by
  have HP := Lib.hid (parts_one ⟨A, n, cap, l⟩ w ⟨hr, hf, hc⟩)
  have hb1 : Below w.heap.size w (w.alloc (.cells #[.slice A n cap] 22)) := (Below.refl _ _).alloc (Nat.le_refl _) _
  have HT := Lib.hid (ht.below hb1)
  have HB1 := Lib.hid hb1
  have HL : Hid ((flat [Bt.mk A n cap l]).length ≤ 40000) := by show _ ≤ _; simp [flat, hr.1]; omega
  have HE : Hid ([] ++ flat [Bt.mk A n cap l] = l) := by show _ = _; simp [flat]
  have HZ := Lib.hid hz
  have HS := Lib.hid hs
  have HSL := Lib.hid ((sizeAlg hz l).trans hs)
  clear hr hf ht hb1 hz hs
  go_enter Tryz.func25, Tryz.ntmps25
  go_wp2_with fail
  refine (Digest_ok z HZ.out s HS.out none 0 0 [] _ 1 1 _ _ (Rd.nil _ _ _) (Fit.nil _) (Nat.le_refl _) (by omega) HP.out (fun e => by cases e) (by omega) HL.out HT.out).mono ?_
  rw [HE.out]
  rintro e w2 ⟨g2, rfl, hg2, hB2, hb2⟩
  have HR2 := Lib.hid (hB2.rd s HSL.out)
  have bel2 := below_then HB1.out hb2
  have hgs := Nat.le_trans HB1.out.size hg2
  clear hB2 hg2
  go_wp2_with fail
  refine (Block_ok z HZ.out _ s s _ HS.out (Nat.le_refl _) sz w2 HR2.out (sumOf_fit _ _) h1 h2).mono ?_
  rintro e w3 ⟨g3, rfl, hg3, hR3, hb3⟩
  have HR3 := Lib.hid hR3
  have bel3 := below_then bel2 hb3
  have hg4 := Nat.le_trans bel2.size hg3
  clear hR3 hg3
  go_wp2
  go_ret2
  exact ⟨g3, rfl, hg4, HR3.out, bel3⟩

theorem Sign_alg (z : Int) (h1 : z ≠ 1) (h2 : z ≠ 2) (Am : Option Addr) (k cm : Nat) (As : Option Addr) (ns cs : Nat) (A : Option Addr) (n cap : Nat) (w : World) :
    Calls Tryz.prog 15 #[.slice Am k cm, .slice As ns cs, .int .i64 z, .slice A n cap] w (NoBs w 20) := by
  go_enter Tryz.func15, Tryz.ntmps15
  go_wp2_with fail
  refine (Size7_any z w).mono ?_
  rintro e w1 ⟨rfl, rfl⟩
  rw [sizeOfAlg, if_neg h1, if_neg h2]
  go_wp2
  go_ret2
  exact ⟨rfl, Below.refl _ _⟩
set_option maxHeartbeats 1000000 in
theorem Sign_bits (z : Nat) (hz : z = 1 ∨ z = 2) (s : Nat) (hs : sizeOfAlg z = s) (Am : Option Addr) (k cm : Nat) (lm : List Nat) (As : Option Addr) (ns cs : Nat) (A : Option Addr) (n cap : Nat) (l : List Nat) (w : World)
    (hm : Rd .u8 w Am k lm) (hfm : Fit 256 lm) (hcm : k ≤ cm) (hmm : cm ≤ maxLen) (hM : Modul k lm) (hr : Rd .u8 w A n l) (hf : Fit 256 l) (hc : n ≤ cap) (hn : n ≤ 10000) (ht : Both w) (h : k < 30 + s) :
    Calls Tryz.prog 15 #[.slice Am k cm, .slice As ns cs, .int .i64 (z : Int), .slice A n cap] w (NoBs w 21) := by
  have hs2 : s = 32 ∨ s = 64 := by have := sizeAlg_cases hz; omega
  have d0 : ((s : Int) == 0) = false := by simp; omega
  have HZ := Lib.hid hz
  have HS := Lib.hid hs
  have HMD := Lib.hid hM
  have HMR := Lib.hid hm
  have HR := Lib.hid hr
  have HT := Lib.hid ht
  clear hz hs hM hm hr ht
  go_enter Tryz.func15, Tryz.ntmps15
  go_wp2_with fail
  refine (Size7_any z w).mono ?_
  rintro e w1 ⟨rfl, rfl⟩
  rw [HS.out]
  go_wp2_with fail
  refine (Make_ok Am k cm _ w HMR.out hfm hcm hmm HMD.out).mono ?_
  rintro e w2 ⟨gk, gm, rfl, ⟨ck, gr, hK⟩, hgm, hb2⟩
  have HK := Lib.hid hK
  have k2 := hK.k2
  clear hK hgm
  go_wp2_with fail
  refine (Size_any gk k _ gm ck gr w2 HK.out).mono ?_
  rintro e w3 ⟨rfl, rfl⟩
  go_wp2_with fail
  refine (TB_bits z HZ.out s HS.out A n cap l (k : Int) w2 (HR.out.below hb2) hf hc hn (HT.out.below hb2) (by omega) (by omega) (.inr (by omega))).mono ?_
  rintro e w4 ⟨rfl, hb4⟩
  have bel4 := below_then hb2 hb4
  go_wp2
  go_ret2
  exact ⟨rfl, bel4⟩
set_option maxHeartbeats 1000000 in
theorem Sign_ok (z : Nat) (hz : z = 1 ∨ z = 2) (s : Nat) (hs : sizeOfAlg z = s) (Am : Option Addr) (k cm : Nat) (lm : List Nat) (As : Option Addr) (ns cs : Nat) (ls : List Nat) (A : Option Addr) (n cap : Nat) (l : List Nat) (w : World)
    (hm : Rd .u8 w Am k lm) (hfm : Fit 256 lm) (hcm : k ≤ cm) (hmm : cm ≤ maxLen) (hM : Modul k lm) (hrs : Rd .u8 w As ns ls) (hfs : Fit 256 ls) (hnc : ns ≤ cs) (hcs : cs ≤ maxLen) (hns : ns ≤ 1024) (hr : Rd .u8 w A n l) (hf : Fit 256 l) (hc : n ≤ cap) (hn : n ≤ 10000) (ht : Both w) (h : 30 + s ≤ k) :
    Calls Tryz.prog 15 #[.slice Am k cm, .slice As ns cs, .int .i64 (z : Int), .slice A n cap] w (GivesSig w k (vbe (blockOf z (sumOf z l) k) ^ vbe ls % vbe lm)) := by
  have hs2 : s = 32 ∨ s = 64 := by have := sizeAlg_cases hz; omega
  have d0 : ((s : Int) == 0) = false := by simp; omega
  have HZ := Lib.hid hz
  have HS := Lib.hid hs
  have HMD := Lib.hid hM
  have HMR := Lib.hid hm
  have HR := Lib.hid hr
  have HSR := Lib.hid hrs
  have HT := Lib.hid ht
  have HLT : Hid (vbe (blockOf z (sumOf z l) k) < vbe lm) := block_below hM hm.1 (sumOf_fit _ _) (by rw [sizeAlg hz, hs]; omega)
  have HFB : Hid (Fit 256 (blockOf z (sumOf z l) k)) := blockOf_fit (sumOf_fit _ _)
  have hk5 := hM.2.1
  clear hz hs hM hm hr ht hrs
  go_enter Tryz.func15, Tryz.ntmps15
  go_wp2_with fail
  refine (Size7_any z w).mono ?_
  rintro e w1 ⟨rfl, rfl⟩
  rw [HS.out]
  go_wp2_with fail
  refine (Make_ok Am k cm _ w HMR.out hfm hcm hmm HMD.out).mono ?_
  rintro e w2 ⟨gk, gm, rfl, ⟨ck, gr, hK⟩, hgm, hb2⟩
  have HK := Lib.hid hK
  clear hK hgm
  go_wp2_with fail
  refine (Size_any gk k _ gm ck gr w2 HK.out).mono ?_
  rintro e w3 ⟨rfl, rfl⟩
  go_wp2_with fail
  refine (TB_ok z HZ.out s HS.out A n cap l k w2 (HR.out.below hb2) hf hc hn (HT.out.below hb2) h hk5).mono ?_
  rintro e w4 ⟨g4, rfl, hg4, hR4, hb4⟩
  have HR4 := Lib.hid hR4
  have bel4 := below_then hb2 hb4
  clear hR4 hg4
  go_wp2_with fail
  refine (Close_yes Am k cm _ As ns cs _ _ k _ w4 (HMR.out.below bel4) hfm hcm hmm HMD.out HR4.out HFB.out (Nat.le_refl _) (by unfold maxLen; omega) HLT.out (HSR.out.below bel4) hfs hnc hcs hns).mono ?_
  generalize vbe (blockOf z (sumOf z l) k) ^ vbe ls % vbe lm = x at *
  rintro e w5 ⟨g5, rfl, hg5, hB5, hb5⟩
  have HB5 := Lib.hid hB5
  have bel5 := below_then bel4 hb5
  have hg6 := Nat.le_trans bel4.size hg5
  clear hB5 hg5
  go_wp2
  go_ret2
  exact ⟨g5, rfl, hg6, HB5.out, bel5⟩
end Go.Proofs.YtppoikamenbckaaGreatDoor
