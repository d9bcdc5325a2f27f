/-
  What Verify of package seal answers.
-/
import Derived.Test.YtppoikamenbckaaGreatDoorQ6
namespace Go.Proofs.YtppoikamenbckaaGreatDoor
open Go.RowKit
set_option linter.unusedVariables false
set_option linter.unusedSimpArgs false
set_option maxRecDepth 100000

/-- An answer: an error's number. -/
def Tells (w : World) (er : Int) (e : Ending) (w' : World) : Prop := e = .returned (.int .i64 er) ∧ Below w.heap.size w w'
/-- A signature of n bytes opens to a block. -/
def Opens (k N : Nat) (ls blk : List Nat) : Prop := ls.length = k ∧ vbe ls < N ∧ bytesOf k (vbe ls ^ keyE % N) = blk
set_option maxHeartbeats 1000000 in
theorem Verify_alg (z : Int) (h1 : z ≠ 1) (h2 : z ≠ 2) (g k N gm c gr : Nat) (A : Option Addr) (n cap : Nat) (As : Option Addr) (ns cs : Nat) (w : World) (h : Keyed w g k N gm c gr) :
    Calls Tryz.prog 9 #[.pointer (some ⟨g, 0, none⟩), .int .i64 z, .slice A n cap, .slice As ns cs] w (Tells w 20) := by
  go_enter Tryz.func9, Tryz.ntmps9
  go_wp2_with fail
  refine (Size_any g k N gm c gr w h).mono ?_
  rintro e w1 ⟨rfl, rfl⟩
  clear h
  go_wp2_with fail
  refine (TB_alg z h1 h2 _ _ _ _ _).mono ?_
  rintro e w2 ⟨rfl, hb2⟩
  go_wp2
  go_ret
  exact ⟨rfl, hb2⟩
set_option maxHeartbeats 1000000 in
theorem Verify_bits (z : Nat) (hz : z = 1 ∨ z = 2) (s : Nat) (hs : sizeOfAlg z = s) (g k N gm c gr : Nat) (A : Option Addr) (n cap : Nat) (l : List Nat) (As : Option Addr) (ns cs : Nat) (w : World) (h : Keyed w g k N gm c gr) (hr : Rd .u8 w A n l) (hf : Fit 256 l) (hc : n ≤ cap) (hn : n ≤ 10000) (ht : Both w) (hk : k < 30 + s) :
    Calls Tryz.prog 9 #[.pointer (some ⟨g, 0, none⟩), .int .i64 (z : Int), .slice A n cap, .slice As ns cs] w (Tells w 21) := by
  have HZ := Lib.hid hz
  have HS := Lib.hid hs
  have HK := Lib.hid h
  have HR := Lib.hid hr
  have HT := Lib.hid ht
  have k2 := h.k2
  clear hz hs h hr ht
  go_enter Tryz.func9, Tryz.ntmps9
  go_wp2_with fail
  refine (Size_any g k N gm c gr w HK.out).mono ?_
  rintro e w1 ⟨rfl, rfl⟩
  go_wp2_with fail
  refine (TB_bits z HZ.out s HS.out A n cap l (k : Int) w HR.out hf hc hn HT.out (by omega) (by omega) (.inr (by omega))).mono ?_
  rintro e w2 ⟨rfl, hb2⟩
  go_wp2
  go_ret
  exact ⟨rfl, hb2⟩
set_option maxHeartbeats 1000000 in
theorem Verify_any (z : Nat) (hz : z = 1 ∨ z = 2) (s : Nat) (hs : sizeOfAlg z = s) (g k N gm c gr : Nat) (A : Option Addr) (n cap : Nat) (l : List Nat) (As : Option Addr) (ns cs : Nat) (ls : List Nat) (w : World) (h : Keyed w g k N gm c gr) (hr : Rd .u8 w A n l) (hf : Fit 256 l) (hc : n ≤ cap) (hn : n ≤ 10000)
    (hrs : Rd .u8 w As ns ls) (hfs : Fit 256 ls) (hnc : ns ≤ cs) (hcs : cs ≤ maxLen) (ht : Both w) (hk : 30 + s ≤ k) (er : Int) (her : (er = 0 ∧ Opens k N ls (blockOf z (sumOf z l) k)) ∨ (er = 23 ∧ ¬ Opens k N ls (blockOf z (sumOf z l) k))) :
    Calls Tryz.prog 9 #[.pointer (some ⟨g, 0, none⟩), .int .i64 (z : Int), .slice A n cap, .slice As ns cs] w (Tells w er) := by
  have HZ := Lib.hid hz
  have HS := Lib.hid hs
  have HK := Lib.hid h
  have HR := Lib.hid hr
  have HSR := Lib.hid hrs
  have HT := Lib.hid ht
  have HER := Lib.hid her
  have k2 := h.k2
  have HFB : Hid (Fit 256 (blockOf z (sumOf z l) k)) := blockOf_fit (sumOf_fit _ _)
  clear hz hs h hr ht hrs her
  go_enter Tryz.func9, Tryz.ntmps9
  go_wp2_with fail
  refine (Size_any g k N gm c gr w HK.out).mono ?_
  rintro e w1 ⟨rfl, rfl⟩
  go_wp2_with fail
  refine (TB_ok z HZ.out s HS.out A n cap l k w HR.out hf hc hn HT.out hk k2).mono ?_
  generalize blockOf z (sumOf z l) k = blk at *
  rintro e w2 ⟨g2, rfl, hg2, hR2, hb2⟩
  have HR2 := Lib.hid hR2
  clear hR2 hg2
  by_cases hne : ns = k
  · by_cases hlt : vbe ls < N
    · subst hne
      go_wp2_with fail
      refine (Open_yes g ns N gm c gr As cs ls w2 (HK.out.below hb2) (HSR.out.below hb2) hfs hnc hcs hlt).mono ?_
      have hO : Opens ns N ls blk ↔ bytesOf ns (vbe ls ^ keyE % N) = blk := ⟨fun h => h.2.2, fun h => ⟨HSR.out.1, hlt, h⟩⟩
      generalize vbe ls ^ keyE % N = x at *
      rintro e w3 ⟨g3, rfl, hg3, hB3, hb3⟩
      have HB3 := Lib.hid (hB3.rd ns (bytesOf_length _ _))
      have bel3 := below_then hb2 hb3
      have hD : decide (bytesOf ns x = blk) = decide (er = 0) := by
        rw [Bool.eq_iff_iff]
        simp only [decide_eq_true_eq]
        rw [← hO]
        rcases HER.out with ⟨rfl, ho⟩ | ⟨rfl, ho⟩
        · simp [ho]
        · simp [ho]
      have hE : er = 0 ∨ er = 23 := HER.out.imp (fun h => h.1) (fun h => h.1)
      have HD := Lib.hid hD
      clear hB3 hg3 hO hD
      go_wp2_with fail
      refine (Equal_any _ _ ns ns ns ns _ _ w3 HB3.out (HR2.out.below hb3) (bytesOf_fit _ _) HFB.out).mono ?_
      rw [HD.out]
      rintro e w4 ⟨rfl, rfl⟩
      rcases hE with rfl | rfl
      · go_wp2
        go_ret
        exact ⟨rfl, bel3⟩
      · go_wp2
        go_ret
        exact ⟨rfl, bel3⟩
    · obtain rfl : er = 23 := (HER.out.resolve_left (fun h => hlt h.2.2.1)).1
      subst hne
      go_wp2_with fail
      refine (Open_no g ns N gm c gr As cs ls w2 (HK.out.below hb2) (HSR.out.below hb2) hfs hnc hcs (by omega)).mono ?_
      rintro e w3 ⟨rfl, hb3⟩
      have bel3 := below_then hb2 hb3
      go_wp2
      go_ret
      exact ⟨rfl, bel3⟩
  · obtain rfl : er = 23 := (HER.out.resolve_left (fun h => hne (HSR.out.1.symm.trans h.2.1))).1
    go_wp2_with fail
    refine (Open_size g k N gm c gr As ns cs w2 (HK.out.below hb2) hne).mono ?_
    rintro e w3 ⟨rfl, hb3⟩
    have bel3 := below_then hb2 hb3
    go_wp2
    go_ret
    exact ⟨rfl, bel3⟩
end Go.Proofs.YtppoikamenbckaaGreatDoor
