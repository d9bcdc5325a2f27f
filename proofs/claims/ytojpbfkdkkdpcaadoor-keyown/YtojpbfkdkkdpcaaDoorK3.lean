/-
  What Make, Size, Modulus and Bytes of package key answer.
-/
import Derived.Test.YtojpbfkdkkdpcaaDoorK2
namespace Go.Proofs.YtojpbfkdkkdpcaaDoor
open Go.RowKit
set_option linter.unusedVariables false
set_option linter.unusedSimpArgs false
set_option maxRecDepth 100000

theorem From_okz (A : Option Addr) (n cap : Nat) (l : List Nat) (W : Nat) (z : Int) (hz : z = W) (w : World) (h : Rd .u8 w A n l) (hf : Fit 256 l) (hn : n ≤ cap) (hm : cap ≤ maxLen) (hn2 : n ≤ 10000) (h1 : 1 ≤ W) (h2 : W ≤ 256) (hb : vbe l < 4294967296 ^ W) :
    Calls Tryd.prog 27 #[.slice A n cap, .int .i64 z] w fun e w' => ∃ A1 zs, e = .returned (.tuple #[.slice A1 W W, .int .i64 0]) ∧ Limbs w w' A1 W W zs ∧ val 4294967296 zs = vbe l := by
  subst hz; exact From_ok A n cap l W w h hf hn hm hn2 h1 h2 hb

set_option maxHeartbeats 400000 in
theorem Make_bits (A : Option Addr) (n cap : Nat) (w : World) (hn : n ≤ 1000000) (h : n < 64 ∨ 512 < n ∨ n % 64 ≠ 0) :
    Calls Tryd.prog 11 #[.slice A n cap] w (NoKey w 21) := by
  go_enter Tryd.func11, Tryd.ntmps11
  go_wp2_with fail
  refine (bitsRight_no _ _ (by omega) (by omega)).mono ?_
  rintro e w1 ⟨rfl, rfl⟩
  go_wp2
  go_ret2
  exact ⟨rfl, below_self⟩
set_option maxHeartbeats 400000 in
theorem Make_form (A : Option Addr) (n cap : Nat) (l : List Nat) (w : World) (h : Rd .u8 w A n l) (hf : Fit 256 l) (hs : 64 ≤ n ∧ n ≤ 512 ∧ n % 64 = 0) (a z : Nat) (ha : l[0]? = some a) (hz : l[n - 1]? = some z) (hb : a < 128 ∨ z % 2 = 0) :
    Calls Tryd.prog 11 #[.slice A n cap] w (NoKey w 22) := by
  obtain ⟨k1, k2, k3⟩ := hs
  have HR := Lib.hid h
  have HA := Lib.hid ha
  have HZ := Lib.hid hz
  have HB := Lib.hid hb
  clear h ha hz hb
  go_enter Tryd.func11, Tryd.ntmps11
  go_wp2_with fail
  refine (bitsRight_yes _ _ (by omega) (by omega) (by omega)).mono ?_
  rintro e w1 ⟨rfl, rfl⟩
  go_wp2_with fail
  refine (isModulus_no A n cap l w HR.out hf ⟨k1, k2⟩ a z HA.out HZ.out HB.out).mono ?_
  rintro e w1 ⟨rfl, rfl⟩
  go_wp2
  go_ret2
  exact ⟨rfl, below_self⟩
theorem limbs_room {l : List Nat} {n W : Nat} (hf : Fit 256 l) (hl : l.length = n) (hW : n = 4 * W) : vbe l < 4294967296 ^ W := by
  rw [← pow256_32, ← hW, ← hl]; exact vbe_ltp hf
set_option maxHeartbeats 1000000 in
theorem Make_ok (A : Option Addr) (n cap : Nat) (l : List Nat) (w : World) (h : Rd .u8 w A n l) (hf : Fit 256 l) (hn : n ≤ cap) (hm : cap ≤ maxLen) (hM : Modul n l) :
    Calls Tryd.prog 11 #[.slice A n cap] w (GivesKey w n (vbe l)) := by
  have HO := Lib.hid (hM.odd h.1)
  have HG := Lib.hid (hM.gt h.1)
  have HM := Lib.hid hM
  obtain ⟨k1, k2, k3, a, z, ha, hz, hb, hb2⟩ := hM
  have HR := Lib.hid h
  obtain ⟨W, hW⟩ : ∃ W, n = 4 * W := ⟨n / 4, by omega⟩
  have HW := Lib.hid hW
  have HLT := Lib.hid (limbs_room hf h.1 hW)
  have HA := Lib.hid ha
  have HZ := Lib.hid hz
  have HB := Lib.hid (And.intro hb hb2)
  have w1_ : 1 ≤ W := by omega
  have w2_ : W ≤ 128 := by omega
  clear h ha hz hb hb2 hW
  go_enter Tryd.func11, Tryd.ntmps11
  go_wp2_with fail
  refine (bitsRight_yes _ _ (by omega) (by omega) (by omega)).mono ?_
  rintro e w1 ⟨rfl, rfl⟩
  go_wp2_with fail
  refine (isModulus_yes A n cap l w HR.out hf ⟨k1, k2⟩ a z HA.out HZ.out HB.out).mono ?_
  rintro e w1 ⟨rfl, rfl⟩
  go_wp2_with fail
  refine (From_okz A n cap l W _ (by have := HW.out; omega) w HR.out hf hn hm (by omega) w1_ (by omega) HLT.out).mono ?_
  rintro e w1 ⟨A1, zs, rfl, ⟨hr1, hf1, _, _, hb1⟩, hv1⟩
  have HR1 := Lib.hid hr1
  have HV1 := Lib.hid hv1
  clear hr1 hv1
  go_wp2_with fail
  refine (New_ok A1 W W zs w1 HR1.out hf1 w1_ w2_ (by rw [HV1.out]; exact HO.out) (by rw [HV1.out]; exact HG.out)).mono ?_
  rintro e w2 ⟨gr, rfl, hw2, hb2⟩
  rw [HV1.out] at hw2
  have HW2 := Lib.hid hw2
  have bel2 := below_then hb1 hb2
  clear hw2
  go_wp2_with fail
  refine (Clone8_any A n cap l w2 (HR.out.below bel2) (by omega) (by omega)).mono ?_
  rintro e w3 ⟨gm, c3, rfl, hg3, hrow3, hb3⟩
  have HROW := Lib.hid hrow3
  have bel3 := below_then bel2 hb3
  clear hrow3
  go_wp2
  go_ret2
  have hba : Below w3.heap.size w3 (w3.alloc (.cells #[.slice (some ⟨gm, 0, none⟩) n c3, .pointer (some ⟨gr, 0, none⟩)] 56)) := (Below.refl _ _).alloc (Nat.le_refl _) _
  refine ⟨w3.heap.size, gm, rfl, ⟨c3, gr, ⟨Blk.new w3 56 [.slice (some ⟨gm, 0, none⟩) n c3, .pointer (some ⟨gr, 0, none⟩)], ?_, HROW.out.le.1, HROW.out.le.2, ?_, k1, k2, k3, ?_⟩⟩, Nat.le_trans bel2.size hg3, below_then bel3 hba⟩
  · have := HROW.out.rd.below hba
    rw [← bytesOf_eq HR.out.1 hf rfl]
    exact this
  · have e : n / 4 = W := by have := HW.out; omega
    rw [e]
    exact Whole.below (Whole.below HW2.out hb3) hba
  · have := vbe_ltp hf
    rw [HR.out.1] at this
    exact this

theorem Size_any (g k N gm c gr : Nat) (w : World) (h : Keyed w g k N gm c gr) :
    Calls Tryd.prog 15 #[.pointer (some ⟨g, 0, none⟩)] w fun e w' => e = .returned (.int .i64 (k : Int)) ∧ w = w' := by
  have h0 := h.q0
  clear h
  go_enter Tryd.func15, Tryd.ntmps15
  go_wp2
  go_ret
  exact ⟨rfl, rfl⟩
theorem Modulus_any (g k N gm c gr : Nat) (w : World) (h : Keyed w g k N gm c gr) :
    Calls Tryd.prog 16 #[.pointer (some ⟨g, 0, none⟩)] w (GivesBs w k (bytesOf k N)) := by
  have h0 := h.q0
  have k1 := h.k1
  have k2 := h.k2
  have HR := Lib.hid h.rd
  clear h
  go_enter Tryd.func16, Tryd.ntmps16
  go_wp2_with fail
  refine (Clone8_any _ k c _ w HR.out (by omega) (by omega)).mono ?_
  rintro e w3 ⟨g3, c3, rfl, hg3, hrow3, hb3⟩
  have HROW := Lib.hid hrow3
  clear hrow3
  go_wp2
  go_ret
  exact ⟨g3, c3, rfl, hg3, HROW.out, hb3⟩
end Go.Proofs.YtojpbfkdkkdpcaaDoor
