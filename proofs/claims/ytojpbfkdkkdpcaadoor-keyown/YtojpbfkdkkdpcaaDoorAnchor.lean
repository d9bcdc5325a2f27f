/-
  The document's example and a signature: the statements' anchor holds.
-/
import Derived.Test.YtojpbfkdkkdpcaaDoorK5
import Derived.Test.YtojpbfkdkkdpcaaDoorH2
namespace Go.Proofs.YtojpbfkdkkdpcaaDoor
open Go.RowKit
set_option linter.unusedVariables false
set_option linter.unusedSimpArgs false
set_option maxRecDepth 100000

theorem val0 : vbe (bytesOf 64 keyN0) = keyN0 := bytesOf_val (keyN_room (z := 0) (by omega))
theorem vald0 : vbe (bytesOf 64 keyD0) = keyD0 := bytesOf_val (keyD_room (z := 0) (by omega))
theorem mod0 : Modul 64 (bytesOf 64 keyN0) := keyN_modul (z := 0) (by omega)
theorem two_lt : 2 < keyN0 := of_decide_eq_true (by kernel_rfl)
theorem val2 : vbe (bytesOf 64 2) = 2 := bytesOf_val (of_decide_eq_true (by kernel_rfl))
theorem keyN_gt {z : Nat} (hz : z ≤ 3) : 1 < keyN z := by
  have := (keyN_modul hz).gt (bytesOf_length _ _)
  rwa [bytesOf_val (keyN_room hz)] at this
theorem small_room {z x : Nat} (hz : z ≤ 3) (h : x < keyN z) : vbe (bytesOf (keyK z) x) = x := bytesOf_val (Nat.lt_trans h (keyN_room hz))
theorem small_room0 {x : Nat} (h : x < keyN0) : vbe (bytesOf 64 x) = x := small_room (z := 0) (by omega) h
theorem blk2 {w : World} {g : Nat} (h : Blk w g 5 (cn .u8 (List.replicate 64 0))) : Rd .u8 (w.setCell ⟨g, 63, none⟩ (.int .u8 2)) (some ⟨g, 0, none⟩) 64 (bytesOf 64 2) := by
  have hb := h.set_ 63 (.int .u8 ((2 : Nat) : Int))
  rw [cn_set, show (List.replicate 64 0).set 63 2 = bytesOf 64 2 from by decide] at hb
  exact hb.rd 64 (bytesOf_length _ _)

set_option maxHeartbeats 4000000 in
theorem anchor_any (w : World) : Calls Tryd.prog 10 #[] w fun e w' => e = .returned (.bool true) ∧ Below w.heap.size w w' := by
  go_enter Tryd.func10, Tryd.ntmps10
  go_wp2_with fail
  refine (Modulus_0 w).mono ?_
  rintro e w1 ⟨A1, c1, rfl, hrow1, hb1⟩
  have HR1 := Lib.hid hrow1.rd
  have hc1 := hrow1.le.1
  have hm1 := hrow1.le.2
  clear hrow1
  go_wp2_with fail
  refine (Make_ok A1 64 c1 _ w1 HR1.out (bytesOf_fit _ _) hc1 hm1 mod0).mono ?_
  rintro e w2 ⟨g, gm, rfl, ⟨ck, gr, hK⟩, hgm, hb2⟩
  rw [val0] at hK
  have HK := Lib.hid hK
  have bel2 := below_then hb1 hb2
  clear hK
  go_wp2_with fail
  refine (KBytes_any g 64 _ gm ck gr w2 HK.out 136 rfl).mono ?_
  rintro e w3 ⟨g3, c3, rfl, hg3, hrow3, hb3⟩
  have bel3 := below_then bel2 hb3
  clear hrow3 hg3
  go_wp2_with fail
  refine (Size_any g 64 _ gm ck gr w3 (HK.out.below hb3)).mono ?_
  rintro e w4 ⟨rfl, rfl⟩
  go_wp2_with (first
    | ((with_reducible refine at_dst (some 32) ?_); refine wpList_makeNums (o := ⟨some 32, _, _, _, _, _⟩) rfl (.const (.int .i64 64)) (.const (.int .i64 64)) 22 5 rfl .u8 1 Tryd.underlying22 byteInfo (by omega) _ _ rfl rfl 64 rfl (by omega) ?_; intro wm hbm hbelm hsm; have hoc : wm.cell? ⟨w3.heap.size, 63, none⟩ = some (.int .u8 0) := hbm.out.cell 63; have hof := hbm.out.frozen 63))
  have HR5 := Lib.hid (blk2 hbm.out)
  have hb5 : Below w3.heap.size w3 (wm.setCell ⟨w3.heap.size, 63, none⟩ (.int .u8 2)) := hbelm.setCell (Nat.le_refl _) _
  clear hbm hbelm hsm hoc hof
  generalize hg5 : w3.heap.size = g5 at *
  generalize wm.setCell ⟨g5, 63, none⟩ (.int .u8 2) = w5 at *
  rw [← hg5] at hb5
  have bel5 := below_then bel3 hb5
  refine (Secret_0 w5).mono ?_
  rintro e w6 ⟨A6, c6, rfl, hrow6, hb6⟩
  have HR6 := Lib.hid hrow6.rd
  have hc6 := hrow6.le.1
  have hm6 := hrow6.le.2
  have bel6 := below_then bel5 hb6
  clear hrow6
  go_wp2_with fail
  refine (Close_yes A1 64 c1 _ A6 64 c6 _ _ 64 _ w6 ((((HR1.out.below hb2).below hb3).below hb5).below hb6) (bytesOf_fit _ _) hc1 hm1 mod0 (HR5.out.below hb6) (bytesOf_fit _ _) (Nat.le_refl _) (by unfold maxLen; omega) (by rw [val0, val2]; exact two_lt) HR6.out (bytesOf_fit _ _) hc6 hm6 (by omega)).mono ?_
  rw [val0, val2, vald0]
  rintro e w7 ⟨g7, rfl, hg7, hB7, hb7⟩
  have HB7 := Lib.hid hB7
  have bel7 := below_then bel6 hb7
  clear hB7
  have hbk := key0_ok.back 2 two_lt
  have hlt : 2 ^ keyD0 % keyN0 < keyN0 := Nat.mod_lt _ (Nat.lt_trans (by omega) two_lt)
  generalize 2 ^ keyD0 % keyN0 = sg at *
  have HS7 := Lib.hid (small_room0 hlt)
  have HBK := Lib.hid hbk
  have HLT := Lib.hid hlt
  clear hbk hlt
  go_wp2_with fail
  refine (Open_yes g 64 _ gm ck gr _ 64 _ w7 ((((HK.out.below hb3).below hb5).below hb6).below hb7) (HB7.out.rd 64 (bytesOf_length _ _)) (bytesOf_fit _ _) (Nat.le_refl _) (by unfold maxLen; omega) (by rw [HS7.out]; exact HLT.out)).mono ?_
  rw [HS7.out, HBK.out]
  rintro e w8 ⟨g8, rfl, hg8, hB8, hb8⟩
  have hs1 := rd_str (hB8.rd 64 (bytesOf_length _ _)) 64
  have hs2 := rd_str (((HR5.out.below hb6).below hb7).below hb8) 64
  have bel8 := below_then bel7 hb8
  clear hB8
  generalize str (bytesOf 64 2) = S at *
  go_wp2
  go_ret
  exact ⟨rfl, bel8⟩
end Go.Proofs.YtojpbfkdkkdpcaaDoor
