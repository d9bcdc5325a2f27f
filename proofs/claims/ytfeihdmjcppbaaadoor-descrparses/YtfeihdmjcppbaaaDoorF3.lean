/-
  What the document's read answers. No condition but that bytes fit.
-/
import Derived.Test.YtfeihdmjcppbaaaDoorF2
namespace Go.Proofs.YtfeihdmjcppbaaaDoor
open Go.RowKit
set_option linter.unusedVariables false
set_option linter.unusedSimpArgs false
set_option maxRecDepth 100000

theorem enc_drop (d : De) : (enc d).drop 16 = body d := by
  have h : (be 8 d.kind.toNat ++ be 8 (body d).length).length = 16 := by rw [List.length_append, be_length, be_length]
  rw [enc, ← List.append_assoc, ← h, List.drop_left]
set_option maxHeartbeats 8000000 in
theorem rread_any (k : Nat) (A : Option Addr) (n cap : Nat) (l : List Nat) (w : World) (hk : k ≤ 4) (hb : Bs w A n cap l) (hn : n ≤ 100000) : Calls Tryd.prog 37 #[.int .i64 (k : Int), .slice A n cap] w (RReadP w k l A) := by
  obtain ⟨d1, hu1, hd1⟩ := uR
  have HB := Lib.hid hb
  have hl := hb.rd.1
  have HL := Lib.hid hl
  have hnc := hb.le
  have hcm := hb.max
  have HF := Lib.hid hb.fit
  clear hb hl
  have hb1 : Below w.heap.size w (w.alloc (.cells zeroD.toArray 28)) := (Below.refl _ _).alloc (Nat.le_refl _) _
  have hk1 : Blk (w.alloc (.cells zeroD.toArray 28)) w.heap.size 28 zeroD := Blk.new _ _ _
  obtain ⟨W, hW⟩ : ∃ W, w.alloc (.cells zeroD.toArray 28) = W := ⟨_, rfl⟩
  rw [hW] at hb1 hk1
  unfold zeroD at hW
  have HB1 := Lib.hid hb1
  have HK1 := Lib.hid hk1
  clear hb1 hk1
  by_cases h48 : n < 48
  · have z48 : (n : Int) < 48 := by omega
    have HN : Hid (dec k l = none) := short_not2 (by rw [HL.out]; exact h48)
    clear h48
    go_enter Tryd.func37, Tryd.ntmps37
    go_wp2_with ((with_reducible refine at_dst none ?_); refine wpList_storeBlk (op := ⟨none, _, _, _, _, _⟩) rfl 28 (.tmp 4) (.tmp 14) rfl (g := w.heap.size) (t := 28) (old := zeroD) (cs := zeroD) rfl rfl HK1.out rfl iR zeroD_one ?_; intro w9 hB9 ht9)
    exact ret_cell_tmp rfl rfl hB9.out.at hu1 hd1 iR rfl ⟨zeroD, by rw [HN.out]; rfl, rfl, zeroD_one, fun h => (by rw [HN.out] at h; cases h), HB1.out.trans (ht9.below (fun y hy => by rw [List.mem_singleton.1 hy]; exact Nat.le_refl _) HB1.out.size)⟩
  · have z48 : ¬ (n : Int) < 48 := by omega
    have HBW := HB.out.below HB1.out
    have HG0 := Lib.hid (RGet_q A n cap l W HBW 0 4 0 4 rfl rfl (by omega) (by omega) (by omega))
    have HG1 := Lib.hid (RGet_q A n cap l W HBW 4 8 4 8 rfl rfl (by omega) (by omega) (by omega))
    have HG2 := Lib.hid (RGet_q A n cap l W HBW 12 4 12 4 rfl rfl (by omega) (by omega) (by omega))
    have HG3 := Lib.hid (RGet_q A n cap l W HBW 16 8 16 8 rfl rfl (by omega) (by omega) (by omega))
    have HG4 := Lib.hid (RGet_q A n cap l W HBW 24 4 24 4 rfl rfl (by omega) (by omega) (by omega))
    have hb2 : Below W.heap.size W (W.alloc (.cells (rx0 k l).cells.toArray 28)) := (Below.refl _ _).alloc (Nat.le_refl _) _
    have hk2 : Blk (W.alloc (.cells (rx0 k l).cells.toArray 28)) W.heap.size 28 (rx0 k l).cells := Blk.new _ _ _
    obtain ⟨W2, hW2⟩ : ∃ W2, W.alloc (.cells (rx0 k l).cells.toArray 28) = W2 := ⟨_, rfl⟩
    rw [hW2] at hb2 hk2
    have hb3 : Below W2.heap.size W2 (W2.alloc (.cells zero5.toArray 73)) := (Below.refl _ _).alloc (Nat.le_refl _) _
    have hk3 : Blk (W2.alloc (.cells zero5.toArray 73)) W2.heap.size 73 zero5 := Blk.new _ _ _
    obtain ⟨W3, hW3⟩ : ∃ W3, W2.alloc (.cells zero5.toArray 73) = W3 := ⟨_, rfl⟩
    rw [hW3] at hb3 hk3
    unfold zero5 at hW3
    obtain ⟨gd, hgd⟩ : ∃ gd, W.heap.size = gd := ⟨_, rfl⟩
    obtain ⟨ga, hga⟩ : ∃ ga, W2.heap.size = ga := ⟨_, rfl⟩
    have I0 : Hid (RSt w k l A cap 0 gd ga zero5 W3) := by
      have q1 := HK1.out.lt
      have q2 := hk2.lt
      refine ⟨(HB1.out.trans (hb2.mono HB1.out.size)).trans (hb3.mono (Nat.le_trans HB1.out.size hb2.size)), (HK1.out.below hb2 HK1.out.lt).below hb3 (HK1.out.below hb2 HK1.out.lt).lt, by rw [← hgd]; exact hk2.below hb3 hk2.lt, by rw [← hga]; exact hk3, rfl, by decide, fun j h => absurd h (Nat.not_lt_zero j), by omega, by omega⟩
    clear hb2 hk2 hb3 hk3 h48
    go_enter Tryd.func37, Tryd.ntmps37
    go_wp2_with fail
    refine HG0.out.mono ?_
    rintro e w1 ⟨rfl, rfl⟩
    go_wp2_with fail
    refine HG1.out.mono ?_
    rintro e w1 ⟨rfl, rfl⟩
    go_wp2_with fail
    refine HG2.out.mono ?_
    rintro e w1 ⟨rfl, rfl⟩
    go_wp2_with fail
    refine HG3.out.mono ?_
    rintro e w1 ⟨rfl, rfl⟩
    go_wp2_with fail
    refine HG4.out.mono ?_
    rintro e w1 ⟨rfl, rfl⟩
    go_wp2_with ((with_reducible refine at_dst none ?_); refine wpList_storeNew (w := W) (op := ⟨none, _, _, _, _, _⟩) rfl 28 (.tmp 6) (.tmp 26) rfl zeroD (rx0 k l).cells (by rw [← hgd]; rfl) rfl rfl iR (rx0 k l).one ?_; rw [hW2])
    (try rw [hW3])
    clear HG0 HG1 HG2 HG3 HG4 HBW
    go_loopw [7, 9] (fun a o wr => ∃ i : Nat, i ≤ 5 ∧ o = .int .i64 (i : Int) ∧ a = .int .i64 ((en l i : Nat) : Int) ∧ (∀ j, j < i → en l (j + 1) ≤ n) ∧ ∃ cs, Hid (RSt w k l A cap i gd ga cs wr)) (fun _ o _ => 5 - (intOf o).toNat)
    case atStart => exact ⟨0, by omega, rfl, rfl, fun j h => absurd h (Nat.not_lt_zero j), zero5, I0⟩
    case round =>
      obtain ⟨i, hi, rfl, rfl, hall, cs, HS⟩ := hrel
      have HA := Lib.hid hall
      clear hall
      have hcz : Hid (cutOk l = decide (48 ≤ n ∧ en l 5 ≤ n)) := by show _ = _; unfold cutOk; rw [HL.out]
      by_cases hin : i < 5
      · have hin2 : (i : Int) < 5 := by omega
        obtain ⟨E, hE⟩ : ∃ E, en l i = E := ⟨_, rfl⟩
        obtain ⟨L, hLn⟩ : ∃ L, ln l i = L := ⟨_, rfl⟩
        have hL4 : L < 4294967296 := by rw [← hLn]; exact ln_lt HF.out i
        have hE2 : en l (i + 1) = E + L := by rw [en, hE, hLn]
        have hEn : E ≤ n := by
          rcases i with _ | i
          · rw [← hE]; show 48 ≤ _; omega
          · have := HA.out i (by omega); omega
        have HE := Lib.hid hE
        have HLN := Lib.hid hLn
        have HE2 := Lib.hid hE2
        rw [hE]
        have hrg : rget (sl l (28 + 4 * i) 4) = (L : Int) := by
          rw [rget_small (sl_fit HF.out _ 4) (by unfold sl; rw [List.length_take]; omega), ← hLn]
          rfl
        have HG := Lib.hid (RGet_q A n cap l wr (HB.out.below HS.out.below) (28 + 4 * i) 4 (28 + 4 * (i : Int)) 4 (by omega) rfl (by omega) (by omega) (by omega))
        rw [hrg] at HG
        by_cases hfit : E + L ≤ n
        · have HFT := Lib.hid hfit
          have hz : ¬ (n : Int) - (E : Int) < (L : Int) := by omega
          have hsl := fun W => run_mid8 A n cap E (E + L) (by omega) (by omega) (E : Int) ((E : Int) + (L : Int)) rfl (by omega) W
          rw [show E + L - E = L by omega] at hsl
          have HRS : Hid ((.slice (if cap = E then A else A.map (·.add E)) L (cap - E) : Value) = (rsl A cap l i).v) := by
            show _ = _
            unfold rsl Sl.v
            rw [hE, hLn]
          obtain ⟨v, hv⟩ : ∃ v : Value, (.slice (if cap = E then A else A.map (·.add E)) L (cap - E) : Value) = v := ⟨_, rfl⟩
          obtain ⟨A9, hA9⟩ : ∃ A9, (if cap = E then A else A.map (·.add E)) = A9 := ⟨_, rfl⟩
          obtain ⟨c9, hc9⟩ : ∃ c9, cap - E = c9 := ⟨_, rfl⟩
          rw [hA9, hc9] at hsl HRS
          have hix := fun W => idx5 ga i hin W
          clear hv hA9 hc9 hE hLn hE2 hrg hfit
          go_wp2_with fail
          refine HG.out.mono ?_
          rintro e w1 ⟨rfl, rfl⟩
          go_wp2_with ((with_reducible refine at_dst none ?_); refine wpList_storeOne (op := ⟨none, _, _, _, _, _⟩) rfl 25 (.tmp 50) (.tmp 49) rfl (g := ga) (i := i) (t := 73) rfl rfl HS.out.arr (by rw [HS.out.len]; exact hin) rfl rfl iSl ?_; intro w2 hU hT)
          go_roundw
          case rel =>
            refine ⟨i + 1, by omega, by go_num, by rw [HE2.out]; go_num, fun j hj => ?_, cs.set i (rsl A cap l i).v, ?_⟩
            · by_cases e : j = i
              · subst e; rw [HE2.out]; exact HFT.out
              · exact HA.out j (by omega)
            · have hU2 := hU.out
              rw [HRS.out] at hU2
              exact HS.out.put hin hT hU2
          case measure => simp [intOf]; omega
        · have HN : Hid (dec k l = none) := by
            refine short_not ?_
            rw [hcz.out]
            refine decide_eq_false (fun h => hfit ?_)
            have := en_mono l (i + 1) 5 (by omega)
            omega
          have hz : (n : Int) - (E : Int) < (L : Int) := by omega
          clear hE hLn hE2 hrg hfit
          go_wp2_with fail
          refine HG.out.mono ?_
          rintro e w1 ⟨rfl, rfl⟩
          go_wp2_with ((with_reducible refine at_dst none ?_); refine wpList_storeBlk (op := ⟨none, _, _, _, _, _⟩) rfl 28 (.tmp 4) (.tmp 42) rfl (g := w.heap.size) (t := 28) (old := zeroD) (cs := zeroD) rfl rfl HS.out.res rfl iR zeroD_one ?_; intro w9 hB9 ht9)
          exact ret_cell_tmp rfl rfl hB9.out.at hu1 hd1 iR rfl ⟨zeroD, by rw [HN.out]; rfl, rfl, zeroD_one, fun h => (by rw [HN.out] at h; cases h), HS.out.below.trans (ht9.below (fun y hy => by rw [List.mem_singleton.1 hy]; exact Nat.le_refl _) HS.out.below.size)⟩
      · obtain rfl : i = 5 := by omega
        have HOK : Hid (cutOk l = true) := by
          show _ = _
          rw [hcz.out]
          have := HA.out 4 (by omega)
          exact decide_eq_true ⟨by omega, this⟩
        have k0 : wr.cell? ⟨ga, 0, none⟩ = some (.slice (rsl A cap l 0).A (rsl A cap l 0).n (rsl A cap l 0).cap) := (HS.out.arr.cell 0).trans (HS.out.got 0 (by omega))
        have r0 : (convert 25 9 (.slice (rsl A cap l 0).A (rsl A cap l 0).n (rsl A cap l 0).cap)).run Tryd.prog wr = .ok (.string (str (sl l (en l 0) (ln l 0)))) wr := rd_str ((HB.out.below HS.out.below).text HOK.out (by omega)).rd _
        have HORD := Lib.hid HS.out.ord
        have HAR := Lib.hid HS.out.arr
        have HGT := Lib.hid HS.out.got
        have HBL := Lib.hid HS.out.below
        have HRES := Lib.hid HS.out.res
        have HDD := Lib.hid HS.out.d
        clear HS hcz
        go_upto_region 15 with ((with_reducible refine at_dst none ?_); refine wpList_storeOne (op := ⟨none, _, _, _, _, _⟩) rfl 9 (.tmp 57) (.tmp 56) rfl (g := gd) (i := 6) (t := 28) (v := .string (str (sl l (en l 0) (ln l 0)))) rfl rfl HDD.out (by rw [Dx.cells_length]; omega) rfl rfl iStr ?_; intro w6 hU6 hT6)
        -- STORES
        have NG : Hid (gd ≠ ga ∧ w.heap.size ≠ gd) := ⟨by have := HORD.out; omega, by have := HORD.out; omega⟩
        have HX6 := hU6
        have HAR6 := Lib.hid (HAR.out.touch hT6 (by have := NG.out.1; simp; omega))
        have TT6 := Lib.hid hT6
        clear k0 r0 hT6 hU6
        have k1 : w6.cell? ⟨ga, 1, none⟩ = some (.slice (rsl A cap l 1).A (rsl A cap l 1).n (rsl A cap l 1).cap) := (HAR6.out.cell 1).trans (HGT.out 1 (by omega))
        go_upto_region 16 with ((with_reducible refine at_dst none ?_); refine wpList_storeOne (op := ⟨none, _, _, _, _, _⟩) rfl 25 (.tmp 60) (.tmp 59) rfl (g := gd) (i := 7) (t := 28) (v := .slice (rsl A cap l 1).A (rsl A cap l 1).n (rsl A cap l 1).cap) rfl rfl HX6.out (by simp only [List.length_set, Dx.cells_length]; omega) rfl rfl iSl ?_; intro w7 HX7 hT7)
        have HAR7 := Lib.hid (HAR6.out.touch hT7 (by have := NG.out.1; simp; omega))
        have TT7 := Lib.hid (TT6.out.trans hT7)
        clear k1 hT7 HX6 HAR6 TT6
        have k2 : w7.cell? ⟨ga, 2, none⟩ = some (.slice (rsl A cap l 2).A (rsl A cap l 2).n (rsl A cap l 2).cap) := (HAR7.out.cell 2).trans (HGT.out 2 (by omega))
        go_upto_region 17 with ((with_reducible refine at_dst none ?_); refine wpList_storeOne (op := ⟨none, _, _, _, _, _⟩) rfl 25 (.tmp 63) (.tmp 62) rfl (g := gd) (i := 8) (t := 28) (v := .slice (rsl A cap l 2).A (rsl A cap l 2).n (rsl A cap l 2).cap) rfl rfl HX7.out (by simp only [List.length_set, Dx.cells_length]; omega) rfl rfl iSl ?_; intro w8 HX8 hT8)
        have HAR8 := Lib.hid (HAR7.out.touch hT8 (by have := NG.out.1; simp; omega))
        have TT8 := Lib.hid (TT7.out.trans hT8)
        clear k2 hT8 HX7 HAR7 TT7
        have k3 : w8.cell? ⟨ga, 3, none⟩ = some (.slice (rsl A cap l 3).A (rsl A cap l 3).n (rsl A cap l 3).cap) := (HAR8.out.cell 3).trans (HGT.out 3 (by omega))
        go_upto_region 18 with ((with_reducible refine at_dst none ?_); refine wpList_storeOne (op := ⟨none, _, _, _, _, _⟩) rfl 25 (.tmp 66) (.tmp 65) rfl (g := gd) (i := 9) (t := 28) (v := .slice (rsl A cap l 3).A (rsl A cap l 3).n (rsl A cap l 3).cap) rfl rfl HX8.out (by simp only [List.length_set, Dx.cells_length]; omega) rfl rfl iSl ?_; intro w9 HX9 hT9)
        have HAR9 := Lib.hid (HAR8.out.touch hT9 (by have := NG.out.1; simp; omega))
        have TT9 := Lib.hid (TT8.out.trans hT9)
        clear k3 hT9 HX8 HAR8 TT8
        have k4 : w9.cell? ⟨ga, 4, none⟩ = some (.slice (rsl A cap l 4).A (rsl A cap l 4).n (rsl A cap l 4).cap) := (HAR9.out.cell 4).trans (HGT.out 4 (by omega))
        go_upto_region 19 with ((with_reducible refine at_dst none ?_); refine wpList_storeOne (op := ⟨none, _, _, _, _, _⟩) rfl 25 (.tmp 69) (.tmp 68) rfl (g := gd) (i := 10) (t := 28) (v := .slice (rsl A cap l 4).A (rsl A cap l 4).n (rsl A cap l 4).cap) rfl rfl HX9.out (by simp only [List.length_set, Dx.cells_length]; omega) rfl rfl iSl ?_; intro w10 HX10 hT10)
        have HAR10 := Lib.hid (HAR9.out.touch hT10 (by have := NG.out.1; simp; omega))
        have TT10 := Lib.hid (TT9.out.trans hT10)
        clear k4 hT10 HX9 HAR9 TT9
        obtain ⟨X, hX⟩ : ∃ X, rx5 k l A cap = X := ⟨_, rfl⟩
        have HDEC : Hid (dec k l = if Right X.d ∧ body X.d = l then some X.d else none) := by show _ = _; rw [← hX]; exact dec_rx HF.out HOK.out
        have HBX : Hid (Blk w10 gd 28 X.cells) := by
          have h := HX10.out
          have e : (((((rx0 k l).cells.set 6 (.string (str (sl l (en l 0) (ln l 0))))).set 7 (.slice (rsl A cap l 1).A (rsl A cap l 1).n (rsl A cap l 1).cap)).set 8 (.slice (rsl A cap l 2).A (rsl A cap l 2).n (rsl A cap l 2).cap)).set 9 (.slice (rsl A cap l 3).A (rsl A cap l 3).n (rsl A cap l 3).cap)).set 10 (.slice (rsl A cap l 4).A (rsl A cap l 4).n (rsl A cap l 4).cap) = X.cells := by rw [← hX]; rfl
          rw [e] at h
          exact h
        have HHX : Hid (Hds X ∧ Fit 256 X.d.name) := by
          rw [← hX]
          exact ⟨⟨cut_len HOK.out (by omega), cut_len HOK.out (by omega), cut_len HOK.out (by omega), cut_len HOK.out (by omega)⟩, sl_fit HF.out _ _⟩
        have HBW : Hid (Below w.heap.size w w10) := HBL.out.trans (TT10.out.below (fun y hy => by rw [List.mem_singleton.1 hy]; have := HORD.out; omega) HBL.out.size)
        have HRS : Hid (Blk w10 w.heap.size 28 zeroD) := HRES.out.touch TT10.out (by have := NG.out.2; simp; omega)
        have HOKX : Hid (∀ u, Bs u A n cap l → Right X.d → DxOk u X) := fun u hu hr => by rw [← hX] at hr ⊢; exact rx5_ok hu HOK.out hr
        have HOF : Hid (OfA A X) := by rw [← hX]; exact rx5_of k l A cap
        clear hX HX10 HAR10 HGT HAR TT10 HRES HDD
        obtain ⟨B, hB⟩ : ∃ B, w.heap.size = B := ⟨_, rfl⟩
        have HBE := Lib.hid hB
        have NB : Hid (B ≠ gd ∧ gd < w10.heap.size ∧ B < w10.heap.size) := ⟨by rw [← hB]; exact NG.out.2, HBX.out.lt, by rw [← hB]; exact HRS.out.lt⟩
        rw [hB] at HRS
        (try rw [hB])
        have hBs : Bs w10 A n cap l := HB.out.below HBW.out
        have HBs := Lib.hid hBs
        have R0 : Touch [B] w10 w10.drew ∧ ∃ old, Blk w10.drew B 28 old ∧ old.length = 11 := ⟨⟨rfl, rfl, rfl, Nat.le_refl _, fun _ _ _ => rfl⟩, zeroD, HRS.out, rfl⟩
        clear hBs
        by_cases hRt : Right X.d
        · have HRT := Lib.hid hRt
          have HRD := Lib.hid (decide_eq_true hRt)
          clear hRt
          go_wp2_with fail
          rename_i hKx
          refine wp_region_eachW (by kernel_rfl) (by kernel_rfl) (fun u u' => Below u.heap.size u u' ∨ (Touch [B] u u' ∧ Blk u' B 28 X.cells)) (fun iX v u => match iX with
              | 0 => v = X.val
              | 1 => v = X.val
              | 2 => v = .bool true
              | 3 => v = .bool true
              | 4 => v = X.val
              | 5 => ∃ A9 n9 c9, v = .slice A9 n9 c9 ∧ Rd .u8 u A9 n9 (enc X.d) ∧ n9 ≤ c9 ∧ ∀ ad, A9 = some ad → B < ad.block
              | 6 => ∃ A9 n9 c9, v = .slice A9 n9 c9 ∧ Rd .u8 u A9 n9 (body X.d) ∧ ∀ ad, A9 = some ad → B < ad.block
              | 7 => v = .string (str (body X.d))
              | 8 => v = .slice A n cap
              | 9 => v = .string (str l)
              | 10 => v = .bool (decide (body X.d = l))
              | 11 => v = .bool (decide (body X.d = l))
              | 12 => Blk u B 28 X.cells
              | 13 => v = .bool (decide (body X.d = l))
              | _ => True) (fun u => Touch [B] w10 u ∧ ∃ old, Blk u B 28 old ∧ old.length = 11) ?m1 (fun u u' h1 h2 => by
              obtain ⟨ht, old, ho, hl⟩ := h1
              rcases h2 with h2 | ⟨h2, h3⟩
              · exact ⟨ht.then_below h2, old, ho.below h2 ho.lt, hl⟩
              · exact ⟨ht.trans h2, _, h3, Dx.cells_length X⟩) R0 ?m2 ?m3
          case m1 =>
            intro iX v u u' h hr hb
            rcases iX with _ | _ | _ | _ | _ | _ | _ | _ | _ | _ | _ | _ | _ | _ | iX
            · exact h
            · exact h
            · exact h
            · exact h
            · exact h
            · obtain ⟨A9, n9, c9, e9, h9, hl9, hg9⟩ := h
              refine ⟨A9, n9, c9, e9, ?_, hl9, hg9⟩
              rcases hb with hb | hb
              · exact h9.below hb
              · exact h9.touch hb.1 (fun ad e hm => by have := hg9 ad e; have := List.mem_singleton.1 hm; omega)
            · obtain ⟨A9, n9, c9, e9, h9, hg9⟩ := h
              refine ⟨A9, n9, c9, e9, ?_, hg9⟩
              rcases hb with hb | hb
              · exact h9.below hb
              · exact h9.touch hb.1 (fun ad e hm => by have := hg9 ad e; have := List.mem_singleton.1 hm; omega)
            · exact h
            · exact h
            · exact h
            · exact h
            · exact h
            · rcases hb with hb | hb
              · exact Blk.below h hb (Blk.lt h)
              · exact hb.2
            · exact h
            · trivial
          case m2 =>
            intro iX o ho aX u hr hk hpre K hK
            have s1 : aX.tmps.getD 1 undef = .slice A n cap := hk.slot 1 (by simp)
            have s4 : aX.tmps.getD 4 undef = .pointer (some ⟨B, 0, none⟩) := hk.slot 4 (by simp)
            have s6 : aX.tmps.getD 6 undef = .pointer (some ⟨gd, 0, none⟩) := hk.slot 6 (by simp)
            have y1 : aX.eval (.tmp 1) = .slice A n cap := s1
            have y4 : aX.eval (.tmp 4) = .pointer (some ⟨B, 0, none⟩) := s4
            have y6 : aX.eval (.tmp 6) = .pointer (some ⟨gd, 0, none⟩) := s6
            have rf : Below u.heap.size u u := Below.refl _ _
            have hAd : At u ⟨gd, 0, none⟩ X.cells := (HBX.out.touch hr.1 (by have := NB.out.1; simp; omega)).at
            have hBu : Bs u A n cap l := HBs.out.touch hr.1 (fun hn0 ad e hm => by have h1 := HB.out.rd.lt hn0 ad e; have h2 := List.mem_singleton.1 hm; have h3 := HBE.out; omega)
            have hBl : B < u.heap.size := Nat.lt_of_lt_of_le NB.out.2.2 hr.1.size
            rcases iX with _ | _ | _ | _ | _ | _ | _ | _ | _ | _ | _ | _ | _ | _ | iX
            · obtain rfl := Option.some.inj ho
              refine st_run (want_none rfl) X.val (w' := u) ?_ (hK _ _ rfl (.inl rf))
              simp only [execOp, y6, Instr.loadAt, Instr.sureAddr, Sem.run_bind, Sem.run_pure, Result.andThen_ok, run_loadVar_at (P := Tryd.prog) (w := u) ⟨gd, 0, none⟩ 28 X.cells d1 hAd hu1 hd1 iR]
              rfl
            · obtain rfl := Option.some.inj ho
              refine st_run (want_none rfl) X.val (w' := u) ?_ (hK _ _ rfl (.inl rf))
              simp only [execOp, y6, Instr.loadAt, Instr.sureAddr, Sem.run_bind, Sem.run_pure, Result.andThen_ok, run_loadVar_at (P := Tryd.prog) (w := u) ⟨gd, 0, none⟩ 28 X.cells d1 hAd hu1 hd1 iR]
              rfl
            · obtain rfl := Option.some.inj ho
              have x0 : aX.eval (.tmp 71) = X.val := (hpre 1 _ rfl ⟨⟨1, .data⟩, by simp, rfl, rfl⟩)
              have hRR := RRight_any X HHX.out.1 HHX.out.2 u
              rw [HRD.out] at hRR
              exact st_callN 12 _ _ rfl (want_none rfl) #[X.val] (by simp [x0]) (by kernel_rfl) _ hRR (by rintro _ u2 ⟨rfl, hb9⟩; exact ⟨_, rfl, hK _ _ rfl (.inl hb9)⟩)
            · obtain rfl := Option.some.inj ho
              have x0 : aX.eval (.tmp 72) = .bool true := (hpre 2 _ rfl ⟨⟨2, .data⟩, by simp, rfl, rfl⟩)
              exact st_move (.tmp 72) rfl (want_none rfl) _ x0 (hK _ _ rfl (.inl rf))
            · obtain rfl := Option.some.inj ho
              refine st_run (want_some rfl rfl rfl (hpre 3 _ rfl ⟨⟨3, .guard⟩, by simp, rfl, rfl⟩)) X.val (w' := u) ?_ (hK _ _ rfl (.inl rf))
              simp only [execOp, y6, Instr.loadAt, Instr.sureAddr, Sem.run_bind, Sem.run_pure, Result.andThen_ok, run_loadVar_at (P := Tryd.prog) (w := u) ⟨gd, 0, none⟩ 28 X.cells d1 hAd hu1 hd1 iR]
              rfl
            · obtain rfl := Option.some.inj ho
              have x0 : aX.eval (.tmp 74) = X.val := (hpre 4 _ rfl ⟨⟨4, .data⟩, by simp, rfl, rfl⟩)
              exact st_callN 31 _ _ rfl (want_some rfl rfl rfl (hpre 3 _ rfl ⟨⟨3, .guard⟩, by simp, rfl, rfl⟩)) #[X.val] (by simp [x0]) (by kernel_rfl) _ (rbytes_any X u (HOKX.out u hBu HRT.out) HRT.out) (by rintro _ u2 ⟨A2, n2, c2, rfl, hrow, hb9⟩; exact ⟨_, rfl, hK _ _ ⟨A2, n2, c2, rfl, hrow.rd, hrow.le.1, fun ad e => by have := (hrow.lt ad e).1; omega⟩ (.inl hb9)⟩)
            · obtain rfl := Option.some.inj ho
              obtain ⟨A9, n9, c9, e9, h9, hl9, hg9⟩ := (hpre 5 _ rfl ⟨⟨5, .data⟩, by simp, rfl, rfl⟩)
              have x0 : aX.eval (.tmp 75) = .slice A9 n9 c9 := e9
              have h16 : 16 ≤ n9 := by have h1 := h9.1; rw [enc_length] at h1; omega
              have hs := run_from8 A9 n9 c9 16 h16 hl9 16 rfl u
              have hdr := h9.drop 16 c9 h16 hl9
              rw [enc_drop] at hdr
              refine st_run (want_some rfl rfl rfl (hpre 3 _ rfl ⟨⟨3, .guard⟩, by simp, rfl, rfl⟩)) (.slice (if c9 = 16 then A9 else A9.map (·.add 16)) (n9 - 16) (c9 - 16)) (w' := u) ?_ (hK _ _ ⟨_, _, _, rfl, hdr, fun ad e => ?_⟩ (.inl rf))
              · simp only [execOp, x0]
                simp [Act.eval, Instr.sliceAt, hs]
              · by_cases hc : c9 = 16
                · simp only [if_pos hc] at e; exact hg9 ad e
                · simp only [if_neg hc] at e
                  cases A9 with
                  | none => cases e
                  | some a9 => simp only [Option.map_some, Option.some.injEq] at e; rw [← e, block_add]; exact hg9 a9 rfl
            · obtain rfl := Option.some.inj ho
              obtain ⟨A9, n9, c9, e9, h9, hg9⟩ := (hpre 6 _ rfl ⟨⟨6, .data⟩, by simp, rfl, rfl⟩)
              have x0 : aX.eval (.tmp 76) = .slice A9 n9 c9 := e9
              exact st_conv (.tmp 76) rfl (want_some rfl rfl rfl (hpre 3 _ rfl ⟨⟨3, .guard⟩, by simp, rfl, rfl⟩)) A9 n9 c9 (body X.d) x0 h9 (hK _ _ rfl (.inl rf))
            · obtain rfl := Option.some.inj ho
              exact st_move (.tmp 1) rfl (want_some rfl rfl rfl (hpre 3 _ rfl ⟨⟨3, .guard⟩, by simp, rfl, rfl⟩)) _ y1 (hK _ _ rfl (.inl rf))
            · obtain rfl := Option.some.inj ho
              have x0 : aX.eval (.tmp 78) = .slice A n cap := (hpre 8 _ rfl ⟨⟨8, .data⟩, by simp, rfl, rfl⟩)
              exact st_conv (.tmp 78) rfl (want_some rfl rfl rfl (hpre 3 _ rfl ⟨⟨3, .guard⟩, by simp, rfl, rfl⟩)) A n cap l x0 hBu.rd (hK _ _ rfl (.inl rf))
            · obtain rfl := Option.some.inj ho
              have x0 : aX.eval (.tmp 77) = .string (str (body X.d)) := (hpre 7 _ rfl ⟨⟨7, .data⟩, by simp, rfl, rfl⟩)
              have x1 : aX.eval (.tmp 79) = .string (str l) := (hpre 9 _ rfl ⟨⟨9, .data⟩, by simp, rfl, rfl⟩)
              exact st_eqlStrB (.tmp 77) (.tmp 79) rfl (want_some rfl rfl rfl (hpre 3 _ rfl ⟨⟨3, .guard⟩, by simp, rfl, rfl⟩)) (body X.d) l (body_fit (HOKX.out u hBu HRT.out).fits) HF.out x0 x1 (hK _ _ rfl (.inl rf))
            · obtain rfl := Option.some.inj ho
              have x0 : aX.eval (.tmp 73) = .bool true := (hpre 3 _ rfl ⟨⟨3, .data⟩, by simp, rfl, rfl⟩)
              have x1 : aX.eval (.tmp 80) = .bool (decide (body X.d = l)) := (hpre 10 _ rfl ⟨⟨10, .data⟩, by simp, rfl, rfl⟩)
              refine st_run (want_none rfl) (.bool (decide (body X.d = l))) (w' := u) ?_ (hK _ _ rfl (.inl rf))
              simp only [execOp, x0, x1]
              go_simp
            · obtain rfl := Option.some.inj ho
              have x0 : aX.eval (.tmp 70) = X.val := (hpre 0 _ rfl ⟨⟨0, .data⟩, by simp, rfl, rfl⟩)
              obtain ⟨_, old, hold, hol⟩ := hr
              have e9 := run_storeVar_row (P := Tryd.prog) u B 28 28 old.toArray X.cells.toArray hold (by rw [List.size_toArray, Dx.cells_length]; exact iR) (by rw [List.size_toArray, List.size_toArray, hol, Dx.cells_length]) (Array.all_eq_true_iff_forall_mem.2 (fun v hv => X.one v (by simpa using hv)))
              refine st_skip (want_none rfl) (w' := u.setRow B X.cells.toArray) ?_ (hK undef _ (setRow_heap u B _ _ 28 (0, 0) hold) (.inr ⟨touch_setRow u B _, setRow_heap u B _ _ 28 (0, 0) hold⟩))
              have x0b : aX.eval (.tmp 70) = .agg X.cells.toArray := x0
              simp only [execOp, y4, x0b, Instr.storeAt, Instr.sureAddr, Sem.run_bind, Sem.run_pure, Result.andThen_ok, e9]
            · obtain rfl := Option.some.inj ho
              have x0 : aX.eval (.tmp 81) = .bool (decide (body X.d = l)) := (hpre 11 _ rfl ⟨⟨11, .data⟩, by simp, rfl, rfl⟩)
              exact st_assign (.tmp 81) rfl (want_none rfl) _ x0 (hK _ _ rfl (.inl rf))
            · cases ho
          case m3 =>
            intro aX u hr hk hv
            have hBf : Blk u B 28 X.cells := hv 12 _ rfl
            have q5 : aX.tmps.getD 5 undef = .bool (decide (body X.d = l)) := hv 13 _ rfl
            have hfr := keeps_frameP (fun s => decide ((70 ≤ s ∧ s ≤ 81) ∨ s = 5)) hk (by simp)
            refine hKx aX u ?_
            rw [hfr]
            generalize hff : (fun s => aX.tmps.getD s undef) = ff
            have hf5 : ff 5 = .bool (decide (body X.d = l)) := by rw [← hff]; exact q5
            simp only [mixP, hf5, decide_eq_true_eq, Nat.reduceAdd, Nat.reduceLeDiff, Nat.reduceEqDiff, false_or, true_or, or_false, or_true, and_true, and_false, true_and, false_and, and_self, if_true, if_false, Nat.zero_le]
            clear hfr hff hf5 q5 hv hk hKx
            have HBf := Lib.hid hBf
            have HBu : Hid (Below w.heap.size w u) := HBW.out.trans (hr.1.below (fun y hy => by rw [List.mem_singleton.1 hy]; have := HBE.out; omega) HBW.out.size)
            clear hBf hr R0
            go_wp2_with fail
            refine ret_cell_tmp rfl rfl HBf.out.at hu1 hd1 iR rfl ⟨X.cells, ?_, Dx.cells_length X, X.one, fun h => ?_, HBu.out⟩
            · rw [HDEC.out]
              by_cases hq : body X.d = l
              · rw [if_pos ⟨HRT.out, hq⟩, decide_eq_true hq]; rfl
              · rw [if_neg (fun h => hq h.2), decide_eq_false hq]; rfl
            · have hd := HDEC.out
              by_cases hq : body X.d = l
              · rw [if_pos ⟨HRT.out, hq⟩] at hd
                exact ⟨X, rfl, hd, HOKX.out u (HB.out.below HBu.out) HRT.out, HOF.out⟩
              · rw [if_neg (fun h => hq h.2)] at hd
                rw [hd] at h; cases h
        · have HRT := Lib.hid hRt
          have HRD := Lib.hid (decide_eq_false hRt)
          clear hRt
          go_wp2_with fail
          rename_i hKx
          refine wp_region_eachW (by kernel_rfl) (by kernel_rfl) (fun u u' => Below u.heap.size u u' ∨ (Touch [B] u u' ∧ Blk u' B 28 X.cells)) (fun iX v u => match iX with
              | 0 => v = X.val
              | 1 => v = X.val
              | 2 => v = .bool false
              | 3 => v = .bool false
              | 11 => v = .bool false
              | 12 => Blk u B 28 X.cells
              | 13 => v = .bool false
              | _ => True) (fun u => Touch [B] w10 u ∧ ∃ old, Blk u B 28 old ∧ old.length = 11) ?m1 (fun u u' h1 h2 => by
              obtain ⟨ht, old, ho, hl⟩ := h1
              rcases h2 with h2 | ⟨h2, h3⟩
              · exact ⟨ht.then_below h2, old, ho.below h2 ho.lt, hl⟩
              · exact ⟨ht.trans h2, _, h3, Dx.cells_length X⟩) R0 ?m2 ?m3
          case m1 =>
            intro iX v u u' h hr hb
            rcases iX with _ | _ | _ | _ | _ | _ | _ | _ | _ | _ | _ | _ | _ | _ | iX
            · exact h
            · exact h
            · exact h
            · exact h
            · trivial
            · trivial
            · trivial
            · trivial
            · trivial
            · trivial
            · trivial
            · exact h
            · rcases hb with hb | hb
              · exact Blk.below h hb (Blk.lt h)
              · exact hb.2
            · exact h
            · trivial
          case m2 =>
            intro iX o ho aX u hr hk hpre K hK
            have s1 : aX.tmps.getD 1 undef = .slice A n cap := hk.slot 1 (by simp)
            have s4 : aX.tmps.getD 4 undef = .pointer (some ⟨B, 0, none⟩) := hk.slot 4 (by simp)
            have s6 : aX.tmps.getD 6 undef = .pointer (some ⟨gd, 0, none⟩) := hk.slot 6 (by simp)
            have y1 : aX.eval (.tmp 1) = .slice A n cap := s1
            have y4 : aX.eval (.tmp 4) = .pointer (some ⟨B, 0, none⟩) := s4
            have y6 : aX.eval (.tmp 6) = .pointer (some ⟨gd, 0, none⟩) := s6
            have rf : Below u.heap.size u u := Below.refl _ _
            have hAd : At u ⟨gd, 0, none⟩ X.cells := (HBX.out.touch hr.1 (by have := NB.out.1; simp; omega)).at
            have hBu : Bs u A n cap l := HBs.out.touch hr.1 (fun hn0 ad e hm => by have h1 := HB.out.rd.lt hn0 ad e; have h2 := List.mem_singleton.1 hm; have h3 := HBE.out; omega)
            have hBl : B < u.heap.size := Nat.lt_of_lt_of_le NB.out.2.2 hr.1.size
            rcases iX with _ | _ | _ | _ | _ | _ | _ | _ | _ | _ | _ | _ | _ | _ | iX
            · obtain rfl := Option.some.inj ho
              refine st_run (want_none rfl) X.val (w' := u) ?_ (hK _ _ rfl (.inl rf))
              simp only [execOp, y6, Instr.loadAt, Instr.sureAddr, Sem.run_bind, Sem.run_pure, Result.andThen_ok, run_loadVar_at (P := Tryd.prog) (w := u) ⟨gd, 0, none⟩ 28 X.cells d1 hAd hu1 hd1 iR]
              rfl
            · obtain rfl := Option.some.inj ho
              refine st_run (want_none rfl) X.val (w' := u) ?_ (hK _ _ rfl (.inl rf))
              simp only [execOp, y6, Instr.loadAt, Instr.sureAddr, Sem.run_bind, Sem.run_pure, Result.andThen_ok, run_loadVar_at (P := Tryd.prog) (w := u) ⟨gd, 0, none⟩ 28 X.cells d1 hAd hu1 hd1 iR]
              rfl
            · obtain rfl := Option.some.inj ho
              have x0 : aX.eval (.tmp 71) = X.val := (hpre 1 _ rfl ⟨⟨1, .data⟩, by simp, rfl, rfl⟩)
              have hRR := RRight_any X HHX.out.1 HHX.out.2 u
              rw [HRD.out] at hRR
              exact st_callN 12 _ _ rfl (want_none rfl) #[X.val] (by simp [x0]) (by kernel_rfl) _ hRR (by rintro _ u2 ⟨rfl, hb9⟩; exact ⟨_, rfl, hK _ _ rfl (.inl hb9)⟩)
            · obtain rfl := Option.some.inj ho
              have x0 : aX.eval (.tmp 72) = .bool false := (hpre 2 _ rfl ⟨⟨2, .data⟩, by simp, rfl, rfl⟩)
              exact st_move (.tmp 72) rfl (want_none rfl) _ x0 (hK _ _ rfl (.inl rf))
            · obtain rfl := Option.some.inj ho
              exact st_fall (want_fall rfl rfl rfl (hpre 3 _ rfl ⟨⟨3, .guard⟩, by simp, rfl, rfl⟩) (by decide)) (hK undef _ trivial (.inl rf))
            · obtain rfl := Option.some.inj ho
              exact st_fall (want_fall rfl rfl rfl (hpre 3 _ rfl ⟨⟨3, .guard⟩, by simp, rfl, rfl⟩) (by decide)) (hK undef _ trivial (.inl rf))
            · obtain rfl := Option.some.inj ho
              exact st_fall (want_fall rfl rfl rfl (hpre 3 _ rfl ⟨⟨3, .guard⟩, by simp, rfl, rfl⟩) (by decide)) (hK undef _ trivial (.inl rf))
            · obtain rfl := Option.some.inj ho
              exact st_fall (want_fall rfl rfl rfl (hpre 3 _ rfl ⟨⟨3, .guard⟩, by simp, rfl, rfl⟩) (by decide)) (hK undef _ trivial (.inl rf))
            · obtain rfl := Option.some.inj ho
              exact st_fall (want_fall rfl rfl rfl (hpre 3 _ rfl ⟨⟨3, .guard⟩, by simp, rfl, rfl⟩) (by decide)) (hK undef _ trivial (.inl rf))
            · obtain rfl := Option.some.inj ho
              exact st_fall (want_fall rfl rfl rfl (hpre 3 _ rfl ⟨⟨3, .guard⟩, by simp, rfl, rfl⟩) (by decide)) (hK undef _ trivial (.inl rf))
            · obtain rfl := Option.some.inj ho
              exact st_fall (want_fall rfl rfl rfl (hpre 3 _ rfl ⟨⟨3, .guard⟩, by simp, rfl, rfl⟩) (by decide)) (hK undef _ trivial (.inl rf))
            · obtain rfl := Option.some.inj ho
              have x0 : aX.eval (.tmp 73) = .bool false := (hpre 3 _ rfl ⟨⟨3, .data⟩, by simp, rfl, rfl⟩)
              refine st_run (want_none rfl) (.bool false) (w' := u) ?_ (hK _ _ rfl (.inl rf))
              simp only [execOp, x0]
              go_simp
            · obtain rfl := Option.some.inj ho
              have x0 : aX.eval (.tmp 70) = X.val := (hpre 0 _ rfl ⟨⟨0, .data⟩, by simp, rfl, rfl⟩)
              obtain ⟨_, old, hold, hol⟩ := hr
              have e9 := run_storeVar_row (P := Tryd.prog) u B 28 28 old.toArray X.cells.toArray hold (by rw [List.size_toArray, Dx.cells_length]; exact iR) (by rw [List.size_toArray, List.size_toArray, hol, Dx.cells_length]) (Array.all_eq_true_iff_forall_mem.2 (fun v hv => X.one v (by simpa using hv)))
              refine st_skip (want_none rfl) (w' := u.setRow B X.cells.toArray) ?_ (hK undef _ (setRow_heap u B _ _ 28 (0, 0) hold) (.inr ⟨touch_setRow u B _, setRow_heap u B _ _ 28 (0, 0) hold⟩))
              have x0b : aX.eval (.tmp 70) = .agg X.cells.toArray := x0
              simp only [execOp, y4, x0b, Instr.storeAt, Instr.sureAddr, Sem.run_bind, Sem.run_pure, Result.andThen_ok, e9]
            · obtain rfl := Option.some.inj ho
              have x0 : aX.eval (.tmp 81) = .bool false := (hpre 11 _ rfl ⟨⟨11, .data⟩, by simp, rfl, rfl⟩)
              exact st_assign (.tmp 81) rfl (want_none rfl) _ x0 (hK _ _ rfl (.inl rf))
            · cases ho
          case m3 =>
            intro aX u hr hk hv
            have hBf : Blk u B 28 X.cells := hv 12 _ rfl
            have q5 : aX.tmps.getD 5 undef = .bool false := hv 13 _ rfl
            have hfr := keeps_frameP (fun s => decide ((70 ≤ s ∧ s ≤ 81) ∨ s = 5)) hk (by simp)
            refine hKx aX u ?_
            rw [hfr]
            generalize hff : (fun s => aX.tmps.getD s undef) = ff
            have hf5 : ff 5 = .bool false := by rw [← hff]; exact q5
            simp only [mixP, hf5, decide_eq_true_eq, Nat.reduceAdd, Nat.reduceLeDiff, Nat.reduceEqDiff, false_or, true_or, or_false, or_true, and_true, and_false, true_and, false_and, and_self, if_true, if_false, Nat.zero_le]
            clear hfr hff hf5 q5 hv hk hKx
            have HBf := Lib.hid hBf
            have HBu : Hid (Below w.heap.size w u) := HBW.out.trans (hr.1.below (fun y hy => by rw [List.mem_singleton.1 hy]; have := HBE.out; omega) HBW.out.size)
            clear hBf hr R0
            go_wp2_with fail
            have hd : dec k l = none := by rw [HDEC.out, if_neg (fun h => HRT.out h.1)]
            exact ret_cell_tmp rfl rfl HBf.out.at hu1 hd1 iR rfl ⟨X.cells, by rw [hd]; rfl, Dx.cells_length X, X.one, fun h => (by rw [hd] at h; cases h), HBu.out⟩
end Go.Proofs.YtfeihdmjcppbaaaDoor
