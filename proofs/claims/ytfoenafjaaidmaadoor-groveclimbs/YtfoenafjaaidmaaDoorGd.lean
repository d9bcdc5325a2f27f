/-
  The document's tree: its bytes and its root.
-/
import Derived.Test.YtfoenafjaaidmaaDoorGc
namespace Go.Proofs.YtfoenafjaaidmaaDoor
open Go.RowKit
set_option linter.unusedVariables false
set_option linter.unusedSimpArgs false
set_option maxRecDepth 100000

/-- What a tree is made over, in memory: a salt and data that are read. -/
structure Over (w : World) (z S B D a n : Nat) (A : Option Addr) (nA cA : Nat) (Ad : Option Addr) (cd : Nat) (salt data : List Nat) : Prop where
  shp : Shp S B D a n
  alg : z = 1 ∨ z = 2
  dig : sizeOfAlg z = D
  rs : Rd .u8 w A nA salt
  saltFit : Fit 256 salt
  saltNil : A = none → cA = 0
  saltLen : nA ≤ 10000
  rd : Rd .u8 w Ad S data
  dataFit : Fit 256 data
  dataCap : S ≤ cd
theorem Over.below {w w' : World} {z S B D a n : Nat} {A : Option Addr} {nA cA : Nat} {Ad : Option Addr} {cd : Nat} {salt data : List Nat} (h : Over w z S B D a n A nA cA Ad cd salt data) (hb : Below w.heap.size w w') : Over w' z S B D a n A nA cA Ad cd salt data :=
  { h with rs := h.rs.below hb, rd := h.rd.below hb }
section
variable {z S B D a n : Nat} {A : Option Addr} {nA cA : Nat} {Ad : Option Addr} {cd : Nat} {salt data : List Nat}
theorem RBlock_any : ∀ (l i : Nat) (w : World), Over w z S B D a n A nA cA Ad cd salt data → l < (cs a n).length → i < lev a n l → Calls Tryd.prog 32 #[.int .i64 (z : Int), .slice A nA cA, .agg #[.int .i64 (S : Int), .int .i64 (B : Int), .int .i64 (D : Int)], .slice Ad S cd, .agg #[.int .i64 (i : Int), .int .i64 (l : Int)]] w (GivesB w B (blk (hsh z salt) B a n data l i))
  | 0, i, w, h, hl, hi => RBlock_0 (z : Int) S B D a n i A nA cA Ad cd salt data w h.shp h.rd h.dataCap hi
  | l + 1, i, w, h, hl, hi => RBlock_s z h.alg S B D a n i l A nA cA Ad cd salt data w h.shp h.dig h.rs h.saltFit h.saltNil h.saltLen h.rd h.dataFit hl hi
      (fun q w' hs hd hq => RBlock_any l q w' { h with rs := hs, rd := hd } (by omega) hq)
theorem lvl_succ (H : List Nat → List Nat) (l i : Nat) : (List.range (i + 1)).flatMap (fun j => blk H B a n data l j) = (List.range i).flatMap (fun j => blk H B a n data l j) ++ blk H B a n data l i := by
  rw [List.range_succ, List.flatMap_append]; simp
theorem lvl_len {H : List Nat → List Nat} (hH : ∀ t, (H t).length = D) (hB : a * D = B) (l : Nat) : ∀ i, ((List.range i).flatMap (fun j => blk H B a n data l j)).length = i * B
  | 0 => by simp
  | i + 1 => by rw [lvl_succ, List.length_append, lvl_len hH hB l i, blk_length hH hB, Nat.add_mul, Nat.one_mul]
/-- The bytes of the first j levels from the top on. -/
def tops (H : List Nat → List Nat) (B a n : Nat) (data : List Nat) (m j : Nat) : List Nat := (List.range j).flatMap fun j => lvl H B a n data (m - 1 - j)
theorem tops_succ (H : List Nat → List Nat) (m j : Nat) : tops H B a n data m (j + 1) = tops H B a n data m j ++ lvl H B a n data (m - 1 - j) := by
  rw [tops, tops, List.range_succ, List.flatMap_append]; simp
/-- How many blocks stand in the first levels from the top on. -/
def topn (a n m : Nat) : Nat → Nat
  | 0 => 0
  | j + 1 => topn a n m j + lev a n (m - 1 - j)
theorem tops_len {H : List Nat → List Nat} (hH : ∀ t, (H t).length = D) (hB : a * D = B) (m : Nat) : ∀ j, (tops H B a n data m j).length = topn a n m j * B
  | 0 => by simp [tops, topn]
  | j + 1 => by rw [tops_succ, List.length_append, tops_len hH hB m j, lvl, lvl_len hH hB, topn, Nat.add_mul]
theorem topn_le (m : Nat) (hm : ∀ l, l < m → lev a n l ≤ n) : ∀ j, j < m → topn a n m j ≤ j * n
  | 0, _ => by simp [topn]
  | j + 1, hj => by
    have h1 := topn_le m hm j (by omega)
    have h2 := hm (m - 1 - j) (by omega)
    rw [topn, Nat.add_mul, Nat.one_mul]
    omega
theorem Shp.levs (h : Shp S B D a n) {l : Nat} (hl : l < (cs a n).length) : lev a n l ≤ n := by
  have := lev_le h.a2.1 l (fun j hj => (cnts_top a h.a2.1 40 n h.n1.1 h.n1.2).2 j (by show _ < (cs a n).length; omega))
  omega
theorem Shp.top1 (h : Shp S B D a n) : lev a n ((cs a n).length - 1) = 1 := (cnts_top a h.a2.1 40 n h.n1.1 h.n1.2).1
theorem Shp.topb (h : Shp S B D a n) (hS : S ≤ 10000) {j : Nat} (hj : j < (cs a n).length) : topn a n (cs a n).length j * B ≤ 600000 := by
  have h1 := topn_le (n := n) (cs a n).length (fun l hl => h.levs hl) j hj
  have hb := h.b
  have h41 : (cs a n).length ≤ 41 := cnts_len _ _ _
  obtain ⟨k1, k2⟩ := up_spec (a := S) (b := B) (by omega)
  rw [h.low] at k2
  have h2 : topn a n (cs a n).length j * B ≤ j * n * B := Nat.mul_le_mul_right _ h1
  rw [Nat.mul_assoc] at h2
  have h3 : j * (n * B) ≤ 40 * 14096 := Nat.mul_le_mul (by omega) (by omega)
  omega
set_option maxHeartbeats 4000000 in
theorem RTree_any (w : World) (h : Over w z S B D a n A nA cA Ad cd salt data) (hS : S ≤ 10000) (m : Nat) (hm : (cs a n).length = m) : Calls Tryd.prog 17 #[.int .i64 (z : Int), .slice A nA cA, .agg #[.int .i64 (S : Int), .int .i64 (B : Int), .int .i64 (D : Int)], .slice Ad S cd] w fun e w' => ∃ A1 n1 c1 A2 c2, e = .returned (.tuple #[.slice A1 n1 c1, .slice A2 D c2]) ∧ Rd .u8 w' A1 n1 (tree (hsh z salt) B a n data m) ∧ Rd .u8 w' A2 D (hsh z salt (blk (hsh z salt) B a n data (m - 1) 0)) ∧ Below w.heap.size w w' := by
  have hb := h.shp.b
  have hn := h.shp.n1
  have HO := Lib.hid h
  have HCT : Hid (∀ w : World, _) := fun w => RefCounts_any S B D a n w h.shp
  have HB1 : Hid (Below w.heap.size w (w.alloc (.cells #[.int .i64 (S : Int), .int .i64 (B : Int), .int .i64 (D : Int)] 32))) := (Below.refl _ _).alloc (Nat.le_refl _) _
  have HBS := Lib.hid (Blk.new w 32 [.int .i64 (S : Int), .int .i64 (B : Int), .int .i64 (D : Int)])
  have hm1 : 1 ≤ m := by rw [← hm]; exact List.length_pos_iff.2 (cnts_ne _ _ _)
  have hm2 : m ≤ 41 := by rw [← hm]; exact cnts_len _ _ _
  have HM := Lib.hid hm
  have HHL : Hid (∀ t, (hsh z salt t).length = D) := hsh_length h.alg h.dig salt
  have HAD := Lib.hid h.shp.aD
  have HTB : Hid (∀ j, j < m → topn a n m j * B ≤ 600000) := fun j hj => by rw [← hm] at hj ⊢; exact h.shp.topb hS hj
  have HLV : Hid (∀ l, l < m → lev a n l ≤ n) := fun l hl => h.shp.levs (by rw [hm]; exact hl)
  have HT1 : Hid (lev a n (m - 1) = 1) := by show _ = _; rw [← hm]; exact h.shp.top1
  clear h hm
  go_enter Tryd.func17, Tryd.ntmps17
  go_wp2_with fail
  generalize w.alloc (.cells #[.int .i64 (S : Int), .int .i64 (B : Int), .int .i64 (D : Int)] 32) = W at *
  refine (HCT.out W).mono ?_
  rintro e w1 ⟨Ac, mm, cc, rfl, hrow, hb1⟩
  obtain rfl : mm = m := by have := hrow.rd.1; have := HM.out; omega
  have HRC := Lib.hid hrow.rd
  have hmc := hrow.le.1
  have hcm := hrow.le.2
  have HB1' := Lib.hid (below_then HB1.out hb1)
  have HBS1 := Lib.hid (HBS.out.below hb1 HBS.out.lt)
  have HO1 := Lib.hid (HO.out.below HB1'.out)
  have HROW : Hid (Row w1 w1.heap.size 5 none 0 0 (cn .u8 (tops (hsh z salt) B a n data mm (mm - 1 - (mm - 1))))) := by
    show Row _ _ _ _ _ _ _
    rw [Nat.sub_self]
    exact Row.nil _ _ _
  have mz : (mm : Int) - 1 = ((mm - 1 : Nat) : Int) := by omega
  obtain ⟨M, hM⟩ : ∃ M, mm - 1 = M := ⟨_, rfl⟩
  rw [hM] at mz HROW
  have HMM := Lib.hid hM
  clear hrow hb1 hM
  go_wp2
  go_loopw [11, 12] (fun v o wr => ∃ (L : Nat) (A3 : Option Addr) (n3 c3 : Nat), L ≤ M ∧ o = .int .i64 (L : Int) ∧ v = .slice A3 n3 c3 ∧ Hid (Row wr w1.heap.size 5 A3 n3 c3 (cn .u8 (tops (hsh z salt) B a n data mm (M - L)))) ∧ Hid (Below w1.heap.size w1 wr)) (fun _ o _ => (intOf o).toNat)
  case atStart => exact ⟨M, none, 0, 0, Nat.le_refl _, rfl, rfl, HROW, below_self⟩
  case round =>
    obtain ⟨L, A3, n3, c3, hLM, rfl, rfl, HR3, HW3⟩ := hrel
    rename World => w2
    have hs2 := HBS1.out.below HW3.out HBS1.out.lt
    have HO2 := Lib.hid (HO1.out.below HW3.out)
    by_cases hL : 1 ≤ L
    · have z1 : (1 : Int) ≤ L := by omega
      have hLm : L < mm := by have := HMM.out; omega
      obtain ⟨J, hJ⟩ : ∃ J, M - L = J := ⟨_, rfl⟩
      rw [hJ] at HR3
      have hJm : J + 1 < mm := by have := HMM.out; omega
      obtain ⟨T, hT⟩ : ∃ T, tops (hsh z salt) B a n data mm J = T := ⟨_, rfl⟩
      have hTl : T.length = topn a n mm J * B := by rw [← hT]; exact tops_len HHL.out HAD.out mm J
      rw [hT] at HR3
      obtain ⟨x, hx⟩ : ∃ x, lev a n L = x := ⟨_, rfl⟩
      have hcell := HRC.out.below HW3.out
      obtain ⟨ad, y, rfl, hy, hcy⟩ := hcell.get hLm
      obtain rfl : y = x := (cnts_get _ _ _ _ _ hy).trans hx
      have HTS : Hid (tops (hsh z salt) B a n data mm (J + 1) = T ++ (List.range y).flatMap (fun j => blk (hsh z salt) B a n data L j)) := by
        show _ = _
        rw [tops_succ, hT, lvl, show mm - 1 - J = L by have := HMM.out; omega, hx]
      have hTB := HTB.out (J + 1) hJm
      rw [topn, show mm - 1 - J = L by have := HMM.out; omega, hx, Nat.add_mul, ← hTl] at hTB
      have hyb : y ≤ n := by rw [← hx]; exact HLV.out L hLm
      have HX := Lib.hid hx
      have HT := Lib.hid hT
      have HJ := Lib.hid hJ
      have HTBB := Lib.hid hTB
      clear hcell hy hcy hs2 hT hJ hx hTl hTB
      go_wp2
      have HR0 : Hid (Row w2 w1.heap.size 5 A3 n3 c3 (cn .u8 (T ++ (List.range 0).flatMap (fun j => blk (hsh z salt) B a n data L j)))) := by
        have := HR3.out
        show Row _ _ _ _ _ _ _
        simpa using this
      go_loopw [11, 13] (fun v o wr => ∃ (i : Nat) (A4 : Option Addr) (n4 c4 : Nat), i ≤ y ∧ o = .int .i64 (i : Int) ∧ v = .slice A4 n4 c4 ∧ Hid (Row wr w1.heap.size 5 A4 n4 c4 (cn .u8 (T ++ (List.range i).flatMap (fun j => blk (hsh z salt) B a n data L j)))) ∧ Hid (Below w1.heap.size w1 wr)) (fun _ o _ => y - (intOf o).toNat)
      case atStart => exact ⟨0, A3, n3, c3, Nat.zero_le _, rfl, rfl, HR0, HW3⟩
      case round =>
        obtain ⟨i, A4, n4, c4, hiy, rfl, rfl, HR4, HW4⟩ := hrel
        have hs3 := HBS1.out.below HW4.out HBS1.out.lt
        have HO3 := Lib.hid (HO1.out.below HW4.out)
        have hcell := HRC.out.below HW4.out
        obtain ⟨ad', y', e', hy, hcy⟩ := hcell.get hLm
        injection e' with e'
        subst e'
        obtain rfl : y' = y := (cnts_get _ _ _ _ _ hy).trans HX.out
        have c0 : wr.cell? ⟨w.heap.size, 0, none⟩ = some (.int .i64 (S : Int)) := hs3.cell 0
        have c1 : wr.cell? ⟨w.heap.size, 1, none⟩ = some (.int .i64 (B : Int)) := hs3.cell 1
        have c2 : wr.cell? ⟨w.heap.size, 2, none⟩ = some (.int .i64 (D : Int)) := hs3.cell 2
        by_cases hi : i < y'
        · have z2 : (i : Int) < y' := by omega
          have hn4 : n4 = T.length + i * B := by
            have := HR4.out.length
            rw [cn_length, List.length_append, lvl_len HHL.out HAD.out] at this
            exact this.symm
          have hnB : n4 + B ≤ 600000 := by
            have h3 : (i + 1) * B ≤ y' * B := Nat.mul_le_mul_right _ hi
            rw [Nat.add_mul, Nat.one_mul] at h3
            have := HTBB.out
            omega
          obtain ⟨N4, hN4⟩ : ∃ N4, n4 + B = N4 := ⟨_, rfl⟩
          have HN4 := Lib.hid hN4
          have HIL : Hid (i < lev a n L) := by show _ < _; rw [HX.out]; exact hi
          have HLM : Hid (L < (cs a n).length) := by show _ < _; rw [HM.out]; exact hLm
          clear hs3 hcell hy hN4 hn4
          go_wp2_with (first
            | (go_at_call 32; refine (RBlock_any L i _ HO3.out HLM.out HIL.out).mono ?_; rintro e w4 ⟨g4, rfl, hg4, hB4, hb4⟩; have HR5 := Lib.hid (HR4.out.below hb4); have HD5 := Lib.hid (hB4.rd B (blk_length HHL.out HAD.out L i)); have hbw : Below w1.heap.size w1 w4 := HW4.out.trans (hb4.mono HW4.out.size); have hsw := hbw.size; clear hB4 hb4 hg4 c0 c1 c2)
            | ((with_reducible refine at_dst (some 41) ?_); refine wpList_appBs0 (o := ⟨some 41, _, _, _, _, _⟩) rfl (.tmp 32) (.tmp 40) rfl hbw hsw rfl HR5.out rfl HD5.out (fun e => by cases e) (by omega) N4 HN4.out ?_; intro A6 c6 w6 HR6 hbe6 hB6 HG6))
          go_roundw
          case rel =>
            refine ⟨i + 1, A6, N4, c6, by omega, by go_num, rfl, ?_, hbe6⟩
            have := HR6.out
            show Row _ _ _ _ _ _ _
            rw [lvl_succ, ← List.append_assoc]
            exact this
          case measure => simp [intOf]; omega
        · have z2 : ¬ (i : Int) < y' := by omega
          obtain rfl : i = y' := by omega
          have lz : (L : Int) - 1 = ((L - 1 : Nat) : Int) := by omega
          clear hs3 hcell hy c0 c1 c2
          go_wp2
          go_roundw
          case rel =>
            refine ⟨L - 1, A4, n4, c4, by omega, rfl, rfl, ?_, HW4⟩
            show Row _ _ _ _ _ _ _
            rw [show M - (L - 1) = J + 1 by have := HJ.out; omega, HTS.out]
            exact HR4.out
          case measure => simp [intOf]; omega
    · have z1 : ¬ (1 : Int) ≤ L := by omega
      obtain rfl : L = 0 := by omega
      have c0 : w2.cell? ⟨w.heap.size, 0, none⟩ = some (.int .i64 (S : Int)) := hs2.cell 0
      have c1 : w2.cell? ⟨w.heap.size, 1, none⟩ = some (.int .i64 (B : Int)) := hs2.cell 1
      have c2 : w2.cell? ⟨w.heap.size, 2, none⟩ = some (.int .i64 (D : Int)) := hs2.cell 2
      have HRB : Hid (Calls Tryd.prog 32 #[.int .i64 (z : Int), .slice A nA cA, .agg #[.int .i64 (S : Int), .int .i64 (B : Int), .int .i64 (D : Int)], .slice Ad S cd, .agg #[.int .i64 0, .int .i64 (M : Int)]] w2 (GivesB w2 B (blk (hsh z salt) B a n data M 0))) := RBlock_any M 0 w2 HO2.out (by rw [HM.out]; have := HMM.out; omega) (by have := HT1.out; rw [HMM.out] at this; omega)
      clear hs2
      go_wp2_with fail
      refine HRB.out.mono ?_
      rintro e w4 ⟨g4, rfl, hg4, hB4, hb4⟩
      have HO4 := Lib.hid (HO2.out.below hb4)
      have HR4 := Lib.hid (HR3.out.rd.below hb4)
      have HDG : Hid (Calls Tryd.prog 22 #[.int .i64 (z : Int), .slice A nA cA, .slice (some ⟨g4, 0, none⟩) B B] w4 (GivesRd w4 D (hsh z salt (blk (hsh z salt) B a n data M 0)))) := RefDigest_z z D HO4.out.alg HO4.out.dig A nA cA salt (some ⟨g4, 0, none⟩) B B _ w4 HO4.out.rs HO4.out.saltFit HO4.out.saltNil HO4.out.saltLen (hB4.rd B (blk_length HHL.out HAD.out M 0)) (blk_fit HO4.out.dataFit B a n M 0) (fun e => by cases e) (by omega)
      have HBW : Hid (Below w.heap.size w w4) := below_then (HB1'.out.trans (HW3.out.mono HB1'.out.size)) hb4
      clear hB4 hb4 hg4 c0 c1 c2
      go_wp2_with fail
      refine HDG.out.mono ?_
      rintro e w5 ⟨A5, c5, rfl, hrd5, hfr5, hDc5, hcm5, hb5⟩
      have HR5 := Lib.hid (HR4.out.below hb5)
      have HRT := Lib.hid hrd5
      have HBL := Lib.hid (below_then HBW.out hb5)
      clear hrd5 hfr5 hb5
      go_wp2
      go_ret2
      refine ⟨A3, n3, c3, A5, c5, rfl, ?_, ?_, HBL.out⟩
      · have := HR5.out
        rw [Nat.sub_zero, ← HMM.out] at this
        exact this
      · rw [HMM.out]
        exact HRT.out
end
end Go.Proofs.YtfoenafjaaidmaaDoor
