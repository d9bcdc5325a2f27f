/-
  The document's blocks of a tree, of every level.
-/
import Derived.Test.YtfoenafjaaidmaaDoorGb
namespace Go.Proofs.YtfoenafjaaidmaaDoor
open Go.RowKit
set_option linter.unusedVariables false
set_option linter.unusedSimpArgs false
set_option maxRecDepth 100000

/-- The document's digest, by either algorithm. -/
theorem RefDigest_z (z D : Nat) (hz : z = 1 ∨ z = 2) (hD : sizeOfAlg z = D) (A : Option Addr) (n cap : Nat) (l : List Nat) (At : Option Addr) (m c2 : Nat) (lt : List Nat) (w : World) (h : Rd .u8 w A n l) (hf : Fit 256 l) (hnil : A = none → cap = 0) (hn : n ≤ 10000) (ht : Rd .u8 w At m lt) (hft : Fit 256 lt) (hnilt : At = none → c2 = 0) (hm : m ≤ 10000) :
    Calls Tryd.prog 22 #[.int .i64 (z : Int), .slice A n cap, .slice At m c2] w (GivesRd w D (hsh z l lt)) := by
  rcases hz with rfl | rfl
  · obtain rfl : 32 = D := hD
    exact RefDigest_1 A n cap l At m c2 lt w h hf hnil hn ht hft hnilt hm
  · obtain rfl : 64 = D := hD
    exact RefDigest_2 2 (by decide) A n cap l At m c2 lt w h hf hnil hn ht hft hnilt hm
theorem Shp.aD {S B D a n : Nat} (h : Shp S B D a n) : a * D = B := by
  obtain ⟨h1, h2, h3, h4, h5⟩ := h.rgt
  have := h.ar
  rcases (by omega : D = 32 ∨ D = 64) with rfl | rfl <;> rcases h5 with h5 | h5 | h5 | h5 | h5 | h5 | h5 <;> omega
theorem Shp.lev_le9 {S B D a n : Nat} (h : Shp S B D a n) (j : Nat) (hj : j ≤ 40) : lev a n j ≤ 1099511627776 := by
  have := lev_pow h.a2.1 h.n1.2 j hj
  have h2 : 2 ^ (40 - j) ≤ 2 ^ 40 := Nat.pow_le_pow_right (by omega) (by omega)
  omega
set_option maxHeartbeats 8000000 in
theorem RBlock_s (z : Nat) (hz : z = 1 ∨ z = 2) (S B D a n i l : Nat) (A : Option Addr) (nA cA : Nat) (Ad : Option Addr) (cd : Nat) (salt data : List Nat) (w : World) (h : Shp S B D a n) (hD : sizeOfAlg z = D) (hs : Rd .u8 w A nA salt) (hsf : Fit 256 salt) (hsn : A = none → cA = 0) (hnA : nA ≤ 10000) (hd : Rd .u8 w Ad S data) (hdf : Fit 256 data) (hl : l + 1 < (cs a n).length) (hi : i < lev a n (l + 1))
    (IH : ∀ q (w' : World), Rd .u8 w' A nA salt → Rd .u8 w' Ad S data → q < lev a n l → Calls Tryd.prog 32 #[.int .i64 (z : Int), .slice A nA cA, .agg #[.int .i64 (S : Int), .int .i64 (B : Int), .int .i64 (D : Int)], .slice Ad S cd, .agg #[.int .i64 (q : Int), .int .i64 (l : Int)]] w' (GivesB w' B (blk (hsh z salt) B a n data l q))) :
    Calls Tryd.prog 32 #[.int .i64 (z : Int), .slice A nA cA, .agg #[.int .i64 (S : Int), .int .i64 (B : Int), .int .i64 (D : Int)], .slice Ad S cd, .agg #[.int .i64 (i : Int), .int .i64 ((l + 1 : Nat) : Int)]] w (GivesB w B (blk (hsh z salt) B a n data (l + 1) i)) := by
  have hb := h.b
  have ha := h.a2
  have hl40 : l + 1 ≤ 40 := by have : (cs a n).length ≤ 41 := cnts_len _ _ _; omega
  have hil := h.lev_le9 (l + 1) hl40
  have hxl := h.lev_le9 l (by omega)
  have aD := h.aD
  obtain ⟨L, hL⟩ : ∃ L, l + 1 = L := ⟨_, rfl⟩
  have lz : (L : Int) - 1 = (l : Int) := by omega
  have wl : IntKind.i64.wrap (l : Int) = (l : Int) := by rw [IntKind.wrap_i64]; omega
  have d0 : ((L : Int) == 0) = false := by simp; omega
  rw [show blk (hsh z salt) B a n data (l + 1) i = pad B (kids (hsh z salt) (fun k => blk (hsh z salt) B a n data l (i * a + k)) (min a (lev a n l - i * a))) from rfl]
  rw [hL] at hi hil hl ⊢
  obtain ⟨x, hx⟩ : ∃ x, lev a n l = x := ⟨_, rfl⟩
  obtain ⟨t, ht⟩ : ∃ t, i * a = t := ⟨_, rfl⟩
  obtain ⟨f, hf⟩ : ∃ f, (fun k => blk (hsh z salt) B a n data l (i * a + k)) = f := ⟨_, rfl⟩
  have HF : Hid (∀ k, f k = blk (hsh z salt) B a n data l (t + k)) := fun k => by rw [← hf, ← ht]
  have tz : (i : Int) * (a : Int) = (t : Int) := by rw [← ht, Int.natCast_mul]
  have tl : t ≤ 140737488355328 := by rw [← ht]; exact Nat.le_trans (Nat.mul_le_mul (show i ≤ 1099511627776 by omega) ha.2) (by decide)
  rw [hf, hx, ht]
  rw [hx] at hxl
  obtain ⟨c, hc⟩ : ∃ c, min a (x - t) = c := ⟨_, rfl⟩
  have hca : c ≤ a := by omega
  rw [hc]
  have HSH := Lib.hid h
  have HCT : Hid (∀ w : World, _) := fun w => RefCounts_any S B D a n w h
  have HB1 : Hid (Below w.heap.size w ((w.alloc (.cells #[.int .i64 (S : Int), .int .i64 (B : Int), .int .i64 (D : Int)] 32)).alloc (.cells #[.int .i64 (i : Int), .int .i64 (L : Int)] 46))) := ((Below.refl _ _).alloc (Nat.le_refl _) _).alloc (by simp) _
  have HBS : Hid (Blk ((w.alloc (.cells #[.int .i64 (S : Int), .int .i64 (B : Int), .int .i64 (D : Int)] 32)).alloc (.cells #[.int .i64 (i : Int), .int .i64 (L : Int)] 46)) w.heap.size 32 [.int .i64 (S : Int), .int .i64 (B : Int), .int .i64 (D : Int)]) := (Blk.new w 32 [.int .i64 (S : Int), .int .i64 (B : Int), .int .i64 (D : Int)]).alloc _
  have HBP : Hid (Blk ((w.alloc (.cells #[.int .i64 (S : Int), .int .i64 (B : Int), .int .i64 (D : Int)] 32)).alloc (.cells #[.int .i64 (i : Int), .int .i64 (L : Int)] 46)) (w.heap.size + 1) 46 [.int .i64 (i : Int), .int .i64 (L : Int)]) := heap_alloc2_new w _ _
  have HS0 := Lib.hid hs
  have HD0 := Lib.hid hd
  have r1 := h.ar_int.1
  have r2 := h.ar_int.2
  have dz : ¬ (D : Int) = 0 := by omega
  have dz2 : ¬ D = 0 := by omega
  have wa : IntKind.i64.wrap (a : Int) = (a : Int) := by rw [IntKind.wrap_i64]; omega
  have HAD := Lib.hid aD
  have HX := Lib.hid hx
  have HLL := Lib.hid hl
  have HL := Lib.hid hL
  have HC := Lib.hid hc
  have HIH := Lib.hid IH
  have HZ := Lib.hid hz
  have HDD := Lib.hid hD
  have HSF := Lib.hid hsf
  have HDF := Lib.hid hdf
  have HSN := Lib.hid hsn
  clear h ht hf hx hL hs hd hl hc IH hz hD hsf hdf hsn aD
  go_enter Tryd.func32, Tryd.ntmps32
  go_wp2_with (first
    | ((with_reducible refine at_dst (some 21) ?_); generalize (w.alloc (.cells #[.int .i64 (S : Int), .int .i64 (B : Int), .int .i64 (D : Int)] 32)).alloc (.cells #[.int .i64 (i : Int), .int .i64 (L : Int)] 46) = W at *; refine wpList_makeNums (o := ⟨some 21, _, _, _, _, _⟩) rfl (.tmp 20) (.tmp 20) 22 5 rfl .u8 1 Tryd.underlying22 byteInfo (by omega) _ _ rfl rfl B rfl (by omega) ?_; intro w2 hB2 hbel2 hs2; have HS2 := Lib.hid (HBS.out.below hbel2 HBS.out.lt); have HP2 := Lib.hid (HBP.out.below hbel2 HBP.out.lt); have c0 : w2.cell? ⟨w.heap.size, 0, none⟩ = some (.int .i64 (S : Int)) := HS2.out.cell 0; have c1 : w2.cell? ⟨w.heap.size, 1, none⟩ = some (.int .i64 (B : Int)) := HS2.out.cell 1; have c2 : w2.cell? ⟨w.heap.size, 2, none⟩ = some (.int .i64 (D : Int)) := HS2.out.cell 2; have p1 : w2.cell? ⟨w.heap.size + 1, 1, none⟩ = some (.int .i64 (L : Int)) := HP2.out.cell 1))
  have HO2 : Hid (Blk w2 W.heap.size 5 (cn .u8 (kids (hsh z salt) f 0 ++ List.replicate (B - 0 * D) 0))) := by
    have := hB2.out
    show Blk _ _ _ _
    simpa [kids] using this
  have HW2 := Lib.hid hbel2
  have HLT : Hid (W.heap.size < w2.heap.size) := hs2
  clear hB2 hbel2 hs2
  go_region_law (first
    | (go_simp; go_at_call 18; refine (HCT.out _).mono ?_; rintro e w3 ⟨A3, m3, c3, rfl, hrow, hb3⟩; have hm3 : l < m3 := (by have := hrow.rd.1; have := HLL.out; have := HL.out; omega); have hmc3 := hrow.le.1; have hcm3 := hrow.le.2; obtain ⟨ad, y, rfl, hy, hcy⟩ := hrow.rd.get hm3; obtain rfl : y = x := (cnts_get _ _ _ _ _ hy).trans HX.out; have p3 : w3.cell? ⟨w.heap.size + 1, 1, none⟩ = some (.int .i64 (L : Int)) := (Blk.below (w := w2.drew) HP2.out hb3 HP2.out.lt).cell 1; have HO3 : Hid (Blk w3 W.heap.size 5 (cn .u8 (kids (hsh z salt) f 0 ++ List.replicate (B - 0 * D) 0))) := Blk.below (w := w2.drew) HO2.out hb3 HLT.out; have HW3 : Hid (Below W.heap.size W w3) := (below_drew1 HW2.out).trans (hb3.mono (Nat.le_of_lt HLT.out)); clear hrow hy hb3))
  all_goals
    have S3 := HBS.out.below HW3.out HBS.out.lt
    have e1 : w3.cell? ⟨w.heap.size, 1, none⟩ = some (.int .i64 (B : Int)) := S3.cell 1
    have e2 : w3.cell? ⟨w.heap.size, 2, none⟩ = some (.int .i64 (D : Int)) := S3.cell 2
    clear c0 c1 c2 p1 p3 hcy S3
    go_simp
    go_wp2
    clear e1 e2 r1 r2 wa wl lz d0
    go_loopw [15] (fun o wr => ∃ k : Nat, k ≤ c ∧ o = .int .i64 (k : Int) ∧ Hid (Blk wr W.heap.size 5 (cn .u8 (kids (hsh z salt) f k ++ List.replicate (B - k * D) 0))) ∧ Hid (Below W.heap.size W wr) ∧ Hid (W.heap.size < wr.heap.size)) (fun o _ => a - (intOf o).toNat)
    case atStart => exact ⟨0, Nat.zero_le _, rfl, HO3, HW3, HO3.out.lt⟩
    case round =>
      obtain ⟨k, hkc, rfl, HBk, HBW, HGT⟩ := hrel
      have bks := HBS.out.below HBW.out HBS.out.lt
      have bkp := HBP.out.below HBW.out HBP.out.lt
      have c0 : wr.cell? ⟨w.heap.size, 0, none⟩ = some (.int .i64 (S : Int)) := bks.cell 0
      have c1 : wr.cell? ⟨w.heap.size, 1, none⟩ = some (.int .i64 (B : Int)) := bks.cell 1
      have c2 : wr.cell? ⟨w.heap.size, 2, none⟩ = some (.int .i64 (D : Int)) := bks.cell 2
      have p0 : wr.cell? ⟨w.heap.size + 1, 0, none⟩ = some (.int .i64 (i : Int)) := bkp.cell 0
      have p1 : wr.cell? ⟨w.heap.size + 1, 1, none⟩ = some (.int .i64 (L : Int)) := bkp.cell 1
      have BEL := Lib.hid (HB1.out.trans (HBW.out.mono HB1.out.size))
      obtain ⟨q, hq⟩ : ∃ q, t + k = q := ⟨_, rfl⟩
      have qz : (t : Int) + (k : Int) = (q : Int) := by omega
      clear bks bkp
      by_cases h1 : k < a
      · by_cases h2 : q < y
        · have hkc2 : k < c := by have := HC.out; omega
          have z1 : (k : Int) < a := by omega
          have z2 : (q : Int) < y := by omega
          have lz : (L : Int) - 1 = (l : Int) := by have := HL.out; omega
          have hq2 : q < lev a n l := by rw [HX.out]; exact h2
          go_wp2_with fail
          refine (HIH.out q _ (HS0.out.below BEL.out) (HD0.out.below BEL.out) hq2).mono ?_
          rintro e w4 ⟨g4, rfl, hg4, hB4, hb4⟩
          have HBf : Hid (blk (hsh z salt) B a n data l q = f k) := by show _ = _; rw [HF.out, hq]
          rw [HBf.out] at hB4
          have BEL4 := Lib.hid (below_then BEL.out hb4)
          have HFf : Hid (Fit 256 (f k)) := by show Fit _ _; rw [← HBf.out]; exact blk_fit HDF.out B a n l q
          have HLf : Hid ((f k).length = B) := by show _ = _; rw [← HBf.out]; exact blk_length (hsh_length HZ.out HDD.out salt) HAD.out l q
          have HDG : Hid (Calls Tryd.prog 22 #[.int .i64 (z : Int), .slice A nA cA, .slice (some ⟨g4, 0, none⟩) B B] w4 (GivesRd w4 D (hsh z salt (f k)))) := RefDigest_z z D HZ.out HDD.out A nA cA salt (some ⟨g4, 0, none⟩) B B (f k) w4 (HS0.out.below BEL4.out) HSF.out HSN.out hnA (hB4.rd B HLf.out) HFf.out (fun e => by cases e) (by omega)
          have HO4 := Lib.hid (HBk.out.below hb4 HGT.out)
          have HW4 : Hid (Below W.heap.size W w4) := HBW.out.trans (hb4.mono (Nat.le_of_lt HGT.out))
          have HGT4 : Hid (W.heap.size < w4.heap.size) := Nat.lt_of_lt_of_le HGT.out hb4.size
          clear c0 c1 c2 p0 p1 lz hB4 hb4 hg4
          go_wp2_with fail
          refine HDG.out.mono ?_
          rintro e w5 ⟨A5, c5, rfl, hrd5, hfr5, hDc5, hcm5, hb5⟩
          have HO5 : Hid (Blk w5 W.heap.size 5 (cn .u8 ((kids (hsh z salt) f k ++ (hsh z salt (f k)).take 0) ++ List.replicate (B - (k * D + 0)) 0))) := by
            have := HO4.out.below hb5 HGT4.out
            show Blk _ _ _ _
            simpa using this
          have HW5 : Hid (Below W.heap.size W w5) := HW4.out.trans (hb5.mono (Nat.le_of_lt HGT4.out))
          have HGT5 : Hid (W.heap.size < w5.heap.size) := Nat.lt_of_lt_of_le HGT4.out hb5.size
          have HFR : Hid (∀ ad, A5 = some ad → W.heap.size ≠ ad.block) := fun ad e => by have := hfr5 ad e; have := HGT4.out; omega
          have HR5 := Lib.hid hrd5
          obtain ⟨G, hG⟩ : ∃ G, hsh z salt (f k) = G := ⟨_, rfl⟩
          have HG := Lib.hid hG
          have hGl : G.length = D := by rw [← hG]; exact hsh_length HZ.out HDD.out _ _
          obtain ⟨T, hT⟩ : ∃ T, kids (hsh z salt) f k = T := ⟨_, rfl⟩
          have hTl : T.length = k * D := by rw [← hT]; exact kids_length (hsh_length HZ.out HDD.out salt) f k
          obtain ⟨v, hv⟩ : ∃ v, k * D = v := ⟨_, rfl⟩
          have vz : (k : Int) * (D : Int) = (v : Int) := by rw [← hv, Int.natCast_mul]
          have hvB : v + D ≤ B := by
            have h3 : (k + 1) * D ≤ a * D := Nat.mul_le_mul_right _ h1
            rw [Nat.add_mul, Nat.one_mul, HAD.out, hv] at h3
            exact h3
          rw [hG] at HO5 HR5
          rw [hT] at HO5
          rw [hv] at HO5 hTl
          have HT := Lib.hid hT
          have HV := Lib.hid hv
          clear hrd5 hfr5 hb5 hG hT hv HO4 HW4 HBk HBW
          go_wp2
          clear h2 z2 qz hq2 z1
          go_loopw [18] (fun o wr => ∃ j : Nat, j ≤ D ∧ o = .int .i64 (j : Int) ∧ Hid (Blk wr W.heap.size 5 (cn .u8 ((T ++ G.take j) ++ List.replicate (B - (v + j)) 0))) ∧ Hid (Below W.heap.size W wr) ∧ Hid (W.heap.size < wr.heap.size) ∧ Hid (Rd .u8 wr A5 D G)) (fun o _ => D - (intOf o).toNat)
          case atStart => exact ⟨0, Nat.zero_le _, rfl, HO5, HW5, HGT5, HR5⟩
          case round =>
            obtain ⟨j, hjD, rfl, HBj, HBV, HGV, HRj⟩ := hrel
            by_cases h3 : j < D
            · have z3 : (j : Int) < D := by omega
              obtain ⟨ad, x5, rfl, hx5, hc5⟩ := HRj.out.get h3
              have bks := HBS.out.below HBV.out HBS.out.lt
              have c2 : wr.cell? ⟨w.heap.size, 2, none⟩ = some (.int .i64 (D : Int)) := bks.cell 2
              obtain ⟨r, hr⟩ : ∃ r, v + j = r := ⟨_, rfl⟩
              have rz : (v : Int) + (j : Int) = (r : Int) := by omega
              rw [hr] at HBj
              have fz : wr.frozen? ⟨W.heap.size, r, none⟩ = false := HBj.out.frozen r
              have hyl : (T ++ G.take j).length = r := by rw [List.length_append, List.length_take]; omega
              obtain ⟨v0, oc⟩ : ∃ v0, wr.cell? ⟨W.heap.size, r, none⟩ = some v0 := ⟨_, (HBj.out.cell r).trans (List.getElem?_eq_getElem (by rw [cn_length, List.length_append, List.length_replicate, hyl]; omega))⟩
              have wv : IntKind.i64.wrap (v : Int) = (v : Int) := by rw [IntKind.wrap_i64]; omega
              have wr_ : IntKind.i64.wrap (r : Int) = (r : Int) := by rw [IntKind.wrap_i64]; omega
              have HTK : Hid (G.take (j + 1) = G.take j ++ [x5]) := by
                show _ = _
                obtain ⟨hk3, rfl⟩ := List.getElem?_eq_some_iff.1 hx5
                exact List.take_succ_eq_append_getElem hk3
              have rB : r < B := by omega
              have HRR := Lib.hid hr
              clear bks hx5 hr
              go_wp2
              go_still_tail 11, (by kernel_rfl)
              change wpList _ _ _ _ _ wr.drew
              go_wp2
              go_roundw
              case rel =>
                refine ⟨j + 1, by omega, by go_num, ?_, (below_drew1 HBV.out).setCell (Nat.le_refl _) _, ?_, ?_⟩
                · show Blk _ _ _ _
                  rw [HTK.out, ← List.append_assoc, show v + (j + 1) = r + 1 by have := HRR.out; omega]
                  exact blk_next HBj.out hyl rB rfl
                · show _ < _
                  have := HGV.out
                  simpa [World.setCell] using this
                · exact Rd.setFar (w := wr.drew) HRj.out (fun ad' e => by have := HFR.out ad' e; simpa using this.symm) _
              case measure => simp [intOf]; omega
            · have z3 : ¬ (j : Int) < D := by omega
              obtain rfl : j = D := by omega
              go_wp2
              go_roundw
              case rel =>
                refine ⟨k + 1, by omega, by go_num, ?_, HBV, HGV⟩
                have := HBj.out
                rw [List.take_of_length_le (by omega)] at this
                show Blk _ _ _ _
                rw [kids, HT.out, HG.out, Nat.add_mul, Nat.one_mul, HV.out]
                exact this
              case measure => simp [intOf]; omega
        · have z1 : (k : Int) < a := by omega
          have z2 : ¬ (q : Int) < y := by omega
          obtain rfl : k = c := by have := HC.out; omega
          have HE : Hid (pad B (kids (hsh z salt) f k) = kids (hsh z salt) f k ++ List.replicate (B - k * D) 0) := by show _ = _; rw [pad, kids_length (hsh_length HZ.out HDD.out salt)]
          go_wp2
          go_ret
          exact ⟨_, rfl, HB1.out.size, by rw [HE.out]; exact HBk.out, BEL.out⟩
      · have z1 : ¬ (k : Int) < a := by omega
        obtain rfl : k = c := by have := HC.out; omega
        have HE : Hid (pad B (kids (hsh z salt) f k) = kids (hsh z salt) f k ++ List.replicate (B - k * D) 0) := by show _ = _; rw [pad, kids_length (hsh_length HZ.out HDD.out salt)]
        go_wp2
        go_ret
        exact ⟨_, rfl, HB1.out.size, by rw [HE.out]; exact HBk.out, BEL.out⟩
end Go.Proofs.YtfoenafjaaidmaaDoor
