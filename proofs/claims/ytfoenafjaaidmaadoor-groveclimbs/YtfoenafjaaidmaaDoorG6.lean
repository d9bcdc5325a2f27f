/-
  What grow and shapeOf of package grove answer: level upon level, up to the top.
-/
import Derived.Test.YtfoenafjaaidmaaDoorG5
import Derived.Test.YtfoenafjaaidmaaDoorQ4
namespace Go.Proofs.YtfoenafjaaidmaaDoor
open Go.RowKit
set_option linter.unusedVariables false
set_option linter.unusedSimpArgs false
set_option maxRecDepth 100000

theorem parts_new2 (p0 p1 : Bt) (w : World) (h : ∀ p ∈ [p0, p1], Rd .u8 w p.A p.n p.l ∧ Fit 256 p.l ∧ p.n ≤ p.cap) :
    PartsR (w.alloc (.cells #[.slice p0.A p0.n p0.cap, .slice p1.A p1.n p1.cap] 22)) (some ⟨w.heap.size, 0, none⟩) 2 [p0, p1] := by
  have hbl : Blk (w.alloc (.cells #[.slice p0.A p0.n p0.cap, .slice p1.A p1.n p1.cap] 22)) w.heap.size 22 (cells_ [p0, p1]) := Blk.new w 22 (cells_ [p0, p1])
  have hb1 : Below w.heap.size w (w.alloc (.cells #[.slice p0.A p0.n p0.cap, .slice p1.A p1.n p1.cap] 22)) := (Below.refl _ _).alloc (Nat.le_refl _) _
  refine ⟨rfl, fun _ => ⟨_, rfl, hbl.lt, fun j p hj => ?_⟩, fun p hp => ⟨(h p hp).1.below hb1, (h p hp).2⟩⟩
  rw [addr_add, Nat.zero_add, hbl.cell, cells_, List.getElem?_map, hj]
  rfl
section
variable {z S B D a n : Nat} {salt data : List Nat}
theorem lvl_fit (h : Fit 256 data) (l : Nat) : Fit 256 (lvl (hsh z salt) B a n data l) := by
  intro x hx
  obtain ⟨i, _, hx⟩ := List.mem_flatMap.1 hx
  exact blk_fit h B a n l i x hx
theorem ups_fit (h : Fit 256 data) (j : Nat) : Fit 256 (ups (hsh z salt) B a n data j) := by
  intro x hx
  obtain ⟨i, _, hx⟩ := List.mem_flatMap.1 hx
  exact lvl_fit h _ x hx
end
section
variable {H : List Nat → List Nat} {S D B a n : Nat} {data : List Nat}
theorem ups_le (hH : ∀ t, (H t).length = D) (hB : a * D = B) (m : Nat) (hm : ∀ l, l < m → lev a n l ≤ n) : ∀ j, j < m → (ups H B a n data j).length ≤ j * (n * B)
  | 0, _ => by simp [ups]
  | j + 1, h => by
    have h1 := ups_le hH hB m hm j (by omega)
    have h2 : lev a n (j + 1) * B ≤ n * B := Nat.mul_le_mul_right _ (hm (j + 1) h)
    rw [ups_succ, List.length_append, lvl_length hH hB, Nat.add_mul, Nat.one_mul]
    omega
theorem lvl_top (l : Nat) (h : lev a n l = 1) : lvl H B a n data l = blk H B a n data l 0 := by
  rw [lvl, h]; simp
end
def lenV : Value → Nat
  | .slice _ n _ => n
  | _ => 0
/-- An answer of grow: the tree, and the top's block. -/
def GivesGrow (w : World) (B : Nat) (t r : List Nat) (e : Ending) (w' : World) : Prop := ∃ A1 n1 c1 g, e = .returned (.tuple #[.slice A1 n1 c1, .slice (some ⟨g, 0, none⟩) B B]) ∧ Bs w' A1 n1 c1 t ∧ Blk w' g 5 (cn .u8 r) ∧ Below w.heap.size w w'
set_option maxHeartbeats 4000000 in
theorem grow_any (z S B D a n : Nat) (A : Option Addr) (nA cA : Nat) (Ad : Option Addr) (cd : Nat) (salt data : List Nat) (w : World) (m : Nat) (h : Over w z S B D a n A nA cA Ad cd salt data) (hA : nA ≤ cA) (h64 : nA ≤ 64) (hS : S ≤ 10000) (ht : Both w) (hm : (cs a n).length = m) :
    Calls Tryd.prog 30 #[.int .i64 (z : Int), .slice A nA cA, .int .i64 (B : Int), .slice Ad S cd] w (GivesGrow w B (tree (hsh z salt) B a n data m) (blk (hsh z salt) B a n data (m - 1) 0)) := by
  have HO := Lib.hid h
  have HT := Lib.hid ht
  have hb := h.shp.b
  have ha := h.shp.a2
  have haD : a * D = B := h.shp.aD
  have HHl : ∀ t, (hsh z salt t).length = D := fun t => hsh_length h.alg h.dig salt t
  have hdl : data.length = S := h.rd.1
  have hlow : up data.length B = n := by rw [hdl]; exact h.shp.low
  have h41 : m ≤ 41 := by rw [← hm]; exact cnts_len _ _ _
  have hpos : 1 ≤ m := by rw [← hm]; have := cnts_ne a 40 n; exact List.length_pos_iff.2 this
  have hlv : ∀ l, l < m → lev a n l ≤ n := fun l hl => h.shp.levs (by rw [hm]; exact hl)
  have htop : lev a n (m - 1) = 1 := by rw [← hm]; exact h.shp.top1
  have hmid : ∀ l, l + 1 < m → 2 ≤ lev a n l := fun l hl => (cnts_top a ha.1 40 n h.shp.n1.1 h.shp.n1.2).2 l (by show _ < (cs a n).length; omega)
  have hnB : n * B ≤ 14096 := by
    obtain ⟨k1, k2⟩ := up_spec (a := S) (b := B) (by omega)
    rw [h.shp.low] at k2
    omega
  have hSn : S ≤ n * B := by
    obtain ⟨k1, k2⟩ := up_spec (a := S) (b := B) (by omega)
    rw [h.shp.low] at k1
    exact k1
  have hg0 : gapn S B = n * B - S := by
    have := gapn_up (n := S) (to := B) (by omega)
    rw [h.shp.low] at this
    omega
  have hn0 := h.shp.n1.1
  have hL0 : data ++ List.replicate (n * B - S) 0 = lvl (hsh z salt) B a n data 0 := by
    rw [lvl_low (by omega) hlow, hdl, hg0]
  have HL0 := Lib.hid hL0
  have HG0 := Lib.hid hg0
  have HHL := Lib.hid HHl
  have HAD := Lib.hid haD
  have HLV := Lib.hid hlv
  have HTOP := Lib.hid htop
  have HMID := Lib.hid hmid
  have HM := Lib.hid hm
  have hDb : 1 ≤ D ∧ D ≤ 64 := by omega
  clear h ht HHl haD hdl hlow hlv htop hmid hm hL0 hg0
  go_enter Tryd.func30, Tryd.ntmps30
  go_wp2_with fail
  refine (Pad_any Ad S cd data B w HO.out.rd (by omega) (by omega) (by omega) (n * B - S) (n * B) HG0.out (by omega)).mono ?_
  rw [HL0.out]
  rintro e w1 ⟨g1, rfl, hg1, hB1, hb1⟩
  have HB1 := Lib.hid hB1
  have BEL1 := Lib.hid hb1
  clear hB1 hb1
  go_wp2
  go_loopw [8, 10] (fun tr lv wr => ∃ (j : Nat) (At : Option Addr) (nt ct g L : Nat), tr = .slice At nt ct ∧ lv = .slice (some ⟨g, 0, none⟩) L L ∧ j < m ∧ lev a n j * B = L ∧ Hid (Bs wr At nt ct (ups (hsh z salt) B a n data j)) ∧ Hid (Blk wr g 5 (cn .u8 (lvl (hsh z salt) B a n data j))) ∧ Hid (Below w.heap.size w wr)) (fun _ lv _ => lenV lv)
  case atStart => exact ⟨0, none, 0, 0, g1, n * B, rfl, rfl, by omega, rfl, ⟨Rd.nil _ _ _, Fit.nil _, Nat.le_refl _, Nat.zero_le _, fun _ => rfl⟩, HB1.out, BEL1.out⟩
  case round =>
    obtain ⟨j, At, nt, ct, g, L, rfl, rfl, hj, hL, HBT, HBL, HBW⟩ := hrel
    have hlvj := HLV.out j hj
    have hLn : L ≤ 14096 := by
      have : lev a n j * B ≤ n * B := Nat.mul_le_mul_right _ hlvj
      omega
    have hlen : (lvl (hsh z salt) B a n data j).length = L := by rw [lvl_length HHL.out HAD.out, hL]
    have HLEN := Lib.hid hlen
    have HLL := Lib.hid hL
    by_cases hmore : j + 1 < m
    · have h2 := HMID.out j hmore
      have hLB : B < L := by
        have : 2 * B ≤ lev a n j * B := Nat.mul_le_mul_right _ h2
        omega
      have zLB : (B : Int) < (L : Int) := by omega
      have hc0 : 0 < lev a n j := by omega
      obtain ⟨k, hk⟩ : ∃ k, gapn (lev a n j * D) B = k := ⟨_, rfl⟩
      obtain ⟨L2, hL2⟩ : ∃ L2, lev a n (j + 1) * B = L2 := ⟨_, rfl⟩
      have hup := lvl_up (H := hsh z salt) (n := n) (data := data) HHL.out HAD.out (by omega) (by omega) j
      rw [hk] at hup
      have hlen2 : (lvl (hsh z salt) B a n data (j + 1)).length = L2 := by rw [lvl_length HHL.out HAD.out, hL2]
      have hsum : lev a n j * D + k = L2 := by
        rw [← hlen2, hup, List.length_append, kids_length HHL.out, List.length_replicate]
      have hlt2 : L2 < L := by
        have h3 : lev a n (j + 1) < lev a n j := up_lt ha.1 h2
        have h4 : (lev a n (j + 1) + 1) * B ≤ lev a n j * B := Nat.mul_le_mul_right _ h3
        rw [Nat.add_mul, Nat.one_mul] at h4
        omega
      have hat : ∀ i, i < lev a n j → ((lvl (hsh z salt) B a n data j).drop (i * B)).take B = blk (hsh z salt) B a n data j i := fun i hi => lvl_at HHL.out HAD.out j (lev a n j) i hi
      have hul := ups_le (data := data) HHL.out HAD.out m HLV.out j hj
      have hnt : (ups (hsh z salt) B a n data j).length = nt := HBT.out.rd.1
      have hnt2 : nt ≤ 563840 := by
        rw [hnt] at hul
        have : j * (n * B) ≤ 40 * 14096 := Nat.mul_le_mul (by omega) hnB
        omega
      obtain ⟨c, hc⟩ : ∃ c, lev a n j = c := ⟨_, rfl⟩
      rw [hc] at hk hup hsum hat hc0
      have HC := Lib.hid hc
      have HK := Lib.hid hk
      have HUP := Lib.hid hup
      have HSUM := Lib.hid hsum
      have HAT := Lib.hid hat
      have HL2 := Lib.hid hL2
      have HLEN2 := Lib.hid hlen2
      have hcB : c * B = L := by rw [← hc]; exact hL
      have HCB := Lib.hid hcB
      clear hk hup hsum hat hL2 hlen2 hul hnt hc hcB hlen hL hlvj h2
      go_wp2_with fail
      refine (raise_any z D HO.out.alg HO.out.dig A nA cA salt B c (some ⟨g, 0, none⟩) L L (lvl (hsh z salt) B a n data j) (fun i => blk (hsh z salt) B a n data j i) wr (HO.out.below HBW.out).rs HO.out.saltFit hA h64 (HBL.out.rd L HLEN.out) (lvl_fit HO.out.dataFit j) HCB.out (by omega) (Nat.le_refl _) (by unfold maxLen; omega) hc0 (by omega) (by omega) HAT.out (HT.out.below HBW.out) k L2 HK.out HSUM.out).mono ?_
      rw [← HUP.out]
      rintro e w2 ⟨g2, rfl, hg2, hB2, hb2⟩
      have HB2 := Lib.hid hB2
      have HBT2 := Lib.hid (HBT.out.below hb2)
      have BEL2 := Lib.hid (below_then HBW.out hb2)
      clear hB2 hb2
      have HP : Hid (PartsR (w2.alloc (.cells #[.slice (some ⟨g2, 0, none⟩) L2 L2, .slice At nt ct] 22)) (some ⟨w2.heap.size, 0, none⟩) 2 [⟨some ⟨g2, 0, none⟩, L2, L2, lvl (hsh z salt) B a n data (j + 1)⟩, ⟨At, nt, ct, ups (hsh z salt) B a n data j⟩]) := parts_new2 ⟨some ⟨g2, 0, none⟩, L2, L2, lvl (hsh z salt) B a n data (j + 1)⟩ ⟨At, nt, ct, ups (hsh z salt) B a n data j⟩ w2 (by
        intro p hp
        simp only [List.mem_cons, List.not_mem_nil, or_false] at hp
        rcases hp with rfl | rfl
        · exact ⟨HB2.out.rd L2 HLEN2.out, lvl_fit HO.out.dataFit _, Nat.le_refl _⟩
        · exact ⟨HBT2.out.rd, HBT2.out.fit, HBT2.out.le⟩)
      have HF : Hid (flat [(⟨some ⟨g2, 0, none⟩, L2, L2, lvl (hsh z salt) B a n data (j + 1)⟩ : Bt), ⟨At, nt, ct, ups (hsh z salt) B a n data j⟩] = ups (hsh z salt) B a n data (j + 1)) := by show _ = _; rw [ups_succ]; simp [flat]
      obtain ⟨T, hT⟩ : ∃ T, L2 + nt = T := ⟨_, rfl⟩
      have HFL : Hid ((ups (hsh z salt) B a n data (j + 1)).length = T) := by show _ = _; rw [ups_succ, List.length_append, HLEN2.out, HBT2.out.rd.1, hT]
      have hTm : T ≤ 900000 := by omega
      have BELa : Hid (Below w2.heap.size w2 (w2.alloc (.cells #[.slice (some ⟨g2, 0, none⟩) L2 L2, .slice At nt ct] 22))) := (Below.refl _ _).alloc (Nat.le_refl _) _
      clear hT
      go_wp2_with fail
      generalize w2.alloc (.cells #[.slice (some ⟨g2, 0, none⟩) L2 L2, .slice At nt ct] 22) = W at *
      refine (Join_any w2.heap.size 2 2 _ W HP.out (by omega) (by omega) (by omega) (by omega) T (by rw [HF.out]; exact HFL.out) hTm).mono ?_
      rw [HF.out]
      rintro e w3 ⟨g3, rfl, hg3, hR3, hb3⟩
      have HR3 := Lib.hid hR3
      have HB3 := Lib.hid ((HB2.out.below BELa.out HB2.out.lt).below hb3 (HB2.out.below BELa.out HB2.out.lt).lt)
      have BEL3 := Lib.hid (below_then (below_then BEL2.out BELa.out) hb3)
      clear hR3 hb3
      go_wp2
      go_roundw
      case rel => exact ⟨j + 1, some ⟨g3, 0, none⟩, T, T, g2, L2, rfl, rfl, hmore, HL2.out, ⟨HR3.out, ups_fit HO.out.dataFit _, Nat.le_refl _, by unfold maxLen; omega, fun e => by cases e⟩, HB3.out, BEL3.out⟩
      case measure => simp [lenV]; omega
    · obtain rfl : j = m - 1 := by omega
      have hLB : L = B := by
        have := HLL.out
        rw [HTOP.out] at this
        omega
      subst hLB
      have hBL := HBL.out
      rw [lvl_top _ HTOP.out] at hBL
      have HBF := Lib.hid hBL
      have hBT := HBT.out
      rw [ups_tree] at hBT
      have HTF := Lib.hid hBT
      clear hBL hBT hlvj hlen hL
      go_wp2
      go_ret2
      exact ⟨At, nt, ct, g, rfl, HTF.out, HBF.out, HBW.out⟩
set_option maxHeartbeats 1000000 in
theorem shapeOf_any (z b : Int) (Ad : Option Addr) (nd cd D : Nat) (hD : sizeOfAlg z = D) (w : World) : Calls Tryd.prog 28 #[.int .i64 z, .int .i64 b, .slice Ad nd cd] w fun e w' => e = .returned (.agg #[.int .i64 (nd : Int), .int .i64 b, .int .i64 (D : Int)]) ∧ Below w.heap.size w w' := by
  have HD := Lib.hid hD
  clear hD
  go_enter Tryd.func28, Tryd.ntmps28
  go_wp2_with fail
  refine (Size7_any z _).mono ?_
  rintro e w1 ⟨rfl, rfl⟩
  rw [HD.out]
  go_wp2
  refine bodyPost_ret (v := .agg #[.int .i64 (nd : Int), .int .i64 b, .int .i64 (D : Int)]) (results_cell_row (fr := (0, 0)) Tryd.results28 _ _ w.heap.size 44 _ _ rfl (heap_alloc_new w _) Tryd.underlying44 rfl (by kernel_rfl)) rfl ⟨rfl, (Below.refl _ _).alloc (Nat.le_refl _) _⟩
end Go.Proofs.YtfoenafjaaidmaaDoor
