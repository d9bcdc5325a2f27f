/-
  What (*Hash).Sum answers: the sum of all that was written, in a new block; nothing of what was there turns. What Of answers.
-/
import Derived.Test.YtidibhphnkiacaaDoorWrite
namespace Go.Proofs.YtidibhphnkiacaaDoor
open Go.RowKit
set_option linter.unusedVariables false

/-- The answer when n words are laid. -/
def outUpto (s : S8) (n : Nat) : List UInt8 := s.out.take (8 * n) ++ List.replicate (64 - 8 * n) 0
theorem outUpto_length (s : S8) (n : Nat) (h : n ≤ 8) : (outUpto s n).length = 64 := by simp [outUpto, out_length]; omega
theorem out_take8 (s : S8) (i : Nat) (hi : i < 8) : s.out.take (8 * i) ++ outB (s.list.getD i 0) = s.out.take (8 * (i + 1)) := by
  obtain ⟨a, b, c, d, e, f, g, h⟩ := s
  obtain rfl | rfl | rfl | rfl | rfl | rfl | rfl | rfl : i = 0 ∨ i = 1 ∨ i = 2 ∨ i = 3 ∨ i = 4 ∨ i = 5 ∨ i = 6 ∨ i = 7 := by omega
  all_goals rfl
theorem outUpto_over (s : S8) (n : Nat) (h : n < 8) : over (outUpto s n) (8 * n) (outB (s.list.getD n 0)) = outUpto s (n + 1) := by
  unfold outUpto
  rw [show 64 - 8 * n = 8 + (64 - 8 * (n + 1)) by omega, ← List.replicate_append_replicate, over_app _ _ _ _ _ (by rw [List.length_take, out_length]; omega) (by rw [outB_length]; simp), ← List.append_assoc, out_take8 s n h]
theorem outUpto_all (s : S8) : outUpto s 8 = s.out := by
  unfold outUpto
  rw [List.take_of_length_le (show s.out.length ≤ 8 * 8 by rw [out_length]; omega)]
  simp
theorem out_get (s : S8) (i k : Nat) (hi : i < 8) (hk : k < 8) : s.out.getD (8 * i + k) 0 = UInt8.ofNat (s.list.getD i 0 >>> (56 - 8 * k)).toNat := by
  obtain ⟨a, b, c, d, e, f, g, h⟩ := s
  obtain rfl | rfl | rfl | rfl | rfl | rfl | rfl | rfl : i = 0 ∨ i = 1 ∨ i = 2 ∨ i = 3 ∨ i = 4 ∨ i = 5 ∨ i = 6 ∨ i = 7 := by omega
  all_goals
    obtain rfl | rfl | rfl | rfl | rfl | rfl | rfl | rfl : k = 0 ∨ k = 1 ∨ k = 2 ∨ k = 3 ∨ k = 4 ∨ k = 5 ∨ k = 6 ∨ k = 7 := by omega
    all_goals rfl

theorem Sums.drewN {w : World} {g : Nat} {m : List UInt8} (h : Sums w g m) (n : Nat) : Sums (w.drewN n) g m := h
theorem Sums.grown {w w' : World} {g : Nat} {m : List UInt8} {row : Option Nat} (h : Sums w g m) (k : w.grownBy w' row) (hne : some g ≠ row) : Sums w' g m := by
  obtain ⟨st, rest, hb, ht⟩ := h
  exact ⟨st, rest, Blk.grown hb k hne, ht⟩
theorem Sums.below {w w' : World} {g : Nat} {m : List UInt8} {B : Nat} (h : Sums w g m) (k : Below B w w') (hg : g < B) : Sums w' g m := by
  obtain ⟨st, rest, hb, ht⟩ := h
  exact ⟨st, rest, Blk.below hb k hg, ht⟩
theorem Sums.lt {w : World} {g : Nat} {m : List UInt8} (h : Sums w g m) : g < w.heap.size := by
  obtain ⟨st, rest, hb, ht⟩ := h
  exact Blk.lt hb
theorem Blk.seg {w : World} {g : Nat} {l : List UInt8} (h : Blk w g 5 (cb l)) (n : Nat) (hn : l.length = n) : Seg w (some ⟨g, 0, none⟩) n l :=
  ⟨hn, fun _ => ⟨_, rfl, h.lt, fun j v hv => by rw [addr_add, Nat.zero_add, h.cell]; exact hv⟩⟩
theorem HB.cells_length (st : S8) (rest : List UInt8) (len : Int) (hr : rest.length = 128) : (cw st.list ++ (cb rest ++ [Value.int .u64 len])).length = 137 := by
  rw [List.length_append, List.length_append, cw_length, cb_length, hr]; rfl
theorem HB.cells_one (st : S8) (rest : List UInt8) (len : Int) : ∀ v ∈ cw st.list ++ (cb rest ++ [Value.int .u64 len]), v.oneCell' = true := by
  intro v hv
  rcases List.mem_append.1 hv with h | h
  · exact cw_one _ v h
  · rcases List.mem_append.1 h with h | h
    · exact cb_one _ v h
    · rw [List.mem_singleton.1 h]; rfl

theorem store_fact {w w1 : World} {o : Obj} {g off : Nat} {v : Value} (hg1 : (w.alloc o).grownBy w1 (some w.heap.size)) (hc : w.cell? ⟨g, off, none⟩ = some v) : w1.cell? ⟨g, off, none⟩ = some v := by
  have hlt : g < w.heap.size := World.block_lt_of_cell? w ⟨g, off, none⟩ hc
  rw [World.cell?_of_block (hg1.block g (by simp; omega) (by intro e; injection e; omega)), World.cell?_alloc_lt _ _ _ hlt]
  exact hc
/-- A call's answer: a slice over a new block that is just these 64 bytes. -/
def GivesSum (w : World) (L : List UInt8) (e : Ending) (w' : World) : Prop :=
  ∃ g, e = .returned (.slice (some ⟨g, 0, none⟩) 64 64) ∧ w.heap.size ≤ g ∧ Blk w' g 5 (cb L) ∧ Below w.heap.size w w'

set_option maxHeartbeats 1000000 in
set_option maxRecDepth 100000 in
theorem Sum_any (g : Nat) (m : List UInt8) (w : World) (h : Sums w g m) (hm : m.length < 1000000) (ht : Tabs w) (hg : 1 < g) :
    Calls Tryd.prog 13 #[.pointer (some ⟨g, 0, none⟩)] w (GivesSum w (sha m)) := by
  obtain ⟨st, rest, hb, htk⟩ := h
  have hlt := Blk.lt hb
  have c136 := hb.length
  rw [htk.2.1] at c136
  have hr : w.rangeAt g 0 (cw st.list ++ (cb rest ++ [.int .u64 (m.length : Int)])) := Blk.range hb 0 _ (fun j v hv => by rw [Nat.zero_add]; exact hv)
  obtain ⟨M, hM⟩ : ∃ M, M = m.length := ⟨_, rfl⟩
  obtain ⟨CS, hCS⟩ : ∃ CS, CS = cw st.list ++ (cb rest ++ [Value.int .u64 (m.length : Int)]) := ⟨_, rfl⟩
  obtain ⟨L, hL⟩ : ∃ L, L = (padOf m.length).length := ⟨_, rfl⟩
  have hLb : L ≤ 160 := by rw [hL, padOf_length]; have := noughts_lt m.length; omega
  rw [← hM] at c136
  rw [← hCS] at hr
  have hCl : CS.length = 137 := by rw [hCS]; exact HB.cells_length st rest _ htk.2.1
  have hC1 : ∀ v ∈ CS, v.oneCell' = true := by rw [hCS]; exact HB.cells_one st rest _
  have HCS := Lib.hid hCS
  have HCL := Lib.hid hCl
  have HC1 := Lib.hid hC1
  have HR := Lib.hid hr
  have HM := Lib.hid hM
  have HL := Lib.hid hL
  have HTK := Lib.hid htk
  have HTB := Lib.hid ht
  have HI38 := Lib.hid info38
  have HI35 := Lib.hid info35
  have hMb : M < 1000000 := by omega
  clear hCS hCl hC1 hr hM hL htk ht hb hm
  have hz := zero38
  go_enter Tryd.func13, Tryd.ntmps13
  go_wp2_with (first
    | ((with_reducible refine at_dst (some 9) ?_); refine wpList_load_mid (op := ⟨some 9, _, _, _, _, _⟩) rfl 38 (.tmp 8) rfl g 0 rfl CS _ ?d1 Tryd.underlying38 rfl ?d2 ?_)
    | ((with_reducible refine at_store 38 ?_); refine wpList_store_abs (o := ⟨none, _, _, _, _, _⟩) rfl 38 (.tmp 3) (.tmp 9) rfl w.heap.size CS rfl rfl 38 (cw (List.replicate 8 0) ++ (cb (List.replicate 128 0) ++ [.int .u64 0])) ?d3 ?d4 ?d5 ?d6 (fun w1 hb1 hg1 => (fun (c1 : w1.cell? ⟨g, 136, none⟩ = some (.int .u64 (M : Int))) => ?_) (store_fact hg1 c136)))
    | (go_at_call 17; refine (ending_any M w1 (by omega) L (by rw [HM.out]; exact HL.out)).mono ?_; rintro e w2 ⟨rfl, hbk2, hbel2⟩))
  case d1 => exact HR.out
  case d2 => simpa [HCL.out] using HI38.out
  case d3 => exact heap_alloc_new _ _
  case d4 => simpa [HCL.out] using HI38.out
  case d5 => rw [HCL.out]; rfl
  case d6 => exact HC1.out
  have hs1 : w.heap.size < w1.heap.size := by have := hg1.size; simp at this; omega
  have hs2 := hbel2.size
  have b1 : Below w.heap.size w w1 := below_only ((Below.refl w.heap.size w).alloc (Nat.le_refl _) _) hg1 (by simp) (by intro j hj; injection hj; omega)
  have T1 : Tabs w1 := HTB.out.below b1
  have T2 : Tabs w2 := T1.below hbel2
  have b2 : Below w.heap.size w w2 := b1.trans (hbel2.mono (by omega))
  have SM : Sums w2 w.heap.size m := by
    refine ⟨st, rest, ?_, HTK.out⟩
    have := hb1.out
    rw [HCS.out] at this
    exact Blk.below this hbel2 hs1
  have SG := hbk2.seg L (by rw [HL.out, HM.out])
  have AP : Apart (some (⟨w1.heap.size, 0, none⟩ : Addr)) L w.heap.size := by
    intro _ ad e
    injection e with e
    rw [← e]
    show w1.heap.size ≠ w.heap.size
    omega
  rw [HM.out] at SG
  refine (Write_any w.heap.size m (padOf m.length) _ L L w2 SM SG AP (Nat.le_refl _) (by omega) (by have := HM.out; omega) T2 (by have := HTB.out.lt; omega)).mono ?_
  rintro e w3 ⟨rfl, hSM3, hg3⟩
  obtain ⟨st3, rest3, hb3, htk3⟩ := hSM3
  have hs3 := hg3.size
  have hout : st3.out = sha m := Took.end_ htk3
  have b3 : Below w.heap.size w w3 := below_only b2 hg3 (by omega) (by intro j hj; injection hj; omega)
  have R3 := hb3.st
  have HR3 := Lib.hid R3
  have HOUT := Lib.hid hout
  have HB3 := Lib.hid hb3
  clear T1 T2 b1 b2 SM SG AP hbk2 hbel2 hg1 hb1 hg3 R3 hout hb3 htk3 c1 c136
  go_wp2_with (first
    | ((with_reducible refine at_dst (some 16) ?_); refine wpList_makeBytes (o := ⟨some 16, _, _, _, _, _⟩) rfl _ _ rfl _ _ rfl rfl 64 rfl (by omega) ?_; intro w4 hb4 hbel4 hs4)
    | ((with_reducible refine at_dst (some 18) ?_); refine wpList_load_mid (op := ⟨some 18, _, _, _, _, _⟩) rfl 35 (.tmp 17) rfl w.heap.size 0 rfl (cw st3.list) _ ?f1 Tryd.underlying35 rfl ?f2 ?_))
  case f1 => exact HB.st (Blk.below HB3.out hbel4 (by omega))
  case f2 => rw [HI35.out]; rfl
  have hb4' : Blk w4 w3.heap.size 5 (cb (outUpto st3 0)) := hb4.out
  have b4 : Below w.heap.size w w4 := b3.trans (hbel4.mono (by omega))
  have HB4 := Lib.hid hb4'
  have HOB : w.heap.size ≤ w3.heap.size := by omega
  clear hb4' hb4 hbel4 b3
  go_loopw [19] (fun i wr => ∃ k : Nat, k ≤ 8 ∧ i = .int .i64 k ∧ Blk wr w3.heap.size 5 (cb (outUpto st3 k)) ∧ Below w.heap.size w wr) (fun i _ => 8 - (intOf i).toNat)
  case atStart => exact ⟨0, by omega, rfl, HB4.out, b4⟩
  case round =>
    obtain ⟨i, hi, rfl, hbk, hbe⟩ := hrel
    have HBK := Lib.hid hbk
    clear hbk b4 HB4
    by_cases hi8 : i < 8
    · have hix := index35 st3.list i rfl hi8
      obtain ⟨x, hx⟩ : ∃ x, x = st3.list.getD i 0 := ⟨_, rfl⟩
      rw [← hx] at hix
      have HX := Lib.hid hx
      have hsl := run_from .i64 w3.heap.size 64 (8 * i) (by omega) (8 * (i : Int)) (by omega)
      obtain ⟨o1, ho1⟩ : ∃ o, o = 8 * i := ⟨_, rfl⟩
      obtain ⟨n1, hn1⟩ : ∃ o, o = 64 - 8 * i := ⟨_, rfl⟩
      rw [← hn1, ← ho1] at hsl
      have HO1 := Lib.hid ho1
      have HN1 : Hid (8 ≤ n1 ∧ n1 ≤ 1000000) := ⟨by omega, by omega⟩
      clear hx ho1 hn1
      go_wp2_with (go_at_call 18; refine (put_any x _ rfl w3.heap.size o1 n1 n1 (outUpto st3 i) _ HBK.out HN1.out.1 HN1.out.2 (by rw [outUpto_length _ _ hi, HO1.out]; omega)).mono ?_; rintro e w5 ⟨rfl, hb5, hg5⟩)
      go_roundw
      case rel =>
        have hsz := HBK.out.lt
        refine ⟨i + 1, by omega, by go_num, ?_, below_only hbe hg5 hbe.size (by intro j hj; injection hj; omega)⟩
        rw [HO1.out, HX.out, outUpto_over st3 i hi8] at hb5
        exact hb5
      case measure => simp [intOf]; omega
    · have e8 : i = 8 := by omega
      go_wp2
      go_ret
      have := HBK.out
      rw [e8, outUpto_all, HOUT.out] at this
      exact ⟨_, rfl, HOB, this, hbe⟩

/-- One of the parts of a text: where it lies, how long it is, how much room it has, and its bytes. -/
structure Part where
  A : Option Addr
  n : Nat
  cap : Nat
  l : List UInt8
def textOf (ps : List Part) : List UInt8 := ps.flatMap (·.l)
/-- The slice at A reads as these parts. -/
def Parts (w : World) (A : Option Addr) (n : Nat) (ps : List Part) : Prop :=
  ps.length = n ∧ (0 < n → ∃ ad, A = some ad ∧ ad.block < w.heap.size ∧ ∀ j p, ps[j]? = some p → w.cell? (ad.add j) = some (.slice p.A p.n p.cap)) ∧ ∀ p ∈ ps, Seg w p.A p.n p.l ∧ p.n ≤ p.cap ∧ 0 ≤ p.cap
theorem Parts.below {w w' : World} {A : Option Addr} {n : Nat} {ps : List Part} (h : Parts w A n ps) (hb : Below w.heap.size w w') : Parts w' A n ps :=
  ⟨h.1, fun hn => by
    obtain ⟨ad, e, hlt, hc⟩ := h.2.1 hn
    exact ⟨ad, e, Nat.lt_of_lt_of_le hlt hb.size, fun j p hp => (hb.cell (p := ad.add j) (by rw [block_add]; exact hlt)).trans (hc j p hp)⟩,
   fun p hp => ⟨(h.2.2 p hp).1.below hb, (h.2.2 p hp).2⟩⟩
theorem textOf_snoc (ps : List Part) (i : Nat) (p : Part) (h : ps[i]? = some p) : textOf (ps.take (i + 1)) = textOf (ps.take i) ++ p.l := by
  obtain ⟨hi, rfl⟩ := List.getElem?_eq_some_iff.1 h
  rw [List.take_succ_eq_append_getElem hi]
  simp only [textOf, List.flatMap_append, List.flatMap_cons, List.flatMap_nil, List.append_nil]
theorem textOf_take_le (ps : List Part) (i : Nat) : (textOf (ps.take i)).length ≤ (textOf ps).length := by
  have : textOf ps = textOf (ps.take i) ++ textOf (ps.drop i) := by
    simp only [textOf]
    rw [← List.flatMap_append, List.take_append_drop]
  rw [this, List.length_append]; omega

set_option maxHeartbeats 400000 in
theorem Of_any (A : Option Addr) (n cap : Nat) (ps : List Part) (w : World) (hp : Parts w A n ps) (hn : n ≤ 100000) (hl : (textOf ps).length < 100000) (ht : Tabs w) :
    Calls Tryd.prog 12 #[.slice A n cap] w (GivesSum w (sha (textOf ps))) := by
  have HP := Lib.hid hp
  have HT := Lib.hid ht
  have hG := ht.lt
  clear hp ht
  go_enter Tryd.func12, Tryd.ntmps12
  go_wp2_with (go_at_call 9; refine (New_any _ HT.out).mono ?_; rintro e w1 ⟨rfl, hs1, hb1⟩)
  have HS1 := Lib.hid hs1
  clear hs1
  go_loopw [9] (fun j wr => ∃ i : Nat, i ≤ n ∧ j = .int .i64 i ∧ Sums wr w.heap.size (textOf (ps.take i)) ∧ Below w.heap.size w wr) (fun j _ => n - (intOf j).toNat)
  case atStart => exact ⟨0, by omega, rfl, HS1.out, hb1⟩
  case round =>
    obtain ⟨i, hi, rfl, hs, hb⟩ := hrel
    have HS := Lib.hid hs
    clear hs
    by_cases hin : i < n
    · have hps := HP.out.below hb
      obtain ⟨p, hpi⟩ : ∃ p, ps[i]? = some p := ⟨_, List.getElem?_eq_getElem (by rw [HP.out.1]; exact hin)⟩
      obtain ⟨ad, hA, had, hcell⟩ := hps.2.1 (by omega)
      have hc := hcell i p hpi
      have hpm := hps.2.2 p (List.mem_of_getElem? hpi)
      have HPM := Lib.hid hpm
      have HPI := Lib.hid hpi
      have hadw : 0 < p.n → ∀ a, p.A = some a → a.block ≠ w.heap.size := by
        intro hn0 a ha
        obtain ⟨a', e', hlt', _⟩ := (HP.out.2.2 p (List.mem_of_getElem? hpi)).1.2 hn0
        rw [ha] at e'
        injection e' with e'
        rw [e']
        omega
      have HAW := Lib.hid hadw
      have hlen : (textOf (ps.take i)).length < 1099511627776 := by have := textOf_take_le ps i; omega
      have HLEN := Lib.hid hlen
      have hnb : p.n ≤ 140737488355328 := by
        have e1 := textOf_snoc ps i p hpi
        have e2 := textOf_take_le ps (i + 1)
        have e3 := (HP.out.2.2 p (List.mem_of_getElem? hpi)).1.1
        rw [e1, List.length_append] at e2
        omega
      have HNB := Lib.hid hnb
      clear hcell hpm hpi hps hadw hlen hnb
      subst hA
      go_wp2_with (go_at_call 10; refine (Write_any w.heap.size (textOf (ps.take i)) p.l p.A p.n p.cap _ HS.out HPM.out.1 HAW.out HPM.out.2.1 HNB.out HLEN.out (HT.out.below hb) hG).mono ?_; rintro e w2 ⟨rfl, hs2, hg2⟩)
      go_roundw
      case rel =>
        refine ⟨i + 1, by omega, by go_num, ?_, below_only hb hg2 hb.size (by intro j hj; injection hj; omega)⟩
        rw [textOf_snoc ps i p HPI.out]
        exact hs2
      case measure => simp [intOf]; omega
    · have ei : i = n := by omega
      go_wp2_with (go_at_call 13; refine (Sum_any w.heap.size (textOf (ps.take i)) _ HS.out (by have := textOf_take_le ps i; omega) (HT.out.below hb) hG).mono ?_; rintro e w2 ⟨g2, rfl, hge, hbk, hb2⟩)
      go_ret
      rw [ei, List.take_of_length_le (by rw [HP.out.1]; omega)] at hbk
      have := hb.size
      exact ⟨g2, rfl, by omega, hbk, hb.trans (hb2.mono (by omega))⟩
end Go.Proofs.YtidibhphnkiacaaDoor
