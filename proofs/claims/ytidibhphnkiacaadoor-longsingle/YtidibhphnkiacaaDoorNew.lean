/-
  What New answers, and what ending answers: the bytes that follow a text of so many bytes (fewer than 2 to the 40).
-/
import Derived.Test.YtidibhphnkiacaaDoorTake
namespace Go.Proofs.YtidibhphnkiacaaDoor
open Go.RowKit
set_option linter.unusedVariables false

/-- A sum under way that has taken the text m. -/
def Sums (w : World) (g : Nat) (m : List UInt8) : Prop := ∃ st rest, HB w g st rest (m.length : Int) ∧ Took m st rest

set_option maxRecDepth 100000 in
theorem New_any (w : World) (ht : Tabs w) :
    Calls Tryd.prog 9 #[] w fun e w' => e = .returned (.pointer (some ⟨w.heap.size, 0, none⟩)) ∧ Sums w' w.heap.size [] ∧ Below w.heap.size w w' := by
  obtain ⟨⟨t, fr, h0⟩, _⟩ := ht
  have H0 := Lib.hid h0
  have HI := Lib.hid info35
  clear h0
  have hz := zero38
  go_enter Tryd.func9, Tryd.ntmps9
  go_wp2_with ((with_reducible refine at_dst (some 1) ?_); refine wpList_load_row (o := ⟨some 1, _, _, _, _, _⟩) rfl 35 (.global 0) rfl 0 rfl t #[.int .u64 7640891576956012808, .int .u64 13503953896175478587, .int .u64 4354685564936845355, .int .u64 11912009170470909681, .int .u64 5840696475078001361, .int .u64 11170449401992604703, .int .u64 2270897969802886507, .int .u64 6620516959819538809] fr _ H0.out Tryd.underlying35 rfl ?d1 ?_)
  case d1 => simpa using HI.out
  go_ret
  refine ⟨rfl, ⟨init8, List.replicate 128 0, ?_, Took.nil⟩, (Below.refl _ _).alloc (Nat.le_refl _) _⟩
  exact heap_alloc_new _ _

/-- make([]byte, L): a new block of noughts. -/
theorem wpList_makeBytes {ops : Array Oper} {rest : List Oper} {o : Oper} {a : Act} {w : World} {Q : Exit → Act → World → Prop} (hgd : o.guard = none) (x y : Operand) (ho : o.op = .makeSlice 24 x y)
    (k : IntKind) (z : Int) (hx : a.eval x = .int k z) (hy : a.eval y = .int k z) (L : Nat) (hz : z = L) (hL : L ≤ 100000)
    (h : ∀ w', Hid (Blk w' w.heap.size 5 (cb (List.replicate L 0))) → Below w.heap.size w w' → w.heap.size < w'.heap.size → wpList Tryd.prog ops Q rest (a.put o.dst (.slice (some ⟨w.heap.size, 0, none⟩) L L)) w') :
    wpList Tryd.prog ops Q (o :: rest) a w := by
  obtain ⟨i0, hi, hz0, hz1, hz2⟩ := info_parts byteInfo
  subst hz
  have hm : madeCells (Value.int .u8 0).cells L = (cb (List.replicate L 0)).toArray := by
    apply Array.ext
    · simp [size_madeCells, cb]
    · intro i h1 h2
      simp [madeCells, cb, Value.cells, Nat.mod_one]
      rfl
  have hrun : (Instr.makeSlice 24 (.int k (L : Int)) (.int k (L : Int))).run Tryd.prog w = .ok (.slice (some ⟨w.heap.size, 0, none⟩) L L) (w.alloc (.cells (cb (List.replicate L 0)).toArray 5)) := by
    have := run_make (P := Tryd.prog) w 24 5 i0 _ Tryd.underlying24 hi hz0 k k (L : Int) (L : Int) (by omega) (by omega) (by rw [hz2]; omega) (by omega)
    rw [hz1, Nat.mul_one, Int.toNat_natCast, hm] at this
    exact this
  refine wpList_plain hgd fun K hK => ?_
  unfold Oper.wp
  simp [execOp, ho, hx, hy, hrun, Result.andThen]
  exact hK _ _ (h _ (heap_alloc_new _ _) ((Below.refl _ _).alloc (Nat.le_refl _) _) (by simp))

theorem cb_set (l : List UInt8) (i : Nat) (x : UInt8) : (cb l).set i (.int .u8 (ub x)) = cb (l.set i x) := by simp [cb, List.map_set]
theorem over_zero (L : List UInt8) (k : Nat) : over L k [] = L := by simp [over]
theorem over_snoc (L : List UInt8) (k : Nat) (c : List UInt8) (b : UInt8) (h : k + c.length < L.length) : (over L k c).set (k + c.length) b = over L k (c ++ [b]) := by
  unfold over
  have h1 : (L.take k).length = k := by rw [List.length_take]; omega
  rw [List.set_append_right _ _ (by omega), h1, Nat.add_sub_cancel_left, List.set_append_right _ _ (by omega), Nat.sub_self, List.drop_eq_getElem_cons h, List.set_cons_zero]
  simp [Nat.add_assoc]
theorem over_app (A B C B' : List UInt8) (k : Nat) (hk : A.length = k) (hb : B'.length = B.length) : over (A ++ (B ++ C)) k B' = A ++ (B' ++ C) := by
  subst hk
  unfold over
  rw [List.take_left, hb, ← List.drop_drop, List.drop_left, List.drop_left]
theorem outB_get (x : W64) (i : Nat) (hi : i < 8) : (outB x)[i]? = some (UInt8.ofNat (x >>> (56 - 8 * i)).toNat) := by
  obtain rfl | rfl | rfl | rfl | rfl | rfl | rfl | rfl : i = 0 ∨ i = 1 ∨ i = 2 ∨ i = 3 ∨ i = 4 ∨ i = 5 ∨ i = 6 ∨ i = 7 := by omega
  all_goals rfl
theorem outB_take (x : W64) (i : Nat) (hi : i < 8) : (outB x).take i ++ [UInt8.ofNat (x >>> (56 - 8 * i)).toNat] = (outB x).take (i + 1) := by
  rw [List.take_add_one, outB_get x i hi]
  rfl
theorem outB_be64 (n : Nat) (h : n < 18446744073709551616) : outB (BitVec.ofNat 64 n) = be64 n := by
  have e : (BitVec.ofNat 64 n).toNat = n := by rw [BitVec.toNat_ofNat]; exact Nat.mod_eq_of_lt h
  simp only [outB, be64, BitVec.toNat_ushiftRight, e, Nat.shiftRight_eq_div_pow]
  rfl
theorem addr_plus (b off j : Nat) : (⟨b, off, none⟩ : Addr).add j = ⟨b, off + j, none⟩ := by unfold Addr.add; split <;> simp_all

set_option maxHeartbeats 400000 in
/-- put: a word, the highest byte first, over eight bytes of a block that is known whole. -/
theorem put_any (x : W64) (z : Int) (hz : z = ui x) (g off n cap : Nat) (L : List UInt8) (w : World) (hb : Blk w g 5 (cb L)) (hn : 8 ≤ n) (hn2 : n ≤ 1000000) (ho : off + 8 ≤ L.length) :
    Calls Tryd.prog 18 #[.slice (some ⟨g, off, none⟩) n cap, .int .u64 z] w fun e w' => e = .returned (.tuple #[]) ∧ Blk w' g 5 (cb (over L off (outB x))) ∧ w.grownBy w' (some g) := by
  subst hz
  have HO := Lib.hid ho
  have HB0 := Lib.hid hb
  have u0 := ui_lo x
  clear ho hb
  go_enter Tryd.func18, Tryd.ntmps18
  go_wp2
  go_loopw [5] (fun i wr => ∃ k : Nat, k ≤ 8 ∧ i = .int .i64 k ∧ Blk wr g 5 (cb (over L off ((outB x).take k))) ∧ w.grownBy wr (some g)) (fun i _ => 8 - (intOf i).toNat)
  case atStart => exact ⟨0, by omega, rfl, by rw [List.take_zero, over_zero]; exact HB0.out, World.grownBy.refl w _⟩
  case round =>
    obtain ⟨k, hk, rfl, hbk, hgr⟩ := hrel
    by_cases hk8 : k < 8
    · have hl : ((outB x).take k).length = k := by rw [List.length_take, outB_length]; omega
      have hol : (over L off ((outB x).take k)).length = L.length := over_length _ _ _ (by rw [hl]; have := HO.out; omega)
      have hc := (hbk.cell (off + k)).trans (cb_get _ _ (by rw [hol]; have := HO.out; omega))
      have hf := hbk.frozen (off + k)
      have e := over_snoc L off ((outB x).take k) (UInt8.ofNat (x >>> (56 - 8 * k)).toNat) (by rw [hl]; have := HO.out; omega)
      rw [outB_take x k hk8, hl] at e
      have HE := Lib.hid e
      have HBK := Lib.hid hbk
      clear hl hol e hbk
      go_wp2
      go_roundw
      case rel =>
        rw [ub_cut]
        refine ⟨k + 1, by omega, by go_num, ?_, only_setCell hgr (.inl rfl) _⟩
        have := HBK.out.set_ (off + k) (.int .u8 (ub (UInt8.ofNat (x >>> (56 - 8 * k)).toNat)))
        rw [cb_set, HE.out] at this
        exact this
      case measure => simp [intOf]; omega
    · have e8 : k = 8 := by omega
      rw [e8, List.take_of_length_le (by rw [outB_length]; omega)] at hbk
      have HBK := Lib.hid hbk
      clear hbk e8
      go_wp2
      go_end0
      exact ⟨rfl, HBK.out, hgr⟩
theorem run_from (k : IntKind) (g L lo : Nat) (h : lo < L) (z : Int) (hz : z = (lo : Int)) (w : World) :
    (Instr.slice 24 (.slice (some ⟨g, 0, none⟩) L L) (some (.int k z)) none none).run Tryd.prog w = .ok (.slice (some ⟨g, lo, none⟩) (L - lo) (L - lo)) w := by
  subst hz
  obtain ⟨i0, hi0, hz0, hz1, hz2⟩ := info_parts byteInfo
  have h1 : ¬ L = lo := by omega
  have hb := run_sliceBound (P := Tryd.prog) (w := w) k (lo : Int) L .sliceB (by omega) (by omega)
  rw [Int.toNat_natCast] at hb
  simp [Instr.slice, run_underlying Tryd.underlying24, Instr.sliceBounds, hb, sizeOf, typeInfo, hi0, hz1, h1, addr_plus]

theorem pad_first (n : Nat) : (List.replicate (17 + noughts n) (0 : UInt8)).set 0 128 = (128 :: List.replicate (noughts n) 0) ++ (List.replicate 8 0 ++ List.replicate 8 0) := by
  rw [show 17 + noughts n = (noughts n + (8 + 8)) + 1 by omega, List.replicate_succ, List.set_cons_zero, ← List.replicate_append_replicate]
  rfl
theorem outB_zero : outB 0 = List.replicate 8 0 := by decide
theorem pad_second (n : Nat) : over ((128 :: List.replicate (noughts n) 0) ++ (List.replicate 8 0 ++ List.replicate 8 0)) (1 + noughts n) (outB 0) = (128 :: List.replicate (noughts n) 0) ++ (List.replicate 8 0 ++ List.replicate 8 0) := by
  rw [outB_zero]
  exact over_app _ _ _ _ _ (by simp; omega) rfl
theorem pad_third (n : Nat) : over ((128 :: List.replicate (noughts n) 0) ++ (List.replicate 8 0 ++ List.replicate 8 0)) (1 + noughts n + 8) (be64 (8 * n)) = padOf n := by
  have := over_app ((128 :: List.replicate (noughts n) 0) ++ List.replicate 8 0) (List.replicate 8 0) [] (be64 (8 * n)) (1 + noughts n + 8) (by simp; omega) (by rw [be64_length]; simp)
  rw [List.append_nil, List.append_nil, List.append_assoc] at this
  rw [this]
  simp [padOf]

set_option maxHeartbeats 400000 in
theorem ending_any (n : Nat) (w : World) (hn : n < 1099511627776) (L : Nat) (hL : L = (padOf n).length) :
    Calls Tryd.prog 17 #[.int .u64 (n : Int)] w fun e w' => e = .returned (.slice (some ⟨w.heap.size, 0, none⟩) L L) ∧ Blk w' w.heap.size 5 (cb (padOf n)) ∧ Below w.heap.size w w' := by
  have hq := noughts_lt n
  rw [padOf_length] at hL
  have HL := Lib.hid hL
  have l0 : 17 ≤ L := by omega
  have l1 : L ≤ 160 := by omega
  obtain ⟨q, hqq⟩ : ∃ q, q = noughts n := ⟨_, rfl⟩
  have hq1 : (239 - (n : Int)) % 128 = (q : Int) := by rw [hqq]; unfold noughts; omega
  have HZ : Hid ((1 + (q : Int) + 16 = (L : Int))) := by
    show _ = _
    rw [hL, hqq]; omega
  have hsl1 := run_from .u64 w.heap.size L (1 + q) (by omega) (1 + (q : Int)) (by omega)
  have hsl2 := run_from .u64 w.heap.size L (1 + q + 8) (by omega) (1 + (q : Int) + 8) (by omega)
  obtain ⟨o1, ho1⟩ : ∃ o, o = 1 + q := ⟨_, rfl⟩
  obtain ⟨o2, ho2⟩ : ∃ o, o = 1 + q + 8 := ⟨_, rfl⟩
  rw [← ho1] at hsl1
  rw [← ho2] at hsl2
  obtain ⟨n1, hn1⟩ : ∃ o, o = L - o1 := ⟨_, rfl⟩
  obtain ⟨n2, hn2⟩ : ∃ o, o = L - o2 := ⟨_, rfl⟩
  rw [← hn1] at hsl1
  rw [← hn2] at hsl2
  have HQ := Lib.hid hqq
  have HO1 := Lib.hid ho1
  have HO2 := Lib.hid ho2
  have HN1 : Hid (8 ≤ n1 ∧ n1 ≤ 1000000) := ⟨by omega, by omega⟩
  have HN2 : Hid (8 ≤ n2 ∧ n2 ≤ 1000000) := ⟨by omega, by omega⟩
  have bq : q < 128 := by omega
  clear hL hq hqq ho1 ho2 hn1 hn2
  go_enter Tryd.func17, Tryd.ntmps17
  have l2 : L ≤ 100000 := by omega
  have l3 : 0 < L := by omega
  go_wp2_with (first
    | ((with_reducible refine at_dst (some 12) ?_); refine wpList_makeBytes (o := ⟨some 12, _, _, _, _, _⟩) rfl (.tmp 11) (.tmp 11) rfl _ _ rfl rfl L HZ.out l2 ?_; intro w1 hb1 hbel hsz; have hc := (hb1.out.cell 0).trans (cb_get _ 0 (by simpa using l3)); have hf := hb1.out.frozen 0))
  obtain ⟨PP, hPP⟩ : ∃ PP, PP = (128 :: List.replicate (noughts n) (0 : UInt8)) ++ (List.replicate 8 0 ++ List.replicate 8 0) := ⟨_, rfl⟩
  have hPL : PP.length = L := by rw [hPP, HL.out]; simp; omega
  have K0 : Blk (w1.setCell ⟨w.heap.size, 0, none⟩ (.int .u8 128)) w.heap.size 5 (cb PP) := by
    have := hb1.out.set_ 0 (.int .u8 (ub 128))
    rw [cb_set, HL.out, pad_first, ← hPP] at this
    exact this
  have B0 : Below w.heap.size w (w1.setCell ⟨w.heap.size, 0, none⟩ (.int .u8 128)) := hbel.setCell (Nat.le_refl _) _
  have hS0 : w.heap.size < (w1.setCell ⟨w.heap.size, 0, none⟩ (.int .u8 128)).heap.size := by simpa [World.setCell] using hsz
  have HPP := Lib.hid hPP
  have HPL := Lib.hid hPL
  clear hc hf hb1 hPP hPL
  refine (put_any 0 _ (by rw [show ui 0 = 0 from rfl]; omega) w.heap.size o1 n1 n1 PP _ K0 HN1.out.1 HN1.out.2 (by rw [HPL.out, HO1.out]; have := HL.out; have := HQ.out; omega)).mono ?_
  rintro e w2 ⟨rfl, hb2, hg2⟩
  have B2 : Below w.heap.size w w2 := below_only B0 hg2 (Nat.le_of_lt hS0) (by intro j hj; injection hj; omega)
  have hS2 : w.heap.size < w2.heap.size := Nat.lt_of_lt_of_le hS0 hg2.size
  rw [HPP.out, HO1.out, HQ.out, pad_second, ← HPP.out] at hb2
  have HB2 := Lib.hid hb2
  clear K0 B0 hS0 hg2 hb2
  go_wp2_with fail
  refine (put_any (BitVec.ofNat 64 (8 * n)) _ ?_ w.heap.size o2 n2 n2 PP _ HB2.out HN2.out.1 HN2.out.2 (by rw [HPL.out, HO2.out]; have := HL.out; have := HQ.out; omega)).mono ?_
  · unfold ui
    rw [BitVec.toNat_ofNat, Nat.mod_eq_of_lt (by omega)]
    omega
  rintro e w3 ⟨rfl, hb3, hg3⟩
  have B3 : Below w.heap.size w w3 := below_only B2 hg3 (Nat.le_of_lt hS2) (by intro j hj; injection hj; omega)
  rw [HPP.out, HO2.out, HQ.out, outB_be64 _ (by omega), pad_third] at hb3
  have HB3 := Lib.hid hb3
  clear hb3 hg3
  go_wp2
  go_ret
  exact ⟨rfl, HB3.out, B3⟩
end Go.Proofs.YtidibhphnkiacaaDoor
