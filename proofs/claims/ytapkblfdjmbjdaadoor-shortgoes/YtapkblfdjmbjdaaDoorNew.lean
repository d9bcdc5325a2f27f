/-
  What New answers, and what ending answers: the bytes that follow a text of so many bytes (fewer than 2 to the 40).
-/
import Derived.Test.YtapkblfdjmbjdaaDoorTake
namespace Go.Proofs.YtapkblfdjmbjdaaDoor
open Go.RowKit
set_option linter.unusedVariables false

/-- A sum under way that has taken the text m. -/
def Sums (w : World) (g : Nat) (m : List UInt8) : Prop := ∃ st rest, HB w g st rest (m.length : Int) ∧ Took m st rest

theorem zero39 (w : World) : (zeroValue 39).run Tryd.prog w = .ok (.agg #[.int .u32 0, .int .u32 0, .int .u32 0, .int .u32 0, .int .u32 0, .int .u32 0, .int .u32 0, .int .u32 0, .int .u8 0, .int .u8 0, .int .u8 0, .int .u8 0, .int .u8 0, .int .u8 0, .int .u8 0, .int .u8 0, .int .u8 0, .int .u8 0, .int .u8 0, .int .u8 0, .int .u8 0, .int .u8 0, .int .u8 0, .int .u8 0, .int .u8 0, .int .u8 0, .int .u8 0, .int .u8 0, .int .u8 0, .int .u8 0, .int .u8 0, .int .u8 0, .int .u8 0, .int .u8 0, .int .u8 0, .int .u8 0, .int .u8 0, .int .u8 0, .int .u8 0, .int .u8 0, .int .u8 0, .int .u8 0, .int .u8 0, .int .u8 0, .int .u8 0, .int .u8 0, .int .u8 0, .int .u8 0, .int .u8 0, .int .u8 0, .int .u8 0, .int .u8 0, .int .u8 0, .int .u8 0, .int .u8 0, .int .u8 0, .int .u8 0, .int .u8 0, .int .u8 0, .int .u8 0, .int .u8 0, .int .u8 0, .int .u8 0, .int .u8 0, .int .u8 0, .int .u8 0, .int .u8 0, .int .u8 0, .int .u8 0, .int .u8 0, .int .u8 0, .int .u8 0, .int .u64 0]) w := by kernel_rfl
set_option maxRecDepth 100000 in
theorem New_any (w : World) (ht : Tabs w) :
    Calls Tryd.prog 9 #[] w fun e w' => e = .returned (.pointer (some ⟨w.heap.size, 0, none⟩)) ∧ Sums w' w.heap.size [] ∧ Below w.heap.size w w' := by
  obtain ⟨⟨t, fr, h0⟩, _⟩ := ht
  have H0 := Lib.hid h0
  have HI := Lib.hid info35
  clear h0
  have hz := zero39
  go_enter Tryd.func9, Tryd.ntmps9
  go_wp2_with ((with_reducible refine at_dst (some 1) ?_); refine wpList_load_row (o := ⟨some 1, _, _, _, _, _⟩) rfl 35 (.global 0) rfl 0 rfl t #[.int .u32 1779033703, .int .u32 3144134277, .int .u32 1013904242, .int .u32 2773480762, .int .u32 1359893119, .int .u32 2600822924, .int .u32 528734635, .int .u32 1541459225] fr _ H0.out Tryd.underlying35 rfl ?d1 ?_)
  case d1 => simpa using HI.out
  go_ret
  refine ⟨rfl, ⟨init8, List.replicate 64 0, ?_, Took.nil⟩, (Below.refl _ _).alloc (Nat.le_refl _) _⟩
  exact heap_alloc_new _ _

/-- make([]byte, L): a new block of noughts. -/
theorem wpList_makeBytes {ops : Array Oper} {rest : List Oper} {o : Oper} {a : Act} {w : World} {Q : Exit → Act → World → Prop} (hgd : o.guard = none) (x y : Operand) (ho : o.op = .makeSlice 24 x y)
    (k : IntKind) (z : Int) (hx : a.eval x = .int k z) (hy : a.eval y = .int k z) (L : Nat) (hz : z = L) (hL : L ≤ 100000)
    (h : ∀ w', Hid (Blk w' w.heap.size 5 (cb (List.replicate L 0))) → Below w.heap.size w w' → w.heap.size < w'.heap.size → wpList Tryd.prog ops Q rest (a.put o.dst (.slice (some ⟨w.heap.size, 0, none⟩) L L)) w') :
    wpList Tryd.prog ops Q (o :: rest) a w := by
  obtain ⟨i0, hi, hz0, hz1, hz2⟩ := info_parts byteInfo
  subst hz
  have hm : madeCells (Value.int .u8 0).cells L = (cb (List.replicate L 0)).toArray := by
    apply Array.ext
    · simp [size_madeCells, cb]
    · intro i h1 h2
      simp [madeCells, cb, Value.cells, Nat.mod_one]
      rfl
  have hrun : (Instr.makeSlice 24 (.int k (L : Int)) (.int k (L : Int))).run Tryd.prog w = .ok (.slice (some ⟨w.heap.size, 0, none⟩) L L) (w.alloc (.cells (cb (List.replicate L 0)).toArray 5)) := by
    have := run_make (P := Tryd.prog) w 24 5 i0 _ Tryd.underlying24 hi hz0 k k (L : Int) (L : Int) (by omega) (by omega) (by rw [hz2]; omega) (by omega)
    rw [hz1, Nat.mul_one, Int.toNat_natCast, hm] at this
    exact this
  refine wpList_plain hgd fun K hK => ?_
  unfold Oper.wp
  simp [execOp, ho, hx, hy, hrun, Result.andThen]
  exact hK _ _ (h _ (heap_alloc_new _ _) ((Below.refl _ _).alloc (Nat.le_refl _) _) (by simp))

/-- The ending when the last k bytes of the length are laid. -/
def endUpto (n k : Nat) : List UInt8 := 128 :: (List.replicate (noughts n) 0 ++ (List.range 8).map fun i => if 8 ≤ i + k then UInt8.ofNat ((8 * n) / 2 ^ (8 * (7 - i))) else 0)
theorem endUpto_length (n k : Nat) : (endUpto n k).length = 9 + noughts n := by simp [endUpto]; omega
theorem endUpto_zero (n : Nat) : endUpto n 0 = (List.replicate (9 + noughts n) 0).set 0 128 := by
  unfold endUpto
  rw [show 9 + noughts n = (noughts n + 8) + 1 by omega, List.replicate_succ, List.set_cons_zero, ← List.replicate_append_replicate]
  rfl
theorem endUpto_all (n : Nat) : endUpto n 8 = padOf n := by simp [endUpto, padOf, be64]
theorem endUpto_set (n k : Nat) (hk : k < 8) : (endUpto n k).set (9 + noughts n - 1 - k) (UInt8.ofNat ((8 * n) / 2 ^ (8 * k))) = endUpto n (k + 1) := by
  unfold endUpto
  rw [show 9 + noughts n - 1 - k = (noughts n + (7 - k)) + 1 by omega, List.set_cons_succ, List.set_append_right _ _ (by simp), List.length_replicate, Nat.add_sub_cancel_left]
  congr 2
  apply List.ext_getElem
  · simp
  · intro j h1 h2
    have hj : j < 8 := by simpa using h2
    rw [List.getElem_set]
    simp only [List.getElem_map, List.getElem_range]
    split
    · next e => subst e; rw [if_pos (by omega), show 7 - (7 - k) = k by omega]
    · next e =>
      by_cases h : 8 ≤ j + k
      · rw [if_pos h, if_pos (by omega)]
      · rw [if_neg h, if_neg (by omega)]
theorem cb_set (l : List UInt8) (i : Nat) (x : UInt8) : (cb l).set i (.int .u8 (ub x)) = cb (l.set i x) := by simp [cb, List.map_set]
theorem ub_len (n k : Nat) : ((n : Int) * 8 / 2 ^ k) % 256 = ub (UInt8.ofNat (8 * n / 2 ^ k)) := by
  have := ub_nat (8 * n) k
  rw [← this, show ((8 * n : Nat) : Int) = (n : Int) * 8 by omega]

set_option maxHeartbeats 400000 in
theorem ending_any (n : Nat) (w : World) (hn : n < 1099511627776) (L : Nat) (hL : L = (padOf n).length) :
    Calls Tryd.prog 17 #[.int .u64 (n : Int)] w fun e w' => e = .returned (.slice (some ⟨w.heap.size, 0, none⟩) L L) ∧ Blk w' w.heap.size 5 (cb (padOf n)) ∧ Below w.heap.size w w' := by
  have hq := noughts_lt n
  rw [padOf_length] at hL
  have HL := Lib.hid hL
  have l0 : 9 ≤ L := by omega
  have l1 : L ≤ 80 := by omega
  have HZ : Hid ((1 + (119 - (n : Int)) % 64 + 8 = (L : Int))) := by
    show _ = _
    rw [hL]; unfold noughts; omega
  clear hL hq
  go_enter Tryd.func17, Tryd.ntmps17
  have l2 : L ≤ 100000 := by omega
  have l3 : 0 < L := by omega
  go_wp2_with ((with_reducible refine at_dst (some 13) ?_); refine wpList_makeBytes (o := ⟨some 13, _, _, _, _, _⟩) rfl (.tmp 12) (.tmp 12) rfl _ _ rfl rfl L HZ.out l2 ?_; intro w1 hb1 hbel hsz; have hc := (hb1.out.cell 0).trans (cb_get _ 0 (by simpa using l3)); have hf := hb1.out.frozen 0)
  have K0 : Blk (w1.setCell ⟨w.heap.size, 0, none⟩ (.int .u8 128)) w.heap.size 5 (cb (endUpto n 0)) := by
    have := hb1.out.set_ 0 (.int .u8 (ub 128))
    rw [cb_set, HL.out, ← endUpto_zero] at this
    exact this
  have HK0 := Lib.hid K0
  clear K0 hc hf hb1
  go_loopw [16] (fun i wr => ∃ k : Nat, k ≤ 8 ∧ i = .int .i64 k ∧ Blk wr w.heap.size 5 (cb (endUpto n k)) ∧ Below w.heap.size w wr) (fun i _ => 8 - (intOf i).toNat)
  case atStart => exact ⟨0, by omega, rfl, HK0.out, hbel.setCell (Nat.le_refl _) _⟩
  case round =>
    obtain ⟨k, hk, rfl, hb, hbe⟩ := hrel
    by_cases hlt : k < 8
    · have hlen := endUpto_length n k
      rw [← HL.out] at hlen
      have hc := (hb.cell (L - 1 - k)).trans (cb_get _ _ (by rw [hlen]; omega))
      have hf := hb.frozen (L - 1 - k)
      have HB1 := Lib.hid hb
      clear hlen hb
      go_wp2
      go_roundw
      case rel =>
        rw [ub_len]
        refine ⟨k + 1, by omega, by go_num, ?_, hbe.setCell (Nat.le_refl _) _⟩
        have := HB1.out.set_ (L - 1 - k) (.int .u8 (ub (UInt8.ofNat (8 * n / 2 ^ (8 * k)))))
        rw [cb_set, HL.out, endUpto_set n k hlt] at this
        rw [HL.out]
        exact this
      case measure => simp [intOf]; omega
    · have e8 : k = 8 := by omega
      rw [e8, endUpto_all] at hb
      have HB1 := Lib.hid hb
      clear hb e8
      go_wp2
      go_ret
      exact ⟨rfl, HB1.out, hbe⟩
end Go.Proofs.YtapkblfdjmbjdaaDoor
