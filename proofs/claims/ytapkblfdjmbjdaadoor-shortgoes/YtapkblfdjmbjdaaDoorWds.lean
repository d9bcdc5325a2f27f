/-
  What (*Hash).words answers: the 64 words of the block in rest.
-/
import Derived.Test.YtapkblfdjmbjdaaDoorMem
import Derived.StillTailTactics
namespace Go.Proofs.YtapkblfdjmbjdaaDoor
open Go.RowKit
set_option linter.unusedVariables false

theorem index36 (rest : List UInt8) (i : Nat) (hr : rest.length = 64) (hi : i < 64) (w : World) :
    (Instr.index 36 (.agg (cb rest).toArray) (.int .i64 (i : Int))).run Tryd.prog w = .ok (.int .u8 (ub (rest.getD i 0))) w := by
  obtain ⟨i0, h0, hz0, hz1, hz2⟩ := info_parts byteInfo
  exact run_index_agg Tryd.underlying36 h0 hz1 (fun w => by simp [isAgg, run_underlying Tryd.underlying5]) (cb rest) i _ hi (cb_get rest i (by omega)) w

theorem pack_val (x : W32) (b : UInt8) : bits .or .u32 (ui x * 256 % 4294967296) (ub b % 4294967296) = ui ((x <<< 8) ||| w8 b) := by
  have h1 := ui_shl x 8
  rw [show (2 : Int) ^ 8 = 256 from rfl] at h1
  have h2 := ub_lo b
  have h3 := ub_hi b
  rw [h1, Int.emod_eq_of_lt h2 (by omega), ui_w8, ui_or]
theorem cw_set (l : List W32) (i : Nat) (x : W32) : (cw l).set i (.int .u32 (ui x)) = cw (l.set i x) := by simp [cw, List.map_set]
theorem ui_sum4 (a b c d : W32) : (ui a + ui b + ui c + ui d) % 4294967296 = ui (a + b + c + d) := by
  unfold ui; simp only [BitVec.toNat_add]; omega
/-- What stands in the 64 cells when k words of 48 are made. -/
def mid (rest : List UInt8) (k : Nat) : List W32 := spread (words16 rest) k ++ List.replicate (48 - k) 0
theorem mid_length (rest : List UInt8) (k : Nat) (h : k ≤ 48) : (mid rest k).length = 64 := by simp [mid, spread_length, words16_length]; omega
theorem mid_get (rest : List UInt8) (k i : Nat) (h : i < 16 + k) : (mid rest k).getD i 0 = (spread (words16 rest) k).getD i 0 := by
  unfold mid
  rw [List.getD_eq_getElem?_getD, List.getD_eq_getElem?_getD, List.getElem?_append_left (by rw [spread_length, words16_length]; omega)]
theorem mid_next (rest : List UInt8) (k : Nat) (h : k < 48) : (mid rest k).set (16 + k) (nextW (spread (words16 rest) k)) = mid rest (k + 1) := by
  unfold mid
  have hl : (spread (words16 rest) k).length = 16 + k := by rw [spread_length, words16_length]
  rw [List.set_append_right _ _ (by omega), hl, Nat.sub_self, show 48 - k = (48 - (k + 1)) + 1 by omega, List.replicate_succ, List.set_cons_zero, spread]
  simp
theorem nextW_eq (rest : List UInt8) (n : Nat) (h0 : 16 ≤ n) (h : n < 64) : nextW (spread (words16 rest) (n - 16)) =
    (mid rest (n - 16)).getD (n - 16) 0 + ss0 ((mid rest (n - 16)).getD (n - 15) 0) + (mid rest (n - 16)).getD (n - 7) 0 + ss1 ((mid rest (n - 16)).getD (n - 2) 0) := by
  have hl : (spread (words16 rest) (n - 16)).length = n := by rw [spread_length, words16_length]; omega
  rw [mid_get _ _ _ (by omega), mid_get _ _ _ (by omega), mid_get _ _ _ (by omega), mid_get _ _ _ (by omega), nextW, hl]

def GivesWords (w : World) (ws : List W32) (e : Ending) (w' : World) : Prop := e = .returned (.agg (cw ws).toArray) ∧ Below w.heap.size w w'

set_option maxHeartbeats 1000000 in
set_option maxRecDepth 100000 in
theorem words_any (g : Nat) (st : S8) (rest : List UInt8) (len : Int) (w : World) (h : HB w g st rest len) (hr : rest.length = 64) :
    Calls Tryd.prog 18 #[.pointer (some ⟨g, 0, none⟩)] w (GivesWords w (allWords rest)) := by
  have HR := Lib.hid hr
  have hlt := h.lt
  have hrange : w.rangeAt g 8 (cb rest) := h.range 8 _ (fun j v hv => by
    have hj : j < 64 := by
      have := (List.getElem?_eq_some_iff.1 hv).1
      rw [cb_length] at this
      omega
    rw [List.getElem?_append_right (by rw [cw_length]; show 8 ≤ 8 + j; omega)]
    rw [show 8 + j - (cw st.list).length = j by rw [cw_length]; show 8 + j - 8 = j; omega]
    rw [List.getElem?_append_left (by rw [cb_length]; omega)]
    exact hv)
  clear hr
  go_enter Tryd.func18, Tryd.ntmps18
  go_wp2_with ((with_reducible refine at_dst (some 10) ?_); refine wpList_load_mid (op := ⟨some 10, _, _, _, _, _⟩) rfl 36 (.tmp 9) rfl g 8 rfl (cb rest) _ ?c1 Tryd.underlying36 rfl ?c2 ?_)
  case c1 => exact World.rangeAt_alloc (World.rangeAt_alloc hrange _) _
  case c2 => rw [info36, cb_length, HR.out]
  go_loopw [11] (fun i wr => ∃ k : Nat, k ≤ 64 ∧ i = .int .i64 k ∧ Blk wr w.heap.size 43 (cw (List.replicate 64 0)) ∧ Blk wr (w.heap.size + 1) 43 (cw (packs rest k)) ∧ Below w.heap.size w wr) (fun i _ => 64 - (intOf i).toNat)
  case atStart => exact ⟨0, by omega, rfl, heap_alloc2_old _ _ _, heap_alloc2_new _ _ _, ((Below.refl _ _).alloc (Nat.le_refl _) _).alloc (by simp) _⟩
  case round =>
    obtain ⟨k, hk, rfl, hb0, hb1, hb⟩ := hrel
    by_cases hk64 : k < 64
    · have hix := index36 rest k HR.out hk64
      obtain ⟨x, hx⟩ : ∃ x, x = (packs rest k).getD (k / 4) 0 := ⟨_, rfl⟩
      have hc := hb1.cell (k / 4)
      rw [cw_get _ _ (by rw [packs_length]; omega), ← hx] at hc
      have HX := Lib.hid hx
      clear hx
      have hf := hb1.frozen (k / 4)
      have u0 := ui_lo x
      obtain ⟨b, hbb⟩ : ∃ b, b = rest.getD k 0 := ⟨_, rfl⟩
      rw [← hbb] at hix
      have HBB := Lib.hid hbb
      clear hbb
      have v0 := ub_lo b
      have HB0 := Lib.hid hb0
      have HB1 := Lib.hid hb1
      clear hb0 hb1
      go_wp2
      go_roundw
      case rel =>
        rw [pack_val]
        refine ⟨k + 1, by omega, by go_num, HB0.out.far (by simp) _, ?_, hb.setCell (by simp) _⟩
        have := HB1.out.set_ (k / 4) (.int .u32 (ui ((x <<< 8) ||| w8 b)))
        have e : (packs rest k).set (k / 4) ((x <<< 8) ||| w8 b) = packs rest (k + 1) := by rw [HX.out, HBB.out]; rfl
        rw [cw_set, e] at this
        exact this
      case measure => simp [intOf]; omega
    · have e : k = 64 := by omega
      rw [e, packs_all] at hb1
      clear e
      go_wp2
      rename World => w2
      go_loopw [6] (fun i wr => ∃ n : Nat, 16 ≤ n ∧ n ≤ 64 ∧ i = .int .i64 n ∧ Blk wr w.heap.size 43 (cw (List.replicate 64 0)) ∧ Blk wr (w.heap.size + 1) 43 (cw (mid rest (n - 16))) ∧ Below w.heap.size w wr) (fun i _ => 64 - (intOf i).toNat)
      case atStart => exact ⟨16, by omega, by omega, rfl, hb0, hb1, hb⟩
      case round =>
        obtain ⟨n, hn0, hn, rfl, hc0, hc1, hcb⟩ := hrel
        by_cases hn64 : n < 64
        · obtain ⟨x0, hx0⟩ : ∃ x, x = (mid rest (n - 16)).getD (n - 16) 0 := ⟨_, rfl⟩
          obtain ⟨x1, hx1⟩ : ∃ x, x = (mid rest (n - 16)).getD (n - 15) 0 := ⟨_, rfl⟩
          obtain ⟨x2, hx2⟩ : ∃ x, x = (mid rest (n - 16)).getD (n - 7) 0 := ⟨_, rfl⟩
          obtain ⟨x3, hx3⟩ : ∃ x, x = (mid rest (n - 16)).getD (n - 2) 0 := ⟨_, rfl⟩
          obtain ⟨x4, hx4⟩ : ∃ x, x = (mid rest (n - 16)).getD n 0 := ⟨_, rfl⟩
          have hl := mid_length rest (n - 16) (by omega)
          have c0 := hc1.cell (n - 16)
          have c1 := hc1.cell (n - 15)
          have c2 := hc1.cell (n - 7)
          have c3 := hc1.cell (n - 2)
          have c4 := hc1.cell n
          rw [cw_get _ _ (by omega), ← hx0] at c0
          rw [cw_get _ _ (by omega), ← hx1] at c1
          rw [cw_get _ _ (by omega), ← hx2] at c2
          rw [cw_get _ _ (by omega), ← hx3] at c3
          rw [cw_get _ _ (by omega), ← hx4] at c4
          have f4 := hc1.frozen n
          have hv := nextW_eq rest n hn0 hn64
          rw [← hx0, ← hx1, ← hx2, ← hx3] at hv
          have HV := Lib.hid hv
          have HC0 := Lib.hid hc0
          have HC1 := Lib.hid hc1
          clear hv hl hx0 hx1 hx2 hx3 hx4 hc0 hc1 hb0 hb1 hb
          obtain ⟨m0, hm0⟩ : ∃ m, m = n - 16 := ⟨_, rfl⟩
          obtain ⟨m1, hm1⟩ : ∃ m, m = n - 15 := ⟨_, rfl⟩
          obtain ⟨m2, hm2⟩ : ∃ m, m = n - 7 := ⟨_, rfl⟩
          obtain ⟨m3, hm3⟩ : ∃ m, m = n - 2 := ⟨_, rfl⟩
          have e0 : IntKind.i64.wrap ((n : Int) - 16) = (m0 : Int) := by rw [IntKind.wrap_i64]; omega
          have e1 : IntKind.i64.wrap ((n : Int) - 15) = (m1 : Int) := by rw [IntKind.wrap_i64]; omega
          have e2 : IntKind.i64.wrap ((n : Int) - 7) = (m2 : Int) := by rw [IntKind.wrap_i64]; omega
          have e3 : IntKind.i64.wrap ((n : Int) - 2) = (m3 : Int) := by rw [IntKind.wrap_i64]; omega
          have l0 : (m0 : Int) < 64 := by omega
          have l1 : (m1 : Int) < 64 := by omega
          have l2 : (m2 : Int) < 64 := by omega
          have l3 : (m3 : Int) < 64 := by omega
          have l4 : (n : Int) < 64 := by omega
          rw [← hm0] at c0
          rw [← hm1] at c1
          rw [← hm2] at c2
          rw [← hm3] at c3
          clear hm0 hm1 hm2 hm3
          go_wp2
          refine wp_region_still_tail 23 (by kernel_rfl) (by kernel_rfl) ?_
          simp only [List.take_succ_cons, List.take_zero, List.drop_succ_cons, List.drop_zero]
          change wpStill _ _ wr.drew _ _ _
          iterate 9 still_step
          still_call ((ss0_any x1 _).mono fun _ _ h => ⟨h.1, h.2.symm⟩)
          iterate 10 still_step
          still_call ((ss1_any x3 _).mono fun _ _ h => ⟨h.1, h.2.symm⟩)
          iterate 2 still_step
          refine wpStill_nil ?_
          go_wp2
          go_roundw
          case rel =>
            rw [ui_sum4, ← HV.out]
            refine ⟨n + 1, by omega, by omega, by go_num, (HC0.out.far (by simp) _).drewN 1, ?_, (hcb.setCell (by simp) _).drew⟩
            have := HC1.out.set_ n (.int .u32 (ui (nextW (spread (words16 rest) (n - 16)))))
            have e : (mid rest (n - 16)).set n (nextW (spread (words16 rest) (n - 16))) = mid rest (n + 1 - 16) := by
              have := mid_next rest (n - 16) (by omega)
              rw [show 16 + (n - 16) = n by omega, show n - 16 + 1 = n + 1 - 16 by omega] at this
              exact this
            rw [cw_set, e] at this
            exact this
          case measure => simp [intOf]; omega
        · have hall : mid rest (n - 16) = allWords rest := by
            have e : n = 64 := by omega
            rw [e]; simp [mid, allWords]
          rw [hall] at hc1
          have HC0 := Lib.hid hc0
          have HC1 := Lib.hid hc1
          have HI := Lib.hid info43
          clear hall hc0 hc1 hb0 hb1 hb
          go_wp2_with (first | ((with_reducible refine at_dst (some 54) ?_); refine wpList_load_mid (op := ⟨some 54, _, _, _, _, _⟩) rfl 43 (.tmp 3) rfl (w.heap.size + 1) 0 rfl (cw (allWords rest)) _ ?d1 Tryd.underlying43 rfl ?d2 ?_) | ((with_reducible refine at_store 43 ?_); refine wpList_store_row (o := ⟨none, _, _, _, _, _⟩) rfl 43 (.tmp 2) (.tmp 54) rfl w.heap.size (cw (allWords rest)).toArray rfl rfl 43 (cw (List.replicate 64 0)).toArray HC0.out ?d3 ?d4 ?d5 ?_))
          case d1 => exact HC1.out.range 0 _ (fun j v hv => by rw [Nat.zero_add]; exact hv)
          case d2 => rw [HI.out, cw_length, allWords_length]
          case d3 => rw [HI.out, List.size_toArray, cw_length, allWords_length]
          case d4 => rw [List.size_toArray, List.size_toArray, cw_length, cw_length, allWords_length]; simp
          case d5 => exact all_oneCell_toArray (cw_one _)
          refine bodyPost_ret (v := .agg (cw (allWords rest)).toArray) (results_cell_row (fr := (0, 0)) Tryd.results18 _ _ w.heap.size 43 _ _ rfl (setRow_heap _ _ _ _ _ _ HC0.out) Tryd.underlying43 rfl ?_) rfl ⟨rfl, ?_⟩
          · rw [HI.out, List.size_toArray, cw_length, allWords_length]
          · exact below_setRow hcb (Nat.le_refl _) _
end Go.Proofs.YtapkblfdjmbjdaaDoor
