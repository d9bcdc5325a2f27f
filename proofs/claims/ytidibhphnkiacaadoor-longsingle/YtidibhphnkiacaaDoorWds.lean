/-
  What (*Hash).words answers: the 80 words of the block in rest.
-/
import Derived.Test.YtidibhphnkiacaaDoorStp
import Derived.StillTailTactics
namespace Go.Proofs.YtidibhphnkiacaaDoor
open Go.RowKit
set_option linter.unusedVariables false
set_option linter.unusedSimpArgs false

theorem index36 (rest : List UInt8) (i : Nat) (hr : rest.length = 128) (hi : i < 128) (w : World) :
    (Instr.index 36 (.agg (cb rest).toArray) (.int .i64 (i : Int))).run Tryd.prog w = .ok (.int .u8 (ub (rest.getD i 0))) w := by
  obtain ⟨i0, h0, hz0, hz1, hz2⟩ := info_parts byteInfo
  exact run_index_agg Tryd.underlying36 h0 hz1 (fun w => by simp [isAgg, run_underlying Tryd.underlying5]) (cb rest) i _ hi (cb_get rest i (by omega)) w

theorem pack_val (x : W64) (b : UInt8) : bits .or .u64 (IntKind.u64.wrap (ui x * 256)) (ub b) = ui ((x <<< 8) ||| w8 b) := by
  have h1 := ui_shlw x 8
  rw [show (2 : Int) ^ 8 = 256 from rfl] at h1
  rw [h1, ui_w8, ui_or]
theorem cw_set (l : List W64) (i : Nat) (x : W64) : (cw l).set i (.int .u64 (ui x)) = cw (l.set i x) := by simp [cw, List.map_set]
/-- What stands in the 80 cells when k words of 64 are made. -/
def mid (rest : List UInt8) (k : Nat) : List W64 := spread (words16 rest) k ++ List.replicate (64 - k) 0
theorem mid_length (rest : List UInt8) (k : Nat) (h : k ≤ 64) : (mid rest k).length = 80 := by simp [mid, spread_length, words16_length]; omega
theorem mid_get (rest : List UInt8) (k i : Nat) (h : i < 16 + k) : (mid rest k).getD i 0 = (spread (words16 rest) k).getD i 0 := by
  unfold mid
  rw [List.getD_eq_getElem?_getD, List.getD_eq_getElem?_getD, List.getElem?_append_left (by rw [spread_length, words16_length]; omega)]
theorem mid_next (rest : List UInt8) (k : Nat) (h : k < 64) : (mid rest k).set (16 + k) (nextW (spread (words16 rest) k)) = mid rest (k + 1) := by
  unfold mid
  have hl : (spread (words16 rest) k).length = 16 + k := by rw [spread_length, words16_length]
  rw [List.set_append_right _ _ (by omega), hl, Nat.sub_self, show 64 - k = (64 - (k + 1)) + 1 by omega, List.replicate_succ, List.set_cons_zero, spread]
  simp
theorem nextW_eq (rest : List UInt8) (n : Nat) (h0 : 16 ≤ n) (h : n < 80) : nextW (spread (words16 rest) (n - 16)) =
    (mid rest (n - 16)).getD (n - 16) 0 + ss0 ((mid rest (n - 16)).getD (n - 15) 0) + (mid rest (n - 16)).getD (n - 7) 0 + ss1 ((mid rest (n - 16)).getD (n - 2) 0) := by
  have hl : (spread (words16 rest) (n - 16)).length = n := by rw [spread_length, words16_length]; omega
  rw [mid_get _ _ _ (by omega), mid_get _ _ _ (by omega), mid_get _ _ _ (by omega), mid_get _ _ _ (by omega), nextW, hl]

def GivesWords (w : World) (ws : List W64) (e : Ending) (w' : World) : Prop := e = .returned (.agg (cw ws).toArray) ∧ Below w.heap.size w w'

set_option maxHeartbeats 1000000 in
set_option maxRecDepth 100000 in
theorem words_any (g : Nat) (st : S8) (rest : List UInt8) (len : Int) (w : World) (h : HB w g st rest len) (hr : rest.length = 128) :
    Calls Tryd.prog 19 #[.pointer (some ⟨g, 0, none⟩)] w (GivesWords w (allWords rest)) := by
  have HR := Lib.hid hr
  have hlt := h.lt
  have hrange : w.rangeAt g 8 (cb rest) := h.range 8 _ (fun j v hv => by
    have hj : j < 128 := by
      have := (List.getElem?_eq_some_iff.1 hv).1
      rw [cb_length] at this
      omega
    rw [List.getElem?_append_right (by rw [cw_length]; show 8 ≤ 8 + j; omega)]
    rw [show 8 + j - (cw st.list).length = j by rw [cw_length]; show 8 + j - 8 = j; omega]
    rw [List.getElem?_append_left (by rw [cb_length]; omega)]
    exact hv)
  clear hr
  have z43 := zero43
  go_enter Tryd.func19, Tryd.ntmps19
  go_wp2_with ((with_reducible refine at_dst (some 12) ?_); refine wpList_load_mid (op := ⟨some 12, _, _, _, _, _⟩) rfl 36 (.tmp 11) rfl g 8 rfl (cb rest) _ ?c1 Tryd.underlying36 rfl ?c2 ?_)
  case c1 => exact World.rangeAt_alloc (World.rangeAt_alloc hrange _) _
  case c2 => rw [info36, cb_length, HR.out]
  go_loopw [13] (fun i wr => ∃ k : Nat, k ≤ 128 ∧ i = .int .i64 k ∧ Blk wr w.heap.size 43 (cw (List.replicate 80 0)) ∧ Blk wr (w.heap.size + 1) 43 (cw (packs rest k)) ∧ Below w.heap.size w wr) (fun i _ => 128 - (intOf i).toNat)
  case atStart => exact ⟨0, by omega, rfl, heap_alloc2_old _ _ _, heap_alloc2_new _ _ _, ((Below.refl _ _).alloc (Nat.le_refl _) _).alloc (by simp) _⟩
  case round =>
    obtain ⟨k, hk, rfl, hb0, hb1, hb⟩ := hrel
    by_cases hk64 : k < 128
    · have hix := index36 rest k HR.out hk64
      obtain ⟨x, hx⟩ : ∃ x, x = (packs rest k).getD (k / 8) 0 := ⟨_, rfl⟩
      have hc := hb1.cell (k / 8)
      rw [cw_get _ _ (by rw [packs_length]; omega), ← hx] at hc
      have HX := Lib.hid hx
      clear hx
      have hf := hb1.frozen (k / 8)
      have u0 := ui_lo x
      obtain ⟨b, hbb⟩ : ∃ b, b = rest.getD k 0 := ⟨_, rfl⟩
      rw [← hbb] at hix
      have HBB := Lib.hid hbb
      clear hbb
      have v0 := ub_lo b
      have v1 := ub_hi b
      have HB0 := Lib.hid hb0
      have HB1 := Lib.hid hb1
      clear hb0 hb1
      go_wp2
      go_roundw
      case rel =>
        rw [pack_val]
        refine ⟨k + 1, by omega, by go_num, HB0.out.far (by simp) _, ?_, hb.setCell (by simp) _⟩
        have := HB1.out.set_ (k / 8) (.int .u64 (ui ((x <<< 8) ||| w8 b)))
        have e : (packs rest k).set (k / 8) ((x <<< 8) ||| w8 b) = packs rest (k + 1) := by rw [HX.out, HBB.out]; rfl
        rw [cw_set, e] at this
        exact this
      case measure => simp [intOf]; omega
    · have e : k = 128 := by omega
      rw [e, packs_all] at hb1
      clear e
      go_wp2
      rename World => w2
      go_loopw [6] (fun i wr => ∃ n : Nat, 16 ≤ n ∧ n ≤ 80 ∧ i = .int .i64 n ∧ Blk wr w.heap.size 43 (cw (List.replicate 80 0)) ∧ Blk wr (w.heap.size + 1) 43 (cw (mid rest (n - 16))) ∧ Below w.heap.size w wr) (fun i _ => 80 - (intOf i).toNat)
      case atStart => exact ⟨16, by omega, by omega, rfl, hb0, hb1, hb⟩
      case round =>
        obtain ⟨n, hn0, hn, rfl, hc0, hc1, hcb⟩ := hrel
        by_cases hn64 : n < 80
        · obtain ⟨x0, hx0⟩ : ∃ x, x = (mid rest (n - 16)).getD (n - 16) 0 := ⟨_, rfl⟩
          obtain ⟨x1, hx1⟩ : ∃ x, x = (mid rest (n - 16)).getD (n - 15) 0 := ⟨_, rfl⟩
          obtain ⟨x2, hx2⟩ : ∃ x, x = (mid rest (n - 16)).getD (n - 7) 0 := ⟨_, rfl⟩
          obtain ⟨x3, hx3⟩ : ∃ x, x = (mid rest (n - 16)).getD (n - 2) 0 := ⟨_, rfl⟩
          obtain ⟨x4, hx4⟩ : ∃ x, x = (mid rest (n - 16)).getD n 0 := ⟨_, rfl⟩
          have hl := mid_length rest (n - 16) (by omega)
          obtain ⟨m0, hm0⟩ : ∃ m, m = n - 16 := ⟨_, rfl⟩
          obtain ⟨m1, hm1⟩ : ∃ m, m = n - 15 := ⟨_, rfl⟩
          obtain ⟨m2, hm2⟩ : ∃ m, m = n - 7 := ⟨_, rfl⟩
          obtain ⟨m3, hm3⟩ : ∃ m, m = n - 2 := ⟨_, rfl⟩
          have CC : Hid (∀ u, Blk u (w.heap.size + 1) 43 (cw (mid rest (n - 16))) → u.cell? ⟨w.heap.size + 1, m0, none⟩ = some (.int .u64 (ui x0)) ∧ u.cell? ⟨w.heap.size + 1, m1, none⟩ = some (.int .u64 (ui x1)) ∧ u.cell? ⟨w.heap.size + 1, m2, none⟩ = some (.int .u64 (ui x2)) ∧ u.cell? ⟨w.heap.size + 1, m3, none⟩ = some (.int .u64 (ui x3)) ∧ u.cell? ⟨w.heap.size + 1, n, none⟩ = some (.int .u64 (ui x4))) := by
            intro u hu
            have c0 := hu.cell m0
            have c1 := hu.cell m1
            have c2 := hu.cell m2
            have c3 := hu.cell m3
            have c4 := hu.cell n
            rw [cw_get _ _ (by omega), hm0, ← hx0] at c0
            rw [cw_get _ _ (by omega), hm1, ← hx1] at c1
            rw [cw_get _ _ (by omega), hm2, ← hx2] at c2
            rw [cw_get _ _ (by omega), hm3, ← hx3] at c3
            rw [cw_get _ _ (by omega), ← hx4] at c4
            rw [← hm0] at c0
            rw [← hm1] at c1
            rw [← hm2] at c2
            rw [← hm3] at c3
            exact ⟨c0, c1, c2, c3, c4⟩
          have hv := nextW_eq rest n hn0 hn64
          rw [← hx0, ← hx1, ← hx2, ← hx3] at hv
          have HV := Lib.hid hv
          have HC0 := Lib.hid hc0
          have HC1 := Lib.hid hc1
          have e0 : IntKind.i64.wrap ((n : Int) - 16) = (m0 : Int) := by rw [IntKind.wrap_i64]; omega
          have e1 : IntKind.i64.wrap ((n : Int) - 15) = (m1 : Int) := by rw [IntKind.wrap_i64]; omega
          have e2 : IntKind.i64.wrap ((n : Int) - 7) = (m2 : Int) := by rw [IntKind.wrap_i64]; omega
          have e3 : IntKind.i64.wrap ((n : Int) - 2) = (m3 : Int) := by rw [IntKind.wrap_i64]; omega
          have E0 := Lib.hid e0
          have E1 := Lib.hid e1
          have E2 := Lib.hid e2
          have E3 := Lib.hid e3
          have hbl := hc1.lt
          have L0 : Hid (m0 < 80 ∧ m1 < 80 ∧ m2 < 80 ∧ m3 < 80) := ⟨by omega, by omega, by omega, by omega⟩
          clear hv hl hx0 hx1 hx2 hx3 hx4 hc0 hc1 hb0 hb1 hb hm0 hm1 hm2 hm3 e0 e1 e2 e3
          go_wp2
          rename_i hKx
          refine wp_region_each (by kernel_rfl) (by kernel_rfl) (fun iX v u => match iX with
              | 0 => v = .int .i64 (n : Int)
              | 1 => v = .int .i64 (m3 : Int)
              | 2 => v = .pointer (some ⟨(w.heap.size + 1), m3, none⟩)
              | 3 => v = .int .u64 (ui (x3))
              | 4 => ∃ g, v = .slice (some ⟨g, 0, none⟩) 2 2 ∧ Ints u g [19, 61]
              | 5 => v = .int .u64 (ui (xors x3 [19, 61]))
              | 6 => v = .int .i64 (n : Int)
              | 7 => v = .int .i64 (m3 : Int)
              | 8 => v = .pointer (some ⟨(w.heap.size + 1), m3, none⟩)
              | 9 => v = .int .u64 (ui (x3))
              | 10 => v = .int .u64 (ui (x3 >>> 6))
              | 11 => v = .int .u64 (ui ((xors x3 [19, 61]) ^^^ (x3 >>> 6)))
              | 12 => v = .int .u64 (ui ((xors x3 [19, 61]) ^^^ (x3 >>> 6)))
              | _ => True) (fun u => Below wr.heap.size wr u) ?m1 (fun _ _ h1 h2 => h1.trans (h2.mono h1.size)) ⟨rfl, rfl, rfl, Nat.le_refl _, fun _ _ => rfl⟩ ?m2 ?m3
          case m1 =>
            intro iX v u u' h hr hb
            rcases iX with _ | _ | _ | _ | _ | _ | _ | _ | _ | _ | _ | _ | _ | iX
            · exact h
            · exact h
            · exact h
            · exact h
            · obtain ⟨g, e, hk⟩ := h; exact ⟨g, e, Blk.below hk hb (Blk.lt hk)⟩
            · exact h
            · exact h
            · exact h
            · exact h
            · exact h
            · exact h
            · exact h
            · exact h
            · trivial
          case m2 =>
            intro iX o ho a u hr hk hpre K hK
            have e6 : a.tmps.getD 6 undef = .int .i64 (n : Int) := hk.slot 6 (by simp)
            have e3 : a.tmps.getD 3 undef = .pointer (some ⟨(w.heap.size + 1), 0, none⟩) := hk.slot 3 (by simp)
            rcases iX with _ | _ | _ | _ | _ | _ | _ | _ | _ | _ | _ | _ | _ | iX
            · obtain rfl := Option.some.inj ho
              exact st_move (.tmp 6) rfl (want_none rfl) _ e6 (hK _ _ rfl (Below.refl _ _))
            · obtain rfl := Option.some.inj ho
              exact st_subInt (.tmp 33) 2 _ rfl (want_none rfl) _ (hpre 0 _ 33 rfl rfl ⟨⟨0, .data⟩, by simp, rfl, rfl⟩) E3.out (hK _ _ rfl (Below.refl _ _))
            · obtain rfl := Option.some.inj ho
              exact st_index (.tmp 3) (.tmp 34) rfl (want_none rfl) _ _ e3 (hpre 1 _ 34 rfl rfl ⟨⟨1, .data⟩, by simp, rfl, rfl⟩) L0.out.2.2.2 (hK _ _ rfl (Below.refl _ _))
            · obtain rfl := Option.some.inj ho
              exact st_load (.tmp 35) rfl (want_none rfl) _ _ _ (hpre 2 _ 35 rfl rfl ⟨⟨2, .data⟩, by simp, rfl, rfl⟩) ((hr.cell (p := ⟨w.heap.size + 1, m3, none⟩) hbl).trans (CC.out _ HC1.out).2.2.2.1) (hK _ _ rfl (Below.refl _ _))
            · obtain rfl := Option.some.inj ho
              exact st_ints2 19 61 rfl (want_none rfl) (hK _ _ ⟨u.heap.size, rfl, heap_alloc_new _ _⟩ ((Below.refl _ _).alloc (Nat.le_refl _) _))
            · obtain rfl := Option.some.inj ho
              obtain ⟨gs, egs, hgs⟩ := (hpre 4 _ 37 rfl rfl ⟨⟨4, .data⟩, by simp, rfl, rfl⟩)
              exact st_call2 20 (.tmp 36) (.tmp 37) 34 50 rfl (want_none rfl) _ _ (hpre 3 _ 36 rfl rfl ⟨⟨3, .data⟩, by simp, rfl, rfl⟩) egs (cf20 _ _ _) _ (turned_any x3 [19, 61] gs 2 2 u rfl (by omega) hgs.cells (by decide)) (fun e u' ⟨he, hw⟩ => ⟨_, he, hK _ _ rfl (by rw [← hw]; exact Below.refl _ _)⟩)
            · obtain rfl := Option.some.inj ho
              exact st_move (.tmp 6) rfl (want_none rfl) _ e6 (hK _ _ rfl (Below.refl _ _))
            · obtain rfl := Option.some.inj ho
              exact st_subInt (.tmp 39) 2 _ rfl (want_none rfl) _ (hpre 6 _ 39 rfl rfl ⟨⟨6, .data⟩, by simp, rfl, rfl⟩) E3.out (hK _ _ rfl (Below.refl _ _))
            · obtain rfl := Option.some.inj ho
              exact st_index (.tmp 3) (.tmp 40) rfl (want_none rfl) _ _ e3 (hpre 7 _ 40 rfl rfl ⟨⟨7, .data⟩, by simp, rfl, rfl⟩) L0.out.2.2.2 (hK _ _ rfl (Below.refl _ _))
            · obtain rfl := Option.some.inj ho
              exact st_load (.tmp 41) rfl (want_none rfl) _ _ _ (hpre 8 _ 41 rfl rfl ⟨⟨8, .data⟩, by simp, rfl, rfl⟩) ((hr.cell (p := ⟨w.heap.size + 1, m3, none⟩) hbl).trans (CC.out _ HC1.out).2.2.2.1) (hK _ _ rfl (Below.refl _ _))
            · obtain rfl := Option.some.inj ho
              exact st_shr (.tmp 42) 6 (by omega) _ rfl rfl (want_none rfl) _ (hpre 9 _ 42 rfl rfl ⟨⟨9, .data⟩, by simp, rfl, rfl⟩) (hK _ _ rfl (Below.refl _ _))
            · obtain rfl := Option.some.inj ho
              exact st_xor (.tmp 38) (.tmp 43) rfl (want_none rfl) _ _ (hpre 5 _ 38 rfl rfl ⟨⟨5, .data⟩, by simp, rfl, rfl⟩) (hpre 10 _ 43 rfl rfl ⟨⟨10, .data⟩, by simp, rfl, rfl⟩) (hK _ _ rfl (Below.refl _ _))
            · obtain rfl := Option.some.inj ho
              exact st_assign (.tmp 44) rfl (want_none rfl) _ (hpre 11 _ 44 rfl rfl ⟨⟨11, .data⟩, by simp, rfl, rfl⟩) (hK _ _ rfl (Below.refl _ _))
            · cases ho
          case m3 =>
            intro a u1 hr hk hv
            have h7 := hv 12 _ 7 rfl rfl
            have hfr := keeps_frameP (fun s => decide (s = 7 ∨ (33 ≤ s ∧ s ≤ 44))) hk (by simp)
            refine hKx a u1 ?_
            rw [hfr]
            generalize hf : (fun s => a.tmps.getD s undef) = f
            have hf7 : f 7 = .int .u64 (ui (ss1 x3)) := by rw [← hf, ← xors_ss1]; exact h7
            simp only [mixP, hf7, decide_eq_true_eq, Nat.reduceAdd, Nat.reduceLeDiff, Nat.reduceEqDiff, false_or, true_or, or_false, or_true, and_true, and_false, true_and, false_and, and_self, if_true, if_false, Nat.zero_le]
            have hsz1 := hr.size
            have hcb1 : Below w.heap.size w u1 := hcb.trans (hr.mono hcb.size)
            have HC0a := Lib.hid (HC0.out.below hr HC0.out.lt)
            have HC1a := Lib.hid (HC1.out.below hr HC1.out.lt)
            have hbl1 := HC1a.out.lt
            clear hfr hf h7 hv hk hr HC0 HC1 hcb hbl hKx
            go_wp2
            rename_i hKx
            refine wp_region_each (by kernel_rfl) (by kernel_rfl) (fun iX v u => match iX with
                | 0 => v = .int .i64 (n : Int)
                | 1 => v = .int .i64 (m1 : Int)
                | 2 => v = .pointer (some ⟨(w.heap.size + 1), m1, none⟩)
                | 3 => v = .int .u64 (ui (x1))
                | 4 => ∃ g, v = .slice (some ⟨g, 0, none⟩) 2 2 ∧ Ints u g [1, 8]
                | 5 => v = .int .u64 (ui (xors x1 [1, 8]))
                | 6 => v = .int .i64 (n : Int)
                | 7 => v = .int .i64 (m1 : Int)
                | 8 => v = .pointer (some ⟨(w.heap.size + 1), m1, none⟩)
                | 9 => v = .int .u64 (ui (x1))
                | 10 => v = .int .u64 (ui (x1 >>> 7))
                | 11 => v = .int .u64 (ui ((xors x1 [1, 8]) ^^^ (x1 >>> 7)))
                | 12 => v = .int .u64 (ui ((xors x1 [1, 8]) ^^^ (x1 >>> 7)))
                | _ => True) (fun u => Below u1.heap.size u1 u) ?m1 (fun _ _ h1 h2 => h1.trans (h2.mono h1.size)) ⟨rfl, rfl, rfl, Nat.le_refl _, fun _ _ => rfl⟩ ?m2 ?m3
            case m1 =>
              intro iX v u u' h hr hb
              rcases iX with _ | _ | _ | _ | _ | _ | _ | _ | _ | _ | _ | _ | _ | iX
              · exact h
              · exact h
              · exact h
              · exact h
              · obtain ⟨g, e, hk⟩ := h; exact ⟨g, e, Blk.below hk hb (Blk.lt hk)⟩
              · exact h
              · exact h
              · exact h
              · exact h
              · exact h
              · exact h
              · exact h
              · exact h
              · trivial
            case m2 =>
              intro iX o ho a u hr hk hpre K hK
              have e6 : a.tmps.getD 6 undef = .int .i64 (n : Int) := hk.slot 6 (by simp)
              have e3 : a.tmps.getD 3 undef = .pointer (some ⟨(w.heap.size + 1), 0, none⟩) := hk.slot 3 (by simp)
              rcases iX with _ | _ | _ | _ | _ | _ | _ | _ | _ | _ | _ | _ | _ | iX
              · obtain rfl := Option.some.inj ho
                exact st_move (.tmp 6) rfl (want_none rfl) _ e6 (hK _ _ rfl (Below.refl _ _))
              · obtain rfl := Option.some.inj ho
                exact st_subInt (.tmp 45) 15 _ rfl (want_none rfl) _ (hpre 0 _ 45 rfl rfl ⟨⟨0, .data⟩, by simp, rfl, rfl⟩) E1.out (hK _ _ rfl (Below.refl _ _))
              · obtain rfl := Option.some.inj ho
                exact st_index (.tmp 3) (.tmp 46) rfl (want_none rfl) _ _ e3 (hpre 1 _ 46 rfl rfl ⟨⟨1, .data⟩, by simp, rfl, rfl⟩) L0.out.2.1 (hK _ _ rfl (Below.refl _ _))
              · obtain rfl := Option.some.inj ho
                exact st_load (.tmp 47) rfl (want_none rfl) _ _ _ (hpre 2 _ 47 rfl rfl ⟨⟨2, .data⟩, by simp, rfl, rfl⟩) ((hr.cell (p := ⟨w.heap.size + 1, m1, none⟩) hbl1).trans (CC.out _ HC1a.out).2.1) (hK _ _ rfl (Below.refl _ _))
              · obtain rfl := Option.some.inj ho
                exact st_ints2 1 8 rfl (want_none rfl) (hK _ _ ⟨u.heap.size, rfl, heap_alloc_new _ _⟩ ((Below.refl _ _).alloc (Nat.le_refl _) _))
              · obtain rfl := Option.some.inj ho
                obtain ⟨gs, egs, hgs⟩ := (hpre 4 _ 49 rfl rfl ⟨⟨4, .data⟩, by simp, rfl, rfl⟩)
                exact st_call2 20 (.tmp 48) (.tmp 49) 34 50 rfl (want_none rfl) _ _ (hpre 3 _ 48 rfl rfl ⟨⟨3, .data⟩, by simp, rfl, rfl⟩) egs (cf20 _ _ _) _ (turned_any x1 [1, 8] gs 2 2 u rfl (by omega) hgs.cells (by decide)) (fun e u' ⟨he, hw⟩ => ⟨_, he, hK _ _ rfl (by rw [← hw]; exact Below.refl _ _)⟩)
              · obtain rfl := Option.some.inj ho
                exact st_move (.tmp 6) rfl (want_none rfl) _ e6 (hK _ _ rfl (Below.refl _ _))
              · obtain rfl := Option.some.inj ho
                exact st_subInt (.tmp 51) 15 _ rfl (want_none rfl) _ (hpre 6 _ 51 rfl rfl ⟨⟨6, .data⟩, by simp, rfl, rfl⟩) E1.out (hK _ _ rfl (Below.refl _ _))
              · obtain rfl := Option.some.inj ho
                exact st_index (.tmp 3) (.tmp 52) rfl (want_none rfl) _ _ e3 (hpre 7 _ 52 rfl rfl ⟨⟨7, .data⟩, by simp, rfl, rfl⟩) L0.out.2.1 (hK _ _ rfl (Below.refl _ _))
              · obtain rfl := Option.some.inj ho
                exact st_load (.tmp 53) rfl (want_none rfl) _ _ _ (hpre 8 _ 53 rfl rfl ⟨⟨8, .data⟩, by simp, rfl, rfl⟩) ((hr.cell (p := ⟨w.heap.size + 1, m1, none⟩) hbl1).trans (CC.out _ HC1a.out).2.1) (hK _ _ rfl (Below.refl _ _))
              · obtain rfl := Option.some.inj ho
                exact st_shr (.tmp 54) 7 (by omega) _ rfl rfl (want_none rfl) _ (hpre 9 _ 54 rfl rfl ⟨⟨9, .data⟩, by simp, rfl, rfl⟩) (hK _ _ rfl (Below.refl _ _))
              · obtain rfl := Option.some.inj ho
                exact st_xor (.tmp 50) (.tmp 55) rfl (want_none rfl) _ _ (hpre 5 _ 50 rfl rfl ⟨⟨5, .data⟩, by simp, rfl, rfl⟩) (hpre 10 _ 55 rfl rfl ⟨⟨10, .data⟩, by simp, rfl, rfl⟩) (hK _ _ rfl (Below.refl _ _))
              · obtain rfl := Option.some.inj ho
                exact st_assign (.tmp 56) rfl (want_none rfl) _ (hpre 11 _ 56 rfl rfl ⟨⟨11, .data⟩, by simp, rfl, rfl⟩) (hK _ _ rfl (Below.refl _ _))
              · cases ho
            case m3 =>
              intro a u2 hr hk hv
              have h8 := hv 12 _ 8 rfl rfl
              have hfr := keeps_frameP (fun s => decide (s = 8 ∨ (45 ≤ s ∧ s ≤ 56))) hk (by simp)
              refine hKx a u2 ?_
              rw [hfr]
              generalize hf2 : (fun s => a.tmps.getD s undef) = f2
              have hf8 : f2 8 = .int .u64 (ui (ss0 x1)) := by rw [← hf2, ← xors_ss0]; exact h8
              simp only [mixP, hf8, decide_eq_true_eq, Nat.reduceAdd, Nat.reduceLeDiff, Nat.reduceEqDiff, false_or, true_or, or_false, or_true, and_true, and_false, true_and, false_and, and_self, if_true, if_false, Nat.zero_le]
              have hcb2 : Below w.heap.size w u2 := hcb1.trans (hr.mono hcb1.size)
              have HC0b := Lib.hid (HC0a.out.below hr HC0a.out.lt)
              have HC1b := Lib.hid (HC1a.out.below hr HC1a.out.lt)
              obtain ⟨c0, _, c2, _, c4⟩ := CC.out _ HC1b.out
              have f4 := HC1b.out.frozen n
              have l0 : (m0 : Int) < 80 := by have := L0.out; omega
              have l2 : (m2 : Int) < 80 := by have := L0.out; omega
              have l4 : (n : Int) < 80 := by omega
              have e0 := E0.out
              have e2 := E2.out
              have r1 := ui_addw
              have r5 := ui_add
              clear hfr hf2 h8 hv hk hr HC0a HC1a hcb1 hbl1 hKx hsz1
              go_wp2
              refine wp_region_still_tail 15 (by kernel_rfl) (by kernel_rfl) ?_
              simp only [List.take_succ_cons, List.take_zero, List.drop_succ_cons, List.drop_zero]
              change wpStill _ _ u2.drew _ _ _
              iterate 15 still_step
              refine wpStill_nil ?_
              clear r1 r5 c0 c2 e0 e2 l0 l2
              go_wp2
              go_roundw
              case rel =>
                rw [← HV.out]
                refine ⟨n + 1, by omega, by omega, by go_num, (HC0b.out.far (by simp) _).drewN 1, ?_, (hcb2.setCell (by simp) _).drew⟩
                have := HC1b.out.set_ n (.int .u64 (ui (nextW (spread (words16 rest) (n - 16)))))
                have e : (mid rest (n - 16)).set n (nextW (spread (words16 rest) (n - 16))) = mid rest (n + 1 - 16) := by
                  have := mid_next rest (n - 16) (by omega)
                  rw [show 16 + (n - 16) = n by omega, show n - 16 + 1 = n + 1 - 16 by omega] at this
                  exact this
                rw [cw_set, e] at this
                exact this
              case measure => simp [intOf]; omega
        · have hall : mid rest (n - 16) = allWords rest := by
            have e : n = 80 := by omega
            rw [e]; simp [mid, allWords]
          rw [hall] at hc1
          have HC0 := Lib.hid hc0
          have HC1 := Lib.hid hc1
          have HI := Lib.hid info43
          clear hall hc0 hc1 hb0 hb1 hb
          go_wp2_with (first | ((with_reducible refine at_dst (some 72) ?_); refine wpList_load_mid (op := ⟨some 72, _, _, _, _, _⟩) rfl 43 (.tmp 3) rfl (w.heap.size + 1) 0 rfl (cw (allWords rest)) _ ?d1 Tryd.underlying43 rfl ?d2 ?_) | ((with_reducible refine at_store 43 ?_); refine wpList_store_row (o := ⟨none, _, _, _, _, _⟩) rfl 43 (.tmp 2) (.tmp 72) rfl w.heap.size (cw (allWords rest)).toArray rfl rfl 43 (cw (List.replicate 80 0)).toArray HC0.out ?d3 ?d4 ?d5 ?_))
          case d1 => exact HC1.out.range 0 _ (fun j v hv => by rw [Nat.zero_add]; exact hv)
          case d2 => rw [HI.out, cw_length, allWords_length]
          case d3 => rw [HI.out, List.size_toArray, cw_length, allWords_length]
          case d4 => rw [List.size_toArray, List.size_toArray, cw_length, cw_length, allWords_length]; simp
          case d5 => exact all_oneCell_toArray (cw_one _)
          refine bodyPost_ret (v := .agg (cw (allWords rest)).toArray) (results_cell_row (fr := (0, 0)) Tryd.results19 _ _ w.heap.size 43 _ _ rfl (setRow_heap _ _ _ _ _ _ HC0.out) Tryd.underlying43 rfl ?_) rfl ⟨rfl, ?_⟩
          · rw [HI.out, List.size_toArray, cw_length, allWords_length]
          · exact below_setRow hcb (Nat.le_refl _) _
end Go.Proofs.YtidibhphnkiacaaDoor
