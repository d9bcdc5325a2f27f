/-
  What the document's own Sum answers: the sum of a text (of fewer than 100000 bytes).
-/
import Derived.Test.YtidibhphnkiacaaDoorRefBlk
import Derived.Test.YtidibhphnkiacaaDoorRefPad
namespace Go.Proofs.YtidibhphnkiacaaDoor
open Go.RowKit
set_option linter.unusedVariables false

theorem run_mid (A : Option Addr) (k cap lo hi : Nat) (h1 : lo ≤ hi) (h2 : hi ≤ cap) (L H : Int) (hL : L = (lo : Int)) (hH : H = (hi : Int)) (w : World) :
    (Instr.slice 24 (.slice A k cap) (some (.int .i64 L)) (some (.int .i64 H)) none).run Tryd.prog w = .ok (.slice (if cap = lo then A else A.map (·.add lo)) (hi - lo) (cap - lo)) w := by
  subst hL hH
  obtain ⟨i0, hi0, hz0, hz1, hz2⟩ := info_parts byteInfo
  simp [Instr.slice, run_underlying Tryd.underlying24, Instr.sliceBounds, run_sliceBound, sizeOf, typeInfo, hi0, hz1, h1, h2]
theorem Seg.mid {w : World} {A : Option Addr} {n : Nat} {l : List UInt8} (h : Seg w A n l) (k m cap : Nat) (hk : k + m ≤ n) (hc : n ≤ cap) : Seg w (if cap = k then A else A.map (·.add k)) m ((l.drop k).take m) := by
  obtain ⟨h1, h2⟩ := h.cut k cap (by omega) hc
  refine ⟨by rw [List.length_take, h1]; omega, fun hm => ?_⟩
  obtain ⟨ad, e, hlt, hcell⟩ := h2 (by omega)
  refine ⟨ad, e, hlt, fun j v hv => hcell j v ?_⟩
  have e2 : cb ((l.drop k).take m) = (cb (l.drop k)).take m := by simp [cb, List.map_take]
  rw [e2, List.getElem?_take] at hv
  split at hv
  · exact hv
  · cases hv
theorem out_take (s : S8) (n : Nat) (h : n < 64) : s.out.take n ++ [s.out.getD n 0] = s.out.take (n + 1) := by
  rw [List.take_succ_eq_append_getElem (by rw [out_length]; exact h)]
  simp [List.getD, List.getElem?_eq_getElem (show n < s.out.length by rw [out_length]; exact h)]

set_option maxHeartbeats 1000000 in
set_option maxRecDepth 100000 in
theorem refSum_any (A : Option Addr) (n cap : Nat) (l : List UInt8) (w : World) (hs : Seg w A n l) (hA : A = none → cap = 0) (hn : n < 100000) :
    Calls Tryd.prog 11 #[.slice A n cap] w fun e w' => ∃ A' cap', e = .returned (.slice A' 64 cap') ∧ Row w' w.heap.size 5 A' 64 cap' (cb (sha l)) ∧ Below w.heap.size w w' := by
  have HS := Lib.hid hs
  have HA := Lib.hid hA
  clear hs hA
  go_enter Tryd.func11, Tryd.ntmps11
  go_wp2_with fail
  obtain ⟨W1, hW1⟩ : ∃ W1, W1 = w.alloc (.cells #[.int .u64 7640891576956012808, .int .u64 13503953896175478587, .int .u64 4354685564936845355, .int .u64 11912009170470909681, .int .u64 5840696475078001361, .int .u64 11170449401992604703, .int .u64 2270897969802886507, .int .u64 6620516959819538809] 34) := ⟨_, rfl⟩
  have hrow : Row W1 w.heap.size 34 (some ⟨w.heap.size, 0, none⟩) 8 8 (cw init8.list) := by rw [hW1]; exact Row.lit w 34 (cw init8.list) w.heap.size (Nat.le_refl _) (by unfold maxLen; show 8 ≤ _; omega)
  have hb1 : Below w.heap.size w W1 := by rw [hW1]; exact (Below.refl _ _).alloc (Nat.le_refl _) _
  rw [← hW1]
  clear hW1
  refine (padded_any A n cap l W1 (HS.out.below hb1) HA.out hn).mono ?_
  rintro e w2 ⟨Ap, N, capp, rfl, hrp, hb2⟩
  have hs1 := hb1.size
  have hs2 := hb2.size
  obtain ⟨Z, hZ⟩ : ∃ Z, N = 128 * Z := by
    have h1 := hrp.length
    rw [cb_length] at h1
    have h2 := padded_mod l
    exact ⟨N / 128, by omega⟩
  have hNb : N ≤ 200000 := by
    have h1 := hrp.length
    rw [cb_length] at h1
    rw [← h1]
    simp only [padded, List.length_append, padOf_length]
    have := noughts_lt l.length
    have := HS.out.1
    omega
  have hle := hrp.le
  have hpl : (padded l).length = N := by have := hrp.length; rwa [cb_length] at this
  have hseg := hrp.seg
  have HROW := Lib.hid (hrow.below hb2)
  have HSEG := Lib.hid hseg
  have HZ := Lib.hid hZ
  have HPL := Lib.hid hpl
  have hz1 : N ≤ 128 * Z := by omega
  have hz2 : 128 * Z ≤ N := by omega
  have hle1 := hle.1
  have hle2 := hle.2
  have B2 : Below w.heap.size w w2 := hb1.trans (hb2.mono hs1)
  have HB2 := Lib.hid B2
  have hsz : w.heap.size ≤ w2.heap.size := by omega
  unfold maxLen at hle2
  clear hrow hrp hZ hpl hseg hle B2
  go_wp2
  go_loopw [5, 3] (fun i v wr => ∃ (k : Nat) (Ah : Option Addr) (caph : Nat), k ≤ Z ∧ i = .int .i64 ((128 * k : Nat) : Int) ∧ v = .slice Ah 8 caph ∧ Row wr w.heap.size 34 Ah 8 caph (cw (iter init8 (padded l) k).list) ∧ Below w2.heap.size w2 wr) (fun i _ _ => N - (intOf i).toNat)
  case atStart => exact ⟨0, _, _, by omega, rfl, rfl, HROW.out, Below.refl _ _⟩
  case round =>
    obtain ⟨k, Ah, caph, hk, rfl, rfl, hrh, hbr⟩ := hrel
    have HRH := Lib.hid hrh
    clear hrh HROW
    by_cases hkZ : k < Z
    · obtain ⟨i, hi⟩ : ∃ i, i = 128 * k := ⟨_, rfl⟩
      rw [← hi]
      have hcut := run_mid Ap N capp i (i + 128) (by omega) (by omega) (i : Int) ((i : Int) + 128) rfl (by omega)
      rw [show i + 128 - i = 128 by omega] at hcut
      obtain ⟨A7, hA7⟩ : ∃ A7, A7 = (if capp = i then Ap else Ap.map (·.add i)) := ⟨_, rfl⟩
      have hs7 : Seg wr A7 128 (((padded l).drop i).take 128) := by rw [hA7]; exact (HSEG.out.below hbr).mid i 128 capp (by omega) hle1
      rw [← hA7] at hcut
      have HS7 := Lib.hid hs7
      have HI := Lib.hid hi
      have hi1 : i + 128 ≤ N := by omega
      have hd2 : i < N := by omega
      clear hs7 hA7 hi
      go_wp2_with (go_at_call 16; refine (refBlock_any Ah A7 caph (capp - i) (iter init8 (padded l) k) _ _ (HRH.out.mono (Nat.zero_le _)) HS7.out).mono ?_; rintro e w6 ⟨A8, cap8, rfl, hr8, hb8⟩)
      go_roundw
      case rel =>
        have hsb := hbr.size
        refine ⟨k + 1, A8, cap8, by omega, ?_, rfl, ?_, hbr.trans (hb8.mono hsb)⟩
        · have := HI.out
          rw [show ((128 * (k + 1) : Nat) : Int) = (i : Int) + 128 by omega]
        · have := HI.out
          rw [this] at hr8
          exact hr8.mono (by omega)
      case measure => simp [intOf]; omega
    · have ek : k = Z := by omega
      obtain ⟨ST, hST⟩ : ∃ ST, ST = iter init8 (padded l) k := ⟨_, rfl⟩
      have hsha : ST.out = sha l := by
        rw [hST, ek]
        unfold sha
        rw [HPL.out, HZ.out, Nat.mul_div_cancel_left Z (by omega)]
      obtain ⟨gh, hAh, hgh0, hghl, hhc⟩ := HRH.out.cells (by omega)
      subst hAh
      rw [← hST] at hhc
      have HHC := Lib.hid hhc
      have HSHA := Lib.hid hsha
      obtain ⟨i, hi⟩ : ∃ i, i = 128 * k := ⟨_, rfl⟩
      rw [← hi]
      have hd2 : ¬ i < N := by omega
      have hd : decide (i < N) = false := by simp; omega
      have hsb := hbr.size
      clear hST hsha hhc hi ek
      go_wp2
      rename World => w5
      go_loopw [7, 6] (fun i v wr => ∃ (j : Nat) (A6 : Option Addr) (M6 cap6 : Nat), j ≤ 8 ∧ M6 = 8 * j ∧ i = .int .i64 j ∧ v = .slice A6 M6 cap6 ∧ Row wr w5.heap.size 5 A6 M6 cap6 (cb (ST.out.take (8 * j))) ∧ Below w5.heap.size w5 wr ∧ w5.heap.size ≤ wr.heap.size) (fun i _ _ => 8 - (intOf i).toNat)
      case atStart => exact ⟨0, none, 0, 0, by omega, rfl, rfl, rfl, Row.nil _ _ _, Below.refl _ _, Nat.le_refl _⟩
      case round =>
        obtain ⟨j, A6, M6, cap6, hj, hM6, rfl, rfl, hr6, hb6, hB6⟩ := hrel
        have HR6 := Lib.hid hr6
        have HM6 := Lib.hid hM6
        have bm6 : M6 ≤ 64 := by omega
        clear hr6 hM6
        by_cases hj8 : j < 8
        · have hdj : decide ((j : Int) < 8) = true := by simp; omega
          go_wp2
          rename World => w7
          go_loopw [8, 6] (fun q v wr => ∃ (t : Nat) (A9 : Option Addr) (M9 cap9 : Nat), t ≤ 8 ∧ M9 + t = M6 + 8 ∧ q = .int .i64 ((t : Int) - 1) ∧ v = .slice A9 M9 cap9 ∧ Row wr w5.heap.size 5 A9 M9 cap9 (cb (ST.out.take (8 * j + (8 - t)))) ∧ Below w5.heap.size w5 wr ∧ w5.heap.size ≤ wr.heap.size) (fun q _ _ => (intOf q + 1).toNat)
          case atStart => exact ⟨8, A6, M6, cap6, by omega, rfl, rfl, rfl, HR6.out, hb6, hB6⟩
          case round =>
            obtain ⟨t, A9, M9, cap9, ht, hM9, hq, rfl, hr9, hb9, hB9⟩ := hrel
            have HR9 := Lib.hid hr9
            have HM9 := Lib.hid hM9
            have bm9 : M9 ≤ 80 := by omega
            clear hr9 hM9
            rcases t with _ | t
            · subst hq
              go_wp2
              go_roundw
              case rel =>
                have h6 := HM6.out
                have h9 := HM9.out
                refine ⟨j + 1, A9, M9, cap9, by omega, by omega, by go_num, rfl, ?_, hb9, hB9⟩
                have := HR9.out
                rw [show 8 * j + (8 - 0) = 8 * (j + 1) by omega] at this
                exact this
              case measure => simp [intOf]; omega
            · have et : ((t + 1 : Nat) : Int) - 1 = (t : Int) := by omega
              rw [et] at hq
              subst hq
              have cx : wr.cell? ⟨gh, j, none⟩ = some (.int .u64 (ui (ST.list.getD j 0))) := by
                rw [hb9.cell (p := ⟨gh, j, none⟩) hghl]
                exact HHC.out j _ (cw_get ST.list j (show j < 8 from hj8))
              obtain ⟨x, hx⟩ : ∃ x, x = ST.list.getD j 0 := ⟨_, rfl⟩
              rw [← hx] at cx
              have hy : ui x / 2 ^ (8 * t) % 256 = ub (ST.out.getD (8 * j + (8 - (t + 1))) 0) := by
                rw [out_get ST j (8 - (t + 1)) hj8 (by omega), ← hx, show 56 - 8 * (8 - (t + 1)) = 8 * t by omega]
                exact ub_cut x (8 * t)
              obtain ⟨M10, hM10⟩ : ∃ M10, M9 + 1 = M10 := ⟨_, rfl⟩
              have HM10 := Lib.hid hM10
              have HY := Lib.hid hy
              have u0 := ui_lo x
              clear et hx hy hM10
              go_wp2_with (first
                | ((with_reducible refine at_dst (some 43) ?_); refine wpList_appByte (o := ⟨some 43, _, _, _, _, _⟩) rfl (.tmp 33) (.tmp 42) rfl hb9 hB9 (l := ST.out.take (8 * j + (8 - (t + 1)))) _ _ HY.out rfl HR9.out rfl (by omega) M10 HM10.out ?_; intro A11 cap11 w11 hr11 hb11 hB11))
              go_roundw
              case rel =>
                have h9 := HM9.out
                have h10 := HM10.out
                refine ⟨t, A11, M10, cap11, by omega, by omega, rfl, rfl, ?_, hb11, hB11⟩
                have := hr11.out
                rw [out_take ST _ (by omega), show 8 * j + (8 - (t + 1)) + 1 = 8 * j + (8 - t) by omega] at this
                exact this
              case measure => simp [intOf]
        · have e8 : j = 8 := by omega
          have h6 := HM6.out
          have e32 : M6 = 64 := by omega
          have hr12 := HR6.out
          rw [e8, show 8 * 8 = 64 from rfl, List.take_of_length_le (by rw [out_length]; omega), HSHA.out] at hr12
          have HR12 := Lib.hid hr12
          subst e32
          clear hr12 h6 e8
          go_wp2
          go_ret
          exact ⟨A6, cap6, rfl, HR12.out.mono (by omega), HB2.out.trans ((hbr.mono hsz).trans (hb6.mono (by omega)))⟩
end Go.Proofs.YtidibhphnkiacaaDoor
