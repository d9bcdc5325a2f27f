/-
  What the document's own words answers: the 80 words of a block.
-/
import Derived.Test.YtidibhphnkiacaaDoorApp
import Derived.StillTailTactics
namespace Go.Proofs.YtidibhphnkiacaaDoor
open Go.RowKit
set_option linter.unusedVariables false

theorem quiet_more {P : Program} {f : FuncId} {args : Array Value} {w : World} {a n : Nat} {v : Value}
    (h : Calls P f args (w.drewN (a + n)) fun e w' => e = .returned v ∧ ∃ m, w' = (w.drewN (a + n)).drewN m) : Calls P f args (w.drewN (a + n)) fun e w'' => e = .returned v ∧ ∃ m, w'' = w.drewN (a + m) :=
  h.mono fun _ _ ⟨he, m, hm⟩ => ⟨he, n + m, by rw [hm, World.drewN_drewN, Nat.add_assoc]⟩
theorem right_int (x : W64) (z : Int) (w : World) (h1 : 1 ≤ z) (h2 : z ≤ 63) :
    Calls Tryd.prog 23 #[.int .u64 (ui x), .int .i64 z] w fun e w' => e = .returned (.int .u64 (ui (rotr x z.toNat))) ∧ ∃ n, w' = w.drewN n := by
  have := right_any x z.toNat w (by omega) (by omega)
  rwa [Int.toNat_of_nonneg (by omega)] at this
theorem ui_shr7 (x : W64) : ui x / (128 : Int) = ui (x >>> 7) := ui_shr x 7
theorem ui_shr7p (x : W64) : ui x / (2 : Int) ^ 7 = ui (x >>> 7) := ui_shr x 7
theorem ui_shr6 (x : W64) : ui x / (64 : Int) = ui (x >>> 6) := ui_shr x 6
theorem ui_shr6p (x : W64) : ui x / (2 : Int) ^ 6 = ui (x >>> 6) := ui_shr x 6
theorem ui_pack (x : W64) (b : UInt8) : IntKind.u64.wrap (IntKind.u64.wrap (ui x * (256 : Int)) + ub b) = ui ((x <<< 8) ||| w8 b) := by
  have h1 := ui_shlw x 8
  rw [show (2 : Int) ^ 8 = 256 from rfl] at h1
  have h4 := mul_add_or x b
  rw [show x * 256 = x <<< 8 by rw [BitVec.shiftLeft_eq_mul_twoPow]; rfl] at h4
  rw [h1, ui_w8, ui_addw, h4]
theorem ss0_eq (x : W64) : rotr x 1 ^^^ rotr x 8 ^^^ x >>> 7 = ss0 x := rfl
theorem ss1_eq (x : W64) : rotr x 19 ^^^ rotr x 61 ^^^ x >>> 6 = ss1 x := rfl
theorem words16_take (bs : List UInt8) (i : Nat) (h : i < 16) : (words16 bs).take i ++ [pw bs (8 * i) 8] = (words16 bs).take (i + 1) := by
  rw [List.take_succ_eq_append_getElem (by rw [words16_length]; exact h)]
  simp [words16]

set_option maxHeartbeats 400000 in
set_option maxRecDepth 100000 in
theorem refWords_any (A : Option Addr) (cap : Nat) (bs : List UInt8) (w : World) (hs : Seg w A 128 bs) :
    Calls Tryd.prog 21 #[.slice A 128 cap] w fun e w' => ∃ A' cap', e = .returned (.slice A' 80 cap') ∧ Row w' w.heap.size 34 A' 80 cap' (cw (allWords bs)) ∧ Below w.heap.size w w' := by
  obtain ⟨ad, hA, hlt, hcell⟩ := hs.2 (by omega)
  subst hA
  have hlen := hs.1
  have HL := Lib.hid hlen
  have HC := Lib.hid hcell
  clear hs hlen hcell
  go_enter Tryd.func21, Tryd.ntmps21
  go_wp2
  go_loopw [4, 3] (fun i v wr => ∃ (k : Nat) (A3 : Option Addr) (cap3 : Nat), k ≤ 16 ∧ i = .int .i64 k ∧ v = .slice A3 k cap3 ∧ Row wr w.heap.size 34 A3 k cap3 (cw ((words16 bs).take k)) ∧ Below w.heap.size w wr ∧ w.heap.size ≤ wr.heap.size) (fun i _ _ => 16 - (intOf i).toNat)
  case atStart => exact ⟨0, none, 0, by omega, rfl, rfl, Row.nil _ _ _, Below.refl _ _, Nat.le_refl _⟩
  case round =>
    obtain ⟨i, A3, cap3, hi, rfl, rfl, hr3, hb3, hB3⟩ := hrel
    have HR3 := Lib.hid hr3
    clear hr3
    by_cases hi16 : i < 16
    · go_wp2
      rename World => w3
      go_loop [6, 5] (fun k x => ∃ j : Nat, j ≤ 8 ∧ k = .int .i64 j ∧ x = .int .u64 (ui (pw bs (8 * i) j))) (fun k _ => 8 - (intOf k).toNat)
      case atStart => exact ⟨0, by omega, rfl, rfl⟩
      case round =>
        obtain ⟨j, hj, rfl, rfl⟩ := hrel
        by_cases hj4 : j < 8
        · obtain ⟨x, hx⟩ : ∃ x, x = pw bs (8 * i) j := ⟨_, rfl⟩
          obtain ⟨b, hbb⟩ : ∃ b, b = bs.getD (8 * i + j) 0 := ⟨_, rfl⟩
          have hc : w3.cell? (ad.add (8 * i + j)) = some (.int .u8 (ub b)) := by
            rw [hb3.cell (p := ad.add (8 * i + j)) (by rw [block_add]; exact hlt), hbb]
            exact HC.out _ _ (cb_get bs _ (by rw [HL.out]; omega))
          have HX := Lib.hid hx
          have HBB := Lib.hid hbb
          rw [← hx]
          have u0 := ui_lo x
          have v0 := ub_lo b
          have v1 := ub_hi b
          clear hx hbb
          go_wp2
          go_round
          case rel =>
            rw [ui_pack]
            exact ⟨j + 1, by omega, by go_num, by rw [HX.out, HBB.out]; rfl⟩
          case measure => simp [intOf]; omega
        · have e4 : j = 8 := by omega
          obtain ⟨x, hx⟩ : ∃ x, x = pw bs (8 * i) j := ⟨_, rfl⟩
          rw [← hx]
          rw [e4] at hx
          have HX := Lib.hid hx
          obtain ⟨i2, hi2⟩ : ∃ i2, i + 1 = i2 := ⟨_, rfl⟩
          have HI2 := Lib.hid hi2
          clear hx e4 hi2
          go_wp2_with (first
            | ((with_reducible refine at_dst (some 32) ?_); refine wpList_appWord (o := ⟨some 32, _, _, _, _, _⟩) rfl (.tmp 29) (.tmp 31) rfl hb3 hB3 (l := (words16 bs).take i) x _ rfl rfl HR3.out rfl (by omega) i2 HI2.out ?_; intro A4 cap4 w4 hr4 hb4 hB4))
          go_roundw
          case rel =>
            refine ⟨i2, A4, cap4, by have := HI2.out; omega, by have := HI2.out; rw [← this]; go_num, rfl, ?_, hb4, hB4⟩
            have := hr4.out
            rw [HX.out, words16_take bs i hi16, HI2.out] at this
            exact this
          case measure => simp [intOf]; omega
    · have e16 : i = 16 := by omega
      have hr5 : Row wr w.heap.size 34 A3 i cap3 (cw (spread (words16 bs) (i - 16))) := by
        have := HR3.out
        rw [e16, List.take_of_length_le (by rw [words16_length]; omega)] at this
        rw [e16]
        exact this
      have HR5 := Lib.hid hr5
      have i16 : 16 ≤ i := by omega
      have HE16 := Lib.hid e16
      clear hr5 HR3 e16
      go_wp2
      rename World => w5
      go_loopw [7, 3] (fun i v wr => ∃ (n : Nat) (A6 : Option Addr) (cap6 : Nat), 16 ≤ n ∧ n ≤ 80 ∧ i = .int .i64 n ∧ v = .slice A6 n cap6 ∧ Row wr w.heap.size 34 A6 n cap6 (cw (spread (words16 bs) (n - 16))) ∧ Below w.heap.size w wr ∧ w.heap.size ≤ wr.heap.size) (fun i _ _ => 80 - (intOf i).toNat)
      case atStart => exact ⟨16, A3, cap3, by omega, by omega, rfl, by rw [HE16.out], by have := HR5.out; rw [HE16.out] at this; exact this, hb3, hB3⟩
      case round =>
        obtain ⟨n, A6, cap6, hn0, hn, rfl, rfl, hr6, hb6, hB6⟩ := hrel
        have HR6 := Lib.hid hr6
        clear hr6
        by_cases hn64 : n < 80
        · obtain ⟨g, hA6, hgB, hgl, hcs⟩ := HR6.out.cells (by omega)
          subst hA6
          have hlen : (spread (words16 bs) (n - 16)).length = n := by rw [spread_length, words16_length]; omega
          obtain ⟨m0, hm0⟩ : ∃ m, m = n - 16 := ⟨_, rfl⟩
          obtain ⟨m1, hm1⟩ : ∃ m, m = n - 15 := ⟨_, rfl⟩
          obtain ⟨m2, hm2⟩ : ∃ m, m = n - 7 := ⟨_, rfl⟩
          obtain ⟨m3, hm3⟩ : ∃ m, m = n - 2 := ⟨_, rfl⟩
          have e0 : IntKind.i64.wrap ((n : Int) - 16) = (m0 : Int) := by rw [IntKind.wrap_i64]; omega
          have e1 : IntKind.i64.wrap ((n : Int) - 15) = (m1 : Int) := by rw [IntKind.wrap_i64]; omega
          have e2 : IntKind.i64.wrap ((n : Int) - 7) = (m2 : Int) := by rw [IntKind.wrap_i64]; omega
          have e3 : IntKind.i64.wrap ((n : Int) - 2) = (m3 : Int) := by rw [IntKind.wrap_i64]; omega
          have E0 := Lib.hid e0
          have E1 := Lib.hid e1
          have E2 := Lib.hid e2
          have E3 := Lib.hid e3
          clear e0 e1 e2 e3
          have k0 : m0 < n := by omega
          have k1 : m1 < n := by omega
          have k2 : m2 < n := by omega
          have k3 : m3 < n := by omega
          obtain ⟨x0, hx0⟩ : ∃ x, x = (spread (words16 bs) (n - 16)).getD m0 0 := ⟨_, rfl⟩
          obtain ⟨x1, hx1⟩ : ∃ x, x = (spread (words16 bs) (n - 16)).getD m1 0 := ⟨_, rfl⟩
          obtain ⟨x2, hx2⟩ : ∃ x, x = (spread (words16 bs) (n - 16)).getD m2 0 := ⟨_, rfl⟩
          obtain ⟨x3, hx3⟩ : ∃ x, x = (spread (words16 bs) (n - 16)).getD m3 0 := ⟨_, rfl⟩
          have c0 := hcs m0 _ (cw_get _ m0 (by omega))
          have c1 := hcs m1 _ (cw_get _ m1 (by omega))
          have c2 := hcs m2 _ (cw_get _ m2 (by omega))
          have c3 := hcs m3 _ (cw_get _ m3 (by omega))
          rw [← hx0] at c0
          rw [← hx1] at c1
          rw [← hx2] at c2
          rw [← hx3] at c3
          have HV : Hid (nextW (spread (words16 bs) (n - 16)) = x0 + ss0 x1 + x2 + ss1 x3) := by
            show _ = _
            rw [nextW, hlen, hx0, hx1, hx2, hx3, hm0, hm1, hm2, hm3]
          obtain ⟨n2, hn2⟩ : ∃ n2, n + 1 = n2 := ⟨_, rfl⟩
          have HN2 := Lib.hid hn2
          have HK : Hid ((m0 : Int) < n ∧ (m1 : Int) < n ∧ (m2 : Int) < n ∧ (m3 : Int) < n) := ⟨by omega, by omega, by omega, by omega⟩
          have HCC := Lib.hid (And.intro c0 (And.intro c1 (And.intro c2 c3)))
          clear hx0 hx1 hx2 hx3 hm0 hm1 hm2 hm3 hcs hlen hn2 c0 c1 c2 c3 k0 k1 k2 k3
          go_wp2
          have e1 := E1.out
          have l1 := HK.out.2.1
          have c1 := HCC.out.2.1
          have r3 := ui_xor
          have s1 := ui_shr7
          have s2 := ui_shr7p
          have s5 := ss0_eq
          go_quiet ((go_at_call 23; exact Calls.quiet_of (right_int _ _ _ (by decide) (by decide))))
          clear e1 l1 c1 s1 s2 s5
          rename Nat => q1
          go_wp2
          have e3 := E3.out
          have l3 := HK.out.2.2.2
          have c3 := HCC.out.2.2.2
          have s3 := ui_shr6
          have s4 := ui_shr6p
          have s6 := ss1_eq
          go_quiet ((go_at_call 23; exact quiet_more (right_int _ _ _ (by decide) (by decide))))
          clear e3 l3 c3 s3 s4 r3 s6
          go_wp2
          rename Nat => q2
          have F : Row ((wr.drewN q1).drewN q2) w.heap.size 34 (some ⟨g, 0, none⟩) n cap6 (cw (spread (words16 bs) (n - 16))) ∧ Below w.heap.size w ((wr.drewN q1).drewN q2) ∧ w.heap.size ≤ ((wr.drewN q1).drewN q2).heap.size ∧ ((wr.drewN q1).drewN q2).cell? ⟨g, m0, none⟩ = some (.int .u64 (ui x0)) ∧ ((wr.drewN q1).drewN q2).cell? ⟨g, m2, none⟩ = some (.int .u64 (ui x2)) :=
            ⟨HR6.out, ⟨hb6.os, hb6.tape, hb6.output, hb6.size, hb6.block⟩, hB6, HCC.out.1, HCC.out.2.2.1⟩
          generalize ((wr.drewN q1).drewN q2) = w6 at F ⊢
          obtain ⟨F1, F2, F3, c0, c2⟩ := F
          have HF1 := Lib.hid F1
          have e0 := E0.out
          have e2 := E2.out
          have l0 := HK.out.1
          have l2 := HK.out.2.2.1
          have r1 := ui_addw
          have r5 := ui_add
          clear F1 hb6 hB6 HR6 HCC
          go_region_law (refine step_appWord rfl (.tmp 77) (.tmp 93) rfl (below_allocDrew F2 F3 _).1 (below_allocDrew F2 F3 _).2 (l := spread (words16 bs) (n - 16)) (x0 + ss0 x1 + x2 + ss1 x3) rfl (HF1.out.allocDrew _) w6.heap.size rfl (one_cell _ _ _) (by omega) n2 HN2.out ?_; intro A8 cap8 w8 hr8 hb8 hB8)
          all_goals
            clear e0 e2 l0 l2 r1 r5 c0 c2
            go_wp2
            go_roundw
            case rel =>
              refine ⟨n2, A8, cap8, by have := HN2.out; omega, by have := HN2.out; omega, by have := HN2.out; rw [← this]; go_num, rfl, ?_, hb8, hB8⟩
              have := hr8.out
              rw [← HV.out] at this
              rw [← HN2.out, show n + 1 - 16 = n - 16 + 1 by omega]
              rw [← HN2.out] at this
              exact this
            case measure => simp [intOf]; omega
        · have e64 : n = 80 := by omega
          subst e64
          go_wp2
          go_ret
          exact ⟨A6, cap6, rfl, HR6.out, hb6⟩
end Go.Proofs.YtidibhphnkiacaaDoor
