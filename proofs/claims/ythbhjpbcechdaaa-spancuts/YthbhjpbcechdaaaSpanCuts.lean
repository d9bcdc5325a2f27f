/-
  SpanCuts returns true for every slice of bytes and every three numbers: no condition.
-/
import Derived.Test.YthbhjpbcechdaaaRows
import Derived.Test.YthbhjpbcechdaaaLie
import Derived.WalkKit
import Derived.ProofKit
import Derived.OpenShut
import Derived.ShutString
import Derived.ChangeOld
import Derived.Below
namespace Go.Proofs.Ythbhjpbcechdaaa.spanCuts
open Go.Proofs.Ythbhjpbcechdaaa Go.ChangeShapes Go.WideShapes Go.ChangeAt Go.RowKit
open Go.ChangeMaps (open_string shut_string)
set_option linter.unusedVariables false

theorem own : ownKnob Try.prog.godebug = none := by kernel_rfl
theorem laidOut : laidOutB Try.prog = true := by kernel_rfl

-- THE WALK
set_option maxHeartbeats 800000 in
theorem walk (a0 : Option Addr) (len0 cap0 : Nat) (z0 : List Int) (a1 : Int) (a2 : Int) (a3 : Int) (w : World) (w0 : IsRow .u8 w a0 len0 cap0 z0) (w1 : (Lit.int .i64 a1).wf = true) (w2 : (Lit.int .i64 a2).wf = true) (w3 : (Lit.int .i64 a3).wf = true) :
    Calls Try.prog 5 #[.slice a0 len0 cap0, .int .i64 a1, .int .i64 a2, .int .i64 a3] w fun e w' => e = .returned (.bool true) ∧ Below w.heap.size w w' := by
  obtain ⟨hs, hc1, hc2⟩ := w0.seg
  obtain ⟨b0, b1⟩ := bounds_i64 w1
  obtain ⟨c0, c1⟩ := bounds_i64 w2
  obtain ⟨d0, d1⟩ := bounds_i64 w3
  clear w0 w1 w2 w3
  generalize z0.take len0 = l at hs
  clear z0
  by_cases hk : 2000 < len0
  · have hk2 := hc2
    unfold maxLen at hk2
    go_enter Try.func5, Try.ntmps5
    go_wp2_with (go_at_call 11; refine (anchor_any _).mono ?_; rintro e w1 ⟨rfl, hB⟩)
    go_ret
    exact ⟨rfl, hB⟩
  · by_cases hin : Lies a1 a2 len0
    · obtain ⟨o, rfl⟩ : ∃ o : Nat, a1 = (o : Int) := ⟨a1.toNat, by have := hin.1; omega⟩
      obtain ⟨m, rfl⟩ : ∃ m : Nat, a2 = (m : Int) := ⟨a2.toNat, by have := hin.2.1; omega⟩
      have h5 : o + m ≤ len0 := by have := hin.2.2.2; omega
      have hb2 := liesB_yes hin
      have hsl := run_cut a0 len0 cap0 o (o + m) (by omega) (by omega) o (o + m) rfl (by omega)
      have hcut := fun (w : World) (h : Seg w a0 len0 l) => h.cut o m cap0 h5 hc1
      generalize (if cap0 = o then a0 else a0.map (·.add o)) = B at hsl hcut
      rw [Nat.add_sub_cancel_left] at hsl
      have HC := Lib.hid hcut
      clear hcut
      go_enter Try.func5, Try.ntmps5
      go_wp2_with (first | (go_at_call 11; refine (anchor_any _).mono ?_; rintro e w1 ⟨rfl, hB⟩) | (go_at_call 13; refine (within_any _ _ _ _ (by omega) (by omega) (by omega)).mono ?_; rintro e w' ⟨rfl, rfl⟩) | (go_at_call 15; refine (Within_any _ _ _ _ (by omega) (by omega) (by omega)).mono ?_; rintro e w' ⟨rfl, rfl⟩) | (go_at_call 16; refine (Cut_ok _ _ _ l _ _ _ (hs.below hB) (by omega) hc1 hc2 hin m rfl).mono ?_; rintro e w2 ⟨rfl, hL, hown, hB2⟩; have HL := Lib.hid hL; clear hL))
      have hs2 := (hs.below hB).below hB2
      have hB3 : Below w.heap.size w w2 := hB.trans (hB2.mono hB.size)
      have hcv0 : ∀ n, _ := fun n => (hs2.drewN n).str cap0
      have hcv1 : ∀ n, _ := fun n => ((HC.out w2 hs2).drewN n).str (cap0 - o)
      have hseg := hown.seg
      rw [HL.out] at hseg
      have hcv2 : ∀ n, _ := fun n => (hseg.drewN n).str m
      simp only [Int.toNat_natCast] at hcv2 hown HL
      generalize strOfNums ((l.drop o).take m) = S at hcv1 hcv2
      generalize hT : strOfNums l = T at hcv0
      have HT := Lib.hid hT
      clear hT
      go_quiet (fail)
      go_wp2
      go_loopw [65] (fun i wr => ∃ (j : Nat) (L : List Int), j ≤ m ∧ i = .int .i64 j ∧ Hid (L.length = m) ∧ Own wr w1.heap.size L ∧ Below w1.heap.size w1 wr) (fun i _ => m - (intOf i).toNat)
      case atStart => exact ⟨0, _, Nat.zero_le _, rfl, HL, hown.drewN _, below_drewN hB2 _⟩
      case round =>
        obtain ⟨j, L, hj, rfl, HL1, hown1, hB4⟩ := hrel
        by_cases hjm : j < m
        · have hc := hown1.cell j (by rw [HL1.out]; exact hjm)
          have hf := hown1.frozen j
          go_wp2
          go_roundw
          case rel =>
            refine ⟨j + 1, L.set j (bits .xor .u8 (L.getD j 0) 255), by omega, by go_num, by show _ = _; rw [List.length_set]; exact HL1.out, ?_, hB4.setCell (Nat.le_refl _) _⟩
            exact hown1.set j _ (bounds_u8 (wf_bits _ _ _ _))
          case measure => simp [intOf]; omega
        · have hs4 := ((hs.below hB).below hB4).str cap0
          rw [HT.out] at hs4
          go_wp2
          go_ret
          exact ⟨rfl, hB.trans (hB4.mono hB.size)⟩
    · have hb2 := liesB_no hin
      go_enter Try.func5, Try.ntmps5
      go_wp2_with (first | (go_at_call 11; refine (anchor_any _).mono ?_; rintro e w1 ⟨rfl, hB⟩) | (go_at_call 13; refine (within_any _ _ _ _ (by omega) (by omega) (by omega)).mono ?_; rintro e w' ⟨rfl, rfl⟩) | (go_at_call 15; refine (Within_any _ _ _ _ (by omega) (by omega) (by omega)).mono ?_; rintro e w' ⟨rfl, rfl⟩) | (go_at_call 16; refine (Cut_end _ _ _ _ _ _ (by omega) b1 c1 hin).mono ?_; rintro e w' ⟨rfl, rfl⟩))
      go_ret
      exact ⟨rfl, hB⟩

-- THE ROW's STEP
set_option maxRecDepth 100000 in
theorem lifted (os : Os) (started : os.Started) (H : Type) (enc : TypeId × Value → H) :
    ReturnsInHanded {} Try.checked os 5 .any (Rows.spanCutsSpec.pre6 enc Try.prog Try.f5 Rows.spanCutsRow.domain false) (Rows.spanCutsSpec.post enc Try.prog Try.f5 false true false false) := by
  refine returnsInHanded_of_change (C := Try.checked) own started (by kernel_rfl) Try.func5
    (ChangeSpec.witness6 (enc := enc) (C := Try.checked) false ⟨#[], #[.slice none 0 0, .int .i64 0, .int .i64 0, .int .i64 0], []⟩ 8 (by kernel_rfl) (by kernel_rfl) (by kernel_rfl) (by kernel_rfl)) ?_
  intro W base args ds gs before hval0 hW hcnd _
  have hval : ∀ (j : Nat) t v, Try.f5.params[j]? = some t → args[j]? = some v → Value.okWide Try.prog W .any base t v := hval0
  have hW' := hW
  obtain ⟨p, q, hA0, hV, rfl, hfz, hnd⟩ := hW
  have hA : DataW.TrodAll enc Try.prog W 0 (fun _ => true) true Try.f5.params.toList args.toList ds p := hA0
  rw [Try.params5] at hA hval
  obtain ⟨v0, vs0, d0, ds0, p0, q0, hargs, rfl, rfl, h0, r0⟩ := trodAll_cons hA
  obtain ⟨v1, vs1, d1, ds1, p1, q1, rfl, rfl, rfl, h1, r1⟩ := trodAll_cons r0
  obtain ⟨v2, vs2, d2, ds2, p2, q2, rfl, rfl, rfl, h2, r2⟩ := trodAll_cons r1
  obtain ⟨v3, vs3, d3, ds3, p3, q3, rfl, rfl, rfl, h3, r3⟩ := trodAll_cons r2
  obtain ⟨rfl, rfl, rfl⟩ := trodAll_nil r3
  obtain rfl : args = #[v0, v1, v2, v3] := by cases args; simp_all
  obtain ⟨rfl, rfl⟩ := trodVars_none hV
  obtain ⟨a0, len0, cap0, rfl⟩ := okWide_slice Try.underlying22 (hval 0 22 v0 rfl rfl)
  have k0 := h0
  have lt0 : ∀ x ∈ p0, x.block < W.heap.size := by obtain ⟨m, hm⟩ := k0; exact DataW.trod_lt m _ _ _ hm
  obtain ⟨z0, w0⟩ : ∃ zs, IsRow .u8 W a0 len0 cap0 zs := by
    obtain ⟨fuel, hf⟩ := h0
    rcases open_ints Try.underlying22 Try.underlying5 (by kernel_rfl) hf with ⟨hcs, _⟩ | ⟨x, l, c, zs, hcs, _, hl, hm, hz, _, hcell, hwz⟩
    · simp [Value.cells] at hcs
      obtain ⟨rfl, rfl, rfl⟩ := hcs
      exact ⟨[], .inl ⟨rfl, rfl, rfl, rfl⟩⟩
    · simp [Value.cells] at hcs
      obtain ⟨rfl, rfl, rfl⟩ := hcs
      exact ⟨zs, .inr ⟨_, rfl, hl, hm, by simpa using hz, hcell, hwz⟩⟩
  obtain ⟨a1, rfl, rfl, rfl, w1⟩ := open_int Try.underlying3 (hval 1 3 v1 rfl rfl) h1
  obtain ⟨a2, rfl, rfl, rfl, w2⟩ := open_int Try.underlying3 (hval 2 3 v2 rfl rfl) h2
  obtain ⟨a3, rfl, rfl, rfl, w3⟩ := open_int Try.underlying3 (hval 3 3 v3 rfl rfl) h3
  clear hA0 hval0
  refine (walk a0 len0 cap0 z0 a1 a2 a3 W w0 w1 w2 w3).mono fun e W' ⟨he, bel⟩ => ?_
  subst he
  exact ⟨_, rfl, _, _, _, [], _, [], hW', trodAll_mk1 (shut_bool Try.underlying4 _), (trodAll_cons_mk (Below.trod laidOut (by kernel_rfl) (of_decide_eq_true (by kernel_rfl)) k0 bel lt0) (trodAll_cons_mk (shut_int Try.underlying3 w1) (trodAll_cons_mk (shut_int Try.underlying3 w2) (trodAll_cons_mk (shut_int Try.underlying3 w3) trodAll_mk0)))), rfl, bel.frame _, fun h => by cases h⟩

theorem over : Rows.spanCutsRow.holds Try.pinned (OpenSpec.ofChange Rows.spanCutsSpec) :=
  OpenClaim.holds_of_wide 5 Try.f5 rfl rfl rfl rfl rfl rfl rfl ⟨rfl, rfl, rfl, rfl, rfl⟩ rfl rfl rfl rfl rfl (by kernel_rfl) Try.func5 (by kernel_rfl)
    (of_decide_eq_true (by kernel_rfl)) (by unfold Func.isWrapper; first | (rw [if_pos (by decide +kernel)]; kernel_rfl) | (rw [if_neg (by decide +kernel)]; exact ⟨rfl, rfl⟩))
    (fun os started H enc _ => lifted os started H enc)

-- the statement
theorem proved : Rows.SpanCutsSaid := over
end Go.Proofs.Ythbhjpbcechdaaa.spanCuts
