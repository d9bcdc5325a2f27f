/-
  SpanPads returns true for every slice of bytes and every number: no condition.
-/
import Derived.Test.YthbhjpbcechdaaaRows
import Derived.Test.YthbhjpbcechdaaaLie
import Derived.WalkKit
import Derived.ProofKit
import Derived.OpenShut
import Derived.ShutString
import Derived.ChangeOld
import Derived.Below
namespace Go.Proofs.Ythbhjpbcechdaaa.spanPads
open Go.Proofs.Ythbhjpbcechdaaa Go.ChangeShapes Go.WideShapes Go.ChangeAt Go.RowKit
open Go.ChangeMaps (open_string shut_string)
set_option linter.unusedVariables false

theorem own : ownKnob Try.prog.godebug = none := by kernel_rfl
theorem laidOut : laidOutB Try.prog = true := by kernel_rfl

-- THE WALK
theorem allZero_take (l : List Int) (j : Nat) (h : j < l.length) : allZero (l.take (j + 1)) = (allZero (l.take j) && (l.getD j 0 == 0)) := by
  have := seg_snoc l 0 j (by omega)
  simp only [List.drop_zero, Nat.zero_add] at this
  rw [this, allZero_snoc]
theorem allZero_pad (l : List Int) (n : Nat) : allZero (l ++ List.replicate n 0) = allZero l := by simp [allZero]
theorem Zeros_quiet (A : Option Addr) (k cap : Nat) (l : List Int) (w : World) (hs : Seg w A k l) (hk : k ≤ 1000000) (n : Nat) :
    Calls Try.prog 19 #[.slice A k cap] (w.drewN n) fun e w'' => e = .returned (.bool (allZero l)) ∧ ∃ m, w'' = w.drewN m :=
  (Zeros_any A k cap l _ (hs.drewN n) hk).mono fun _ _ ⟨he, hw⟩ => ⟨he, n, hw.symm⟩
set_option maxHeartbeats 1600000 in
theorem walk (a0 : Option Addr) (len0 cap0 : Nat) (z0 : List Int) (a1 : Int) (w : World) (w0 : IsRow .u8 w a0 len0 cap0 z0) (w1 : (Lit.int .i64 a1).wf = true) :
    Calls Try.prog 7 #[.slice a0 len0 cap0, .int .i64 a1] w fun e w' => e = .returned (.bool true) ∧ Below w.heap.size w w' := by
  obtain ⟨hs, hc1, hc2⟩ := w0.seg
  obtain ⟨b0, b1⟩ := bounds_i64 w1
  clear w0 w1
  generalize z0.take len0 = l at hs
  clear z0
  by_cases hk : 2000 < len0
  · have hk2 := hc2
    unfold maxLen at hk2
    go_enter Try.func7, Try.ntmps7
    go_wp2_with (go_at_call 11; refine (anchor_any _).mono ?_; rintro e w1 ⟨rfl, hB⟩)
    go_ret
    exact ⟨rfl, hB⟩
  · by_cases hto : a1 < 1 ∨ 65536 < a1
    · have t : a1 < 1 ∨ (1 ≤ a1 ∧ 65536 < a1) := by omega
      rcases t with t1 | ⟨t1, t2⟩
      all_goals
        go_enter Try.func7, Try.ntmps7
        go_wp2_with (first | (go_at_call 11; refine (anchor_any _).mono ?_; rintro e w1 ⟨rfl, hB⟩) | (go_at_call 18; refine (Pad_form _ _ _ _ _ hto).mono ?_; rintro e w' ⟨rfl, rfl⟩))
        have hs1 := hs.below hB
        go_loop [7, 23] (fun z i => ∃ j : Nat, j ≤ len0 ∧ i = .int .i64 j ∧ z = .bool (allZero (l.take j))) (fun _ i => len0 - (intOf i).toNat)
        case atStart => exact ⟨0, Nat.zero_le _, rfl, rfl⟩
        case round =>
          obtain ⟨j, hj, rfl, rfl⟩ := hrel
          by_cases hjs : j < len0
          · obtain ⟨ad, rfl, _, hc⟩ := hs1.2.2 (by omega)
            have hcj := hc j hjs
            have Q := Lib.hid (allZero_take l j (by rw [hs1.1]; exact hjs))
            generalize l.getD j 0 = x at hcj Q
            clear hc
            generalize hq : allZero (l.take j) = q at Q ⊢
            clear hq
            cases q
            all_goals
              go_wp2
              go_round
              case rel => exact ⟨j + 1, by omega, by go_num, by rw [Q.out]; rfl⟩
              case measure => simp [intOf]; omega
          · obtain rfl : j = len0 := by omega
            rw [List.take_of_length_le (by rw [hs1.1]; omega)]
            go_wp2_with (go_at_call 19; refine (Zeros_any _ _ _ l _ hs1 (by omega)).mono ?_; rintro e w' ⟨rfl, rfl⟩)
            go_ret
            exact ⟨rfl, hB⟩
    · obtain ⟨t1, t2⟩ : 1 ≤ a1 ∧ a1 ≤ 65536 := by omega
      clear hto
      have hg := gapOf_bd len0 a1 t1
      have hgm := gapOf_mod len0 a1 t1
      obtain ⟨m, hm⟩ : ∃ m : Nat, (m : Int) = len0 + gapOf len0 a1 := ⟨((len0 : Int) + gapOf len0 a1).toNat, by omega⟩
      have hm1 : len0 ≤ m := by omega
      have hm2 : (m : Int) - (len0 : Int) < a1 := by omega
      have hm3 : ((m : Int) % a1 == 0) = true := by rw [hm, hgm]; rfl
      have hm4 : m ≤ 67536 := by omega
      have HM := Lib.hid hm
      clear hm hgm hg
      go_enter Try.func7, Try.ntmps7
      go_wp2_with (first | (go_at_call 11; refine (anchor_any _).mono ?_; rintro e w1 ⟨rfl, hB⟩) | (go_at_call 18; refine (Pad_ok _ _ _ l _ _ (hs.below hB) (by omega) t1 t2 m HM.out).mono ?_; rintro e w2 ⟨rfl, hL, hown, hB2⟩; have HL := Lib.hid hL; clear hL))
      have hs2 := (hs.below hB).below hB2
      have hB3 : Below w.heap.size w w2 := hB.trans (hB2.mono hB.size)
      have hcv2 : ∀ n, _ := fun n => (hs2.drewN n).str cap0
      have hhead := hown.head len0 (by rw [HL.out]; omega)
      have et : (l ++ List.replicate (gapOf len0 a1).toNat 0).take len0 = l := by rw [← hs.1]; simp
      rw [et] at hhead
      clear et
      have hcv1 : ∀ n, _ := fun n => (hhead.drewN n).str m
      have hsl := run_head_own w1.heap.size m m len0 (by omega) len0 rfl
      have hseg := hown.seg
      rw [HL.out] at hseg
      have hsl2 := run_tail (some ⟨w1.heap.size, 0, none⟩) m m len0 hm1 len0 rfl
      have htail := hseg.cut len0 (m - len0) m (by omega) (Nat.le_refl _)
      generalize (if m = len0 then (some ⟨w1.heap.size, 0, none⟩ : Option Addr) else (some ⟨w1.heap.size, 0, none⟩ : Option Addr).map (·.add len0)) = T at hsl2 htail
      have et2 : ((l ++ List.replicate (gapOf len0 a1).toNat 0).drop len0).take (m - len0) = List.replicate (m - len0) 0 := by
        rw [← hs.1, List.drop_left, List.take_replicate, hs.1]
        congr 1
        have := HM.out
        omega
      rw [et2] at htail
      clear et2
      have q1 : ∀ n, _ := fun n => Zeros_quiet _ _ (m - len0) _ _ htail (by omega) n
      have q2 : ∀ n, _ := fun n => Zeros_quiet _ _ m _ _ hseg (by omega) n
      rw [show allZero (List.replicate (m - len0) 0) = true from by simp [allZero]] at q1
      rw [allZero_pad] at q2
      have Q1 := Lib.hid q1
      have Q2 := Lib.hid q2
      clear q1 q2 htail
      generalize strOfNums l = S at hcv1 hcv2
      go_loop [7, 23] (fun z i => ∃ j : Nat, j ≤ len0 ∧ i = .int .i64 j ∧ z = .bool (allZero (l.take j))) (fun _ i => len0 - (intOf i).toNat)
      case atStart => exact ⟨0, Nat.zero_le _, rfl, rfl⟩
      case round =>
        obtain ⟨j, hj, rfl, rfl⟩ := hrel
        by_cases hjs : j < len0
        · obtain ⟨ad, rfl, _, hc⟩ := hs2.2.2 (by omega)
          have hcj := hc j hjs
          have Q := Lib.hid (allZero_take l j (by rw [hs2.1]; exact hjs))
          generalize l.getD j 0 = x at hcj Q
          clear hc
          generalize hq : allZero (l.take j) = q at Q ⊢
          clear hq
          cases q
          all_goals
            go_wp2
            go_round
            case rel => exact ⟨j + 1, by omega, by go_num, by rw [Q.out]; rfl⟩
            case measure => simp [intOf]; omega
        · obtain rfl : j = len0 := by omega
          rw [List.take_of_length_le (by rw [hs2.1]; omega)]
          go_wp2_with (go_at_call 19; refine (Zeros_any _ _ _ l _ hs2 (by omega)).mono ?_; rintro e w' ⟨rfl, rfl⟩)
          go_quiet ((first | (with_reducible exact Q1.out _) | (with_reducible exact Q2.out _)))
          go_wp2
          go_ret
          exact ⟨rfl, below_drewN hB3 _⟩

-- THE ROW's STEP
set_option maxRecDepth 100000 in
theorem lifted (os : Os) (started : os.Started) (H : Type) (enc : TypeId × Value → H) :
    ReturnsInHanded {} Try.checked os 7 .any (Rows.spanPadsSpec.pre6 enc Try.prog Try.f7 Rows.spanPadsRow.domain false) (Rows.spanPadsSpec.post enc Try.prog Try.f7 false true false false) := by
  refine returnsInHanded_of_change (C := Try.checked) own started (by kernel_rfl) Try.func7
    (ChangeSpec.witness6 (enc := enc) (C := Try.checked) false ⟨#[], #[.slice none 0 0, .int .i64 0], []⟩ 8 (by kernel_rfl) (by kernel_rfl) (by kernel_rfl) (by kernel_rfl)) ?_
  intro W base args ds gs before hval0 hW hcnd _
  have hval : ∀ (j : Nat) t v, Try.f7.params[j]? = some t → args[j]? = some v → Value.okWide Try.prog W .any base t v := hval0
  have hW' := hW
  obtain ⟨p, q, hA0, hV, rfl, hfz, hnd⟩ := hW
  have hA : DataW.TrodAll enc Try.prog W 0 (fun _ => true) true Try.f7.params.toList args.toList ds p := hA0
  rw [Try.params7] at hA hval
  obtain ⟨v0, vs0, d0, ds0, p0, q0, hargs, rfl, rfl, h0, r0⟩ := trodAll_cons hA
  obtain ⟨v1, vs1, d1, ds1, p1, q1, rfl, rfl, rfl, h1, r1⟩ := trodAll_cons r0
  obtain ⟨rfl, rfl, rfl⟩ := trodAll_nil r1
  obtain rfl : args = #[v0, v1] := by cases args; simp_all
  obtain ⟨rfl, rfl⟩ := trodVars_none hV
  obtain ⟨a0, len0, cap0, rfl⟩ := okWide_slice Try.underlying22 (hval 0 22 v0 rfl rfl)
  have k0 := h0
  have lt0 : ∀ x ∈ p0, x.block < W.heap.size := by obtain ⟨m, hm⟩ := k0; exact DataW.trod_lt m _ _ _ hm
  obtain ⟨z0, w0⟩ : ∃ zs, IsRow .u8 W a0 len0 cap0 zs := by
    obtain ⟨fuel, hf⟩ := h0
    rcases open_ints Try.underlying22 Try.underlying5 (by kernel_rfl) hf with ⟨hcs, _⟩ | ⟨x, l, c, zs, hcs, _, hl, hm, hz, _, hcell, hwz⟩
    · simp [Value.cells] at hcs
      obtain ⟨rfl, rfl, rfl⟩ := hcs
      exact ⟨[], .inl ⟨rfl, rfl, rfl, rfl⟩⟩
    · simp [Value.cells] at hcs
      obtain ⟨rfl, rfl, rfl⟩ := hcs
      exact ⟨zs, .inr ⟨_, rfl, hl, hm, by simpa using hz, hcell, hwz⟩⟩
  obtain ⟨a1, rfl, rfl, rfl, w1⟩ := open_int Try.underlying3 (hval 1 3 v1 rfl rfl) h1
  clear hA0 hval0
  refine (walk a0 len0 cap0 z0 a1 W w0 w1).mono fun e W' ⟨he, bel⟩ => ?_
  subst he
  exact ⟨_, rfl, _, _, _, [], _, [], hW', trodAll_mk1 (shut_bool Try.underlying4 _), (trodAll_cons_mk (Below.trod laidOut (by kernel_rfl) (of_decide_eq_true (by kernel_rfl)) k0 bel lt0) (trodAll_cons_mk (shut_int Try.underlying3 w1) trodAll_mk0)), rfl, bel.frame _, fun h => by cases h⟩

theorem over : Rows.spanPadsRow.holds Try.pinned (OpenSpec.ofChange Rows.spanPadsSpec) :=
  OpenClaim.holds_of_wide 7 Try.f7 rfl rfl rfl rfl rfl rfl rfl ⟨rfl, rfl, rfl, rfl, rfl⟩ rfl rfl rfl rfl rfl (by kernel_rfl) Try.func7 (by kernel_rfl)
    (of_decide_eq_true (by kernel_rfl)) (by unfold Func.isWrapper; first | (rw [if_pos (by decide +kernel)]; kernel_rfl) | (rw [if_neg (by decide +kernel)]; exact ⟨rfl, rfl⟩))
    (fun os started H enc _ => lifted os started H enc)

-- the statement
theorem proved : Rows.SpanPadsSaid := over
end Go.Proofs.Ythbhjpbcechdaaa.spanPads
