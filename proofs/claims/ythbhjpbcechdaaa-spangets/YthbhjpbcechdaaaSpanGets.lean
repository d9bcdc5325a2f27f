/-
  SpanGets returns true for every slice of bytes, every off and every size: no condition.
-/
import Derived.Test.YthbhjpbcechdaaaRows
import Derived.Test.YthbhjpbcechdaaaIn
import Derived.WalkKit
import Derived.ProofKit
import Derived.OpenShut
import Derived.ShutString
import Derived.ChangeOld
import Derived.Below
namespace Go.Proofs.Ythbhjpbcechdaaa.spanGets
open Go.Proofs.Ythbhjpbcechdaaa Go.ChangeShapes Go.WideShapes Go.ChangeAt Go.RowKit
open Go.ChangeMaps (open_string shut_string)
set_option linter.unusedVariables false

theorem own : ownKnob Try.prog.godebug = none := by kernel_rfl
theorem laidOut : laidOutB Try.prog = true := by kernel_rfl

-- THE WALK
set_option maxHeartbeats 800000 in
theorem walk (a0 : Option Addr) (len0 cap0 : Nat) (z0 : List Int) (a1 : Int) (a2 : Int) (w : World) (w0 : IsRow .u8 w a0 len0 cap0 z0) (w1 : (Lit.int .i64 a1).wf = true) (w2 : (Lit.int .i64 a2).wf = true) :
    Calls Try.prog 3 #[.slice a0 len0 cap0, .int .i64 a1, .int .i64 a2] w fun e w' => e = .returned (.bool true) ∧ Below w.heap.size w w' := by
  obtain ⟨hs, hc1, hc2⟩ := w0.seg
  obtain ⟨b0, b1⟩ := bounds_i64 w1
  obtain ⟨c0, c1⟩ := bounds_i64 w2
  clear w0 w1 w2
  generalize z0.take len0 = l at hs
  clear z0
  by_cases hk : 2000 < len0
  · have hk2 := hc2
    unfold maxLen at hk2
    go_enter Try.func3, Try.ntmps3
    go_wp2_with (go_at_call 11; refine (anchor_any _).mono ?_; rintro e w1 ⟨rfl, hB⟩)
    go_ret
    exact ⟨rfl, hB⟩
  · by_cases hsz : a2 < 1 ∨ 8 < a2
    · by_cases t1 : a2 < 1
      · go_enter Try.func3, Try.ntmps3
        go_wp2_with (first | (go_at_call 11; refine (anchor_any _).mono ?_; rintro e w1 ⟨rfl, hB⟩) | (go_at_call 12; refine (Get_form _ _ _ _ _ _ hsz).mono ?_; rintro e w' ⟨rfl, rfl⟩))
        go_ret
        exact ⟨rfl, hB⟩
      · have t2 : 8 < a2 := by omega
        go_enter Try.func3, Try.ntmps3
        go_wp2_with (first | (go_at_call 11; refine (anchor_any _).mono ?_; rintro e w1 ⟨rfl, hB⟩) | (go_at_call 12; refine (Get_form _ _ _ _ _ _ hsz).mono ?_; rintro e w' ⟨rfl, rfl⟩))
        go_ret
        exact ⟨rfl, hB⟩
    · obtain ⟨t1, t2⟩ : 1 ≤ a2 ∧ a2 ≤ 8 := by omega
      clear hsz
      by_cases hin : Lies a1 a2 len0
      · obtain ⟨o, rfl⟩ : ∃ o : Nat, a1 = (o : Int) := ⟨a1.toNat, by have := hin.1; omega⟩
        obtain ⟨ad, rfl, hlt, hc⟩ := hs.2.2 (by have := hin.2.2.2; omega)
        have ho := hc o (by have := hin.2.2.2; omega)
        obtain ⟨x0, hx0⟩ : ∃ x, x = l.getD o 0 := ⟨_, rfl⟩
        have hx1 := hs.2.1.at_ o
        rw [← hx0] at ho hx1
        by_cases hbig : a2 = 8 ∧ 127 < x0
        · obtain ⟨rfl, h127⟩ := hbig
          have hn := (num_first l o hs.2.1 (by have := hin.2.2.2; have := hs.1; omega)).2 (by omega)
          have HN := Lib.hid hn
          have HC := Lib.hid hc
          clear hx0 hn hc
          have hol : o < len0 := by have := hin.2.2.2; omega
          go_enter Try.func3, Try.ntmps3
          go_wp2_with (first
            | (go_at_call 11; refine (anchor_any _).mono ?_; rintro e w1 ⟨rfl, hB⟩; have hcell := (hB.cell (p := ad.add o) (by rw [block_add]; exact hlt)).trans ho)
            | (go_at_call 12; refine (Get_big _ _ _ l _ _ _ (hs.below hB) (by omega) hc1 hc2 t1 t2 hin HN.out).mono ?_; rintro e w' ⟨rfl, rfl⟩)
            | (go_at_call 13; refine (within_yes _ _ _ _ hin (by omega)).mono ?_; rintro e w' ⟨rfl, rfl⟩))
          go_ret
          exact ⟨rfl, hB⟩
        · obtain ⟨s, rfl⟩ : ∃ s : Nat, a2 = (s : Int) := ⟨a2.toNat, by omega⟩
          have h5 : o + s ≤ len0 := by have := hin.2.2.2; omega
          have hn : num ((l.drop o).take s) ≤ 9223372036854775807 := by
            by_cases h8 : s = 8
            · have := num_first l o hs.2.1 (by have := hs.1; omega)
              rw [← hx0] at this
              rw [h8]
              omega
            · have := num_small _ (hs.2.1.seg o s) (by simp; omega)
              omega
          have HC := Lib.hid hc
          have HB := Lib.hid hbig
          obtain ⟨x, hx⟩ : ∃ x, num ((l.drop o).take s) = x := ⟨_, rfl⟩
          have HX := Lib.hid hx
          have hn2 : x ≤ 9223372036854775807 := by rw [← hx]; exact hn
          have HN := Lib.hid hn
          have hol : o < len0 := by omega
          have t : ((s : Int) == 8) = false ∨ (((s : Int) == 8) = true ∧ x0 ≤ 127) := by
            by_cases h8 : (s : Int) = 8
            · right; exact ⟨by simpa using h8, by omega⟩
            · left; simpa using h8
          clear hx0 hn hc hbig hx
          rcases t with t3 | ⟨t3, t4⟩
          all_goals
            go_enter Try.func3, Try.ntmps3
            go_wp2_with (first
              | (go_at_call 11; refine (anchor_any _).mono ?_; rintro e w1 ⟨rfl, hB⟩; have hcell := (hB.cell (p := ad.add o) (by rw [block_add]; exact hlt)).trans ho)
              | (go_at_call 12; refine (Get_val _ _ _ l _ _ _ (hs.below hB) (by omega) hc1 hc2 t1 t2 hin x HX.out hn2).mono ?_; rintro e w' ⟨rfl, rfl⟩)
              | (go_at_call 13; refine (within_yes _ _ _ _ hin (by omega)).mono ?_; rintro e w' ⟨rfl, rfl⟩))
            go_loop [9, 63] (fun n i => ∃ j : Nat, j ≤ s ∧ i = .int .i64 j ∧ n = .int .i64 (num ((l.drop o).take j))) (fun _ i => s - (intOf i).toNat)
            case atStart => exact ⟨0, Nat.zero_le _, rfl, rfl⟩
            case round =>
              obtain ⟨j, hj, rfl, rfl⟩ := hrel
              by_cases hjs : j < s
              · obtain ⟨q1, q2, q3⟩ := num_step l o s j hs.2.1 (by omega) (by rw [hs.1]; exact h5) hjs HN.out
                have Q3 := Lib.hid q3
                obtain ⟨q4, q5⟩ := hs.2.1.at_ (o + j)
                have hcj := (hB.cell (p := ad.add (o + j)) (by rw [block_add]; exact hlt)).trans (HC.out (o + j) (by omega))
                obtain ⟨y, hy⟩ : ∃ y, num ((l.drop o).take j) = y := ⟨_, rfl⟩
                obtain ⟨z, hz⟩ : ∃ z, l.getD (o + j) 0 = z := ⟨_, rfl⟩
                rw [hy] at q1 q2
                rw [hz] at q4 q5 hcj
                simp only [hy]
                have HY := Lib.hid hy
                have HZ := Lib.hid hz
                clear q3 hy hz
                go_wp2
                go_round
                case rel => exact ⟨j + 1, by omega, by go_num, by rw [Q3.out, HY.out, HZ.out]; go_num⟩
                case measure => simp [intOf]; omega
              · obtain rfl : j = s := by omega
                have e := HX.out
                simp only [e]
                clear e
                go_wp2
                go_ret
                exact ⟨rfl, hB⟩
      · go_enter Try.func3, Try.ntmps3
        go_wp2_with (first | (go_at_call 11; refine (anchor_any _).mono ?_; rintro e w1 ⟨rfl, hB⟩) | (go_at_call 12; refine (Get_end _ _ _ _ _ _ t1 t2 (by omega) b1 hin).mono ?_; rintro e w' ⟨rfl, rfl⟩) | (go_at_call 13; refine (within_no _ _ _ _ hin (by omega) (by omega) (by omega)).mono ?_; rintro e w' ⟨rfl, rfl⟩))
        go_ret
        exact ⟨rfl, hB⟩

-- THE ROW's STEP
set_option maxRecDepth 100000 in
theorem lifted (os : Os) (started : os.Started) (H : Type) (enc : TypeId × Value → H) :
    ReturnsInHanded {} Try.checked os 3 .any (Rows.spanGetsSpec.pre6 enc Try.prog Try.f3 Rows.spanGetsRow.domain false) (Rows.spanGetsSpec.post enc Try.prog Try.f3 false true false false) := by
  refine returnsInHanded_of_change (C := Try.checked) own started (by kernel_rfl) Try.func3
    (ChangeSpec.witness6 (enc := enc) (C := Try.checked) false ⟨#[], #[.slice none 0 0, .int .i64 0, .int .i64 0], []⟩ 8 (by kernel_rfl) (by kernel_rfl) (by kernel_rfl) (by kernel_rfl)) ?_
  intro W base args ds gs before hval0 hW hcnd _
  have hval : ∀ (j : Nat) t v, Try.f3.params[j]? = some t → args[j]? = some v → Value.okWide Try.prog W .any base t v := hval0
  have hW' := hW
  obtain ⟨p, q, hA0, hV, rfl, hfz, hnd⟩ := hW
  have hA : DataW.TrodAll enc Try.prog W 0 (fun _ => true) true Try.f3.params.toList args.toList ds p := hA0
  rw [Try.params3] at hA hval
  obtain ⟨v0, vs0, d0, ds0, p0, q0, hargs, rfl, rfl, h0, r0⟩ := trodAll_cons hA
  obtain ⟨v1, vs1, d1, ds1, p1, q1, rfl, rfl, rfl, h1, r1⟩ := trodAll_cons r0
  obtain ⟨v2, vs2, d2, ds2, p2, q2, rfl, rfl, rfl, h2, r2⟩ := trodAll_cons r1
  obtain ⟨rfl, rfl, rfl⟩ := trodAll_nil r2
  obtain rfl : args = #[v0, v1, v2] := by cases args; simp_all
  obtain ⟨rfl, rfl⟩ := trodVars_none hV
  obtain ⟨a0, len0, cap0, rfl⟩ := okWide_slice Try.underlying22 (hval 0 22 v0 rfl rfl)
  have k0 := h0
  have lt0 : ∀ x ∈ p0, x.block < W.heap.size := by obtain ⟨m, hm⟩ := k0; exact DataW.trod_lt m _ _ _ hm
  obtain ⟨z0, w0⟩ : ∃ zs, IsRow .u8 W a0 len0 cap0 zs := by
    obtain ⟨fuel, hf⟩ := h0
    rcases open_ints Try.underlying22 Try.underlying5 (by kernel_rfl) hf with ⟨hcs, _⟩ | ⟨x, l, c, zs, hcs, _, hl, hm, hz, _, hcell, hwz⟩
    · simp [Value.cells] at hcs
      obtain ⟨rfl, rfl, rfl⟩ := hcs
      exact ⟨[], .inl ⟨rfl, rfl, rfl, rfl⟩⟩
    · simp [Value.cells] at hcs
      obtain ⟨rfl, rfl, rfl⟩ := hcs
      exact ⟨zs, .inr ⟨_, rfl, hl, hm, by simpa using hz, hcell, hwz⟩⟩
  obtain ⟨a1, rfl, rfl, rfl, w1⟩ := open_int Try.underlying3 (hval 1 3 v1 rfl rfl) h1
  obtain ⟨a2, rfl, rfl, rfl, w2⟩ := open_int Try.underlying3 (hval 2 3 v2 rfl rfl) h2
  clear hA0 hval0
  refine (walk a0 len0 cap0 z0 a1 a2 W w0 w1 w2).mono fun e W' ⟨he, bel⟩ => ?_
  subst he
  exact ⟨_, rfl, _, _, _, [], _, [], hW', trodAll_mk1 (shut_bool Try.underlying4 _), (trodAll_cons_mk (Below.trod laidOut (by kernel_rfl) (of_decide_eq_true (by kernel_rfl)) k0 bel lt0) (trodAll_cons_mk (shut_int Try.underlying3 w1) (trodAll_cons_mk (shut_int Try.underlying3 w2) trodAll_mk0))), rfl, bel.frame _, fun h => by cases h⟩

theorem over : Rows.spanGetsRow.holds Try.pinned (OpenSpec.ofChange Rows.spanGetsSpec) :=
  OpenClaim.holds_of_wide 3 Try.f3 rfl rfl rfl rfl rfl rfl rfl ⟨rfl, rfl, rfl, rfl, rfl⟩ rfl rfl rfl rfl rfl (by kernel_rfl) Try.func3 (by kernel_rfl)
    (of_decide_eq_true (by kernel_rfl)) (by unfold Func.isWrapper; first | (rw [if_pos (by decide +kernel)]; kernel_rfl) | (rw [if_neg (by decide +kernel)]; exact ⟨rfl, rfl⟩))
    (fun os started H enc _ => lifted os started H enc)

-- the statement
theorem proved : Rows.SpanGetsSaid := over
end Go.Proofs.Ythbhjpbcechdaaa.spanGets
