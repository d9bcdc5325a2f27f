/-
  SpanRows returns true for every slice of pairs of numbers: no condition.
-/
import Derived.Test.YthbhjpbcechdaaaRows
import Derived.Test.YthbhjpbcechdaaaRoom
import Derived.WalkKit
import Derived.ProofKit
import Derived.OpenShut
import Derived.ShutString
import Derived.ChangeOld
import Derived.Below
import Derived.Deep.Slices
namespace Go.Proofs.Ythbhjpbcechdaaa.spanRows
open Go.Proofs.Ythbhjpbcechdaaa Go.ChangeShapes Go.WideShapes Go.ChangeAt Go.RowKit
open Go.ChangeMaps (open_string shut_string)
set_option linter.unusedVariables false

theorem own : ownKnob Try.prog.godebug = none := by kernel_rfl
theorem laidOut : laidOutB Try.prog = true := by kernel_rfl
theorem cells38 : Try.prog.cellsOf 38 = 2 := by kernel_rfl
theorem cells3 : Try.prog.cellsOf 3 = 1 := by kernel_rfl

theorem add_one_ (a : Addr) : a.add 1 = ⟨a.block, a.off + 1, none⟩ := rfl
/-- A slice of pairs that came in. -/
def IsPairs (w : World) (a : Option Addr) (len : Nat) (P : Nat → Int × Int) : Prop :=
  0 < len → ∃ x, a = some x ∧ x.block < w.heap.size ∧ ∀ i, i < len → w.cell? (x.add (i * 2)) = some (.int .i64 (P i).1) ∧ w.cell? (x.add (i * 2 + 1)) = some (.int .i64 (P i).2) ∧
    (P i).1 ≤ 9223372036854775807 ∧ (P i).2 ≤ 9223372036854775807

set_option maxHeartbeats 1600000 in
theorem walk (a0 : Option Addr) (len0 cap0 : Nat) (P : Nat → Int × Int) (w : World) (w0 : IsPairs w a0 len0 P) (hc : cap0 ≤ maxLen) (hl : len0 ≤ cap0) :
    Calls Try.prog 8 #[.slice a0 len0 cap0] w fun e w' => e = .returned (.bool true) ∧ Below w.heap.size w w' := by
  unfold maxLen at hc
  by_cases hk : 60 < len0
  · go_enter Try.func8, Try.ntmps8
    go_wp2_with (go_at_call 11; refine (anchor_any _).mono ?_; rintro e w1 ⟨rfl, hB⟩)
    go_ret
    exact ⟨rfl, hB⟩
  · go_enter Try.func8, Try.ntmps8
    go_wp2_with (go_at_call 11; refine (anchor_any _).mono ?_; rintro e w1 ⟨rfl, hB⟩)
    go_loopw [3, 22] (fun v i wr => ∃ (j m : Nat) (A : Option Addr), j ≤ len0 ∧ m ≤ 8 * j ∧ i = .int .i64 j ∧ v = .slice A m m ∧ Hid (∀ i, i < j → Room (P i).1 (P i).2) ∧ Seg wr A m (bytesUpto P j) ∧ Below w.heap.size w wr) (fun _ i _ => len0 - (intOf i).toNat)
    case atStart => exact ⟨0, 0, none, Nat.zero_le _, Nat.le_refl _, rfl, rfl, (fun i hi => absurd hi (Nat.not_lt_zero _)), ⟨rfl, by simp [AreBytes, bytesUpto], by simp⟩, hB⟩
    case round =>
      obtain ⟨j, m, A, hj, hm, rfl, rfl, HR, hseg, hB1⟩ := hrel
      by_cases hjs : j < len0
      · obtain ⟨ad, rfl, hlt, hcells⟩ := w0 (by omega)
        obtain ⟨c0, c1, p1, q1⟩ := hcells j hjs
        have d0 := (hB1.cell (p := ad.add (j * 2)) (by rw [block_add]; exact hlt)).trans c0
        have d1 : wr.cell? ⟨(ad.add (j * 2)).block, (ad.add (j * 2)).off + 1, none⟩ = some (.int .i64 (P j).2) := by
          rw [← add_one_, add_add]
          exact (hB1.cell (p := ad.add (j * 2 + 1)) (by rw [block_add]; exact hlt)).trans c1
        clear hcells c0 c1
        have hB0 : Below wr.heap.size wr (wr.alloc (.cells #[.int .i64 (P j).1, .int .i64 (P j).2] 38)) := (Below.refl _ _).alloc (Nat.le_refl _) _
        by_cases hroom : Room (P j).1 (P j).2
        · obtain ⟨r1, r2, r3, r4⟩ := hroom
          have hr4 : Hid (((P j).2 / 2 ^ (8 * (P j).1).toNat != 0) = false) := by show _ = _; rw [r4]; rfl
          obtain ⟨n, hn⟩ : ∃ n : Nat, (n : Int) = m + (P j).1 := ⟨((m : Int) + (P j).1).toNat, by omega⟩
          have hn8 : n ≤ 8 * (j + 1) := by omega
          have HN := Lib.hid hn
          have hroom : Room (P j).1 (P j).2 := ⟨r1, r2, r3, r4⟩
          clear hn r4
          go_wp2_with (go_at_call 14; refine (Put_ok A m m _ _ _ _ (hseg.below hB0) (by omega) r1 r2 r3 q1 hr4.out n HN.out).mono ?_; rintro e w2 ⟨rfl, hL, hown, hB2⟩; have HL := Lib.hid hL; clear hL)
          go_roundw
          case rel =>
            have hs2 := hown.seg
            rw [HL.out, ← bytesUpto_succ, show (wr.alloc (.cells #[.int .i64 (P j).1, .int .i64 (P j).2] 38)).heap.size = wr.heap.size + 1 from by simp] at hs2
            refine ⟨j + 1, n, _, by omega, hn8, by go_num, rfl, ?_, hs2, ?_⟩
            · intro i hi
              rcases Nat.lt_or_ge i j with h | h
              · exact HR.out i h
              · rw [show i = j by omega]; exact hroom
            · have h1 : Below w.heap.size w (wr.alloc (.cells #[.int .i64 (P j).1, .int .i64 (P j).2] 38)) := hB1.alloc hB1.size _
              exact h1.trans (hB2.mono h1.size)
          case measure => simp [intOf]; omega
        · obtain ⟨x, hx, hput⟩ := Put_not _ _ q1 hroom
          have HP := Lib.hid hput
          clear hput
          go_wp2_with (go_at_call 14; refine (HP.out _ _ _ _).mono ?_; rintro e w2 ⟨rfl, rfl⟩)
          go_ret
          exact ⟨rfl, hB1.alloc hB1.size _⟩
      · obtain rfl : j = len0 := by omega
        go_wp2_with fail
        rename World => w2
        go_loopw [8, 41] (fun v i w3 => ∃ t : Nat, t ≤ j ∧ i = .int .i64 t ∧ v = .int .i64 (bytesUpto P t).length ∧ Below w2.heap.size w2 w3) (fun _ i _ => j - (intOf i).toNat)
        case atStart => exact ⟨0, Nat.zero_le _, rfl, rfl, Below.refl _ _⟩
        case round =>
          obtain ⟨t, ht, rfl, rfl, hB2⟩ := hrel
          rename World => w3
          have hB3 : Below w.heap.size w w3 := hB1.trans (hB2.mono hB1.size)
          have hseg3 := hseg.below hB2
          by_cases hts : t < j
          · obtain ⟨ad, rfl, hlt, hcells⟩ := w0 (by omega)
            obtain ⟨c0, c1, p1, q1⟩ := hcells t hts
            have d0 := (hB3.cell (p := ad.add (t * 2)) (by rw [block_add]; exact hlt)).trans c0
            have d1 : w3.cell? ⟨(ad.add (t * 2)).block, (ad.add (t * 2)).off + 1, none⟩ = some (.int .i64 (P t).2) := by
              rw [← add_one_, add_add]
              exact (hB3.cell (p := ad.add (t * 2 + 1)) (by rw [block_add]; exact hlt)).trans c1
            clear hcells c0 c1
            have hroom := HR.out t hts
            obtain ⟨r1, r2, r3, r4⟩ := HR.out t hts
            have HRm := Lib.hid hroom
            clear r4 hroom
            obtain ⟨r, hr⟩ := bytesUpto_pre P (t + 1) j hts
            rw [bytesUpto_succ] at hr
            have hlen : m = (bytesUpto P t).length + (P t).1.toNat + r.length := by
              have := hseg.1
              rw [hr] at this
              simp only [List.length_append, be_length] at this
              omega
            have hnum : num (((bytesUpto P j).drop (bytesUpto P t).length).take (P t).1.toNat) = (P t).2 := by
              rw [hr, List.append_assoc, List.drop_left, List.take_append_of_le_length (by rw [be_length]; omega), List.take_of_length_le (by rw [be_length]; omega)]
              exact HRm.out.num
            have hsucc : (bytesUpto P (t + 1)).length = (bytesUpto P t).length + (P t).1.toNat := by rw [bytesUpto_succ, List.length_append, be_length]
            have HS := Lib.hid hsucc
            generalize (bytesUpto P t).length = a at hlen hnum HS ⊢
            have HU := Lib.hid hnum
            have hal : (a : Int) + (P t).1 ≤ m := by omega
            clear hr hlen hnum hsucc
            have hB4 : Below w3.heap.size w3 (w3.alloc (.cells #[.int .i64 (P t).1, .int .i64 (P t).2] 38)) := (Below.refl _ _).alloc (Nat.le_refl _) _
            go_wp2_with (go_at_call 12; refine (Get_val A m m _ (a : Int) _ _ (hseg3.below hB4) (by omega) (Nat.le_refl _) (by unfold maxLen; omega) r1 r2 (by unfold Lies; omega) (P t).2 HU.out q1).mono ?_; rintro e w4 ⟨rfl, rfl⟩)
            go_roundw
            case rel => exact ⟨t + 1, by omega, by go_num, by rw [HS.out]; go_num, hB2.alloc hB2.size _⟩
            case measure => simp [intOf]; omega
          · obtain rfl : t = j := by omega
            have e := hseg.1
            simp only [e]
            clear e
            go_wp2_with (go_at_call 12; refine (Get_end _ _ _ _ _ _ (by omega) (by omega) (by omega) (by omega) (by unfold Lies; omega)).mono ?_; rintro e w4 ⟨rfl, rfl⟩)
            go_ret
            exact ⟨rfl, hB3⟩

/-! ### THE ROW's STEP -/
set_option maxRecDepth 100000 in
theorem lifted (os : Os) (started : os.Started) (H : Type) (enc : TypeId × Value → H) :
    ReturnsInHanded {} Try.checked os 8 .any (Rows.spanRowsSpec.pre6 enc Try.prog Try.f8 Rows.spanRowsRow.domain false) (Rows.spanRowsSpec.post enc Try.prog Try.f8 false true false false) := by
  refine returnsInHanded_of_change (C := Try.checked) own started (by kernel_rfl) Try.func8
    (ChangeSpec.witness6 (enc := enc) (C := Try.checked) false ⟨#[], #[.slice none 0 0], []⟩ 8 (by kernel_rfl) (by kernel_rfl) (by kernel_rfl) (by kernel_rfl)) ?_
  intro W base args ds gs before hval0 hW hcnd _
  have hval : ∀ (j : Nat) t v, Try.f8.params[j]? = some t → args[j]? = some v → Value.okWide Try.prog W .any base t v := hval0
  have hW' := hW
  obtain ⟨p, q, hA0, hV, rfl, hfz, hnd⟩ := hW
  have hA : DataW.TrodAll enc Try.prog W 0 (fun _ => true) true Try.f8.params.toList args.toList ds p := hA0
  rw [Try.params8] at hA hval
  obtain ⟨v0, vs0, d0, ds0, p0, q0, hargs, rfl, rfl, h0, r0⟩ := trodAll_cons hA
  obtain ⟨rfl, rfl, rfl⟩ := trodAll_nil r0
  obtain rfl : args = #[v0] := by cases args; simp_all
  obtain ⟨rfl, rfl⟩ := trodVars_none hV
  obtain ⟨a0, len0, cap0, rfl⟩ := okWide_slice Try.underlying37 (hval 0 37 v0 rfl rfl)
  have k0 := h0
  have lt0 : ∀ x ∈ p0, x.block < W.heap.size := by obtain ⟨m, hm⟩ := k0; exact DataW.trod_lt m _ _ _ hm
  obtain ⟨P, w0, w1, w2⟩ : ∃ P, IsPairs W a0 len0 P ∧ cap0 ≤ maxLen ∧ len0 ≤ cap0 := by
    obtain ⟨fuel, hf⟩ := h0
    rcases Deep.open_slice Try.underlying37 hf with ⟨hcs, _⟩ | ⟨x, l, c, m, n, D, Pl, hcs, _, hl, hm, hmm, _, hx⟩
    · simp [Value.cells] at hcs
      obtain ⟨rfl, rfl, rfl⟩ := hcs
      exact ⟨fun _ => (0, 0), fun h => absurd h (Nat.lt_irrefl _), by simp, by simp⟩
    · simp [Value.cells] at hcs
      obtain ⟨rfl, rfl, rfl⟩ := hcs
      have each : ∀ i, i < len0 → ∃ q : Int × Int, W.cell? (x.add (i * 2)) = some (.int .i64 q.1) ∧ W.cell? (x.add (i * 2 + 1)) = some (.int .i64 q.2) ∧ q.1 ≤ 9223372036854775807 ∧ q.2 ≤ 9223372036854775807 := by
        intro i hi
        obtain ⟨cs', g1, g2⟩ := hx i (by rw [hmm]; simp; omega)
        rw [cells38] at g1
        obtain ⟨_, hlen, hcell⟩ := World.cells?_some g1
        obtain ⟨xs, k, hk, hxy, _, hxl, hfe⟩ := DataW.trod_array Try.underlying38 g2
        match xs, hxl, cs', hlen with
        | [y0, y1], _, [v0, v1], _ =>
          have f0 := hfe 0 (by omega)
          have f1 := hfe 1 (by omega)
          simp [cells3] at f0 f1
          obtain ⟨n0, e0, _, z0⟩ := DataW.trod_int Try.underlying3 f0
          obtain ⟨n1, e1, _, z1⟩ := DataW.trod_int Try.underlying3 f1
          simp at e0 e1
          subst e0 e1
          have t0 := hcell 0 (by omega)
          have t1 := hcell 1 (by omega)
          rw [Deep.add_add] at t0 t1
          exact ⟨(n0, n1), by simpa using t0, by simpa using t1, (bounds_i64 z0).2, (bounds_i64 z1).2⟩
      obtain ⟨P, hP⟩ := Deep.choose_lt each
      refine ⟨P, fun hn => ⟨x, rfl, ?_, hP⟩, hm, hl⟩
      have := block_lt (hP 0 hn).1
      rwa [block_add] at this
  clear hA0 hval0
  refine (walk a0 len0 cap0 P W w0 w1 w2).mono fun e W' ⟨he, bel⟩ => ?_
  subst he
  exact ⟨_, rfl, _, _, _, [], _, [], hW', trodAll_mk1 (shut_bool Try.underlying4 _), (trodAll_cons_mk (Below.trod laidOut (by kernel_rfl) (of_decide_eq_true (by kernel_rfl)) k0 bel lt0) trodAll_mk0), rfl, bel.frame _, fun h => by cases h⟩

theorem over : Rows.spanRowsRow.holds Try.pinned (OpenSpec.ofChange Rows.spanRowsSpec) :=
  OpenClaim.holds_of_wide 8 Try.f8 rfl rfl rfl rfl rfl rfl rfl ⟨rfl, rfl, rfl, rfl, rfl⟩ rfl rfl rfl rfl rfl (by kernel_rfl) Try.func8 (by kernel_rfl)
    (of_decide_eq_true (by kernel_rfl)) (by unfold Func.isWrapper; first | (rw [if_pos (by decide +kernel)]; kernel_rfl) | (rw [if_neg (by decide +kernel)]; exact ⟨rfl, rfl⟩))
    (fun os started H enc _ => lifted os started H enc)

theorem proved : Rows.SpanRowsSaid := over
end Go.Proofs.Ythbhjpbcechdaaa.spanRows
