/-
  For every three numbers LongEdges returns true. No condition but that the package's two tables hold what its text lays there.
-/
import Derived.Test.YtidibhphnkiacaaDoorLaw
import Derived.Test.YtidibhphnkiacaaDoorRefSum
import Derived.Test.YtidibhphnkiacaaDoorTie
import Derived.Test.YtidibhphnkiacaaDoorCards
import Derived.Test.YtidibhphnkiacaaDoorStep
namespace Go.Proofs.YtidibhphnkiacaaDoor.longEdges
open Go.Proofs.YtidibhphnkiacaaDoor Go.ChangeShapes Go.WideShapes Go.ChangeAt Go.RowKit
set_option linter.unusedVariables false

set_option maxHeartbeats 400000 in
theorem walk_out (a0 a1 a2 : Int) (w : World) (ht : Tabs w)
    (h : a0 < 0 ∨ (0 ≤ a0 ∧ 6 < a0) ∨ (0 ≤ a0 ∧ a0 ≤ 6 ∧ a1 < -18) ∨ (0 ≤ a0 ∧ a0 ≤ 6 ∧ -18 ≤ a1 ∧ 18 < a1) ∨ (0 ≤ a0 ∧ a0 ≤ 6 ∧ -18 ≤ a1 ∧ a1 ≤ 18 ∧ a2 < 0) ∨ (0 ≤ a0 ∧ a0 ≤ 6 ∧ -18 ≤ a1 ∧ a1 ≤ 18 ∧ 0 ≤ a2 ∧ 255 < a2) ∨ (0 ≤ a0 ∧ a0 ≤ 6 ∧ -18 ≤ a1 ∧ a1 ≤ 18 ∧ 0 ≤ a2 ∧ a2 ≤ 255 ∧ 128 * a0 + a1 < 0)) :
    Calls Tryd.prog 5 #[.int .i64 a0, .int .i64 a1, .int .i64 a2] w fun e w' => e = .returned (.bool true) ∧ Below w.heap.size w w' := by
  have HT := Lib.hid ht
  clear ht
  rcases h with h | ⟨h0, h⟩ | ⟨h0, h1, h⟩ | ⟨h0, h1, h2, h⟩ | ⟨h0, h1, h2, h3, h⟩ | ⟨h0, h1, h2, h3, h4, h⟩ | ⟨h0, h1, h2, h3, h4, h5, h⟩
  all_goals
    go_enter Tryd.func5, Tryd.ntmps5
    go_wp2_with fail
    refine (anchor_any _ HT.out).mono ?_
    rintro e w1 ⟨rfl, hb1⟩
    go_wp2
    go_ret
    exact ⟨rfl, hb1⟩

set_option maxHeartbeats 1000000 in
theorem walk_in (a0 a1 a2 : Int) (w : World) (ht : Tabs w) (h0 : 0 ≤ a0) (h1 : a0 ≤ 6) (h2 : -18 ≤ a1) (h3 : a1 ≤ 18) (h4 : 0 ≤ a2) (h5 : a2 ≤ 255) (h6 : 0 ≤ 128 * a0 + a1) :
    Calls Tryd.prog 5 #[.int .i64 a0, .int .i64 a1, .int .i64 a2] w fun e w' => e = .returned (.bool true) ∧ Below w.heap.size w w' := by
  have HT := Lib.hid ht
  clear ht
  obtain ⟨L, hL⟩ : ∃ L : Nat, 128 * a0 + a1 = (L : Int) := ⟨(128 * a0 + a1).toNat, by omega⟩
  have hL1 : L ≤ 1000 := by omega
  have hL2 : L ≤ 100000 := by omega
  have HL := Lib.hid hL
  obtain ⟨b, hb⟩ : ∃ b : UInt8, a2 = ub b := ⟨UInt8.ofNat a2.toNat, by unfold ub; rw [UInt8.toNat_ofNat']; omega⟩
  have HBY := Lib.hid hb
  have hG := HT.out.lt
  clear hL hb
  go_enter Tryd.func5, Tryd.ntmps5
  go_wp2_with fail
  refine (anchor_any _ HT.out).mono ?_
  rintro e w1 ⟨rfl, hb1⟩
  have hs1 := hb1.size
  go_wp2_with (first
    | ((with_reducible refine at_dst (some 45) ?_); refine wpList_makeBytes (o := ⟨some 45, _, _, _, _, _⟩) rfl (.tmp 44) (.tmp 44) rfl _ _ rfl rfl L HL.out hL2 ?_; intro w2 hb2 hbel2 hs2))
  have K0 : Blk w2 w1.heap.size 5 (cb (List.replicate 0 b ++ List.replicate (L - 0) 0)) := hb2.out
  have HK0 := Lib.hid K0
  clear K0 hb2
  go_loopw [48] (fun i wr => ∃ k : Nat, k ≤ L ∧ i = .int .i64 k ∧ Blk wr w1.heap.size 5 (cb (List.replicate k b ++ List.replicate (L - k) 0)) ∧ Below w1.heap.size w1 wr) (fun i _ => L - (intOf i).toNat)
  case atStart => exact ⟨0, by omega, rfl, HK0.out, hbel2⟩
  case round =>
    obtain ⟨k, hk, rfl, hbk, hbe⟩ := hrel
    have HBK := Lib.hid hbk
    clear hbk HK0
    by_cases hkL : k < L
    · have hc := (HBK.out.cell k).trans (cb_get _ k (by simp; omega))
      have hf := HBK.out.frozen k
      have hconv : a2 % 256 = ub b := by rw [HBY.out]; have := ub_lo b; have := ub_hi b; omega
      have HCONV := Lib.hid hconv
      clear hconv
      go_wp2
      go_roundw
      case rel =>
        refine ⟨k + 1, by omega, by go_num, ?_, hbe.setCell (Nat.le_refl _) _⟩
        have := HBK.out.set_ k (.int .u8 (ub b))
        rw [cb_set, List.set_append_right _ _ (by simp), List.length_replicate, Nat.sub_self, show L - k = (L - (k + 1)) + 1 by omega, List.replicate_succ, List.set_cons_zero] at this
        have e : List.replicate k b ++ b :: List.replicate (L - (k + 1)) 0 = List.replicate (k + 1) b ++ List.replicate (L - (k + 1)) 0 := by
          rw [List.replicate_succ', List.append_assoc]; rfl
        rw [e] at this
        first
        | (rw [HCONV.out]; exact this)
        | (rw [HBY.out]; exact this)
      case measure => simp [intOf]; omega
    · have ek : k = L := by omega
      have hbk := HBK.out
      rw [ek, Nat.sub_self, List.replicate_zero, List.append_nil] at hbk
      have HB := Lib.hid hbk
      have hse := hbe.size
      clear hbk HBK
      go_wp2_with fail
      have sg := HB.out.seg L (by simp)
      have hp := parts_new wr [⟨some ⟨w1.heap.size, 0, none⟩, L, L, List.replicate L b⟩] (fun p hp => by obtain rfl := List.mem_singleton.1 hp; exact ⟨sg, Nat.le_refl _⟩)
      have b3 : Below w.heap.size w wr := hb1.trans (hbe.mono hs1)
      have b4 : Below w.heap.size w (wr.alloc (.cells #[.slice (some ⟨w1.heap.size, 0, none⟩) L L] 24)) := b3.alloc b3.size _
      refine (Of_any _ 1 1 [⟨some ⟨w1.heap.size, 0, none⟩, L, L, List.replicate L b⟩] _ hp (by omega) (by rw [textOf_one]; simp; omega) (HT.out.below b4)).mono ?_
      rintro e w5 ⟨g5, rfl, hg5, hbk5, hb5⟩
      rw [textOf_one] at hbk5
      have b5 : Below w.heap.size w w5 := b4.trans (hb5.mono b4.size)
      have sg5 : Seg w5 (some ⟨w1.heap.size, 0, none⟩) L (List.replicate L b) := (sg.below ((Below.refl _ _).alloc (Nat.le_refl _) _)).below hb5
      have HBK5 := Lib.hid hbk5
      have HSG5 := Lib.hid sg5
      clear hp sg b4 hbk5 sg5
      go_wp2
      rename_i hKx
      refine wp_region_each (by kernel_rfl) (by kernel_rfl) (fun i v w => match i with
          | 0 => v = .slice (some ⟨g5, 0, none⟩) 64 64
          | 1 => v = .int .i64 64
          | 2 => v = .bool true
          | 3 => v = .bool true
          | 4 => v = .bool true
          | 5 => v = .bool true
          | 6 => v = .slice (some ⟨g5, 0, none⟩) 64 64
          | 7 => v = .string (str (sha (List.replicate L b)))
          | 8 => v = .slice (some ⟨w1.heap.size, 0, none⟩) L L
          | 9 => ∃ A cap, v = .slice A 64 cap ∧ Seg w A 64 (sha (List.replicate L b))
          | 10 => v = .string (str (sha (List.replicate L b)))
          | 11 => v = .bool true
          | 12 => v = .bool true
          | 13 => v = .bool true
          | _ => True) (fun u => Below w5.heap.size w5 u) ?m1 (fun _ _ h1 h2 => h1.trans (h2.mono h1.size)) ⟨rfl, rfl, rfl, Nat.le_refl _, fun _ _ => rfl⟩ ?m2 ?m3
      case m1 =>
        intro i v w w' h hr hb
        rcases i with _ | _ | _ | _ | _ | _ | _ | _ | _ | _ | _ | _ | _ | _ | i
        · exact h
        · exact h
        · exact h
        · exact h
        · exact h
        · exact h
        · exact h
        · exact h
        · exact h
        · obtain ⟨A, cap, e, hk⟩ := h; exact ⟨A, cap, e, hk.below hb⟩
        · exact h
        · exact h
        · exact h
        · exact h
        · trivial
      case m2 =>
        intro i o ho a w hr hk hpre K hK
        have e9 : a.tmps.getD 9 undef = .slice (some ⟨g5, 0, none⟩) 64 64 := hk.slot 9 (by simp)
        have e7 : a.tmps.getD 7 undef = .slice (some ⟨w1.heap.size, 0, none⟩) L L := hk.slot 7 (by simp)
        rcases i with _ | _ | _ | _ | _ | _ | _ | _ | _ | _ | _ | _ | _ | _ | i
        · obtain rfl := Option.some.inj ho
          exact st_move (.tmp 9) rfl (want_none rfl) _ e9 (hK _ _ rfl (Below.refl _ _))
        · obtain rfl := Option.some.inj ho
          exact st_len (.tmp 60) rfl (want_none rfl) _ _ _ (hpre 0 _ 60 rfl rfl ⟨⟨0, .data⟩, by simp, rfl, rfl⟩) (hK _ _ rfl (Below.refl _ _))
        · obtain rfl := Option.some.inj ho
          exact st_eqlInt (.tmp 61) (.const (.int .i64 64)) rfl (want_none rfl) _ _ (hpre 1 _ 61 rfl rfl ⟨⟨1, .data⟩, by simp, rfl, rfl⟩) rfl (hK _ _ rfl (Below.refl _ _))
        · obtain rfl := Option.some.inj ho
          exact st_move (.tmp 62) rfl (want_none rfl) _ (hpre 2 _ 62 rfl rfl ⟨⟨2, .data⟩, by simp, rfl, rfl⟩) (hK _ _ rfl (Below.refl _ _))
        · obtain rfl := Option.some.inj ho
          exact st_pick (.tmp 63) (.const (.bool true)) (.const (.bool false)) rfl (want_none rfl) true (hpre 3 _ 63 rfl rfl ⟨⟨3, .data⟩, by simp, rfl, rfl⟩) _ ((if_pos rfl).trans rfl) (hK _ _ rfl (Below.refl _ _))
        · obtain rfl := Option.some.inj ho
          exact st_move (.tmp 64) rfl (want_none rfl) _ (hpre 4 _ 64 rfl rfl ⟨⟨4, .data⟩, by simp, rfl, rfl⟩) (hK _ _ rfl (Below.refl _ _))
        · obtain rfl := Option.some.inj ho
          exact st_move (.tmp 9) rfl (want_some rfl rfl rfl (hpre 5 _ 65 rfl rfl ⟨⟨5, .guard⟩, by simp, rfl, rfl⟩)) _ e9 (hK _ _ rfl (Below.refl _ _))
        · obtain rfl := Option.some.inj ho
          exact st_conv (.tmp 66) rfl (want_some rfl rfl rfl (hpre 5 _ 65 rfl rfl ⟨⟨5, .guard⟩, by simp, rfl, rfl⟩)) _ _ _ _ (hpre 6 _ 66 rfl rfl ⟨⟨6, .data⟩, by simp, rfl, rfl⟩) ((HBK5.out.below hr (Blk.lt HBK5.out)).seg 64 rfl) (hK _ _ rfl (Below.refl _ _))
        · obtain rfl := Option.some.inj ho
          exact st_move (.tmp 7) rfl (want_some rfl rfl rfl (hpre 5 _ 65 rfl rfl ⟨⟨5, .guard⟩, by simp, rfl, rfl⟩)) _ e7 (hK _ _ rfl (Below.refl _ _))
        · obtain rfl := Option.some.inj ho
          exact st_call1 11 (.tmp 68) 24 rfl (want_some rfl rfl rfl (hpre 5 _ 65 rfl rfl ⟨⟨5, .guard⟩, by simp, rfl, rfl⟩)) _ (hpre 8 _ 68 rfl rfl ⟨⟨8, .data⟩, by simp, rfl, rfl⟩) (cf11 _ _) _ (refSum_any (some ⟨w1.heap.size, 0, none⟩) L L (List.replicate L b) w (HSG5.out.below hr) (fun e => by cases e) (by omega)) (fun e w' ⟨A', cap', he, hr', hb⟩ => ⟨_, he, hK _ _ ⟨A', cap', rfl, hr'.seg⟩ hb⟩)
        · obtain rfl := Option.some.inj ho
          obtain ⟨A, cap, eg, hs⟩ := (hpre 9 _ 69 rfl rfl ⟨⟨9, .data⟩, by simp, rfl, rfl⟩)
          exact st_conv (.tmp 69) rfl (want_some rfl rfl rfl (hpre 5 _ 65 rfl rfl ⟨⟨5, .guard⟩, by simp, rfl, rfl⟩)) _ _ _ _ eg hs (hK _ _ rfl (Below.refl _ _))
        · obtain rfl := Option.some.inj ho
          exact st_eqlStr (.tmp 67) (.tmp 70) rfl (want_some rfl rfl rfl (hpre 5 _ 65 rfl rfl ⟨⟨5, .guard⟩, by simp, rfl, rfl⟩)) _ (hpre 7 _ 67 rfl rfl ⟨⟨7, .data⟩, by simp, rfl, rfl⟩) (hpre 10 _ 70 rfl rfl ⟨⟨10, .data⟩, by simp, rfl, rfl⟩) (hK _ _ rfl (Below.refl _ _))
        · obtain rfl := Option.some.inj ho
          exact st_pick (.tmp 65) (.tmp 71) (.const (.bool false)) rfl (want_none rfl) true (hpre 5 _ 65 rfl rfl ⟨⟨5, .data⟩, by simp, rfl, rfl⟩) _ ((if_pos rfl).trans (hpre 11 _ 71 rfl rfl ⟨⟨11, .data⟩, by simp, rfl, rfl⟩)) (hK _ _ rfl (Below.refl _ _))
        · obtain rfl := Option.some.inj ho
          exact st_assign (.tmp 72) rfl (want_none rfl) _ (hpre 12 _ 72 rfl rfl ⟨⟨12, .data⟩, by simp, rfl, rfl⟩) (hK _ _ rfl (Below.refl _ _))
        · cases ho
      case m3 =>
        intro a w hr hk hv
        have h6 := hv 13 _ 6 rfl rfl
        refine hKx a w (wp_ret (bodyPost_ret (results_tmp rfl _ _ _) hk.defers ⟨?_, b5.trans (hr.mono b5.size)⟩))
        exact congrArg Ending.returned h6

theorem walk (a0 a1 a2 : Int) (w : World) (w0 : (Lit.int .i64 a0).wf = true) (w1 : (Lit.int .i64 a1).wf = true) (w2 : (Lit.int .i64 a2).wf = true) (ht : Tabs w) :
    Calls Tryd.prog 5 #[.int .i64 a0, .int .i64 a1, .int .i64 a2] w fun e w' => e = .returned (.bool true) ∧ Below w.heap.size w w' := by
  by_cases h : 0 ≤ a0 ∧ a0 ≤ 6 ∧ -18 ≤ a1 ∧ a1 ≤ 18 ∧ 0 ≤ a2 ∧ a2 ≤ 255 ∧ 0 ≤ 128 * a0 + a1
  · obtain ⟨h0, h1, h2, h3, h4, h5, h6⟩ := h
    exact walk_in a0 a1 a2 w ht h0 h1 h2 h3 h4 h5 h6
  · exact walk_out a0 a1 a2 w ht (by omega)

-- THE ROW's STEP
set_option maxRecDepth 100000 in
theorem lifted (os : Os) (started : os.Started) (H : Type) (enc : TypeId × Value → H) :
    ReturnsInHanded {} Tryd.checked os 5 .any (fun w args => (Rows.longEdgesSpec.pre enc Tryd.prog Tryd.f5 [] false w args ∧ laidMetH Tryd.prog listed w) ∧ sizedMet enc Tryd.prog Tryd.f5 (OpenSpec.ofChange Rows.longEdgesSpec) false w args)
      (Rows.longEdgesSpec.post enc Tryd.prog Tryd.f5 false true false false) := by
  refine returnsInHanded_of_change_and (C := Tryd.checked) (X := fun w _ => laidMetH Tryd.prog listed w) (fun _ _ _ hh h => h.of_heap hh) own started (by kernel_rfl) Tryd.func5
    (ChangeSpec.witness_shaped (enc := enc) (C := Tryd.checked) (os := os) (X := fun w _ => laidMetH Tryd.prog listed w) false (World.doorLaid Tryd.prog 19 os) #[.int .i64 0, .int .i64 0, .int .i64 0] 8 rfl (World.shaped_of_RefB (by kernel_rfl) (by kernel_rfl)) (by kernel_rfl) (by kernel_rfl) (by kernel_rfl) (door_met os _)) ?_
  intro W base args ds gs before hval0 hW _ _ hL _
  have hval : ∀ (j : Nat) t v, Tryd.f5.params[j]? = some t → args[j]? = some v → Value.okWide Tryd.prog W .any base t v := hval0
  have hW' := hW
  obtain ⟨p, q, hA0, hV, rfl, hfz, hnd⟩ := hW
  have hA : DataW.TrodAll enc Tryd.prog W 0 (fun _ => true) true Tryd.f5.params.toList args.toList ds p := hA0
  rw [Tryd.params5] at hA hval
  obtain ⟨v0, vs0, d0, ds0, p0, q0, hargs, rfl, rfl, h0, r0⟩ := trodAll_cons hA
  obtain ⟨v1, vs1, d1, ds1, p1, q1, rfl, rfl, rfl, h1, r1⟩ := trodAll_cons r0
  obtain ⟨v2, vs2, d2, ds2, p2, q2, rfl, rfl, rfl, h2, r2⟩ := trodAll_cons r1
  obtain ⟨rfl, rfl, rfl⟩ := trodAll_nil r2
  obtain rfl : args = #[v0, v1, v2] := by cases args; simp_all
  obtain ⟨rfl, rfl⟩ := trodVars_none hV
  obtain ⟨a0, rfl, rfl, rfl, w0⟩ := open_int Tryd.underlying3 (hval 0 3 v0 rfl rfl) h0
  obtain ⟨a1, rfl, rfl, rfl, w1⟩ := open_int Tryd.underlying3 (hval 1 3 v1 rfl rfl) h1
  obtain ⟨a2, rfl, rfl, rfl, w2⟩ := open_int Tryd.underlying3 (hval 2 3 v2 rfl rfl) h2
  clear hA0 hval0
  refine (walk a0 a1 a2 W w0 w1 w2 (tabs_of_laid hL)).mono fun e W' ⟨he, bel⟩ => ?_
  subst he
  exact ⟨_, rfl, _, _, _, [], _, [], hW', trodAll_mk1 (shut_bool Tryd.underlying4 _), (trodAll_cons_mk (shut_int Tryd.underlying3 w0) (trodAll_cons_mk (shut_int Tryd.underlying3 w1) (trodAll_cons_mk (shut_int Tryd.underlying3 w2) trodAll_mk0))), rfl, bel.frame _, fun h => by cases h⟩

theorem row_holds : Rows.LongEdgesSaid :=
  OpenClaim.holds_of_wide 5 Tryd.f5 rfl rfl rfl rfl rfl rfl rfl ⟨rfl, rfl, rfl, rfl, rfl⟩ rfl rfl rfl rfl rfl (by kernel_rfl) Tryd.func5 (by kernel_rfl)
    (of_decide_eq_true (by kernel_rfl)) (by unfold Func.isWrapper; first | (rw [if_pos (by decide +kernel)]; kernel_rfl) | (rw [if_neg (by decide +kernel)]; exact ⟨rfl, rfl⟩))
    (fun os started H enc _ => lifted os started H enc)

theorem proved : Rows.LongEdgesCardSaid :=
  Claim7.holds_tied_plain_at .later [] [.data, .data] true Rows.longEdgesCard.stood.harness false
    row_holds (fun _ h => by cases h) (by kernel_rfl) (fun _ h => by cases h) longEdges_row_tie rfl ⟨rfl, rfl⟩ (by kernel_rfl) rfl
    (fun f fn hf hfn => by
      obtain rfl : f = 5 := Option.some.inj ((show Tryd.prog.funcNamed Tryd.f5.name = some 5 by kernel_rfl).symm.trans hf) |>.symm
      obtain rfl : fn = Tryd.f5 := (Option.some.inj (Tryd.func5.symm.trans hfn)).symm
      exact ⟨by kernel_rfl, fun j t ht => by
        rw [Tryd.params5] at ht
        have h3 : t = 3 := by
          match j, ht with
          | 0, ht => simpa using ht.symm
          | 1, ht => simpa using ht.symm
          | 2, ht => simpa using ht.symm
          | j + 3, ht => simp at ht
        subst h3
        exact (show Tryd.prog.wantsStandIn 3 = false by kernel_rfl)⟩)
    (by kernel_rfl)
end Go.Proofs.YtidibhphnkiacaaDoor.longEdges
