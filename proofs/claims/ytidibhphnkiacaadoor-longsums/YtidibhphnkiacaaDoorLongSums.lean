/-
  For every list of parts, whatever their bytes: LongSums returns true, and the parts read behind the call as before. No condition but that the package's two tables hold what its text lays there.
-/
import Derived.Test.YtidibhphnkiacaaDoorLaw
import Derived.Test.YtidibhphnkiacaaDoorRefSum
import Derived.Test.YtidibhphnkiacaaDoorTie
import Derived.Test.YtidibhphnkiacaaDoorCards
namespace Go.Proofs.YtidibhphnkiacaaDoor.longSums
open Go.Proofs.YtidibhphnkiacaaDoor Go.ChangeShapes Go.WideShapes Go.ChangeAt Go.RowKit
set_option linter.unusedVariables false

/-- What holds when i parts are taken: all has them, the sum under way has them; only new blocks have come. -/
def InLaw (w : World) (G B : Nat) (ps : List Part) (i : Nat) (A3 : Option Addr) (n3 cap3 : Nat) (wr : World) : Prop :=
  Row wr B 5 A3 n3 cap3 (cb (textOf (ps.take i))) ∧ Sums wr G (textOf (ps.take i)) ∧ Below w.heap.size w wr ∧ B ≤ wr.heap.size ∧ n3 ≤ 600 * i

set_option maxHeartbeats 1000000 in
theorem walk (A : Option Addr) (n cap : Nat) (ps : List Part) (w : World) (hp : Parts w A n ps) (hnil : ∀ p ∈ ps, p.A = none → p.cap = 0) (hc : n ≤ cap) (hcap : cap ≤ maxLen) (ht : Tabs w) :
    Calls Tryd.prog 3 #[.slice A n cap] w fun e w' => e = .returned (.bool true) ∧ Below w.heap.size w w' := by
  unfold maxLen at hcap
  have HP := Lib.hid hp
  have HN := Lib.hid hnil
  have HT := Lib.hid ht
  clear hp hnil ht
  obtain ⟨i0, hi0, hz0, hz1, hz2⟩ := info_parts byteInfo
  have HI := Lib.hid hi0
  have HZ0 := Lib.hid hz0
  have HZ1 := Lib.hid hz1
  have HZ2 := Lib.hid hz2
  clear hi0 hz0 hz1 hz2
  by_cases h40 : n ≤ 40
  · go_enter Tryd.func3, Tryd.ntmps3
    go_wp2_with fail
    refine (anchor_any _ HT.out).mono ?_
    rintro e w1 ⟨rfl, hb1⟩
    have hs1 := hb1.size
    go_wp2_with fail
    refine (New_any w1 (HT.out.below hb1)).mono ?_
    rintro e w2 ⟨rfl, hsm2, hb2⟩
    have hs2 := hsm2.lt
    have HF : Hid (InLaw w w1.heap.size w2.heap.size ps 0 none 0 0 w2) := ⟨Row.nil _ _ _, hsm2, hb1.trans (hb2.mono hs1), Nat.le_refl _, Nat.zero_le _⟩
    have hG : 1 < w1.heap.size := by have := HT.out.lt; omega
    clear hsm2 hb2 hb1
    go_wp2
    go_loopw [16, 3] (fun j v wr => ∃ (i : Nat) (A3 : Option Addr) (n3 cap3 : Nat), i ≤ n ∧ j = .int .i64 i ∧ v = .slice A3 n3 cap3 ∧ InLaw w w1.heap.size w2.heap.size ps i A3 n3 cap3 wr) (fun j _ _ => n - (intOf j).toNat)
    case atStart => exact ⟨0, none, 0, 0, by omega, rfl, rfl, HF.out⟩
    case round =>
      obtain ⟨i, A3, n3, cap3, hi, rfl, rfl, hin⟩ := hrel
      obtain ⟨hr3, hsm3, hb3, hB3, hn3⟩ := hin
      have HR3 := Lib.hid hr3
      have HS3 := Lib.hid hsm3
      clear hr3 hsm3 HF
      have bn3 : n3 ≤ 24000 := by omega
      by_cases hin : i < n
      · have hps := HP.out.below hb3
        obtain ⟨p, hpi⟩ : ∃ p, ps[i]? = some p := ⟨_, List.getElem?_eq_getElem (by rw [HP.out.1]; exact hin)⟩
        have hpm := List.mem_of_getElem? hpi
        obtain ⟨ad, hA, had, hcell⟩ := hps.2.1 (by omega)
        have hcl := hcell i p hpi
        obtain ⟨hseg, hpc, hpcap⟩ := hps.2.2 p hpm
        have HSEG := Lib.hid hseg
        have HPI := Lib.hid hpi
        have HNIL := Lib.hid (HN.out p hpm)
        have HSW := Lib.hid (HP.out.2.2 p hpm).1
        clear hcell hps hseg hpi hpm
        subst hA
        by_cases h600 : p.n ≤ 600
        · have hsrc : (p.A = none ∧ p.cap = 0) ∨ ∃ ad, p.A = some ad ∧ ∀ j u, (cb p.l)[j]? = some u → wr.cell? (ad.add j) = some u := by
            rcases hpa : p.A with _ | ad
            · exact .inl ⟨rfl, HNIL.out hpa⟩
            · refine .inr ⟨ad, rfl, fun j u hu => ?_⟩
              have hj := (List.getElem?_eq_some_iff.1 hu).1
              rw [cb_length, HSEG.out.1] at hj
              obtain ⟨ad', e, hlt, hc⟩ := HSEG.out.2 (by omega)
              rw [hpa] at e
              injection e with e
              subst e
              exact hc j u hu
          have hm0 : p.A = none → p.n = 0 := by
            intro e
            rcases Nat.eq_zero_or_pos p.n with h0 | h0
            · exact h0
            · obtain ⟨ad, e', _⟩ := HSEG.out.2 h0
              rw [e] at e'
              cases e'
          have hlen : (cb p.l).length = p.n := by rw [cb_length]; exact HSEG.out.1
          obtain ⟨N, hN⟩ : ∃ N, n3 + p.n = N := ⟨_, rfl⟩
          have HNN := Lib.hid hN
          have HSRC := Lib.hid hsrc
          have HM0 := Lib.hid hm0
          have HLEN := Lib.hid hlen
          have bN : n3 + p.n ≤ 1000000 := by omega
          clear hsrc hm0 hlen hN
          go_wp2_with (first
            | ((with_reducible refine at_dst (some 25) ?_); refine wpList_app (o := ⟨some 25, _, _, _, _, _⟩) rfl (.tmp 23) (.tmp 24) 24 5 rfl Tryd.underlying24 HI.out HZ0.out HZ1.out HZ2.out rfl (by omega) (Below.refl w2.heap.size wr) hB3 rfl HR3.out rfl HLEN.out HSRC.out (cb_one p.l) HM0.out bN N HNN.out ?_; intro A4 cap4 w4 hr4 hb4 hB4))
          have hs4 := hb4.size
          have sm4 : Sums w4 w1.heap.size (textOf (ps.take i)) := HS3.out.below hb4 hs2
          have sg4 : Seg w4 p.A p.n p.l := HSW.out.below (hb3.trans (hb4.mono (by omega)))
          have ap : Apart p.A p.n w1.heap.size := by
            intro hn0 a ha
            obtain ⟨a', e', hlt', _⟩ := HSW.out.2 hn0
            rw [ha] at e'
            injection e' with e'
            rw [e']
            omega
          have hlt : (textOf (ps.take i)).length < 1099511627776 := by
            have := HR3.out.length
            rw [cb_length] at this
            omega
          have hb34 : Below w.heap.size w w4 := hb3.trans (hb4.mono (by omega))
          refine (Write_any w1.heap.size (textOf (ps.take i)) p.l p.A p.n p.cap w4 sm4 sg4 ap hpc (by omega) hlt (HT.out.below hb34) hG).mono ?_
          rintro e w5 ⟨rfl, hsm5, hg5⟩
          have hin5 : InLaw w w1.heap.size w2.heap.size ps (i + 1) A4 N cap4 w5 := by
            have hs5 := hg5.size
            refine ⟨?_, ?_, below_only hb34 hg5 hb34.size (by intro j hj; injection hj; omega), by omega, ?_⟩
            · rw [textOf_snoc ps i p HPI.out]
              have := hr4.out
              rw [show cb (textOf (ps.take i)) ++ cb p.l = cb (textOf (ps.take i) ++ p.l) by simp [cb]] at this
              refine this.grown hg5 (fun ad ha => ?_)
              have := this.lt ad ha
              omega
            · rw [textOf_snoc ps i p HPI.out]
              exact hsm5
            · have := HNN.out
              omega
          have HIN5 := Lib.hid hin5
          clear hin5 hsm5 hg5 sm4 sg4 ap hlt hb34 hr4 hb4
          go_wp2
          go_roundw
          case rel => exact ⟨i + 1, A4, N, cap4, by omega, by go_num, rfl, HIN5.out⟩
          case measure => simp [intOf]; omega
        · have h601 : ¬ p.n ≤ 600 := h600
          go_wp2
          go_ret
          exact ⟨rfl, hb3⟩
      · have eT : textOf (ps.take i) = textOf ps := by rw [List.take_of_length_le (by rw [HP.out.1]; omega)]
        have hr := HR3.out
        have hsm := HS3.out
        rw [eT] at hr hsm
        have hlen := hr.length
        rw [cb_length] at hlen
        have HR := Lib.hid hr
        have HSM := Lib.hid hsm
        have HLEN := Lib.hid hlen
        have blen : (textOf ps).length ≤ 24000 := by omega
        clear eT hr hsm hlen HR3 HS3
        go_wp2_with fail
        refine (refSum_any A3 n3 cap3 (textOf ps) _ HR.out.seg HR.out.nilcap (by omega)).mono ?_
        rintro e w5 ⟨A5, cap5, rfl, hr5, hb5⟩
        have s5 := hb5.size
        have k1 := hr5.seg.str cap5
        have b5 : Below w.heap.size w w5 := hb3.trans (hb5.mono hb3.size)
        clear hr5
        go_wp2_with fail
        refine (Of_any A n cap ps w5 (HP.out.below b5) (by omega) (by omega) (HT.out.below b5)).mono ?_
        rintro e w6 ⟨g6, rfl, hg6, hbk6, hb6⟩
        have s6 := hb6.size
        have k2 := hbk6.str 64 64 rfl
        have b6 : Below w.heap.size w w6 := b5.trans (hb6.mono b5.size)
        have sm6 : Sums w6 w1.heap.size (textOf ps) := (HSM.out.below hb5 (by omega)).below hb6 (by omega)
        clear k1 hbk6
        go_wp2_with fail
        refine (Sum_any w1.heap.size (textOf ps) w6 sm6 (by omega) (HT.out.below b6) hG).mono ?_
        rintro e w7 ⟨g7, rfl, hg7, hbk7, hb7⟩
        have s7 := hb7.size
        have k3 := hbk7.str 64 64 rfl
        have b7 : Below w.heap.size w w7 := b6.trans (hb7.mono b6.size)
        have sg7 : Seg w7 A3 n3 (textOf ps) := ((HR.out.seg.below hb5).below hb6).below hb7
        clear k2 hbk7 sm6
        go_wp2_with fail
        have hp8 := parts_new w7 [⟨A3, n3, cap3, textOf ps⟩] (fun p hp => by obtain rfl := List.mem_singleton.1 hp; exact ⟨sg7, HR.out.le.1⟩)
        have b8 : Below w.heap.size w (w7.alloc (.cells #[.slice A3 n3 cap3] 24)) := b7.alloc b7.size _
        refine (Of_any _ 1 1 [⟨A3, n3, cap3, textOf ps⟩] _ hp8 (by omega) (by rw [textOf_one]; show (textOf ps).length < 100000; omega) (HT.out.below b8)).mono ?_
        rintro e w9 ⟨g9, rfl, hg9, hbk9, hb9⟩
        rw [textOf_one] at hbk9
        have k4 := hbk9.str 64 64 rfl
        have b9 : Below w.heap.size w w9 := b8.trans (hb9.mono b8.size)
        clear k3 hbk9 hp8 sg7
        go_wp2
        go_ret
        exact ⟨rfl, b9⟩
  · go_enter Tryd.func3, Tryd.ntmps3
    go_wp2_with fail
    refine (anchor_any _ HT.out).mono ?_
    rintro e w1 ⟨rfl, hb1⟩
    go_wp2
    go_ret
    exact ⟨rfl, hb1⟩

-- THE ROW's STEP
set_option maxRecDepth 100000 in
theorem lifted (os : Os) (started : os.Started) (H : Type) (enc : TypeId × Value → H) :
    ReturnsInHanded {} Tryd.checked os 3 .any (fun w args => (Rows.longSumsSpec.pre enc Tryd.prog Tryd.f3 [] false w args ∧ laidMetH Tryd.prog listed w) ∧ sizedMet enc Tryd.prog Tryd.f3 (OpenSpec.ofChange Rows.longSumsSpec) false w args)
      (Rows.longSumsSpec.post enc Tryd.prog Tryd.f3 false true false false) := by
  refine returnsInHanded_of_change_and (C := Tryd.checked) (X := fun w _ => laidMetH Tryd.prog listed w) (fun _ _ _ hh h => h.of_heap hh) own started (by kernel_rfl) Tryd.func3
    (ChangeSpec.witness_shaped (enc := enc) (C := Tryd.checked) (os := os) (X := fun w _ => laidMetH Tryd.prog listed w) false (World.doorLaid Tryd.prog 19 os) #[.slice none 0 0] 8 rfl (World.shaped_of_RefB (by kernel_rfl) (by kernel_rfl)) (by kernel_rfl) (by kernel_rfl) (by kernel_rfl) (door_met os _)) ?_
  intro W base args ds gs before hval0 hW _ _ hL _
  have hval : ∀ (j : Nat) t v, Tryd.f3.params[j]? = some t → args[j]? = some v → Value.okWide Tryd.prog W .any base t v := hval0
  have hW' := hW
  obtain ⟨p, q, hA0, hV, rfl, hfz, hnd⟩ := hW
  have hA : DataW.TrodAll enc Tryd.prog W 0 (fun _ => true) true Tryd.f3.params.toList args.toList ds p := hA0
  rw [Tryd.params3] at hA hval
  obtain ⟨v0, vs0, d0, ds0, p0, q0, hargs, rfl, rfl, h0, r0⟩ := trodAll_cons hA
  obtain ⟨rfl, rfl, rfl⟩ := trodAll_nil r0
  obtain rfl : args = #[v0] := by cases args; simp_all
  obtain ⟨rfl, rfl⟩ := trodVars_none hV
  have k0 := h0
  have lt0 : ∀ x ∈ p0, x.block < W.heap.size := by obtain ⟨m, hm⟩ := k0; exact DataW.trod_lt m _ _ _ hm
  obtain ⟨fuel0, hf0⟩ := h0
  obtain ⟨a0, len0, cap0, l0, e0, g0, hlc0, hcm0, hnil0⟩ := parts_of_trod hf0
  obtain ⟨b0, lb0, cb0, hv0⟩ := okWide_slice Tryd.underlying22 (hval 0 22 v0 rfl rfl)
  have ev0 : v0 = .slice a0 len0 cap0 := by rw [hv0] at e0 ⊢; simpa [Value.cells] using e0
  subst ev0
  clear hA0 hval0
  refine (walk a0 len0 cap0 l0 W g0 hnil0 hlc0 hcm0 (tabs_of_laid hL)).mono fun e W' ⟨he, bel⟩ => ?_
  subst he
  exact ⟨_, rfl, _, _, _, [], _, [], hW', trodAll_mk1 (shut_bool Tryd.underlying4 _), (trodAll_cons_mk (Below.trod laidOut (by kernel_rfl) (of_decide_eq_true (by kernel_rfl)) k0 bel lt0) trodAll_mk0), rfl, bel.frame _, fun h => by cases h⟩

theorem row_holds : Rows.LongSumsSaid :=
  OpenClaim.holds_of_wide 3 Tryd.f3 rfl rfl rfl rfl rfl rfl rfl ⟨rfl, rfl, rfl, rfl, rfl⟩ rfl rfl rfl rfl rfl (by kernel_rfl) Tryd.func3 (by kernel_rfl)
    (of_decide_eq_true (by kernel_rfl)) (by unfold Func.isWrapper; first | (rw [if_pos (by decide +kernel)]; kernel_rfl) | (rw [if_neg (by decide +kernel)]; exact ⟨rfl, rfl⟩))
    (fun os started H enc _ => lifted os started H enc)

theorem proved : Rows.LongSumsCardSaid :=
  Claim7.holds_tied_plain_at .later [] [.data, .data] true Rows.longSumsCard.stood.harness false
    row_holds (fun _ h => by cases h) (by kernel_rfl) (fun _ h => by cases h) longSums_row_tie rfl ⟨rfl, rfl⟩ (by kernel_rfl) rfl
    (fun f fn hf hfn => by
      obtain rfl : f = 3 := Option.some.inj ((show Tryd.prog.funcNamed Tryd.f3.name = some 3 by kernel_rfl).symm.trans hf) |>.symm
      obtain rfl : fn = Tryd.f3 := (Option.some.inj (Tryd.func3.symm.trans hfn)).symm
      exact ⟨by kernel_rfl, fun j t ht => by
        rw [Tryd.params3] at ht
        have h3 : t = 22 := by
          rcases j with _ | j
          · simpa using ht.symm
          · simp at ht
        subst h3
        exact (show Tryd.prog.wantsStandIn 22 = false by kernel_rfl)⟩)
    (by kernel_rfl)
end Go.Proofs.YtidibhphnkiacaaDoor.longSums
