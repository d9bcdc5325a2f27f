/-
  For every list of parts, whatever their bytes: LongGoes returns true, and the parts read behind the call as before. No condition but that the package's two tables hold what its text lays there.
-/
import Derived.Test.YtidibhphnkiacaaDoorLaw
import Derived.Test.YtidibhphnkiacaaDoorRefSum
import Derived.Test.YtidibhphnkiacaaDoorStep
import Derived.Test.YtidibhphnkiacaaDoorMix
import Derived.Test.YtidibhphnkiacaaDoorTie
import Derived.Test.YtidibhphnkiacaaDoorCards
namespace Go.Proofs.YtidibhphnkiacaaDoor.longGoes
open Go.Proofs.YtidibhphnkiacaaDoor Go.ChangeShapes Go.WideShapes Go.ChangeAt Go.RowKit
set_option linter.unusedVariables false

/-- What holds when i parts are taken: all has them, the sum under way has them; only new blocks have come. -/
def InLaw (w : World) (G B : Nat) (ps : List Part) (i : Nat) (A3 : Option Addr) (n3 cap3 : Nat) (wr : World) : Prop :=
  Row wr B 5 A3 n3 cap3 (cb (textOf (ps.take i))) ∧ Sums wr G (textOf (ps.take i)) ∧ Below w.heap.size w wr ∧ B ≤ wr.heap.size ∧ n3 ≤ 600 * i

theorem InLaw.grown {w wr wr' : World} {G B : Nat} {ps : List Part} {i : Nat} {A3 : Option Addr} {n3 cap3 g : Nat} (h : InLaw w G B ps i A3 n3 cap3 wr) (hg : wr.grownBy wr' (some g)) (h1 : ∀ ad, A3 = some ad → ad.block ≠ g) (h2 : G ≠ g) (h3 : w.heap.size ≤ g) : InLaw w G B ps i A3 n3 cap3 wr' := by
  have := hg.size
  exact ⟨h.1.grown hg h1, h.2.1.grown hg (by intro e; injection e with e; exact h2 e), below_only h.2.2.1 hg h.2.2.1.size (by intro j hj; injection hj; omega), by have := h.2.2.2.1; omega, h.2.2.2.2⟩
theorem InLaw.below {w wr wr' : World} {G B : Nat} {ps : List Part} {i : Nat} {A3 : Option Addr} {n3 cap3 : Nat} (h : InLaw w G B ps i A3 n3 cap3 wr) (hb : Below wr.heap.size wr wr') : InLaw w G B ps i A3 n3 cap3 wr' := by
  have := hb.size
  exact ⟨h.1.below hb, h.2.1.below hb h.2.1.lt, h.2.2.1.trans (hb.mono h.2.2.1.size), by have := h.2.2.2.1; omega, h.2.2.2.2⟩

set_option maxHeartbeats 1000000 in
set_option maxRecDepth 100000 in
theorem walk (A : Option Addr) (n cap : Nat) (ps : List Part) (w : World) (hp : Parts w A n ps) (hnil : ∀ p ∈ ps, p.A = none → p.cap = 0) (hc : n ≤ cap) (hcap : cap ≤ maxLen) (ht : Tabs w) :
    Calls Tryd.prog 4 #[.slice A n cap] w fun e w' => e = .returned (.bool true) ∧ Below w.heap.size w w' := by
  unfold maxLen at hcap
  have HP := Lib.hid hp
  have HN := Lib.hid hnil
  have HT := Lib.hid ht
  clear hp hnil ht
  obtain ⟨i0, hi0, hz0, hz1, hz2⟩ := info_parts byteInfo
  have HI := Lib.hid hi0
  have HZ0 := Lib.hid hz0
  have HZ1 := Lib.hid hz1
  have HZ2 := Lib.hid hz2
  clear hi0 hz0 hz1 hz2
  by_cases h20 : n ≤ 20
  · go_enter Tryd.func4, Tryd.ntmps4
    go_wp2_with fail
    refine (anchor_any _ HT.out).mono ?_
    rintro e w1 ⟨rfl, hb1⟩
    have hs1 := hb1.size
    go_wp2_with fail
    refine (New_any w1 (HT.out.below hb1)).mono ?_
    rintro e w2 ⟨rfl, hsm2, hb2⟩
    have hs2 := hsm2.lt
    have HF : Hid (InLaw w w1.heap.size w2.heap.size ps 0 none 0 0 w2) := ⟨Row.nil _ _ _, hsm2, hb1.trans (hb2.mono hs1), Nat.le_refl _, Nat.zero_le _⟩
    have hG : 1 < w1.heap.size := by have := HT.out.lt; omega
    clear hsm2 hb2 hb1
    go_wp2
    go_loopw [17, 3] (fun j v wr => ∃ (i : Nat) (A3 : Option Addr) (n3 cap3 : Nat), i ≤ n ∧ j = .int .i64 i ∧ v = .slice A3 n3 cap3 ∧ InLaw w w1.heap.size w2.heap.size ps i A3 n3 cap3 wr) (fun j _ _ => n - (intOf j).toNat)
    case atStart => exact ⟨0, none, 0, 0, by omega, rfl, rfl, HF.out⟩
    case round =>
      obtain ⟨i, A3, n3, cap3, hi, rfl, rfl, hin⟩ := hrel
      obtain ⟨hr3, hsm3, hb3, hB3, hn3⟩ := hin
      have HR3 := Lib.hid hr3
      have HS3 := Lib.hid hsm3
      clear hr3 hsm3 HF
      have bn3 : n3 ≤ 24000 := by omega
      by_cases hin : i < n
      · have hps := HP.out.below hb3
        obtain ⟨p, hpi⟩ : ∃ p, ps[i]? = some p := ⟨_, List.getElem?_eq_getElem (by rw [HP.out.1]; exact hin)⟩
        have hpm := List.mem_of_getElem? hpi
        obtain ⟨ad, hA, had, hcell⟩ := hps.2.1 (by omega)
        have hcl := hcell i p hpi
        obtain ⟨hseg, hpc, hpcap⟩ := hps.2.2 p hpm
        have HSEG := Lib.hid hseg
        have HPI := Lib.hid hpi
        have HNIL := Lib.hid (HN.out p hpm)
        have HSW := Lib.hid (HP.out.2.2 p hpm).1
        clear hcell hps hseg hpi hpm
        subst hA
        by_cases h300 : p.n ≤ 300
        · have hsrc : (p.A = none ∧ p.cap = 0) ∨ ∃ ad, p.A = some ad ∧ ∀ j u, (cb p.l)[j]? = some u → wr.cell? (ad.add j) = some u := by
            rcases hpa : p.A with _ | ad
            · exact .inl ⟨rfl, HNIL.out hpa⟩
            · refine .inr ⟨ad, rfl, fun j u hu => ?_⟩
              have hj := (List.getElem?_eq_some_iff.1 hu).1
              rw [cb_length, HSEG.out.1] at hj
              obtain ⟨ad', e, hlt, hc⟩ := HSEG.out.2 (by omega)
              rw [hpa] at e
              injection e with e
              subst e
              exact hc j u hu
          have hm0 : p.A = none → p.n = 0 := by
            intro e
            rcases Nat.eq_zero_or_pos p.n with h0 | h0
            · exact h0
            · obtain ⟨ad, e', _⟩ := HSEG.out.2 h0
              rw [e] at e'
              cases e'
          have hlen : (cb p.l).length = p.n := by rw [cb_length]; exact HSEG.out.1
          obtain ⟨N, hN⟩ : ∃ N, n3 + p.n = N := ⟨_, rfl⟩
          have HNN := Lib.hid hN
          have HSRC := Lib.hid hsrc
          have HM0 := Lib.hid hm0
          have HLEN := Lib.hid hlen
          have bN : n3 + p.n ≤ 1000000 := by omega
          clear hsrc hm0 hlen hN
          go_wp2_with (first
            | ((with_reducible refine at_dst (some 26) ?_); refine wpList_app (o := ⟨some 26, _, _, _, _, _⟩) rfl (.tmp 24) (.tmp 25) 24 5 rfl Tryd.underlying24 HI.out HZ0.out HZ1.out HZ2.out rfl (by omega) (Below.refl w2.heap.size wr) hB3 rfl HR3.out rfl HLEN.out HSRC.out (cb_one p.l) HM0.out bN N HNN.out ?_; intro A4 cap4 w4 hr4 hb4 hB4))
          have hs4 := hb4.size
          have sm4 : Sums w4 w1.heap.size (textOf (ps.take i)) := HS3.out.below hb4 hs2
          have sg4 : Seg w4 p.A p.n p.l := HSW.out.below (hb3.trans (hb4.mono (by omega)))
          have ap : Apart p.A p.n w1.heap.size := by
            intro hn0 a ha
            obtain ⟨a', e', hlt', _⟩ := HSW.out.2 hn0
            rw [ha] at e'
            injection e' with e'
            rw [e']
            omega
          have hlt : (textOf (ps.take i)).length < 1099511627776 := by
            have := HR3.out.length
            rw [cb_length] at this
            omega
          have hb34 : Below w.heap.size w w4 := hb3.trans (hb4.mono (by omega))
          refine (Write_any w1.heap.size (textOf (ps.take i)) p.l p.A p.n p.cap w4 sm4 sg4 ap hpc (by omega) hlt (HT.out.below hb34) hG).mono ?_
          rintro e w5 ⟨rfl, hsm5, hg5⟩
          have hin5 : InLaw w w1.heap.size w2.heap.size ps (i + 1) A4 N cap4 w5 := by
            have hs5 := hg5.size
            refine ⟨?_, ?_, below_only hb34 hg5 hb34.size (by intro j hj; injection hj; omega), by omega, ?_⟩
            · rw [textOf_snoc ps i p HPI.out]
              have := hr4.out
              rw [show cb (textOf (ps.take i)) ++ cb p.l = cb (textOf (ps.take i) ++ p.l) by simp [cb]] at this
              refine this.grown hg5 (fun ad ha => ?_)
              have := this.lt ad ha
              omega
            · rw [textOf_snoc ps i p HPI.out]
              exact hsm5
            · have := HNN.out
              omega
          have HIN5 := Lib.hid hin5
          clear hin5 hsm5 hg5 sm4 sg4 ap hlt hb34 hr4 hb4
          have hT1 : (textOf (ps.take (i + 1))).length ≤ 24000 := by
            have := HIN5.out.1.length
            rw [cb_length] at this
            have := HIN5.out.2.2.2.2
            omega
          have HT1 := Lib.hid hT1
          have T5 := HT.out.below HIN5.out.2.2.1
          have HT5 := Lib.hid T5
          have hlt5 := HIN5.out.2.1.lt
          clear hT1 T5
          go_wp2_with fail
          refine (Sum_any w1.heap.size (textOf (ps.take (i + 1))) w5 HIN5.out.2.1 (by have := HT1.out; omega) HT5.out hG).mono ?_
          rintro e w6 ⟨g6, rfl, hg6, hbk6, hb6⟩
          have hin6 := HIN5.out.below hb6
          have hne : ∀ ad, A4 = some ad → ad.block ≠ g6 := by
            intro ad ha
            have := HIN5.out.1.lt ad ha
            omega
          have hws : w.heap.size ≤ g6 := by have := HIN5.out.2.2.1.size; omega
          have HBK6 := Lib.hid hbk6
          have HIN6 := Lib.hid hin6
          have HNE := Lib.hid hne
          have HT6 := Lib.hid (HT5.out.below hb6)
          obtain ⟨w0, hw0⟩ : ∃ w0, w0 = w := ⟨_, rfl⟩
          have HW0 := Lib.hid hw0
          clear hbk6 hin6 hne hb6 hw0 HIN5
          go_wp2
          rename_i hKx
          refine wp_region_each (by kernel_rfl) (by kernel_rfl) (fun iX v w => match iX with
              | 0 => v = .slice (some ⟨g6, 0, none⟩) 64 64
              | 1 => v = .string (str (sha (textOf (ps.take (i + 1)))))
              | 2 => v = .slice A4 N cap4
              | 3 => ∃ g, v = .slice (some ⟨g, 0, none⟩) 1 1 ∧ Parts w (some ⟨g, 0, none⟩) 1 [⟨A4, N, cap4, textOf (ps.take (i + 1))⟩]
              | 4 => ∃ g, v = .slice (some ⟨g, 0, none⟩) 64 64 ∧ Blk w g 5 (cb (sha (textOf (ps.take (i + 1)))))
              | 5 => v = .string (str (sha (textOf (ps.take (i + 1)))))
              | 6 => v = .bool false
              | _ => True) (fun u => Below w6.heap.size w6 u) ?m1 (fun _ _ h1 h2 => h1.trans (h2.mono h1.size)) ⟨rfl, rfl, rfl, Nat.le_refl _, fun _ _ => rfl⟩ ?m2 ?m3
          case m1 =>
            intro iX v w w' h hr hb
            rcases iX with _ | _ | _ | _ | _ | _ | _ | iX
            · exact h
            · exact h
            · exact h
            · obtain ⟨g, e, hk⟩ := h; exact ⟨g, e, hk.below hb⟩
            · obtain ⟨g, e, hk⟩ := h; exact ⟨g, e, hk.below hb hk.lt⟩
            · exact h
            · exact h
            · trivial
          case m2 =>
            intro iX o ho a w hr hk hpre K hK
            have e7 : a.tmps.getD 7 undef = .slice (some ⟨g6, 0, none⟩) 64 64 := hk.slot 7 (by simp)
            have e3 : a.tmps.getD 3 undef = .slice A4 N cap4 := hk.slot 3 (by simp)
            rcases iX with _ | _ | _ | _ | _ | _ | _ | iX
            · obtain rfl := Option.some.inj ho
              exact st_move (.tmp 7) rfl (want_none rfl) _ e7 (hK _ _ rfl (Below.refl _ _))
            · obtain rfl := Option.some.inj ho
              exact st_conv (.tmp 32) rfl (want_none rfl) _ _ _ _ (hpre 0 _ 32 rfl rfl ⟨⟨0, .data⟩, by simp, rfl, rfl⟩) ((HBK6.out.below hr HBK6.out.lt).seg 64 rfl) (hK _ _ rfl (Below.refl _ _))
            · obtain rfl := Option.some.inj ho
              exact st_move (.tmp 3) rfl (want_none rfl) _ e3 (hK _ _ rfl (Below.refl _ _))
            · obtain rfl := Option.some.inj ho
              have q0 := (hpre 2 _ 34 rfl rfl ⟨⟨2, .data⟩, by simp, rfl, rfl⟩)
              exact st_build1 (.tmp 34) rfl (want_none rfl) _ q0 rfl (hK _ _ ⟨w.heap.size, rfl, parts_new w [⟨A4, N, cap4, textOf (ps.take (i + 1))⟩] (fun p hp => by obtain rfl := List.mem_singleton.1 hp; exact ⟨(HIN6.out.1.seg).below hr, HIN6.out.1.le.1⟩)⟩ ((Below.refl _ _).alloc (Nat.le_refl _) _))
            · obtain rfl := Option.some.inj ho
              obtain ⟨gp, egp, hpp⟩ := (hpre 3 _ 35 rfl rfl ⟨⟨3, .data⟩, by simp, rfl, rfl⟩)
              exact st_call1 12 (.tmp 35) 22 rfl (want_none rfl) _ egp (cf12 _ _) _ (Of_any _ 1 1 [⟨A4, N, cap4, textOf (ps.take (i + 1))⟩] w hpp (by omega) (by have := HT1.out; rw [textOf_one]; show (textOf (ps.take (i + 1))).length < 100000; omega) (HT6.out.below hr)) (fun e w' ⟨g, he, _, hbk, hb⟩ => ⟨_, he, hK _ _ ⟨g, rfl, (by rw [textOf_one] at hbk; exact hbk)⟩ hb⟩)
            · obtain rfl := Option.some.inj ho
              obtain ⟨g, eg, hbk⟩ := (hpre 4 _ 36 rfl rfl ⟨⟨4, .data⟩, by simp, rfl, rfl⟩)
              exact st_conv (.tmp 36) rfl (want_none rfl) _ _ _ _ eg (hbk.seg 64 rfl) (hK _ _ rfl (Below.refl _ _))
            · obtain rfl := Option.some.inj ho
              exact st_neqStr (.tmp 33) (.tmp 37) rfl (want_none rfl) _ (hpre 1 _ 33 rfl rfl ⟨⟨1, .data⟩, by simp, rfl, rfl⟩) (hpre 5 _ 37 rfl rfl ⟨⟨5, .data⟩, by simp, rfl, rfl⟩) (hK _ _ rfl (Below.refl _ _))
            · cases ho
          case m3 =>
            intro a w hr hk hv
            have h38 := hv 6 _ 38 rfl rfl
            have hfr := keeps_frame 32 38 hk (fun s hs => by simp; omega)
            refine hKx a w ?_
            rw [hfr]
            generalize hf : (fun s => a.tmps.getD s undef) = f
            have hf38 : f 38 = .bool false := by rw [← hf]; exact h38
            simp only [mixL, hf38, Nat.reduceAdd, Nat.reduceLeDiff, and_true, and_false, and_self, if_true, if_false, Nat.zero_le]
            have hbk7 := HBK6.out.below hr HBK6.out.lt
            have hin7 := HIN6.out.below hr
            have HBK7 := Lib.hid hbk7
            have HIN7 := Lib.hid hin7
            clear hfr hf h38 hv hk hbk7 hin7 hr
            go_wp2
            go_loopw [41] (fun j wr => ∃ k : Nat, k ≤ 64 ∧ j = .int .i64 k ∧ (∃ l', l'.length = 64 ∧ Blk wr g6 5 (cb l')) ∧ InLaw w0 w1.heap.size w2.heap.size ps (i + 1) A4 N cap4 wr) (fun j _ => 64 - (intOf j).toNat)
            case atStart => exact ⟨0, by omega, rfl, ⟨_, rfl, HBK7.out⟩, by rw [HW0.out]; exact HIN7.out⟩
            case round =>
              obtain ⟨k, hk, rfl, ⟨l', hl', hbk⟩, hinw⟩ := hrel
              have HBK := Lib.hid hbk
              have HINW := Lib.hid hinw
              have HLL := Lib.hid hl'
              clear hbk hinw hl' HBK7 HIN7
              by_cases hk32 : k < 64
              · have hc := (HBK.out.cell k).trans (cb_get l' k (by rw [HLL.out]; exact hk32))
                have hf := HBK.out.frozen k
                go_wp2
                go_roundw
                case rel =>
                  refine ⟨k + 1, by omega, by go_num, ⟨l'.set k 0, by rw [List.length_set]; exact HLL.out, ?_⟩, ?_⟩
                  · have := HBK.out.set_ k (.int .u8 (ub 0))
                    rw [cb_set] at this
                    exact this
                  · exact HINW.out.grown (g := g6) (only_setCell (p := ⟨g6, k, none⟩) (World.grownBy.refl _ _) (.inl rfl) _) HNE.out (by omega) (by rw [HW0.out]; omega)
                case measure => simp [intOf]; omega
              · go_wp2
                go_roundw
                case rel => exact ⟨i + 1, A4, N, cap4, by omega, by go_num, rfl, by have := HINW.out; rw [HW0.out] at this; exact this⟩
                case measure => simp [intOf]; omega
        · have h301 : ¬ p.n ≤ 300 := h300
          go_wp2
          go_ret
          exact ⟨rfl, hb3⟩
      · have eT : textOf (ps.take i) = textOf ps := by rw [List.take_of_length_le (by rw [HP.out.1]; omega)]
        have hr := HR3.out
        have hsm := HS3.out
        rw [eT] at hr hsm
        have hlen := hr.length
        rw [cb_length] at hlen
        have HR := Lib.hid hr
        have HSM := Lib.hid hsm
        have HLEN := Lib.hid hlen
        have blen : (textOf ps).length ≤ 24000 := by omega
        clear eT hr hsm hlen HR3 HS3
        have HTR := Lib.hid (HT.out.below hb3)
        have hlt3 := HSM.out.lt
        go_wp2
        rename_i hKx
        refine wp_region_each (by kernel_rfl) (by kernel_rfl) (fun iX v w => match iX with
            | 0 => v = .pointer (some ⟨w1.heap.size, 0, none⟩)
            | 1 => ∃ g, v = .slice (some ⟨g, 0, none⟩) 64 64 ∧ Blk w g 5 (cb (sha (textOf ps)))
            | 2 => v = .string (str (sha (textOf ps)))
            | 3 => v = .slice A3 n3 cap3
            | 4 => ∃ A cap, v = .slice A 64 cap ∧ Seg w A 64 (sha (textOf ps))
            | 5 => v = .string (str (sha (textOf ps)))
            | 6 => v = .bool true
            | 7 => v = .bool true
            | _ => True) (fun u => Below wr.heap.size wr u) ?m1 (fun _ _ h1 h2 => h1.trans (h2.mono h1.size)) ⟨rfl, rfl, rfl, Nat.le_refl _, fun _ _ => rfl⟩ ?m2 ?m3
        case m1 =>
          intro iX v w w' h hr hb
          rcases iX with _ | _ | _ | _ | _ | _ | _ | _ | iX
          · exact h
          · obtain ⟨g, e, hk⟩ := h; exact ⟨g, e, hk.below hb hk.lt⟩
          · exact h
          · exact h
          · obtain ⟨A, cap, e, hk⟩ := h; exact ⟨A, cap, e, hk.below hb⟩
          · exact h
          · exact h
          · exact h
          · trivial
        case m2 =>
          intro iX o ho a w hr hk hpre K hK
          have e4 : a.tmps.getD 4 undef = .pointer (some ⟨w1.heap.size, 0, none⟩) := hk.slot 4 (by simp)
          have e3 : a.tmps.getD 3 undef = .slice A3 n3 cap3 := hk.slot 3 (by simp)
          rcases iX with _ | _ | _ | _ | _ | _ | _ | _ | iX
          · obtain rfl := Option.some.inj ho
            exact st_move (.tmp 4) rfl (want_none rfl) _ e4 (hK _ _ rfl (Below.refl _ _))
          · obtain rfl := Option.some.inj ho
            exact st_call1 13 (.tmp 49) 25 rfl (want_none rfl) _ (hpre 0 _ 49 rfl rfl ⟨⟨0, .data⟩, by simp, rfl, rfl⟩) (cf13 _ _) _ (Sum_any w1.heap.size (textOf ps) w (HSM.out.below hr hlt3) (by omega) (HTR.out.below hr) hG) (fun e w' ⟨g, he, _, hbk, hb⟩ => ⟨_, he, hK _ _ ⟨g, rfl, hbk⟩ hb⟩)
          · obtain rfl := Option.some.inj ho
            obtain ⟨g, eg, hbk⟩ := (hpre 1 _ 50 rfl rfl ⟨⟨1, .data⟩, by simp, rfl, rfl⟩)
            exact st_conv (.tmp 50) rfl (want_none rfl) _ _ _ _ eg (hbk.seg 64 rfl) (hK _ _ rfl (Below.refl _ _))
          · obtain rfl := Option.some.inj ho
            exact st_move (.tmp 3) rfl (want_none rfl) _ e3 (hK _ _ rfl (Below.refl _ _))
          · obtain rfl := Option.some.inj ho
            exact st_call1 11 (.tmp 52) 24 rfl (want_none rfl) _ (hpre 3 _ 52 rfl rfl ⟨⟨3, .data⟩, by simp, rfl, rfl⟩) (cf11 _ _) _ (refSum_any A3 n3 cap3 (textOf ps) w (HR.out.seg.below hr) HR.out.nilcap (by omega)) (fun e w' ⟨A', cap', he, hr', hb⟩ => ⟨_, he, hK _ _ ⟨A', cap', rfl, hr'.seg⟩ hb⟩)
          · obtain rfl := Option.some.inj ho
            obtain ⟨A, cap, eg, hs⟩ := (hpre 4 _ 53 rfl rfl ⟨⟨4, .data⟩, by simp, rfl, rfl⟩)
            exact st_conv (.tmp 53) rfl (want_none rfl) _ _ _ _ eg hs (hK _ _ rfl (Below.refl _ _))
          · obtain rfl := Option.some.inj ho
            exact st_eqlStr (.tmp 51) (.tmp 54) rfl (want_none rfl) _ (hpre 2 _ 51 rfl rfl ⟨⟨2, .data⟩, by simp, rfl, rfl⟩) (hpre 5 _ 54 rfl rfl ⟨⟨5, .data⟩, by simp, rfl, rfl⟩) (hK _ _ rfl (Below.refl _ _))
          · obtain rfl := Option.some.inj ho
            exact st_assign (.tmp 55) rfl (want_none rfl) _ (hpre 6 _ 55 rfl rfl ⟨⟨6, .data⟩, by simp, rfl, rfl⟩) (hK _ _ rfl (Below.refl _ _))
          · cases ho
        case m3 =>
          intro a w hr hk hv
          have h6 := hv 7 _ 2 rfl rfl
          refine hKx a w (wp_ret (bodyPost_ret (results_tmp rfl _ _ _) hk.defers ⟨?_, hb3.trans (hr.mono hb3.size)⟩))
          exact congrArg Ending.returned h6
  · go_enter Tryd.func4, Tryd.ntmps4
    go_wp2_with fail
    refine (anchor_any _ HT.out).mono ?_
    rintro e w1 ⟨rfl, hb1⟩
    go_wp2
    go_ret
    exact ⟨rfl, hb1⟩


-- THE ROW's STEP
set_option maxRecDepth 100000 in
theorem lifted (os : Os) (started : os.Started) (H : Type) (enc : TypeId × Value → H) :
    ReturnsInHanded {} Tryd.checked os 4 .any (fun w args => (Rows.longGoesSpec.pre enc Tryd.prog Tryd.f4 [] false w args ∧ laidMetH Tryd.prog listed w) ∧ sizedMet enc Tryd.prog Tryd.f4 (OpenSpec.ofChange Rows.longGoesSpec) false w args)
      (Rows.longGoesSpec.post enc Tryd.prog Tryd.f4 false true false false) := by
  refine returnsInHanded_of_change_and (C := Tryd.checked) (X := fun w _ => laidMetH Tryd.prog listed w) (fun _ _ _ hh h => h.of_heap hh) own started (by kernel_rfl) Tryd.func4
    (ChangeSpec.witness_shaped (enc := enc) (C := Tryd.checked) (os := os) (X := fun w _ => laidMetH Tryd.prog listed w) false (World.doorLaid Tryd.prog 19 os) #[.slice none 0 0] 8 rfl (World.shaped_of_RefB (by kernel_rfl) (by kernel_rfl)) (by kernel_rfl) (by kernel_rfl) (by kernel_rfl) (door_met os _)) ?_
  intro W base args ds gs before hval0 hW _ _ hL _
  have hval : ∀ (j : Nat) t v, Tryd.f4.params[j]? = some t → args[j]? = some v → Value.okWide Tryd.prog W .any base t v := hval0
  have hW' := hW
  obtain ⟨p, q, hA0, hV, rfl, hfz, hnd⟩ := hW
  have hA : DataW.TrodAll enc Tryd.prog W 0 (fun _ => true) true Tryd.f4.params.toList args.toList ds p := hA0
  rw [Tryd.params4] at hA hval
  obtain ⟨v0, vs0, d0, ds0, p0, q0, hargs, rfl, rfl, h0, r0⟩ := trodAll_cons hA
  obtain ⟨rfl, rfl, rfl⟩ := trodAll_nil r0
  obtain rfl : args = #[v0] := by cases args; simp_all
  obtain ⟨rfl, rfl⟩ := trodVars_none hV
  have k0 := h0
  have lt0 : ∀ x ∈ p0, x.block < W.heap.size := by obtain ⟨m, hm⟩ := k0; exact DataW.trod_lt m _ _ _ hm
  obtain ⟨fuel0, hf0⟩ := h0
  obtain ⟨a0, len0, cap0, l0, e0, g0, hlc0, hcm0, hnil0⟩ := parts_of_trod hf0
  obtain ⟨b0, lb0, cb0, hv0⟩ := okWide_slice Tryd.underlying22 (hval 0 22 v0 rfl rfl)
  have ev0 : v0 = .slice a0 len0 cap0 := by rw [hv0] at e0 ⊢; simpa [Value.cells] using e0
  subst ev0
  clear hA0 hval0
  refine (walk a0 len0 cap0 l0 W g0 hnil0 hlc0 hcm0 (tabs_of_laid hL)).mono fun e W' ⟨he, bel⟩ => ?_
  subst he
  exact ⟨_, rfl, _, _, _, [], _, [], hW', trodAll_mk1 (shut_bool Tryd.underlying4 _), (trodAll_cons_mk (Below.trod laidOut (by kernel_rfl) (of_decide_eq_true (by kernel_rfl)) k0 bel lt0) trodAll_mk0), rfl, bel.frame _, fun h => by cases h⟩

theorem row_holds : Rows.LongGoesSaid :=
  OpenClaim.holds_of_wide 4 Tryd.f4 rfl rfl rfl rfl rfl rfl rfl ⟨rfl, rfl, rfl, rfl, rfl⟩ rfl rfl rfl rfl rfl (by kernel_rfl) Tryd.func4 (by kernel_rfl)
    (of_decide_eq_true (by kernel_rfl)) (by unfold Func.isWrapper; first | (rw [if_pos (by decide +kernel)]; kernel_rfl) | (rw [if_neg (by decide +kernel)]; exact ⟨rfl, rfl⟩))
    (fun os started H enc _ => lifted os started H enc)

theorem proved : Rows.LongGoesCardSaid :=
  Claim7.holds_tied_plain_at .later [] [.data, .data] true Rows.longGoesCard.stood.harness false
    row_holds (fun _ h => by cases h) (by kernel_rfl) (fun _ h => by cases h) longGoes_row_tie rfl ⟨rfl, rfl⟩ (by kernel_rfl) rfl
    (fun f fn hf hfn => by
      obtain rfl : f = 4 := Option.some.inj ((show Tryd.prog.funcNamed Tryd.f4.name = some 4 by kernel_rfl).symm.trans hf) |>.symm
      obtain rfl : fn = Tryd.f4 := (Option.some.inj (Tryd.func4.symm.trans hfn)).symm
      exact ⟨by kernel_rfl, fun j t ht => by
        rw [Tryd.params4] at ht
        have h3 : t = 22 := by
          rcases j with _ | j
          · simpa using ht.symm
          · simp at ht
        subst h3
        exact (show Tryd.prog.wantsStandIn 22 = false by kernel_rfl)⟩)
    (by kernel_rfl)
end Go.Proofs.YtidibhphnkiacaaDoor.longGoes
