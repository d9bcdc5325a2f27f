/-
  DescrEncodes returns true for every list of descriptors: its walk.
-/
import Derived.Test.YtfeihdmjcppbaaaDoorE4
import Derived.Test.YtfeihdmjcppbaaaDoorE1
import Derived.Test.YtfeihdmjcppbaaaDoorS3
namespace Go.Proofs.YtfeihdmjcppbaaaDoor
open Go.RowKit
set_option linter.unusedVariables false
set_option linter.unusedSimpArgs false
set_option maxRecDepth 100000

theorem PL.formAll {t : TypeId} {B : Nat} {w : World} {A : Option Addr} {n cap : Nat} {xs : List Dx} (h : PL t B w A n cap xs) : ∀ ad, A = some ad → ∃ g, ad = ⟨g, 0, none⟩ := fun ad e => by
  rcases h.row.2 with ⟨hv, _⟩ | ⟨g, cap', cur, hv, _⟩
  · injection hv with h1
    rw [e] at h1; cases h1
  · injection hv with h1
    rw [e] at h1
    exact ⟨g, by injection h1⟩
set_option maxHeartbeats 4000000 in
theorem encodes_walk (A : Option Addr) (n cap : Nat) (xs : List Dx) (W : World) (g : Dsc W A n cap xs) : Calls Tryd.prog 3 #[.slice A n cap] W fun e w' => e = .returned (.bool true) ∧ Below W.heap.size W w' := by
  obtain ⟨d0, hu0, hd0⟩ := uD
  have HG := Lib.hid g
  clear g
  go_enter Tryd.func3, Tryd.ntmps3
  go_wp2_with fail
  refine (anchor_any W).mono ?_
  rintro e w1 ⟨rfl, hb1⟩
  have B1 := Lib.hid hb1
  clear hb1
  have HS := Lib.hid (Small_any A n cap xs w1 (HG.out.dl.below B1.out) HG.out.le HG.out.max)
  go_wp2_with fail
  refine HS.out.mono ?_
  rintro e w2 ⟨b, rfl, hsm, hb2⟩
  have B2 := Lib.hid (B1.out.trans (hb2.mono B1.out.size))
  cases b
  · clear hsm hb2
    go_wp2
    go_ret
    exact ⟨rfl, B2.out⟩
  · obtain ⟨hsmall, hn40⟩ := hsm rfl
    have HSM := Lib.hid hsmall
    have HN40 := Lib.hid hn40
    clear hsm hb2 hsmall
    go_wp2_with fail
    go_loopw [18] (fun o wr => ∃ i : Nat, i ≤ n ∧ o = .int .i64 (i : Int) ∧ Hid (Below W.heap.size W wr)) (fun o _ => n - (intOf o).toNat)
    case atStart => exact ⟨0, Nat.zero_le _, rfl, B2⟩
    case round =>
      obtain ⟨i, hi, rfl, HB⟩ := hrel
      clear B2
      by_cases hin : i < n
      · have hin2 : (i : Int) < (n : Int) := by omega
        obtain ⟨ad, x, hA1, had, hx, hxm, hAt, hok⟩ := (HG.out.dl.below HB.out).get hin
        subst hA1
        have HAT := Lib.hid hAt
        have hb1 : Below wr.heap.size wr (wr.alloc (.cells x.cells.toArray 27)) := (Below.refl _ _).alloc (Nat.le_refl _) _
        have hk1 : Blk (wr.alloc (.cells x.cells.toArray 27)) wr.heap.size 27 x.cells := Blk.new _ _ _
        obtain ⟨wz, hwz⟩ : ∃ wz, wr.alloc (.cells x.cells.toArray 27) = wz := ⟨_, rfl⟩
        rw [hwz] at hb1 hk1
        have HNM : Hid (x.d.name.length ≤ 100000) := names_le (W := W) HSM.out x hxm
        have HZ : Hid (Below W.heap.size W wz ∧ Blk wz wr.heap.size 27 x.cells ∧ DxOk wz x) := ⟨HB.out.trans (hb1.mono HB.out.size), hk1, hok.below hb1⟩
        obtain ⟨G, hG⟩ : ∃ G, wr.heap.size = G := ⟨_, rfl⟩
        rw [hG] at HZ
        clear hAt hx hxm hok had hb1 hk1
        go_wp2_with (first
          | ((with_reducible refine at_dst (some 21) ?_); refine wpList_loadAt (op := ⟨some 21, _, _, _, _, _⟩) rfl 27 (.tmp 20) rfl (ad.add (i * 11)) rfl x.cells d0 HAT.out hu0 hd0 iD ?_)
          | ((with_reducible refine at_dst none ?_); refine wpList_storeNew (w := wr) (op := ⟨none, _, _, _, _, _⟩) rfl 27 (.tmp 4) (.tmp 21) rfl zeroD x.cells (by rw [hG]; rfl) rfl rfl iD x.one ?_; rw [hwz]))
        (try rw [hwz])
        rename_i hKx
        (try rw [hwz])
        refine wp_region_eachW (by kernel_rfl) (by kernel_rfl) (fun u u' => Below u.heap.size u u') (fun iX v u => match iX with
            | 0 => v = x.val
            | 1 => v = .bool (decide (Right x.d))
            | 2 => v = x.val
            | 3 => v = x.val
            | 4 => v = .bool (decide (Right x.d))
            | 5 => v = .bool false
            | _ => True) (fun u => Below wz.heap.size wz u) ?m1 (fun _ _ h1 h2 => h1.trans (h2.mono h1.size)) ⟨rfl, rfl, rfl, Nat.le_refl _, fun _ _ => rfl⟩ ?m2 ?m3
        case m1 =>
          intro iX v u u' h hr hb
          rcases iX with _ | _ | _ | _ | _ | _ | iX
          · exact h
          · exact h
          · exact h
          · exact h
          · exact h
          · exact h
          · trivial
        case m2 =>
          intro iX o ho aX u hr hk hpre K hK
          have e4 : aX.tmps.getD 4 undef = .pointer (some ⟨G, 0, none⟩) := hk.slot 4 (by simp)
          have y4 : aX.eval (.tmp 4) = .pointer (some ⟨G, 0, none⟩) := e4
          have rf : Below u.heap.size u u := Below.refl _ _
          rcases iX with _ | _ | _ | _ | _ | _ | iX
          · obtain rfl := Option.some.inj ho
            refine st_run (want_none rfl) x.val (w' := u) ?_ (hK _ _ rfl rf)
            simp only [execOp, y4, Instr.loadAt, Instr.sureAddr, Sem.run_bind, Sem.run_pure, Result.andThen_ok, run_loadVar_at (P := Tryd.prog) (w := u) ⟨G, 0, none⟩ 27 x.cells d0 (HZ.out.2.1.at.below hr HZ.out.2.1.lt) hu0 hd0 iD]
            rfl
          · obtain rfl := Option.some.inj ho
            have x0 : aX.eval (.tmp 22) = x.val := (hpre 0 _ rfl ⟨⟨0, .data⟩, by simp, rfl, rfl⟩)
            exact st_callN 10 _ _ rfl (want_none rfl) #[x.val] (by simp [x0]) (by kernel_rfl) _ (Right_any x u (HZ.out.2.2.below hr) HNM.out) (by rintro _ u2 ⟨rfl, hb9⟩; exact ⟨_, rfl, hK _ _ rfl hb9⟩)
          · obtain rfl := Option.some.inj ho
            refine st_run (want_none rfl) x.val (w' := u) ?_ (hK _ _ rfl rf)
            simp only [execOp, y4, Instr.loadAt, Instr.sureAddr, Sem.run_bind, Sem.run_pure, Result.andThen_ok, run_loadVar_at (P := Tryd.prog) (w := u) ⟨G, 0, none⟩ 27 x.cells d0 (HZ.out.2.1.at.below hr HZ.out.2.1.lt) hu0 hd0 iD]
            rfl
          · obtain rfl := Option.some.inj ho
            have x0 : aX.eval (.tmp 24) = x.val := (hpre 2 _ rfl ⟨⟨2, .data⟩, by simp, rfl, rfl⟩)
            exact st_callN 11 _ _ rfl (want_none rfl) #[x.val] (by simp [x0]) (by kernel_rfl) _ (MDescr_any x u) (by rintro _ u2 ⟨rfl, hb9⟩; exact ⟨_, rfl, hK _ _ rfl hb9⟩)
          · obtain rfl := Option.some.inj ho
            have x0 : aX.eval (.tmp 25) = x.val := (hpre 3 _ rfl ⟨⟨3, .data⟩, by simp, rfl, rfl⟩)
            exact st_callN 12 _ _ rfl (want_none rfl) #[x.val] (by simp [x0]) (by kernel_rfl) _ (RRight_any x (HZ.out.2.2).hds (HZ.out.2.2).name u) (by rintro _ u2 ⟨rfl, hb9⟩; exact ⟨_, rfl, hK _ _ rfl hb9⟩)
          · obtain rfl := Option.some.inj ho
            have x0 : aX.eval (.tmp 23) = .bool (decide (Right x.d)) := (hpre 1 _ rfl ⟨⟨1, .data⟩, by simp, rfl, rfl⟩)
            have x1 : aX.eval (.tmp 26) = .bool (decide (Right x.d)) := (hpre 4 _ rfl ⟨⟨4, .data⟩, by simp, rfl, rfl⟩)
            obtain ⟨bb, hbb⟩ : ∃ bb, decide (Right x.d) = bb := ⟨_, rfl⟩
            rw [hbb] at x0 x1
            refine st_run (want_none rfl) (.bool false) (w' := u) ?_ (hK _ _ rfl rf)
            simp only [execOp, x0, x1]
            go_simp
          · cases ho
        case m3 =>
          intro aX u hr hk hv
          have q27 : aX.tmps.getD 27 undef = .bool false := hv 5 _ rfl
          have hfr := keeps_frameP (fun s => decide ((22 ≤ s ∧ s ≤ 27))) hk (by simp)
          refine hKx aX u ?_
          rw [hfr]
          generalize hff : (fun s => aX.tmps.getD s undef) = ff
          have hf27 : ff 27 = .bool false := by rw [← hff]; exact q27
          simp only [mixP, hf27, decide_eq_true_eq, Nat.reduceAdd, Nat.reduceLeDiff, Nat.reduceEqDiff, false_or, true_or, or_false, or_true, and_true, and_false, true_and, false_and, and_self, if_true, if_false, Nat.zero_le]
          clear hfr hff hf27 q27 hv hk
          have HB6 : Hid (Below W.heap.size W u) := HZ.out.1.trans (hr.mono HZ.out.1.size)
          clear hKx hr
          go_wp2
          go_roundw
          case rel => exact ⟨i + 1, by omega, by go_num, HB6⟩
          case measure => simp [intOf]; omega
      · have hge : ¬ (i : Int) < (n : Int) := by omega
        have hcm := HG.out.max
        have HEN := Lib.hid (Encode_any A n cap xs wr (HG.out.dl.below HB.out) (by have := HN40.out; omega) HG.out.le hcm (names_le (W := W) HSM.out))
        clear hcm
        go_wp2_with fail
        refine HEN.out.mono ?_
        rintro e w3 ⟨A3, n3, c3, l, er, rfl, hen, hrow, hb3⟩
        have B3 := Lib.hid (below_then HB.out hb3)
        have R3 := Lib.hid hrow
        have HENC := Lib.hid hen
        have HDS := Lib.hid (Descrs_any A n cap xs w3 (HG.out.dl.below B3.out) (by have := HN40.out; omega))
        clear hen hrow hb3 hin hge
        go_wp2_with fail
        refine HDS.out.mono ?_
        rintro e w4 ⟨A4, c4, rfl, hpl, hb4⟩
        have B4 := Lib.hid (below_then B3.out hb4)
        have R4 := Lib.hid (R3.out.below hb4)
        have hcl := hpl.le
        unfold maxLen at hcl
        have HRE := Lib.hid (REncode_any A4 n c4 xs w4 hpl.dl hpl.formAll (by have := HN40.out; omega) hcl.1 (by omega))
        clear hpl hb4 hcl
        go_wp2_with fail
        refine HRE.out.mono ?_
        rintro e w5 ⟨A5, n5, c5, l5, er5, rfl, hen5, hrow5, hb5⟩
        rw [HENC.out] at hen5
        simp only [Prod.mk.injEq] at hen5
        obtain ⟨rfl, rfl⟩ := hen5
        have B5 := Lib.hid (below_then B4.out hb5)
        have R5 := Lib.hid (R4.out.below hb5)
        have r1 := rd_str R5.out.rd c3
        have r2 := rd_str hrow5.rd c5
        have hl3 := R5.out.length
        rw [cn_length] at hl3
        clear hrow5 hb5
        rcases encode_cases HENC.out with ⟨her, hl⟩ | ⟨her, hl, hright, htw, h32⟩
        · have e0 : ((er : Int) != 0) = true := by simp; omega
          clear her hl hl3
          go_wp2
          go_ret
          exact ⟨by first | rfl | simp [*], B5.out⟩
        · subst her
          have hfit : Fit 256 l := by rw [hl]; exact encs_fit (fun d hd => by
            obtain ⟨x, hx, rfl⟩ := List.mem_map.1 hd
            exact (HG.out.dl.ok x hx).fits)
          have hle3 : n3 ≤ 60000 := by
            have h1 := encs_le hright
            rw [← hl, hl3] at h1
            omega
          have hpar : parse l = (des xs, 0) := by rw [hl]; exact parse_encs hright htw h32
          have HPAR := Lib.hid hpar
          have HPA := Lib.hid (Parse_any A3 n3 c3 l w5 (R5.out.bs hfit) (by omega))
          clear hright htw h32 hl hl3 hfit hpar hle3
          go_wp2_with fail
          refine HPA.out.mono ?_
          rintro e w6 ⟨Am, nm, cm, ys, er6, rfl, hpa, hpl, hnw, hb6⟩
          rw [HPAR.out] at hpa
          simp only [Prod.mk.injEq] at hpa
          obtain ⟨hxy, rfl⟩ := hpa
          have B6 := Lib.hid (below_then B5.out hb6)
          have HSD := Lib.hid (SameD_any A n cap xs Am nm cm ys w6 (HG.out.dl.below B6.out) hpl.dl (by have := HN40.out; omega))
          rw [decide_eq_true hxy] at HSD
          clear hxy hpl hnw hb6 HPA r1 r2
          go_wp2_with fail
          refine HSD.out.mono ?_
          rintro e w8 ⟨rfl, hb8⟩
          have B8 := Lib.hid (below_then B6.out hb8)
          clear hb8
          go_wp2
          go_ret
          exact ⟨rfl, B8.out⟩
end Go.Proofs.YtfeihdmjcppbaaaDoor
