/-
  What SameDescrs answers. No condition but that texts are bytes that fit.
-/
import Derived.Test.YtfeihdmjcppbaaaDoorS2
namespace Go.Proofs.YtfeihdmjcppbaaaDoor
open Go.RowKit
set_option linter.unusedVariables false
set_option linter.unusedSimpArgs false
set_option maxRecDepth 100000

theorem des_inj_get {xs ys : List Dx} (hl : xs.length = ys.length) (h : ∀ (j : Nat) x y, xs[j]? = some x → ys[j]? = some y → x.d = y.d) : des xs = des ys := by
  apply List.ext_getElem?
  intro j
  simp only [des, List.getElem?_map]
  cases hx : xs[j]? with
  | none =>
    have : ys[j]? = none := by rw [List.getElem?_eq_none_iff] at hx ⊢; omega
    rw [this]
  | some x =>
    have hj := (List.getElem?_eq_some_iff.1 hx).1
    have hy : ys[j]? = some (ys[j]'(by omega)) := List.getElem?_eq_getElem (by omega)
    rw [hy]
    simp only [Option.map_some]
    rw [h j x _ hx hy]
set_option maxHeartbeats 4000000 in
theorem SameD_any (A : Option Addr) (n cap : Nat) (xs : List Dx) (A2 : Option Addr) (n2 cap2 : Nat) (ys : List Dx) (w : World) (hx : DL w A n xs) (hy : DL w A2 n2 ys) (hnm : n ≤ 1000000) : Calls Tryd.prog 17 #[.slice A n cap, .slice A2 n2 cap2] w fun e w' => e = .returned (.bool (decide (des xs = des ys))) ∧ Below w.heap.size w w' := by
  obtain ⟨d0, hu0, hd0⟩ := uD
  have HX := Lib.hid hx
  have HY := Lib.hid hy
  obtain ⟨D, hD⟩ : ∃ D, decide (des xs = des ys) = D := ⟨_, rfl⟩
  have HD := Lib.hid hD
  rw [hD]
  clear hx hy hD
  by_cases hn : n = n2
  · subst hn
    have e0 : ((n : Int) != (n : Int)) = false := by simp
    go_enter Tryd.func17, Tryd.ntmps17
    go_wp2
    go_loopw [14] (fun o wr => ∃ i : Nat, i ≤ n ∧ o = .int .i64 (i : Int) ∧ (∀ (j : Nat) x y, j < i → xs[j]? = some x → ys[j]? = some y → x.d = y.d) ∧ Hid (Below w.heap.size w wr)) (fun o _ => n - (intOf o).toNat)
    case atStart => exact ⟨0, Nat.zero_le _, rfl, fun j x y h => absurd h (Nat.not_lt_zero j), Below.refl _ _⟩
    case round =>
      obtain ⟨i, hi, rfl, hall, HB⟩ := hrel
      have HA := Lib.hid hall
      clear hall
      by_cases hin : i < n
      · have hin2 : (i : Int) < (n : Int) := by omega
        obtain ⟨ad, x, hA1, had, hx, hxm, hAt, hok⟩ := (HX.out.below HB.out).get hin
        obtain ⟨ad2, y, hA2, had2, hy, hym, hAt2, hok2⟩ := (HY.out.below HB.out).get hin
        subst hA1 hA2
        have HAT := Lib.hid hAt
        have HXI := Lib.hid hx
        have HYI := Lib.hid hy
        have hb1 : Below wr.heap.size wr (wr.alloc (.cells x.cells.toArray 27)) := (Below.refl _ _).alloc (Nat.le_refl _) _
        have hk1 : Blk (wr.alloc (.cells x.cells.toArray 27)) wr.heap.size 27 x.cells := Blk.new _ _ _
        obtain ⟨wz, hwz⟩ : ∃ wz, wr.alloc (.cells x.cells.toArray 27) = wz := ⟨_, rfl⟩
        rw [hwz] at hb1 hk1
        have HZ : Hid (Below w.heap.size w wz ∧ Blk wz wr.heap.size 27 x.cells ∧ At wz (ad2.add (i * 11)) y.cells ∧ (ad2.add (i * 11)).block < wz.heap.size ∧ DxOk wz x ∧ DxOk wz y) :=
          ⟨HB.out.trans (hb1.mono HB.out.size), hk1, hAt2.below hb1 (by rw [block_add]; exact had2), by rw [block_add]; exact Nat.lt_of_lt_of_le had2 hb1.size, hok.below hb1, hok2.below hb1⟩
        obtain ⟨G, hG⟩ : ∃ G, wr.heap.size = G := ⟨_, rfl⟩
        rw [hG] at HZ
        obtain ⟨P, hP⟩ : ∃ P, ad2.add (i * 11) = P := ⟨_, rfl⟩
        rw [hP] at HZ
        clear hAt hAt2 hx hy hxm hym hok hok2 had had2 hb1 hk1
        go_wp2_with (first
          | ((with_reducible refine at_dst (some 18) ?_); refine wpList_loadAt (op := ⟨some 18, _, _, _, _, _⟩) rfl 27 (.tmp 17) rfl (ad.add (i * 11)) rfl x.cells d0 HAT.out hu0 hd0 iD ?_)
          | ((with_reducible refine at_dst none ?_); refine wpList_storeNew (w := wr) (op := ⟨none, _, _, _, _, _⟩) rfl 27 (.tmp 6) (.tmp 18) rfl zeroD x.cells (by rw [hG]; rfl) rfl rfl iD x.one ?_; rw [hwz]))
        have hicap : (i : Int) < (n : Int) := hin2
        (try rw [hwz])
        rename_i hKx
        (try rw [hwz])
        refine wp_region_eachW (by kernel_rfl) (by kernel_rfl) (fun u u' => Below u.heap.size u u') (fun iX v u => match iX with
            | 0 => v = x.val
            | 1 => v = x.val
            | 2 => v = .slice (some ad2) n cap2
            | 3 => v = .int .i64 (i : Int)
            | 4 => v = .pointer (some P)
            | 5 => v = y.val
            | 6 => v = y.val
            | 7 => v = .bool (decide (x.d = y.d))
            | 8 => v = .bool (!decide (x.d = y.d))
            | _ => True) (fun u => Below wz.heap.size wz u) ?m1 (fun _ _ h1 h2 => h1.trans (h2.mono h1.size)) ⟨rfl, rfl, rfl, Nat.le_refl _, fun _ _ => rfl⟩ ?m2 ?m3
        case m1 =>
          intro iX v u u' h hr hb
          rcases iX with _ | _ | _ | _ | _ | _ | _ | _ | _ | iX
          · exact h
          · exact h
          · exact h
          · exact h
          · exact h
          · exact h
          · exact h
          · exact h
          · exact h
          · trivial
        case m2 =>
          intro iX o ho aX u hr hk hpre K hK
          have e1 : aX.tmps.getD 1 undef = .slice (some ad2) n cap2 := hk.slot 1 (by simp)
          have e5 : aX.tmps.getD 5 undef = .int .i64 (i : Int) := hk.slot 5 (by simp)
          have e6 : aX.tmps.getD 6 undef = .pointer (some ⟨G, 0, none⟩) := hk.slot 6 (by simp)
          have rf : Below u.heap.size u u := Below.refl _ _
          rcases iX with _ | _ | _ | _ | _ | _ | _ | _ | _ | iX
          · obtain rfl := Option.some.inj ho
            have y6 : aX.eval (.tmp 6) = .pointer (some ⟨G, 0, none⟩) := e6
            refine st_run (want_none rfl) x.val (w' := u) ?_ (hK _ _ rfl rf)
            simp only [execOp, y6, Instr.loadAt, Instr.sureAddr, Sem.run_bind, Sem.run_pure, Result.andThen_ok, run_loadVar_at (P := Tryd.prog) (w := u) ⟨G, 0, none⟩ 27 x.cells d0 (HZ.out.2.1.at.below hr HZ.out.2.1.lt) hu0 hd0 iD]
            rfl
          · obtain rfl := Option.some.inj ho
            have x0 : aX.eval (.tmp 19) = x.val := (hpre 0 _ rfl ⟨⟨0, .data⟩, by simp, rfl, rfl⟩)
            exact st_callN 11 _ _ rfl (want_none rfl) #[x.val] (by simp [x0]) (by kernel_rfl) _ (MDescr_any x u) (by rintro _ u2 ⟨rfl, hb9⟩; exact ⟨_, rfl, hK _ _ rfl hb9⟩)
          · obtain rfl := Option.some.inj ho
            exact st_move (.tmp 1) rfl (want_none rfl) _ e1 (hK _ _ rfl rf)
          · obtain rfl := Option.some.inj ho
            exact st_move (.tmp 5) rfl (want_none rfl) _ e5 (hK _ _ rfl rf)
          · obtain rfl := Option.some.inj ho
            have y21 : aX.eval (.tmp 21) = .slice (some ad2) n cap2 := (hpre 2 _ rfl ⟨⟨2, .data⟩, by simp, rfl, rfl⟩)
            have y22 : aX.eval (.tmp 22) = .int .i64 (i : Int) := (hpre 3 _ rfl ⟨⟨3, .data⟩, by simp, rfl, rfl⟩)
            refine st_run (want_none rfl) (.pointer (some P)) (w' := u) ?_ (hK _ _ rfl rf)
            simp only [execOp, y21, y22]
            go_simp
          · obtain rfl := Option.some.inj ho
            have y23 : aX.eval (.tmp 23) = .pointer (some P) := (hpre 4 _ rfl ⟨⟨4, .data⟩, by simp, rfl, rfl⟩)
            refine st_run (want_none rfl) y.val (w' := u) ?_ (hK _ _ rfl rf)
            simp only [execOp, y23, Instr.loadAt, Instr.sureAddr, Sem.run_bind, Sem.run_pure, Result.andThen_ok, run_loadVar_at (P := Tryd.prog) (w := u) P 27 y.cells d0 (HZ.out.2.2.1.below hr HZ.out.2.2.2.1) hu0 hd0 iD]
            rfl
          · obtain rfl := Option.some.inj ho
            have x0 : aX.eval (.tmp 24) = y.val := (hpre 5 _ rfl ⟨⟨5, .data⟩, by simp, rfl, rfl⟩)
            exact st_callN 11 _ _ rfl (want_none rfl) #[y.val] (by simp [x0]) (by kernel_rfl) _ (MDescr_any y u) (by rintro _ u2 ⟨rfl, hb9⟩; exact ⟨_, rfl, hK _ _ rfl hb9⟩)
          · obtain rfl := Option.some.inj ho
            have x0 : aX.eval (.tmp 20) = x.val := (hpre 1 _ rfl ⟨⟨1, .data⟩, by simp, rfl, rfl⟩)
            have x1 : aX.eval (.tmp 25) = y.val := (hpre 6 _ rfl ⟨⟨6, .data⟩, by simp, rfl, rfl⟩)
            exact st_callN 19 _ _ rfl (want_none rfl) #[x.val, y.val] (by simp [x0, x1]) (by kernel_rfl) _ (Same_any x y u (HZ.out.2.2.2.2.1.below hr) (HZ.out.2.2.2.2.2.below hr)) (by rintro _ u2 ⟨rfl, hb9⟩; exact ⟨_, rfl, hK _ _ rfl hb9⟩)
          · obtain rfl := Option.some.inj ho
            have y26 : aX.eval (.tmp 26) = .bool (decide (x.d = y.d)) := (hpre 7 _ rfl ⟨⟨7, .data⟩, by simp, rfl, rfl⟩)
            refine st_run (want_none rfl) (.bool (!decide (x.d = y.d))) (w' := u) ?_ (hK _ _ rfl rf)
            simp only [execOp, y26]
            go_simp
          · cases ho
        case m3 =>
          intro aX u hr hk hv
          have q27 : aX.tmps.getD 27 undef = .bool (!decide (x.d = y.d)) := hv 8 _ rfl
          have hfr := keeps_frameP (fun s => decide ((19 ≤ s ∧ s ≤ 27))) hk (by simp)
          refine hKx aX u ?_
          rw [hfr]
          generalize hff : (fun s => aX.tmps.getD s undef) = ff
          have hf27 : ff 27 = .bool (!decide (x.d = y.d)) := by rw [← hff]; exact q27
          simp only [mixP, hf27, decide_eq_true_eq, Nat.reduceAdd, Nat.reduceLeDiff, Nat.reduceEqDiff, false_or, true_or, or_false, or_true, and_true, and_false, true_and, false_and, and_self, if_true, if_false, Nat.zero_le]
          clear hfr hff hf27 q27 hv hk
          have HB6 : Hid (Below w.heap.size w u) := HZ.out.1.trans (hr.mono HZ.out.1.size)
          clear hKx hr
          obtain ⟨bb, hbb⟩ : ∃ bb, decide (x.d = y.d) = bb := ⟨_, rfl⟩
          have HBB := Lib.hid hbb
          rw [hbb]
          clear hbb
          cases bb
          · have E : Hid (D = false) := HD.out.symm.trans (decide_eq_false (fun h => of_decide_eq_false HBB.out (by
              have h1 := congrArg (fun l => l[i]?) h
              simp only [des, List.getElem?_map, HXI.out, HYI.out, Option.map_some, Option.some.injEq] at h1
              exact h1)))
            go_wp2
            go_ret
            exact ⟨by rw [E.out]; rfl, HB6.out⟩
          · go_wp2
            go_roundw
            case rel =>
              refine ⟨i + 1, by omega, by go_num, fun j x' y' hj hx' hy' => ?_, HB6⟩
              by_cases e : j = i
              · subst e
                rw [HXI.out] at hx'
                rw [HYI.out] at hy'
                injection hx' with hx'
                injection hy' with hy'
                rw [← hx', ← hy']; exact of_decide_eq_true HBB.out
              · exact HA.out j x' y' (by omega) hx' hy'
            case measure => simp [intOf]; omega
      · obtain rfl : i = n := by omega
        have E : Hid (D = true) := HD.out.symm.trans (decide_eq_true (des_inj_get (by rw [HX.out.len, HY.out.len]) (fun j x y hx hy => HA.out j x y (by have := (List.getElem?_eq_some_iff.1 hx).1; rw [HX.out.len] at this; exact this) hx hy)))
        go_wp2
        go_ret
        exact ⟨by rw [E.out]; rfl, HB.out⟩
  · have e0 : ((n : Int) != (n2 : Int)) = true := by simp; omega
    have E : Hid (D = false) := HD.out.symm.trans (decide_eq_false (fun h => hn (by
      have h1 := congrArg List.length h
      rw [des, des, List.length_map, List.length_map, HX.out.len, HY.out.len] at h1
      exact h1)))
    clear hn
    go_enter Tryd.func17, Tryd.ntmps17
    go_wp2
    go_ret
    exact ⟨by rw [E.out]; rfl, Below.refl _ _⟩
end Go.Proofs.YtfeihdmjcppbaaaDoor
