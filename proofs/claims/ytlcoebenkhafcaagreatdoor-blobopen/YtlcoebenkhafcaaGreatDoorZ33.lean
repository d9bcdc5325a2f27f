/-
  What SameDescrs answers. No condition but that texts are bytes that fit. BlobOpen returns true for every head and every list of descriptors: its walk.
-/
import Derived.Test.YtlcoebenkhafcaaGreatDoorZ32
import Derived.Laws.StructEq
namespace Go.Proofs.YtlcoebenkhafcaaGreatDoor
open Go.RowKit
set_option linter.unusedVariables false
set_option linter.unusedSimpArgs false
set_option maxRecDepth 100000
theorem des_inj_get {xs ys : List Dx} (hl : xs.length = ys.length) (h : ∀ (j : Nat) x y, xs[j]? = some x → ys[j]? = some y → x.d = y.d) : des xs = des ys := by
  apply List.ext_getElem?
  intro j
  simp only [des, List.getElem?_map]
  cases hx : xs[j]? with
  | none =>
    have : ys[j]? = none := by rw [List.getElem?_eq_none_iff] at hx ⊢; omega
    rw [this]
  | some x =>
    have hj := (List.getElem?_eq_some_iff.1 hx).1
    have hy : ys[j]? = some (ys[j]'(by omega)) := List.getElem?_eq_getElem (by omega)
    rw [hy]
    simp only [Option.map_some]
    rw [h j x _ hx hy]
set_option maxHeartbeats 4000000 in
theorem SameD_any (A : Option Addr) (n cap : Nat) (xs : List Dx) (A2 : Option Addr) (n2 cap2 : Nat) (ys : List Dx) (w : World) (hx : DL w A n xs) (hy : DL w A2 n2 ys) (hnm : n ≤ 1000000) : Calls Tryz.prog 31 #[.slice A n cap, .slice A2 n2 cap2] w fun e w' => e = .returned (.bool (decide (des xs = des ys))) ∧ Below w.heap.size w w' := by
  obtain ⟨d0, hu0, hd0⟩ := uD
  have HX := Lib.hid hx
  have HY := Lib.hid hy
  obtain ⟨D, hD⟩ : ∃ D, decide (des xs = des ys) = D := ⟨_, rfl⟩
  have HD := Lib.hid hD
  rw [hD]
  clear hx hy hD
  by_cases hn : n = n2
  · subst hn
    have e0 : ((n : Int) != (n : Int)) = false := by simp
    go_enter Tryz.func31, Tryz.ntmps31
    go_wp2
    go_loopw [14] (fun o wr => ∃ i : Nat, i ≤ n ∧ o = .int .i64 (i : Int) ∧ (∀ (j : Nat) x y, j < i → xs[j]? = some x → ys[j]? = some y → x.d = y.d) ∧ Hid (Below w.heap.size w wr)) (fun o _ => n - (intOf o).toNat)
    case atStart => exact ⟨0, Nat.zero_le _, rfl, fun j x y h => absurd h (Nat.not_lt_zero j), Below.refl _ _⟩
    case round =>
      obtain ⟨i, hi, rfl, hall, HB⟩ := hrel
      have HA := Lib.hid hall
      clear hall
      by_cases hin : i < n
      · have hin2 : (i : Int) < (n : Int) := by omega
        obtain ⟨ad, x, hA1, had, hx, hxm, hAt, hok⟩ := (HX.out.below HB.out).get hin
        obtain ⟨ad2, y, hA2, had2, hy, hym, hAt2, hok2⟩ := (HY.out.below HB.out).get hin
        subst hA1 hA2
        have HAT := Lib.hid hAt
        have HXI := Lib.hid hx
        have HYI := Lib.hid hy
        have hb1 : Below wr.heap.size wr (wr.alloc (.cells x.cells.toArray 71)) := (Below.refl _ _).alloc (Nat.le_refl _) _
        have hk1 : Blk (wr.alloc (.cells x.cells.toArray 71)) wr.heap.size 71 x.cells := Blk.new _ _ _
        obtain ⟨wz, hwz⟩ : ∃ wz, wr.alloc (.cells x.cells.toArray 71) = wz := ⟨_, rfl⟩
        rw [hwz] at hb1 hk1
        have HZ : Hid (Below w.heap.size w wz ∧ Blk wz wr.heap.size 71 x.cells ∧ At wz (ad2.add (i * 11)) y.cells ∧ (ad2.add (i * 11)).block < wz.heap.size ∧ DxOk wz x ∧ DxOk wz y) :=
          ⟨HB.out.trans (hb1.mono HB.out.size), hk1, hAt2.below hb1 (by rw [block_add]; exact had2), by rw [block_add]; exact Nat.lt_of_lt_of_le had2 hb1.size, hok.below hb1, hok2.below hb1⟩
        obtain ⟨G, hG⟩ : ∃ G, wr.heap.size = G := ⟨_, rfl⟩
        rw [hG] at HZ
        obtain ⟨P, hP⟩ : ∃ P, ad2.add (i * 11) = P := ⟨_, rfl⟩
        rw [hP] at HZ
        clear hAt hAt2 hx hy hxm hym hok hok2 had had2 hb1 hk1
        go_wp2_with (first
          | ((with_reducible refine at_dst (some 18) ?_); refine wpList_loadAt (op := ⟨some 18, _, _, _, _, _⟩) rfl 71 (.tmp 17) rfl (ad.add (i * 11)) rfl x.cells d0 HAT.out hu0 hd0 iD ?_)
          | ((with_reducible refine at_dst none ?_); refine wpList_storeNew (w := wr) (op := ⟨none, _, _, _, _, _⟩) rfl 71 (.tmp 6) (.tmp 18) rfl zeroD x.cells (by rw [hG]; rfl) rfl rfl iD x.one ?_; rw [hwz]))
        have hicap : (i : Int) < (n : Int) := hin2
        (try rw [hwz])
        rename_i hKx
        (try rw [hwz])
        refine wp_region_eachW (by kernel_rfl) (by kernel_rfl) (fun u u' => Below u.heap.size u u') (fun iX v u => match iX with
            | 0 => v = x.val
            | 1 => v = x.val
            | 2 => v = .slice (some ad2) n cap2
            | 3 => v = .int .i64 (i : Int)
            | 4 => v = .pointer (some P)
            | 5 => v = y.val
            | 6 => v = y.val
            | 7 => v = .bool (decide (x.d = y.d))
            | 8 => v = .bool (!decide (x.d = y.d))
            | _ => True) (fun u => Below wz.heap.size wz u) ?m1 (fun _ _ h1 h2 => h1.trans (h2.mono h1.size)) ⟨rfl, rfl, rfl, Nat.le_refl _, fun _ _ => rfl⟩ ?m2 ?m3
        case m1 =>
          intro iX v u u' h hr hb
          rcases iX with _ | _ | _ | _ | _ | _ | _ | _ | _ | iX
          · exact h
          · exact h
          · exact h
          · exact h
          · exact h
          · exact h
          · exact h
          · exact h
          · exact h
          · trivial
        case m2 =>
          intro iX o ho aX u hr hk hpre K hK
          have e1 : aX.tmps.getD 1 undef = .slice (some ad2) n cap2 := hk.slot 1 (by simp)
          have e5 : aX.tmps.getD 5 undef = .int .i64 (i : Int) := hk.slot 5 (by simp)
          have e6 : aX.tmps.getD 6 undef = .pointer (some ⟨G, 0, none⟩) := hk.slot 6 (by simp)
          have rf : Below u.heap.size u u := Below.refl _ _
          rcases iX with _ | _ | _ | _ | _ | _ | _ | _ | _ | iX
          · obtain rfl := Option.some.inj ho
            have y6 : aX.eval (.tmp 6) = .pointer (some ⟨G, 0, none⟩) := e6
            refine st_run (want_none rfl) x.val (w' := u) ?_ (hK _ _ rfl rf)
            simp only [execOp, y6, Instr.loadAt, Instr.sureAddr, Sem.run_bind, Sem.run_pure, Result.andThen_ok, run_loadVar_at (P := Tryz.prog) (w := u) ⟨G, 0, none⟩ 71 x.cells d0 (HZ.out.2.1.at.below hr HZ.out.2.1.lt) hu0 hd0 iD]
            rfl
          · obtain rfl := Option.some.inj ho
            have x0 : aX.eval (.tmp 19) = x.val := (hpre 0 _ rfl ⟨⟨0, .data⟩, by simp, rfl, rfl⟩)
            exact st_callN 52 _ _ rfl (want_none rfl) #[x.val] (by simp [x0]) (by kernel_rfl) _ (MDescr_any x u) (by rintro _ u2 ⟨rfl, hb9⟩; exact ⟨_, rfl, hK _ _ rfl hb9⟩)
          · obtain rfl := Option.some.inj ho
            exact st_move (.tmp 1) rfl (want_none rfl) _ e1 (hK _ _ rfl rf)
          · obtain rfl := Option.some.inj ho
            exact st_move (.tmp 5) rfl (want_none rfl) _ e5 (hK _ _ rfl rf)
          · obtain rfl := Option.some.inj ho
            have y21 : aX.eval (.tmp 21) = .slice (some ad2) n cap2 := (hpre 2 _ rfl ⟨⟨2, .data⟩, by simp, rfl, rfl⟩)
            have y22 : aX.eval (.tmp 22) = .int .i64 (i : Int) := (hpre 3 _ rfl ⟨⟨3, .data⟩, by simp, rfl, rfl⟩)
            refine st_run (want_none rfl) (.pointer (some P)) (w' := u) ?_ (hK _ _ rfl rf)
            simp only [execOp, y21, y22]
            go_simp
          · obtain rfl := Option.some.inj ho
            have y23 : aX.eval (.tmp 23) = .pointer (some P) := (hpre 4 _ rfl ⟨⟨4, .data⟩, by simp, rfl, rfl⟩)
            refine st_run (want_none rfl) y.val (w' := u) ?_ (hK _ _ rfl rf)
            simp only [execOp, y23, Instr.loadAt, Instr.sureAddr, Sem.run_bind, Sem.run_pure, Result.andThen_ok, run_loadVar_at (P := Tryz.prog) (w := u) P 71 y.cells d0 (HZ.out.2.2.1.below hr HZ.out.2.2.2.1) hu0 hd0 iD]
            rfl
          · obtain rfl := Option.some.inj ho
            have x0 : aX.eval (.tmp 24) = y.val := (hpre 5 _ rfl ⟨⟨5, .data⟩, by simp, rfl, rfl⟩)
            exact st_callN 52 _ _ rfl (want_none rfl) #[y.val] (by simp [x0]) (by kernel_rfl) _ (MDescr_any y u) (by rintro _ u2 ⟨rfl, hb9⟩; exact ⟨_, rfl, hK _ _ rfl hb9⟩)
          · obtain rfl := Option.some.inj ho
            have x0 : aX.eval (.tmp 20) = x.val := (hpre 1 _ rfl ⟨⟨1, .data⟩, by simp, rfl, rfl⟩)
            have x1 : aX.eval (.tmp 25) = y.val := (hpre 6 _ rfl ⟨⟨6, .data⟩, by simp, rfl, rfl⟩)
            exact st_callN 51 _ _ rfl (want_none rfl) #[x.val, y.val] (by simp [x0, x1]) (by kernel_rfl) _ (Same_any x y u (HZ.out.2.2.2.2.1.below hr) (HZ.out.2.2.2.2.2.below hr)) (by rintro _ u2 ⟨rfl, hb9⟩; exact ⟨_, rfl, hK _ _ rfl hb9⟩)
          · obtain rfl := Option.some.inj ho
            have y26 : aX.eval (.tmp 26) = .bool (decide (x.d = y.d)) := (hpre 7 _ rfl ⟨⟨7, .data⟩, by simp, rfl, rfl⟩)
            refine st_run (want_none rfl) (.bool (!decide (x.d = y.d))) (w' := u) ?_ (hK _ _ rfl rf)
            simp only [execOp, y26]
            go_simp
          · cases ho
        case m3 =>
          intro aX u hr hk hv
          have q27 : aX.tmps.getD 27 undef = .bool (!decide (x.d = y.d)) := hv 8 _ rfl
          have hfr := keeps_frameP (fun s => decide ((19 ≤ s ∧ s ≤ 27))) hk (by simp)
          refine hKx aX u ?_
          rw [hfr]
          generalize hff : (fun s => aX.tmps.getD s undef) = ff
          have hf27 : ff 27 = .bool (!decide (x.d = y.d)) := by rw [← hff]; exact q27
          simp only [mixP, hf27, decide_eq_true_eq, Nat.reduceAdd, Nat.reduceLeDiff, Nat.reduceEqDiff, false_or, true_or, or_false, or_true, and_true, and_false, true_and, false_and, and_self, if_true, if_false, Nat.zero_le]
          clear hfr hff hf27 q27 hv hk
          have HB6 : Hid (Below w.heap.size w u) := HZ.out.1.trans (hr.mono HZ.out.1.size)
          clear hKx hr
          obtain ⟨bb, hbb⟩ : ∃ bb, decide (x.d = y.d) = bb := ⟨_, rfl⟩
          have HBB := Lib.hid hbb
          rw [hbb]
          clear hbb
          cases bb
          · have E : Hid (D = false) := HD.out.symm.trans (decide_eq_false (fun h => of_decide_eq_false HBB.out (by
              have h1 := congrArg (fun l => l[i]?) h
              simp only [des, List.getElem?_map, HXI.out, HYI.out, Option.map_some, Option.some.injEq] at h1
              exact h1)))
            go_wp2
            go_ret
            exact ⟨by rw [E.out]; rfl, HB6.out⟩
          · go_wp2
            go_roundw
            case rel =>
              refine ⟨i + 1, by omega, by go_num, fun j x' y' hj hx' hy' => ?_, HB6⟩
              by_cases e : j = i
              · subst e
                rw [HXI.out] at hx'
                rw [HYI.out] at hy'
                injection hx' with hx'
                injection hy' with hy'
                rw [← hx', ← hy']; exact of_decide_eq_true HBB.out
              · exact HA.out j x' y' (by omega) hx' hy'
            case measure => simp [intOf]; omega
      · obtain rfl : i = n := by omega
        have E : Hid (D = true) := HD.out.symm.trans (decide_eq_true (des_inj_get (by rw [HX.out.len, HY.out.len]) (fun j x y hx hy => HA.out j x y (by have := (List.getElem?_eq_some_iff.1 hx).1; rw [HX.out.len] at this; exact this) hx hy)))
        go_wp2
        go_ret
        exact ⟨by rw [E.out]; rfl, HB.out⟩
  · have e0 : ((n : Int) != (n2 : Int)) = true := by simp; omega
    have E : Hid (D = false) := HD.out.symm.trans (decide_eq_false (fun h => hn (by
      have h1 := congrArg List.length h
      rw [des, des, List.length_map, List.length_map, HX.out.len, HY.out.len] at h1
      exact h1)))
    clear hn
    go_enter Tryz.func31, Tryz.ntmps31
    go_wp2
    go_ret
    exact ⟨by rw [E.out]; rfl, Below.refl _ _⟩
end Go.Proofs.YtlcoebenkhafcaaGreatDoor
namespace Go.Proofs.YtlcoebenkhafcaaGreatDoor
open Go.RowKit
set_option linter.unusedVariables false
set_option linter.unusedSimpArgs false
set_option maxRecDepth 100000
def HeadIn (b : Bl) : Prop := I64 b.alg ∧ I64 b.idx ∧ I64 b.flags ∧ I64 b.loc ∧ b.ds = [] ∧ b.key = [] ∧ b.hash = [] ∧ b.sig = []
def withDs (b : Bl) (xs : List Dx) : Bl := ⟨b.alg, b.idx, b.flags, b.loc, des xs, [], [], []⟩
def headX (b : Bl) (A : Option Addr) (n cap : Nat) (xs : List Dx) : BX := ⟨withDs b xs, xs, ⟨A, n, cap⟩, nilS, nilS, nilS⟩
theorem headX_bare (b : Bl) (A : Option Addr) (n cap : Nat) (xs : List Dx) : Bare (headX b A n cap xs) := ⟨rfl, rfl, rfl, rfl, rfl, rfl⟩
theorem headX_ok {b : Bl} {A : Option Addr} {n cap : Nat} {xs : List Dx} {w : World} (h : HeadIn b) (g : Dsc w A n cap xs) (hn : n ≤ 100000) (hnm : ∀ y ∈ xs, y.d.name.length ≤ 100000) : BXOk w (headX b A n cap xs) :=
  ⟨h.1, h.2.1, h.2.2.1, h.2.2.2.1, g.dl, rfl, hn, g.le, g.max, hnm, Bs.none _, Bs.none _, Bs.none _⟩
theorem Dsc.below {w w' : World} {A : Option Addr} {n cap : Nat} {xs : List Dx} (h : Dsc w A n cap xs) (hb : Below w.heap.size w w') : Dsc w' A n cap xs := ⟨h.dl.below hb, h.le, h.max⟩
theorem i31 : (Tryz.prog.info? 3).map (·.size) = some 1 := by kernel_rfl
theorem names_small {xs : List Dx} (h : ∀ x ∈ xs, SmallX x) : ∀ x ∈ xs, x.d.name.length ≤ 100000 := fun x hx => by have := (h x hx).1; omega
theorem Blk.hat {w : World} {g : Nat} {x : BX} (h : Blk w g 27 x.cells) : At w ⟨g, 0, none⟩ (hcells x.b) := fun j v hj => by
  rw [addr_add, Nat.zero_add, h.cell]
  show (hcells x.b ++ x.tail)[j]? = some v
  rw [List.getElem?_append_left (List.getElem?_eq_some_iff.1 hj).1]
  exact hj
theorem run_plainPart {xs : Array Value} {off : Nat} {v : Value} {w : World} (hx : xs[off]? = some v) : (Go.part 3 xs off).run Tryz.prog w = .ok v w := by
  simp [Go.part, isAgg, run_underlying Tryz.underlying3, hx]
theorem eqlH (a b c d : Int) (w : World) : (Op.equalIn 10000 23 (.agg #[.int .i64 a, .int .i64 b, .int .i64 c, .int .i64 d]) (.agg #[.int .i64 a, .int .i64 b, .int .i64 c, .int .i64 d])).run Tryz.prog w = .ok true w := by
  rw [show (10000 : Nat) = 9999 + 1 from rfl, run_equalIn_struct w 9999 23 _ _ (by kernel_rfl) (by kernel_rfl)]
  have hp : ∀ (off : Nat) (v : Value) (w : World), (#[Value.int .i64 a, .int .i64 b, .int .i64 c, .int .i64 d] : Array Value)[off]? = some v → (Go.part 3 #[.int .i64 a, .int .i64 b, .int .i64 c, .int .i64 d] off).run Tryz.prog w = .ok v w := fun off v w h => run_plainPart h
  have he : ∀ (x : Int) (w : World), (Op.equalIn 9999 3 (.int .i64 x) (.int .i64 x)).run Tryz.prog w = .ok true w := fun x w => by
    have := run_equalIn_int (P := Tryz.prog) w 9998 3 .i64 .i64 x x Tryz.underlying3
    simpa using this
  simp [Program.fieldsOf, Tryz.underlying23, Op.eqFields, hp 0 _ _ rfl, hp 1 _ _ rfl, hp 2 _ _ rfl, hp 3 _ _ rfl, he]
set_option maxHeartbeats 8000000 in
theorem open_walk (b : Bl) (A : Option Addr) (n cap : Nat) (xs : List Dx) (W : World) (hh : HeadIn b) (g : Dsc W A n cap xs) (ht : Both W) : Calls Tryz.prog 9 #[.agg (hcells b).toArray, .slice A n cap] W fun e w' => e = .returned (.bool true) ∧ Below W.heap.size W w' := by
  obtain ⟨dH, huH, hdH⟩ := uH
  have HH := Lib.hid hh
  have HG := Lib.hid g
  have HT := Lib.hid ht
  clear hh g ht
  have hb0 : Below W.heap.size W (W.alloc (.cells (hcells b).toArray 23)) := (Below.refl _ _).alloc (Nat.le_refl _) _
  have hk0 : Blk (W.alloc (.cells (hcells b).toArray 23)) W.heap.size 23 (hcells b) := Blk.new _ _ _
  obtain ⟨w0, hw0⟩ : ∃ w0, W.alloc (.cells (hcells b).toArray 23) = w0 := ⟨_, rfl⟩
  rw [hw0] at hb0 hk0
  obtain ⟨gh, hgh⟩ : ∃ gh, W.heap.size = gh := ⟨_, rfl⟩
  have HGH := Lib.hid hgh
  rw [hgh] at hb0 hk0
  have X0 : Hid (Below gh W w0 ∧ Blk w0 gh 23 (hcells b)) := ⟨hb0, hk0⟩
  clear hb0 hk0
  have HA := Lib.hid (anchor_any w0 (HT.out.below (by rw [hgh]; exact X0.out.1)))
  go_enter Tryz.func9, Tryz.ntmps9
  go_wp2_with fail
  refine HA.out.mono ?_
  rintro e w1 ⟨rfl, hb1⟩
  have X1 : Hid (Below gh W w1 ∧ Blk w1 gh 23 (hcells b)) := ⟨X0.out.1.trans (hb1.mono (Nat.le_of_lt X0.out.2.lt)), X0.out.2.below hb1 X0.out.2.lt⟩
  clear hb1
  have HS := Lib.hid (Small_any A n cap xs w1 (HG.out.dl.below (by rw [hgh]; exact X1.out.1)) HG.out.le HG.out.max)
  go_wp2_with fail
  refine HS.out.mono ?_
  rintro e w2 ⟨sm, rfl, hsm, hb2⟩
  have X2 : Hid (Below gh W w2 ∧ Blk w2 gh 23 (hcells b)) := ⟨X1.out.1.trans (hb2.mono (Nat.le_of_lt X1.out.2.lt)), X1.out.2.below hb2 X1.out.2.lt⟩
  clear hb2
  cases sm
  · clear hsm
    go_wp2
    go_ret
    exact ⟨rfl, by rw [hgh]; exact X2.out.1⟩
  · obtain ⟨hsmall, hn40⟩ := hsm rfl
    have HNM := Lib.hid (names_small hsmall)
    have HN := Lib.hid hn40
    clear hsm hsmall hn40
    go_wp2_with ((with_reducible refine at_dst none ?_); refine stopper ?_)
    refine ⟨?_, trivial⟩
    refine wpList_storeOne (op := ⟨none, _, _, _, _, _⟩) rfl 3 (.tmp 16) (.const (.int .i64 0)) rfl (g := gh) (i := 0) (t := 23) (v := .int .i64 0) rfl rfl X2.out.2 (by show 0 < 4; omega) rfl rfl i31 ?_
    intro w3 hU3 hT3
    have X3 : Hid (Below gh W w3 ∧ Blk w3 gh 23 (hcells { b with alg := 0 })) := ⟨hT3.belowAt X2.out.1 (Nat.le_refl _) (Nat.le_of_lt X2.out.2.lt), hU3.out⟩
    clear hU3 hT3
    obtain ⟨b1, hb1⟩ : ∃ b1 : Bl, b1 = { b with alg := 0 } := ⟨_, rfl⟩
    have HH1 : Hid (HeadIn b1) := by rw [hb1]; exact ⟨i64_zero, HH.out.2⟩
    have HA1 : Hid (b1.alg = 0) := by rw [hb1]; rfl
    rw [← hb1] at X3
    clear hb1
    have hdsc : Dsc w3 A n cap xs := HG.out.below (by rw [hgh]; exact X3.out.1)
    have HXO := Lib.hid (headX_ok HH1.out hdsc (by have := HN.out; omega) HNM.out)
    have hhc : hcells (headX b1 A n cap xs).b = hcells b1 := rfl
    clear hdsc
    by_cases hok : Headed (headX b1 A n cap xs).b ∧ Listed (headX b1 A n cap xs).b.ds
    · have HOK := Lib.hid hok
      clear hok
      have HMK := Lib.hid (BMake_open (headX b1 A n cap xs) (headX_bare _ _ _ _ _) none 0 0 none 0 0 w3 HXO.out HOK.out.1 HOK.out.2 HA1.out)
      go_wp2_with ((with_reducible refine at_dst (some 18) ?_); refine wpList_loadAt (op := ⟨some 18, _, _, _, _, _⟩) rfl 23 (.tmp 2) rfl ⟨gh, 0, none⟩ rfl (hcells b1) dH X3.out.2.at huH hdH iH ?_)
      refine HMK.out.mono ?_
      rintro e w4 ⟨A4, n4, c4, rfl, hr4, hb4⟩
      have hbr : BRight (headX b1 A n cap xs).b := (headX_bare b1 A n cap xs).right HOK.out.1 HOK.out.2 HA1.out
      have hn4 : n4 ≤ 100000 := by have h1 := hr4.length; have h2 := hbr.len_le; rw [cn_length] at h1; omega
      have hbs := hr4.bs (bbytes_fit HXO.out.fits)
      have X4 : Hid (Below gh W w4 ∧ Blk w4 gh 23 (hcells b1) ∧ Bs w4 A4 n4 c4 (bbytes (headX b1 A n cap xs).b)) := ⟨X3.out.1.trans (hb4.mono (Nat.le_of_lt X3.out.2.lt)), X3.out.2.below hb4 X3.out.2.lt, hbs⟩
      have HPB : Hid (bparse (bbytes (headX b1 A n cap xs).b) = ((headX b1 A n cap xs).b, 0)) := bparse_bbytes hbr
      have HN4 := Lib.hid hn4
      have HPA := Lib.hid (BParse_any A4 n4 c4 _ w4 hbs hn4)
      clear hr4 hb4 hbr hn4 hbs
      go_wp2_with fail
      refine HPA.out.mono ?_
      rintro e w5 ⟨x, er, rfl, hpb, hxo, hxn, hz, hb5⟩
      rw [HPB.out] at hpb
      simp only [Prod.mk.injEq] at hpb
      obtain ⟨hxb, rfl⟩ := hpb
      have hb6 : Below w5.heap.size w5 (w5.alloc (.cells x.cells.toArray 27)) := (Below.refl _ _).alloc (Nat.le_refl _) _
      have hk6 : Blk (w5.alloc (.cells x.cells.toArray 27)) w5.heap.size 27 x.cells := Blk.new _ _ _
      obtain ⟨w6, hw6⟩ : ∃ w6, w5.alloc (.cells x.cells.toArray 27) = w6 := ⟨_, rfl⟩
      rw [hw6] at hb6 hk6
      obtain ⟨g6, hg6⟩ : ∃ g6, w5.heap.size = g6 := ⟨_, rfl⟩
      rw [hg6] at hk6
      have hb46 : Below w4.heap.size w4 w6 := hb5.trans (hb6.mono hb5.size)
      have X6 : Hid (Below gh W w6 ∧ Blk w6 gh 23 (hcells b1) ∧ Bs w6 A4 n4 c4 (bbytes (headX b1 A n cap xs).b) ∧ Blk w6 g6 27 x.cells ∧ BXOk w6 x) := ⟨X4.out.1.trans (hb46.mono (Nat.le_of_lt X4.out.2.1.lt)), X4.out.2.1.below hb46 X4.out.2.1.lt, X4.out.2.2.below hb46, hk6, hxo.below hb6⟩
      have HXB : Hid ((headX b1 A n cap xs).b = x.b) := hxb
      have HCK := Lib.hid (BCheck_any A4 n4 c4 _ w6 X6.out.2.2.1 HN4.out (HT.out.below (by rw [hgh]; exact X6.out.1)))
      clear hxb hxo hxn hz hb5 hb6 hk6 hb46
      unfold BX.val
      go_wp2_with ((with_reducible refine at_dst none ?_); refine wpList_storeNew (w := w5) (op := ⟨none, _, _, _, _, _⟩) rfl 27 (.tmp 7) (.tmp 30) rfl zeroB x.cells (by rw [← hg6]; rfl) rfl rfl iBl x.one ?_; rw [hw6])
      refine HCK.out.mono ?_
      rintro e w7 ⟨x7, er7, rfl, h1, h2, h3, h4, hb7⟩
      have her : er7 = 23 := by
        rw [HPB.out] at h1
        rcases h1 with ⟨j, hj, h1, _⟩ | ⟨y, h1, ht, _⟩
        · injection h1 with _ h1
          exact absurd h1.symm hj
        · injection h1 with h1 _
          subst h1
          rcases ht with ⟨_, h⟩ | ⟨z, hz, hz2, _⟩
          · exact h
          · have h0 : (headX b1 A n cap xs).b.alg = 0 := HA1.out
            rw [h0] at hz2
            omega
      subst her
      have hx7 : x7 = zeroX := h2 (by decide)
      subst hx7
      have hb8 : Below w7.heap.size w7 (w7.alloc (.cells zeroX.cells.toArray 27)) := (Below.refl _ _).alloc (Nat.le_refl _) _
      have hk8 : Blk (w7.alloc (.cells zeroX.cells.toArray 27)) w7.heap.size 27 zeroX.cells := Blk.new _ _ _
      obtain ⟨w8, hw8⟩ : ∃ w8, w7.alloc (.cells zeroX.cells.toArray 27) = w8 := ⟨_, rfl⟩
      rw [hw8] at hb8 hk8
      obtain ⟨g8, hg8⟩ : ∃ g8, w7.heap.size = g8 := ⟨_, rfl⟩
      rw [hg8] at hk8
      have hb68 : Below w6.heap.size w6 w8 := hb7.trans (hb8.mono hb7.size)
      have X8 : Hid (Below gh W w8 ∧ Blk w8 gh 23 (hcells b1) ∧ Blk w8 g6 27 x.cells ∧ BXOk w8 x ∧ Blk w8 g8 27 zeroX.cells) := ⟨X6.out.1.trans (hb68.mono (Nat.le_of_lt X6.out.2.1.lt)), X6.out.2.1.below hb68 X6.out.2.1.lt, X6.out.2.2.2.1.below hb68 X6.out.2.2.2.1.lt, X6.out.2.2.2.2.below hb68, hk8⟩
      have hxe : hcells x.b = hcells b1 := by rw [← HXB.out]; rfl
      have hat6 : At w8 ⟨g6, 0, none⟩ (hcells b1) := by rw [← hxe]; exact X8.out.2.2.1.hat
      have q0 : w8.cell? ⟨g6, 0, none⟩ = some (.int .i64 b1.alg) := hat6 0 _ rfl
      have r0 : w8.cell? ⟨gh, 0, none⟩ = some (.int .i64 b1.alg) := X8.out.2.1.at 0 _ rfl
      have q1 : w8.cell? ⟨g6, 1, none⟩ = some (.int .i64 b1.idx) := hat6 1 _ rfl
      have r1 : w8.cell? ⟨gh, 1, none⟩ = some (.int .i64 b1.idx) := X8.out.2.1.at 1 _ rfl
      have q2 : w8.cell? ⟨g6, 2, none⟩ = some (.int .i64 b1.flags) := hat6 2 _ rfl
      have r2 : w8.cell? ⟨gh, 2, none⟩ = some (.int .i64 b1.flags) := X8.out.2.1.at 2 _ rfl
      have q3 : w8.cell? ⟨g6, 3, none⟩ = some (.int .i64 b1.loc) := hat6 3 _ rfl
      have r3 : w8.cell? ⟨gh, 3, none⟩ = some (.int .i64 b1.loc) := X8.out.2.1.at 3 _ rfl
      have k4 : w8.cell? ⟨g6, 4, none⟩ = some (.slice x.sd.A x.sd.n x.sd.cap) := X8.out.2.2.1.cell 4
      have hds : des x.xs = des xs := by
        have h1 := X8.out.2.2.2.1.ds
        rw [h1, ← HXB.out]; rfl
      have HSD := Lib.hid (SameD_any x.sd.A x.sd.n x.sd.cap x.xs A n cap xs w8 X8.out.2.2.2.1.dl (HG.out.dl.below (by rw [hgh]; exact X8.out.1)) (by have := X8.out.2.2.2.1.dn; omega))
      rw [decide_eq_true hds] at HSD
      have heq := fun (w : World) => eqlH b1.alg b1.idx b1.flags b1.loc w
      clear hb7 hb8 hk8 hb68 hxe hat6 hds h1 h2 h3 h4
      unfold BX.val
      go_wp2_with (first
        | ((with_reducible refine at_dst none ?_); refine wpList_storeNew (w := w7) (op := ⟨none, _, _, _, _, _⟩) rfl 27 (.tmp 9) (.tmp 35) rfl zeroB zeroX.cells (by rw [← hg8]; rfl) rfl rfl iBl zeroX.one ?_; rw [hw8]))
      refine HSD.out.mono ?_
      rintro e w9 ⟨rfl, hb9⟩
      have X9 : Hid (Below gh W w9 ∧ Blk w9 g8 27 zeroX.cells) := ⟨X8.out.1.trans (hb9.mono (Nat.le_of_lt X8.out.2.1.lt)), X8.out.2.2.2.2.below hb9 X8.out.2.2.2.2.lt⟩
      have k9 : w9.cell? ⟨g8, 4, none⟩ = some (.slice none 0 0) := X9.out.2.cell 4
      clear hb9
      go_wp2
      go_ret
      exact ⟨by first | rfl | simp [*], by rw [hgh]; exact X9.out.1⟩
    · have HMK := Lib.hid (BMake_no (headX b1 A n cap xs) none 0 0 none 0 0 w3 HXO.out hok)
      clear hok
      go_wp2_with ((with_reducible refine at_dst (some 18) ?_); refine wpList_loadAt (op := ⟨some 18, _, _, _, _, _⟩) rfl 23 (.tmp 2) rfl ⟨gh, 0, none⟩ rfl (hcells b1) dH X3.out.2.at huH hdH iH ?_)
      refine HMK.out.mono ?_
      rintro e w4 ⟨rfl, hb4⟩
      have X4 : Hid (Below gh W w4) := X3.out.1.trans (hb4.mono (Nat.le_of_lt X3.out.2.lt))
      clear hb4
      go_wp2
      go_ret
      exact ⟨rfl, by rw [hgh]; exact X4.out⟩
end Go.Proofs.YtlcoebenkhafcaaGreatDoor
