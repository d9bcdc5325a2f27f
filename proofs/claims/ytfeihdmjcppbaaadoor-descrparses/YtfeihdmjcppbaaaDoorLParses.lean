/-
  DescrParses returns true for every slice of bytes: its walk.
-/
import Derived.Test.YtfeihdmjcppbaaaDoorF4
import Derived.Test.YtfeihdmjcppbaaaDoorS3
namespace Go.Proofs.YtfeihdmjcppbaaaDoor
open Go.RowKit
set_option linter.unusedVariables false
set_option linter.unusedSimpArgs false
set_option maxRecDepth 100000

theorem be_num : ∀ (s : Nat) (l : List Nat), Fit 256 l → l.length = s → be s (num l) = l
  | 0, l, _, h => by rw [List.eq_nil_of_length_eq_zero h]; rfl
  | s + 1, l, hf, h => by
    rcases List.eq_nil_or_concat l with rfl | ⟨l', x, rfl⟩
    · simp at h
    · have hx : x < 256 := hf x (by simp)
      have ih := be_num s l' (fun d hd => hf d (by simp [hd])) (by simpa using h)
      simp only [List.concat_eq_append] at *
      rw [num_snoc, be, show (num l' * 256 + x) / 256 = num l' by omega, show (num l' * 256 + x) % 256 = x by omega, ih]
theorem step_ne {seen : List De} {b : List Nat} {e : Nat} (h : step seen b = .error e) : e ≠ 0 := by
  unfold step at h
  split at h
  · injection h with h; omega
  · split at h
    · injection h with h; omega
    · split at h
      · injection h with h; omega
      · cases hd : dec (num (sl b 0 8)) (sl b 16 (num (sl b 8 8))) with
        | none => rw [hd] at h; injection h with h; omega
        | some x =>
          rw [hd] at h
          simp only [] at h
          split at h
          · injection h with h; omega
          · cases h
theorem step_bytes {seen : List De} {b : List Nat} {d : De} {n : Nat} (h : step seen b = .ok (d, n)) (hf : Fit 256 b) : Right d ∧ dup seen d = false ∧ b.take (16 + n) = enc d := by
  unfold step at h
  split at h
  · cases h
  · split at h
    · cases h
    · split at h
      · cases h
      · next h1 h2 h3 =>
        cases hd : dec (num (sl b 0 8)) (sl b 16 (num (sl b 8 8))) with
        | none => rw [hd] at h; cases h
        | some x =>
          rw [hd] at h
          simp only [] at h
          split at h
          · cases h
          · next hn =>
            simp only [Except.ok.injEq, Prod.mk.injEq] at h
            obtain ⟨rfl, rfl⟩ := h
            obtain ⟨g1, g2, g3⟩ := dec_some hd
            refine ⟨g1, by simpa using hn, ?_⟩
            have e1 : x.kind.toNat = num (sl b 0 8) := by rw [g3]; exact Int.toNat_natCast _
            have e2 : (body x).length = num (sl b 8 8) := by rw [g2, sl_length (by omega)]
            have b1 := be_num 8 (sl b 0 8) (sl_fit hf 0 8) (sl_length (by omega))
            have b2 := be_num 8 (sl b 8 8) (sl_fit hf 8 8) (sl_length (by omega))
            rw [enc, e1, e2, b1, b2, g2]
            obtain ⟨m, hm⟩ : ∃ m, num (sl b 8 8) = m := ⟨_, rfl⟩
            rw [hm]
            unfold sl
            rw [List.drop_zero, show 16 + m = 8 + (8 + m) by omega, List.take_add, List.take_add, List.drop_drop]
theorem pgo_back : ∀ (f : Nat) (seen : List De) (b : List Nat) (L : List De), Fit 256 b → pgo f seen b = (L, 0) → ∃ M, L = seen ++ M ∧ (∀ d ∈ M, Right d) ∧ tw seen M = false ∧ M.length ≤ f ∧ encs M = b
  | 0, seen, b, L, hf, h => by
    rw [pgo] at h
    by_cases hb : b.length = 0
    · rw [if_pos hb] at h
      injection h with h1 h2
      exact ⟨[], by simp [h1], by simp, rfl, Nat.le_refl _, by rw [List.eq_nil_of_length_eq_zero hb]; rfl⟩
    · rw [if_neg hb] at h
      injection h with h1 h2
      omega
  | f + 1, seen, b, L, hf, h => by
    rw [pgo] at h
    by_cases hb : b.length = 0
    · rw [if_pos hb] at h
      injection h with h1 h2
      exact ⟨[], by simp [h1], by simp, rfl, by simp, by rw [List.eq_nil_of_length_eq_zero hb]; rfl⟩
    · rw [if_neg hb] at h
      cases hs : step seen b with
      | error e =>
        rw [hs] at h
        injection h with h1 h2
        exact absurd h2 (step_ne hs)
      | ok q =>
        obtain ⟨d, n⟩ := q
        rw [hs] at h
        obtain ⟨h1, h2, h3⟩ := step_bytes hs hf
        obtain ⟨M, e1, e2, e3, e4, e5⟩ := pgo_back f (seen ++ [d]) (b.drop (16 + n)) L (hf.drop _) h
        refine ⟨d :: M, by rw [e1]; simp, fun y hy => ?_, by simp [tw, h2, e3], by simpa using e4, ?_⟩
        · rcases List.mem_cons.1 hy with rfl | hy
          · exact h1
          · exact e2 y hy
        · show enc d ++ encs M = b
          rw [e5, ← h3, List.take_append_drop]
theorem parse_back {l : List Nat} {L : List De} (hf : Fit 256 l) (h : parse l = (L, 0)) : encode L = (l, 0) := by
  obtain ⟨M, e1, e2, e3, e4, e5⟩ := pgo_back 32 [] l L hf h
  rw [List.nil_append] at e1
  subst e1
  unfold encode
  rw [if_neg (by omega), if_pos e2, e3, e5]
  rfl
theorem parse_right {l : List Nat} {L : List De} (hf : Fit 256 l) (h : parse l = (L, 0)) : ∀ d ∈ L, Right d := by
  obtain ⟨M, e1, e2, e3, e4, e5⟩ := pgo_back 32 [] l L hf h
  rw [List.nil_append] at e1
  rw [e1]; exact e2
theorem pgo_len : ∀ (f : Nat) (seen : List De) (b : List Nat) (L : List De) (er : Nat), pgo f seen b = (L, er) → L.length ≤ seen.length + f
  | 0, seen, b, L, er, h => by
    rw [pgo] at h
    split at h
    · injection h with h1 h2; rw [← h1]; omega
    · injection h with h1 h2; rw [← h1]; simp
  | f + 1, seen, b, L, er, h => by
    rw [pgo] at h
    split at h
    · injection h with h1 h2; rw [← h1]; omega
    · cases hs : step seen b with
      | error e => rw [hs] at h; injection h with h1 h2; rw [← h1]; simp
      | ok q =>
        obtain ⟨d, n⟩ := q
        rw [hs] at h
        have := pgo_len f (seen ++ [d]) _ L er h
        rw [List.length_append, List.length_singleton] at this
        omega
theorem pgo_len' {l : List Nat} {L : List De} {er : Nat} (h : parse l = (L, er)) : L.length ≤ 32 := by
  have := pgo_len 32 [] l L er h
  simpa using this
theorem des_eq_get {xs ys : List Dx} (h : des xs = des ys) {i : Nat} {x y : Dx} (hx : xs[i]? = some x) (hy : ys[i]? = some y) : x.d = y.d := by
  have h1 := congrArg (fun l => l[i]?) h
  simp only [des, List.getElem?_map, hx, hy, Option.map_some, Option.some.injEq] at h1
  exact h1
set_option maxHeartbeats 8000000 in
theorem parses_walk (A : Option Addr) (n cap : Nat) (l : List Nat) (W : World) (g : Bs W A n cap l) : Calls Tryd.prog 4 #[.slice A n cap] W fun e w' => e = .returned (.bool true) ∧ Below W.heap.size W w' := by
  obtain ⟨d0, hu0, hd0⟩ := uD
  obtain ⟨d1, hu1, hd1⟩ := uR
  have HG := Lib.hid g
  clear g
  go_enter Tryd.func4, Tryd.ntmps4
  go_wp2_with fail
  refine (anchor_any W).mono ?_
  rintro e w1 ⟨rfl, hb1⟩
  have B1 := Lib.hid hb1
  clear hb1
  by_cases hbig : n ≤ 4000
  · have z1 : ¬ (4000 : Int) < (n : Int) := by omega
    have HPA := Lib.hid (Parse_any A n cap l w1 (HG.out.below B1.out) (by omega))
    go_wp2_with fail
    refine HPA.out.mono ?_
    rintro e w2 ⟨Am, nm, cm, xs, er, rfl, hpa, hpl, hnw, hb2⟩
    have B2 := Lib.hid (below_then B1.out hb2)
    have HP1 := Lib.hid hpa
    have HX := Lib.hid hpl.dl
    have HLX := Lib.hid hpl.le
    have HRP := Lib.hid (RParse_any A n cap l w2 (HG.out.below B2.out) (by omega))
    clear hpa hpl hnw hb2 HPA
    go_wp2_with fail
    refine HRP.out.mono ?_
    rintro e w3 ⟨Ar, nr, cr, ys, er2, rfl, hpa2, hpl2, hb3⟩
    rw [HP1.out] at hpa2
    simp only [Prod.mk.injEq] at hpa2
    obtain ⟨hxy, rfl⟩ := hpa2
    have HXY := Lib.hid hxy
    have hlen : nr = nm := by
      have h1 := congrArg List.length hxy
      rw [des, des, List.length_map, List.length_map, HX.out.len, hpl2.len] at h1
      exact h1.symm
    subst hlen
    have B3 := Lib.hid (below_then B2.out hb3)
    have HX3 := Lib.hid (HX.out.below hb3)
    have HY3 := Lib.hid hpl2.dl
    have hn32 : nr ≤ 4000 := by
      have h1 := pgo_len' HP1.out
      rw [des, List.length_map, HX.out.len] at h1
      omega
    clear hxy hpl2 hb3 HRP
    go_wp2_with fail
    go_loopw [38] (fun o wr => ∃ i : Nat, i ≤ nr ∧ o = .int .i64 (i : Int) ∧ Hid (Below w3.heap.size w3 wr)) (fun o _ => nr - (intOf o).toNat)
    case atStart => exact ⟨0, Nat.zero_le _, rfl, Below.refl _ _⟩
    case round =>
      obtain ⟨i, hi, rfl, HB⟩ := hrel
      by_cases hin : i < nr
      · have hin2 : (i : Int) < (nr : Int) := by omega
        obtain ⟨ad, x, hA1, had, hx, hxm, hAt, hok⟩ := (HX3.out.below HB.out).get hin
        obtain ⟨ad2, y, hA2, had2, hy, hym, hAt2, hok2⟩ := (HY3.out.below HB.out).get hin
        subst hA1 hA2
        have HAT := Lib.hid hAt
        have hEQ := des_eq_get HXY.out hx hy
        have HEQ := Lib.hid hEQ
        have hb1 : Below wr.heap.size wr (wr.alloc (.cells x.cells.toArray 27)) := (Below.refl _ _).alloc (Nat.le_refl _) _
        have hk1 : Blk (wr.alloc (.cells x.cells.toArray 27)) wr.heap.size 27 x.cells := Blk.new _ _ _
        obtain ⟨wz, hwz⟩ : ∃ wz, wr.alloc (.cells x.cells.toArray 27) = wz := ⟨_, rfl⟩
        rw [hwz] at hb1 hk1
        have HZ : Hid (Below w3.heap.size w3 wz ∧ Blk wz wr.heap.size 27 x.cells ∧ At wz (ad2.add (i * 11)) y.cells ∧ (ad2.add (i * 11)).block < wz.heap.size ∧ DxOk wz x ∧ DxOk wz y) :=
          ⟨HB.out.trans (hb1.mono HB.out.size), hk1, hAt2.below hb1 (by rw [block_add]; exact had2), by rw [block_add]; exact Nat.lt_of_lt_of_le had2 hb1.size, hok.below hb1, hok2.below hb1⟩
        obtain ⟨G, hG⟩ : ∃ G, wr.heap.size = G := ⟨_, rfl⟩
        rw [hG] at HZ
        obtain ⟨P, hP⟩ : ∃ P, ad2.add (i * 11) = P := ⟨_, rfl⟩
        rw [hP] at HZ
        clear hAt hAt2 hx hy hxm hym hok hok2 had had2 hb1 hk1 hEQ
        go_wp2_with (first
          | ((with_reducible refine at_dst (some 42) ?_); refine wpList_loadAt (op := ⟨some 42, _, _, _, _, _⟩) rfl 27 (.tmp 41) rfl (ad.add (i * 11)) rfl x.cells d0 HAT.out hu0 hd0 iD ?_)
          | ((with_reducible refine at_dst none ?_); refine wpList_storeNew (w := wr) (op := ⟨none, _, _, _, _, _⟩) rfl 27 (.tmp 8) (.tmp 42) rfl zeroD x.cells (by rw [hG]; rfl) rfl rfl iD x.one ?_; rw [hwz]))
        have hicap : (i : Int) < (nr : Int) := hin2
        (try rw [hwz])
        rename_i hKx
        (try rw [hwz])
        refine wp_region_eachW (by kernel_rfl) (by kernel_rfl) (fun u u' => Below u.heap.size u u') (fun iX v u => match iX with
            | 0 => v = x.val
            | 1 => v = x.val
            | 2 => v = .slice (some ad2) nr cr
            | 3 => v = .int .i64 (i : Int)
            | 4 => v = .pointer (some P)
            | 5 => v = y.val
            | 6 => v = .bool true
            | 7 => v = .bool false
            | _ => True) (fun u => Below wz.heap.size wz u) ?m1 (fun _ _ h1 h2 => h1.trans (h2.mono h1.size)) ⟨rfl, rfl, rfl, Nat.le_refl _, fun _ _ => rfl⟩ ?m2 ?m3
        case m1 =>
          intro iX v u u' h hr hb
          rcases iX with _ | _ | _ | _ | _ | _ | _ | _ | iX
          · exact h
          · exact h
          · exact h
          · exact h
          · exact h
          · exact h
          · exact h
          · exact h
          · trivial
        case m2 =>
          intro iX o ho aX u hr hk hpre K hK
          have y5 : aX.eval (.tmp 5) = .slice (some ad2) nr cr := hk.slot 5 (by simp)
          have y7 : aX.eval (.tmp 7) = .int .i64 (i : Int) := hk.slot 7 (by simp)
          have y8 : aX.eval (.tmp 8) = .pointer (some ⟨G, 0, none⟩) := hk.slot 8 (by simp)
          have rf : Below u.heap.size u u := Below.refl _ _
          rcases iX with _ | _ | _ | _ | _ | _ | _ | _ | iX
          · obtain rfl := Option.some.inj ho
            refine st_run (want_none rfl) x.val (w' := u) ?_ (hK _ _ rfl rf)
            simp only [execOp, y8, Instr.loadAt, Instr.sureAddr, Sem.run_bind, Sem.run_pure, Result.andThen_ok, run_loadVar_at (P := Tryd.prog) (w := u) ⟨G, 0, none⟩ 27 x.cells d0 (HZ.out.2.1.at.below hr HZ.out.2.1.lt) hu0 hd0 iD]
            rfl
          · obtain rfl := Option.some.inj ho
            have x0 : aX.eval (.tmp 43) = x.val := (hpre 0 _ rfl ⟨⟨0, .data⟩, by simp, rfl, rfl⟩)
            exact st_callN 11 _ _ rfl (want_none rfl) #[x.val] (by simp [x0]) (by kernel_rfl) _ (MDescr_any x u) (by rintro _ u2 ⟨rfl, hb9⟩; exact ⟨_, rfl, hK _ _ rfl hb9⟩)
          · obtain rfl := Option.some.inj ho
            exact st_move (.tmp 5) rfl (want_none rfl) _ y5 (hK _ _ rfl rf)
          · obtain rfl := Option.some.inj ho
            exact st_move (.tmp 7) rfl (want_none rfl) _ y7 (hK _ _ rfl rf)
          · obtain rfl := Option.some.inj ho
            have x0 : aX.eval (.tmp 45) = .slice (some ad2) nr cr := (hpre 2 _ rfl ⟨⟨2, .data⟩, by simp, rfl, rfl⟩)
            have x1 : aX.eval (.tmp 46) = .int .i64 (i : Int) := (hpre 3 _ rfl ⟨⟨3, .data⟩, by simp, rfl, rfl⟩)
            refine st_run (want_none rfl) (.pointer (some P)) (w' := u) ?_ (hK _ _ rfl rf)
            simp only [execOp, x0, x1]
            go_simp
          · obtain rfl := Option.some.inj ho
            have x0 : aX.eval (.tmp 47) = .pointer (some P) := (hpre 4 _ rfl ⟨⟨4, .data⟩, by simp, rfl, rfl⟩)
            refine st_run (want_none rfl) y.val (w' := u) ?_ (hK _ _ rfl rf)
            simp only [execOp, x0, Instr.loadAt, Instr.sureAddr, Sem.run_bind, Sem.run_pure, Result.andThen_ok, run_loadVar_at (P := Tryd.prog) (w := u) P 28 y.cells d1 (HZ.out.2.2.1.below hr HZ.out.2.2.2.1) hu1 hd1 iR]
            rfl
          · obtain rfl := Option.some.inj ho
            have x0 : aX.eval (.tmp 44) = x.val := (hpre 1 _ rfl ⟨⟨1, .data⟩, by simp, rfl, rfl⟩)
            have x1 : aX.eval (.tmp 48) = y.val := (hpre 5 _ rfl ⟨⟨5, .data⟩, by simp, rfl, rfl⟩)
            have hS := Same_any x y u (HZ.out.2.2.2.2.1.below hr) (HZ.out.2.2.2.2.2.below hr)
            rw [decide_eq_true HEQ.out] at hS
            exact st_callN 19 _ _ rfl (want_none rfl) #[x.val, y.val] (by simp [x0, x1]) (by kernel_rfl) _ hS (by rintro _ u2 ⟨rfl, hb9⟩; exact ⟨_, rfl, hK _ _ rfl hb9⟩)
          · obtain rfl := Option.some.inj ho
            have x0 : aX.eval (.tmp 49) = .bool true := (hpre 6 _ rfl ⟨⟨6, .data⟩, by simp, rfl, rfl⟩)
            refine st_run (want_none rfl) (.bool false) (w' := u) ?_ (hK _ _ rfl rf)
            simp only [execOp, x0]
            go_simp
          · cases ho
        case m3 =>
          intro aX u hr hk hv
          have q50 : aX.tmps.getD 50 undef = .bool false := hv 7 _ rfl
          have hfr := keeps_frameP (fun s => decide ((43 ≤ s ∧ s ≤ 50))) hk (by simp)
          refine hKx aX u ?_
          rw [hfr]
          generalize hff : (fun s => aX.tmps.getD s undef) = ff
          have hf50 : ff 50 = .bool false := by rw [← hff]; exact q50
          simp only [mixP, hf50, decide_eq_true_eq, Nat.reduceAdd, Nat.reduceLeDiff, Nat.reduceEqDiff, false_or, true_or, or_false, or_true, and_true, and_false, true_and, false_and, and_self, if_true, if_false, Nat.zero_le]
          clear hfr hff hf50 q50 hv hk
          have HB6 : Hid (Below w3.heap.size w3 u) := HZ.out.1.trans (hr.mono HZ.out.1.size)
          clear hKx hr
          go_wp2
          go_roundw
          case rel => exact ⟨i + 1, by omega, by go_num, HB6⟩
          case measure => simp [intOf]; omega
      · have hge : ¬ (i : Int) < (nr : Int) := by omega
        have B4 := Lib.hid (below_then B3.out HB.out)
        by_cases her : er = 0
        · subst her
          have hle := HLX.out
          unfold maxLen at hle
          have hnm : ∀ x ∈ xs, x.d.name.length ≤ 100000 := fun x hx => by
            have hr := parse_right HG.out.fit HP1.out x.d (List.mem_map.2 ⟨x, hx, rfl⟩)
            have := hr.bds.name
            omega
          have HEN := Lib.hid (Encode_any Am nr cm xs wr (HX3.out.below HB.out) (by omega) hle.1 (by omega) hnm)
          rw [parse_back HG.out.fit HP1.out] at HEN
          clear hle hnm hin HB
          go_wp2_with fail
          refine HEN.out.mono ?_
          rintro e w5 ⟨A9, n9, c9, l9, er9, rfl, hen, hrow, hb5⟩
          simp only [Prod.mk.injEq] at hen
          obtain ⟨rfl, rfl⟩ := hen
          have B5 := Lib.hid (below_then B4.out hb5)
          have r1 := rd_str hrow.rd c9
          have r2 := rd_str (HG.out.below B5.out).rd cap
          clear hrow hb5
          go_wp2
          go_ret
          exact ⟨by first | rfl | simp [*], B5.out⟩
        · have e0 : ((er : Int) != 0) = true := by simp [her]
          clear her hin
          go_wp2
          go_ret
          exact ⟨by first | rfl | simp [*], B4.out⟩
  · have z1 : (4000 : Int) < (n : Int) := by omega
    clear hbig
    go_wp2
    go_ret
    exact ⟨rfl, B1.out⟩
end Go.Proofs.YtfeihdmjcppbaaaDoor
