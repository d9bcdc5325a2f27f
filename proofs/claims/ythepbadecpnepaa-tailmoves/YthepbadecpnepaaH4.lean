/-
  What read answers: the tail whose numbers bytes have, and whether it is right and only noughts are behind them. No condition but that the bytes are 64 and fit.
-/
import Derived.Test.YthepbadecpnepaaH3
import Derived.Test.YthepbadecpnepaaMw
namespace Go.Proofs.Ythepbadecpnepaa
open Go.RowKit
set_option linter.unusedVariables false
set_option linter.unusedSimpArgs false
set_option maxRecDepth 100000

theorem run_upto (A : Option Addr) (k cap : Nat) (hi : Nat) (h2 : hi ≤ cap) (w : World) :
    (Instr.slice 25 (.slice A k cap) none (some (.int .i64 (hi : Int))) none).run Try.prog w = .ok (.slice A hi cap) w := by
  obtain ⟨i0, hi0, hz0, hz1, hz2⟩ := info_parts byteInfo
  simp [Instr.slice, run_underlying Try.underlying25, Instr.sliceBounds, run_sliceBound, sizeOf, typeInfo, hi0, hz1, h2]
  exact fun _ => by cases A <;> simp [Addr.add]
theorem run_from (A : Option Addr) (k cap : Nat) (lo : Nat) (h2 : lo ≤ k) (h3 : k ≤ cap) (L : Int) (hL : L = lo) (w : World) :
    (Instr.slice 25 (.slice A k cap) (some (.int .i64 L)) none none).run Try.prog w = .ok (.slice (if cap = lo then A else A.map (·.add lo)) (k - lo) (cap - lo)) w := by
  subst hL
  obtain ⟨i0, hi0, hz0, hz1, hz2⟩ := info_parts byteInfo
  simp [Instr.slice, run_underlying Try.underlying25, Instr.sliceBounds, run_sliceBound, sizeOf, typeInfo, hi0, hz1, h2, h3]
theorem run_fromA (A : Option Addr) (k cap : Nat) (lo : Nat) (h2 : lo ≤ k) (h3 : k ≤ cap) (L : Int) (hL : L = lo) (w : World) :
    (Instr.sliceAt 25 (.slice A k cap) (some (.int .i64 L)) none none).run Try.prog w = .ok (.slice (if cap = lo then A else A.map (·.add lo)) (k - lo) (cap - lo)) w := by
  simp only [Instr.sliceAt, Sem.run_bind, run_underlying Try.underlying25, Result.andThen_ok]
  exact run_from A k cap lo h2 h3 L hL w
def tz : List Value := [.int .i64 0, .int .i64 0, .int .i64 0]
/-- A tail of which the first i numbers are read. -/
def rcells (a b c : Nat) (i : Nat) : List Value := tcells ((if 0 < i then a else 0 : Nat) : Int) ((if 1 < i then b else 0 : Nat) : Int) ((if 2 < i then c else 0 : Nat) : Int)
theorem rcells_set (a b c : Nat) {i : Nat} (h : i < 3) : (rcells a b c i).set i (.int .i64 (nsel a b c i : Nat)) = rcells a b c (i + 1) := by
  rcases (by omega : i = 0 ∨ i = 1 ∨ i = 2) with rfl | rfl | rfl <;> rfl
theorem nsel_sl (l : List Nat) {i : Nat} (h : i < 3) : nsel (ta l) (tb l) (tc l) i = num (sl l (8 + 8 * i) 8) := by
  rcases (by omega : i = 0 ∨ i = 1 ∨ i = 2) with rfl | rfl | rfl <;> rfl
theorem not_tis {l : List Nat} {i : Nat} (h : i < 3) (hb : ¬ num (sl l (8 + 8 * i) 8) ≤ 9223372036854775807) : decide (TIs l) = false := by
  refine decide_eq_false fun ht => hb ?_
  rw [← nsel_sl l h]
  have := ht.1
  unfold TOk at this
  rcases (by omega : i = 0 ∨ i = 1 ∨ i = 2) with rfl | rfl | rfl <;> simp only [nsel] <;> omega
theorem tcells_one (a b c : Int) : ∀ v ∈ tcells a b c, v.oneCell' = true := by
  intro v hv
  simp only [tcells, List.mem_cons, List.not_mem_nil, or_false] at hv
  rcases hv with rfl | rfl | rfl <;> rfl
/-- In a drawn region, a tail is laid into block g: what may turn, .. -/
def SmT (g : Nat) (T : List Value) (u u' : World) : Prop := Touch [g] u u' ∧ (Blk u g 23 T → Blk u' g 23 T) ∧ ∀ old, Blk u g 23 old → old.length = 3 → ∃ o2, Blk u' g 23 o2 ∧ o2.length = 3
/-- .. and what stays. -/
def RmT (g : Nat) (W u : World) : Prop := Touch [g] W u ∧ ∃ old, Blk u g 23 old ∧ old.length = 3
theorem SmT.refl (g : Nat) (T : List Value) (u : World) : SmT g T u u := ⟨Touch.refl _ _, id, fun o h k => ⟨o, h, k⟩⟩
theorem SmT.below {g : Nat} {T : List Value} {W u u' : World} (hr : RmT g W u) (hb : Below u.heap.size u u') : SmT g T u u' := by
  obtain ⟨_, old, ho, hl⟩ := hr
  exact ⟨Touch.of_below _ hb, fun h => h.below hb ho.lt, fun o h k => ⟨o, h.below hb ho.lt, k⟩⟩
theorem RmT.step {g : Nat} {T : List Value} {W u u' : World} (hr : RmT g W u) (hs : SmT g T u u') : RmT g W u' := by
  obtain ⟨ht, old, ho, hl⟩ := hr
  exact ⟨ht.trans hs.1, hs.2.2 old ho hl⟩
/-- An answer of read. -/
def GivesTail (w : World) (l : List Nat) (e : Ending) (w' : World) : Prop := ∃ a b c : Int, e = .returned (.tuple #[TV a b c, .bool (decide (TIs l))]) ∧ (TIs l → a = ta l ∧ b = tb l ∧ c = tc l) ∧ Below w.heap.size w w'
set_option maxHeartbeats 8000000 in
theorem tread_any (A : Option Addr) (n cap : Nat) (l : List Nat) (w : World) (hs : Bs w A n cap l) (hn : n = 64) : Calls Try.prog 31 #[.slice A n cap] w (GivesTail w l) := by
  subst hn
  have HS := Lib.hid hs
  have hle := hs.le
  have hmx := hs.max
  have hb0 : Below w.heap.size w ((w.alloc (.cells #[.int .i64 0, .int .i64 0, .int .i64 0] 23)).alloc (.cells #[.int .i64 0, .int .i64 0, .int .i64 0] 23)) := ((Below.refl _ _).alloc (Nat.le_refl _) _).alloc (by simp) _
  have hk1 : Blk (w.alloc (.cells #[.int .i64 0, .int .i64 0, .int .i64 0] 23)) w.heap.size 23 tz := Blk.new w _ tz
  have hk2 : Blk ((w.alloc (.cells #[.int .i64 0, .int .i64 0, .int .i64 0] 23)).alloc (.cells #[.int .i64 0, .int .i64 0, .int .i64 0] 23)) (w.heap.size + 1) 23 tz := by
    have := Blk.new (w.alloc (.cells #[.int .i64 0, .int .i64 0, .int .i64 0] 23)) 23 tz
    simpa [tz] using this
  have hk3 := hk1.alloc (.cells #[.int .i64 0, .int .i64 0, .int .i64 0] 23)
  obtain ⟨W, hW⟩ : ∃ W, (w.alloc (.cells #[.int .i64 0, .int .i64 0, .int .i64 0] 23)).alloc (.cells #[.int .i64 0, .int .i64 0, .int .i64 0] 23) = W := ⟨_, rfl⟩
  rw [hW] at hb0 hk2 hk3
  have H0 : Hid (Below w.heap.size w W ∧ Blk W w.heap.size 23 tz ∧ Blk W (w.heap.size + 1) 23 tz) := ⟨hb0, hk3, hk2⟩
  clear hb0 hk1 hk2 hk3 hs
  go_enter Try.func31, Try.ntmps31
  go_wp2_with fail
  (try rw [hW])
  refine (numbers_any (w.heap.size + 1) W).mono ?_
  rintro e w1 ⟨bn, rfl, hbn, hN, hb1⟩
  have I0 : Hid (Below w.heap.size w w1 ∧ Blk w1 w.heap.size 23 tz ∧ Blk w1 (w.heap.size + 1) 23 (rcells (ta l) (tb l) (tc l) 0) ∧ Blk w1 bn 59 (numCells (w.heap.size + 1))) := ⟨H0.out.1.trans (hb1.mono H0.out.1.size), H0.out.2.1.below hb1 H0.out.2.1.lt, H0.out.2.2.below hb1 H0.out.2.2.lt, hN⟩
  have HBN : Hid (bn ≠ w.heap.size + 1) := by have := H0.out.2.2.lt; show bn ≠ _; omega
  clear hbn hN hb1 hW
  go_wp2
  go_loopw [5, 12] (fun p q wr => ∃ i : Nat, i ≤ 3 ∧ q = .int .i64 (i : Int) ∧ p = .int .i64 ((8 + 8 * i : Nat) : Int) ∧ Hid (Below w.heap.size w wr ∧ Blk wr w.heap.size 23 tz ∧ Blk wr (w.heap.size + 1) 23 (rcells (ta l) (tb l) (tc l) i) ∧ Blk wr bn 59 (numCells (w.heap.size + 1)))) (fun _ q _ => 3 - (intOf q).toNat)
  case atStart => exact ⟨0, by omega, rfl, rfl, I0.out⟩
  case round =>
    obtain ⟨i, hi, rfl, rfl, HI⟩ := hrel
    by_cases hin : i < 3
    · have hin2 : (i : Int) < 3 := by omega
      have g0 : wr.cell? ⟨bn, i, none⟩ = some (.pointer (some ⟨w.heap.size + 1, i, none⟩)) := (HI.out.2.2.2.cell _).trans (numCells_get _ hin)
      have HRD := Lib.hid (HS.out.rd.belowAt HI.out.1 (fun ad e => HS.out.rd.lt (by omega) ad e))
      have HNX : Hid ((rcells (ta l) (tb l) (tc l) i).set i (.int .i64 (num (sl l (8 + 8 * i) 8) : Nat)) = rcells (ta l) (tb l) (tc l) (i + 1)) := by show _ = _; rw [← nsel_sl l hin]; exact rcells_set _ _ _ hin
      obtain ⟨P, hP⟩ : ∃ P, 8 + 8 * i = P := ⟨_, rfl⟩
      by_cases hbig : num (sl l (8 + 8 * i) 8) ≤ 9223372036854775807
      · have HG := Lib.hid (Get_ok A 64 cap l P 8 _ 8 rfl rfl (by omega) (by omega) wr HRD.out HS.out.fit (by omega) hle hmx (by omega) (by rw [← hP]; exact hbig))
        rw [hP] at hbig HNX ⊢
        obtain ⟨v, hv⟩ : ∃ v, num (sl l P 8) = v := ⟨_, rfl⟩
        rw [hv] at HG hbig HNX
        have HPI := Lib.hid hP
        have hPb : P ≤ 24 := by omega
        clear hP hv
        go_wp2_with fail
        refine HG.out.mono ?_
        rintro e w2 ⟨rfl, rfl⟩
        go_wp2_with ((with_reducible refine at_dst none ?_); refine wpList_storeOne (op := ⟨none, _, _, _, _, _⟩) rfl 3 (.tmp 27) (.tmp 26) rfl (g := w.heap.size + 1) (i := i) (t := 23) rfl rfl HI.out.2.2.1 (by simpa [rcells, tcells] using hin) rfl rfl iInt ?_; intro u0 hU0 hT0; have HT0 := Lib.hid hT0; clear hT0)
        go_roundw
        case rel =>
          have hP := HPI.out
          refine ⟨i + 1, by omega, by go_num, by go_num, ?_, ?_, ?_, ?_⟩
          · exact HI.out.1.trans (HT0.out.below (fun y hy => by rw [List.mem_singleton.1 hy]; omega) HI.out.1.size)
          · exact HI.out.2.1.touch HT0.out (by simp)
          · rw [← HNX.out]; exact hU0.out
          · exact HI.out.2.2.2.touch HT0.out (by have := HBN.out; simpa using this)
        case measure => simp [intOf]; omega
      · have HF := Lib.hid (not_tis hin hbig)
        have HG := Lib.hid (Get_big A 64 cap l P 8 _ 8 rfl rfl (by omega) (by omega) wr HRD.out HS.out.fit (by omega) hle hmx (by omega) (by rw [← hP]; exact hbig))
        rw [hP] at hbig ⊢
        clear hP hbig
        obtain ⟨d0, hu0, hd0⟩ := uT
        go_wp2_with fail
        refine HG.out.mono ?_
        rintro e w2 ⟨rfl, rfl⟩
        go_wp2_with ((with_reducible refine at_dst none ?_); refine wpList_storeBlk (op := ⟨none, _, _, _, _, _⟩) rfl 23 (.tmp 2) (.tmp 24) rfl (g := w.heap.size) (t := 23) (old := tz) (cs := tz) rfl rfl HI.out.2.1 rfl iT (by intro v hv; simp [tz] at hv; subst hv; rfl) ?_; intro u0 hU0 hT0; have HT0 := Lib.hid hT0; clear hT0)
        refine ret_cell_tmp rfl rfl hU0.out.at hu0 hd0 iT rfl ⟨0, 0, 0, by rw [HF.out]; rfl, fun ht => ?_, HI.out.1.trans (HT0.out.below (fun y hy => by rw [List.mem_singleton.1 hy]; omega) HI.out.1.size)⟩
        have := HF.out
        rw [decide_eq_true ht] at this
        cases this
    · obtain rfl : i = 3 := by omega
      go_wp2
      have e32 : ((8 + 8 * 3 : Nat) : Int) = 32 := rfl
      rw [e32]
      obtain ⟨d0, hu0, hd0⟩ := uT
      have HB4 : Hid (Blk wr (w.heap.size + 1) 23 (tcells (ta l) (tb l) (tc l))) := HI.out.2.2.1
      have HRM : Hid (RmT w.heap.size wr wr.drew) := ⟨Touch.of_below _ (below_drew1 (Below.refl _ _)), _, HI.out.2.1, rfl⟩
      have hrd := HS.out.rd.belowAt HI.out.1 (fun ad e => HS.out.rd.lt (by omega) ad e)
      have hrb := hrd.drop 32 cap (by omega) hle
      have hrun := fun w => run_fromA A 64 cap 32 (by omega) hle 32 rfl w
      have hbl : ∀ ad, (if cap = 32 then A else A.map (·.add 32)) = some ad → ad.block < w.heap.size := fun ad e => by
        rw [if_neg (by omega)] at e
        obtain ⟨ad2, hA, rfl⟩ := Option.map_eq_some_iff.1 e
        rw [block_add]
        exact HS.out.rd.lt (by omega) ad2 hA
      generalize (if cap = 32 then A else A.map (·.add 32)) = B at hrb hrun hbl
      obtain ⟨D, hD⟩ : ∃ D, cap - 32 = D := ⟨_, rfl⟩
      rw [hD] at hrun
      have HRB := Lib.hid hrb
      have HBL := Lib.hid hbl
      have RUN : Hid (∀ w : World, (Instr.sliceAt 25 (.slice A 64 cap) (some (.int .i64 32)) none none).run Try.prog w = .ok (.slice B 32 D) w) := hrun
      obtain ⟨r, hr⟩ : ∃ r, decide (TOk (ta l) (tb l) (tc l)) = r := ⟨_, rfl⟩
      obtain ⟨z, hz⟩ : ∃ z, decide (l.drop 32 = List.replicate 32 0) = z := ⟨_, rfl⟩
      have HRT := Lib.hid hr
      have HZ := Lib.hid hz
      have HTI : Hid (decide (TIs l) = (r && z)) := by
        show _ = _
        rw [← hr, ← hz, ← Bool.decide_and]
        rfl
      clear hrd hrb hrun hbl hD hr hz
      rename_i hKx
      cases r with
      | true =>
        rw [Bool.true_and] at HTI
        refine wp_region_eachW (by kernel_rfl) (by kernel_rfl) (SmT w.heap.size (tcells (ta l) (tb l) (tc l))) (fun iX v u => match iX with
            | 0 => v = TV (ta l : Nat) (tb l : Nat) (tc l : Nat)
            | 1 => v = TV (ta l : Nat) (tb l : Nat) (tc l : Nat)
            | 2 => v = .bool true
            | 3 => v = .bool true
            | 4 => v = .slice A 64 cap
            | 5 => v = .int .i64 32
            | 6 => v = .slice B 32 D
            | 7 => v = .bool z
            | 8 => v = .bool z
            | 9 => Blk u w.heap.size 23 (tcells (ta l) (tb l) (tc l))
            | 10 => v = .bool z
            | _ => True) (RmT w.heap.size wr) ?m1 (fun _ _ h1 h2 => RmT.step h1 h2) HRM.out ?m2 ?m3
        case m1 =>
          intro iX v u u' h hr hb
          rcases iX with _ | _ | _ | _ | _ | _ | _ | _ | _ | _ | _ | iX
          · exact h
          · exact h
          · exact h
          · exact h
          · exact h
          · exact h
          · exact h
          · exact h
          · exact h
          · exact hb.2.1 h
          · exact h
          · trivial
        case m2 =>
          intro iX o ho aX u hr hk hpre K hK
          have e0 : aX.tmps.getD 0 undef = .slice A 64 cap := hk.slot 0 (by simp)
          have e2 : aX.tmps.getD 2 undef = .pointer (some ⟨w.heap.size, 0, none⟩) := hk.slot 2 (by simp)
          have e4 : aX.tmps.getD 4 undef = .pointer (some ⟨w.heap.size + 1, 0, none⟩) := hk.slot 4 (by simp)
          have e5 : aX.tmps.getD 5 undef = .int .i64 32 := hk.slot 5 (by simp)
          have hk4 : Blk u (w.heap.size + 1) 23 (tcells (ta l) (tb l) (tc l)) := HB4.out.touch hr.1 (by simp)
          have c0 : u.cell? ⟨w.heap.size + 1, 0, none⟩ = some (.int .i64 (ta l : Nat)) := hk4.cell 0
          have c1 : u.cell? ⟨w.heap.size + 1, 1, none⟩ = some (.int .i64 (tb l : Nat)) := hk4.cell 1
          have c2 : u.cell? ⟨w.heap.size + 1, 2, none⟩ = some (.int .i64 (tc l : Nat)) := hk4.cell 2
          have rf : SmT w.heap.size (tcells (ta l) (tb l) (tc l)) u u := SmT.refl _ _ _
          rcases iX with _ | _ | _ | _ | _ | _ | _ | _ | _ | _ | _ | iX
          · obtain rfl := Option.some.inj ho
            have y4 : aX.eval (.tmp 4) = .pointer (some ⟨w.heap.size + 1, 0, none⟩) := e4
            refine st_run (want_none rfl) (TV (ta l : Nat) (tb l : Nat) (tc l : Nat)) (w' := u) ?_ (hK _ _ rfl rf)
            simp only [execOp, y4]
            go_simp
          · obtain rfl := Option.some.inj ho
            have y4 : aX.eval (.tmp 4) = .pointer (some ⟨w.heap.size + 1, 0, none⟩) := e4
            refine st_run (want_none rfl) (TV (ta l : Nat) (tb l : Nat) (tc l : Nat)) (w' := u) ?_ (hK _ _ rfl rf)
            simp only [execOp, y4]
            go_simp
          · obtain rfl := Option.some.inj ho
            have x0 : aX.eval (.tmp 32) = TV (ta l : Nat) (tb l : Nat) (tc l : Nat) := (hpre 1 _ rfl ⟨⟨1, .data⟩, by simp, rfl, rfl⟩)
            exact st_callN 11 _ _ rfl (want_none rfl) #[TV (ta l : Nat) (tb l : Nat) (tc l : Nat)] (by simp [x0]) (by kernel_rfl) _ (TRight_any (ta l) (tb l) (tc l) u true HRT.out) (fun e u' he => ⟨_, he.1, hK _ _ rfl (SmT.below hr he.2)⟩)
          · obtain rfl := Option.some.inj ho
            exact st_move (.tmp 33) rfl (want_none rfl) _ (hpre 2 _ rfl ⟨⟨2, .data⟩, by simp, rfl, rfl⟩) (hK _ _ rfl rf)
          · obtain rfl := Option.some.inj ho
            exact st_move (.tmp 0) rfl (want_some rfl rfl rfl (hpre 3 _ rfl ⟨⟨3, .guard⟩, by simp, rfl, rfl⟩)) _ e0 (hK _ _ rfl rf)
          · obtain rfl := Option.some.inj ho
            exact st_move (.tmp 5) rfl (want_some rfl rfl rfl (hpre 3 _ rfl ⟨⟨3, .guard⟩, by simp, rfl, rfl⟩)) _ e5 (hK _ _ rfl rf)
          · obtain rfl := Option.some.inj ho
            have y35 : aX.eval (.tmp 35) = .slice A 64 cap := (hpre 4 _ rfl ⟨⟨4, .data⟩, by simp, rfl, rfl⟩)
            have y36 : aX.eval (.tmp 36) = .int .i64 32 := (hpre 5 _ rfl ⟨⟨5, .data⟩, by simp, rfl, rfl⟩)
            refine st_run (want_some rfl rfl rfl (hpre 3 _ rfl ⟨⟨3, .guard⟩, by simp, rfl, rfl⟩)) (.slice B 32 D) (w' := u) ?_ (hK _ _ rfl rf)
            simp [execOp, y35, y36, RUN.out u, Result.andThen]
          · obtain rfl := Option.some.inj ho
            have x0 : aX.eval (.tmp 37) = .slice B 32 D := (hpre 6 _ rfl ⟨⟨6, .data⟩, by simp, rfl, rfl⟩)
            exact st_callN 50 _ _ rfl (want_some rfl rfl rfl (hpre 3 _ rfl ⟨⟨3, .guard⟩, by simp, rfl, rfl⟩)) #[.slice B 32 D] (by simp [x0]) (by kernel_rfl) _ (Zeros_any B 32 D (l.drop 32) u (HRB.out.touch hr.1 (fun ad e => by have := HBL.out ad e; simp; omega)) (by omega) z HZ.out) (fun e u' he => ⟨_, he.1, hK _ _ rfl (he.2 ▸ rf)⟩)
          · obtain rfl := Option.some.inj ho
            exact st_pick (.tmp 34) (.tmp 38) (.const (.bool false)) rfl (want_none rfl) true (hpre 3 _ rfl ⟨⟨3, .data⟩, by simp, rfl, rfl⟩) _ ((if_pos rfl).trans (hpre 7 _ rfl ⟨⟨7, .data⟩, by simp, rfl, rfl⟩)) (hK _ _ rfl rf)
          · obtain rfl := Option.some.inj ho
            obtain ⟨old, hold, hol⟩ := hr.2
            have y31 : aX.eval (.tmp 31) = .agg (tcells (ta l) (tb l) (tc l)).toArray := (hpre 0 _ rfl ⟨⟨0, .data⟩, by simp, rfl, rfl⟩)
            exact st_storeBlk (want_none rfl) 23 (.tmp 2) (.tmp 31) rfl e2 y31 hold hol iT (tcells_one _ _ _) (fun w' h1 h2 => hK undef _ h1 ⟨h2, fun _ => h1, fun _ _ _ => ⟨_, h1, rfl⟩⟩)
          · obtain rfl := Option.some.inj ho
            exact st_assign (.tmp 39) rfl (want_none rfl) _ (hpre 8 _ rfl ⟨⟨8, .data⟩, by simp, rfl, rfl⟩) (hK _ _ rfl rf)
          · cases ho
        case m3 =>
          intro aX u hr hk hv
          have hv9 : Blk u w.heap.size 23 (tcells (ta l) (tb l) (tc l)) := hv 9 _ rfl
          have q3 : aX.tmps.getD 3 undef = .bool z := hv 10 _ rfl
          have hfr := keeps_frameP (fun s => decide (s = 3 ∨ (31 ≤ s ∧ s ≤ 39))) hk (by simp)
          refine hKx aX u ?_
          rw [hfr]
          generalize hff : (fun s => aX.tmps.getD s undef) = ff
          have hf3 : ff 3 = .bool z := by rw [← hff]; exact q3
          simp only [mixP, hf3, decide_eq_true_eq, Nat.reduceAdd, Nat.reduceLeDiff, Nat.reduceEqDiff, false_or, true_or, or_false, or_true, and_true, and_false, true_and, false_and, and_self, if_true, if_false, Nat.zero_le]
          clear hfr hff hf3 q3 hv hk
          go_wp2
          have hst := hv9
          refine ret_cell_tmp rfl rfl hst.at hu0 hd0 iT rfl ⟨ta l, tb l, tc l, by rw [HTI.out]; rfl, fun _ => ⟨rfl, rfl, rfl⟩, HI.out.1.trans (hr.1.below (fun y hy => by rw [List.mem_singleton.1 hy]; omega) HI.out.1.size)⟩
      | false =>
        rw [Bool.false_and] at HTI
        refine wp_region_eachW (by kernel_rfl) (by kernel_rfl) (SmT w.heap.size (tcells (ta l) (tb l) (tc l))) (fun iX v u => match iX with
            | 0 => v = TV (ta l : Nat) (tb l : Nat) (tc l : Nat)
            | 1 => v = TV (ta l : Nat) (tb l : Nat) (tc l : Nat)
            | 2 => v = .bool false
            | 3 => v = .bool false
            | 4 => True
            | 5 => True
            | 6 => True
            | 7 => True
            | 8 => v = .bool false
            | 9 => Blk u w.heap.size 23 (tcells (ta l) (tb l) (tc l))
            | 10 => v = .bool false
            | _ => True) (RmT w.heap.size wr) ?m4 (fun _ _ h1 h2 => RmT.step h1 h2) HRM.out ?m5 ?m6
        case m4 =>
          intro iX v u u' h hr hb
          rcases iX with _ | _ | _ | _ | _ | _ | _ | _ | _ | _ | _ | iX
          · exact h
          · exact h
          · exact h
          · exact h
          · trivial
          · trivial
          · trivial
          · trivial
          · exact h
          · exact hb.2.1 h
          · exact h
          · trivial
        case m5 =>
          intro iX o ho aX u hr hk hpre K hK
          have e0 : aX.tmps.getD 0 undef = .slice A 64 cap := hk.slot 0 (by simp)
          have e2 : aX.tmps.getD 2 undef = .pointer (some ⟨w.heap.size, 0, none⟩) := hk.slot 2 (by simp)
          have e4 : aX.tmps.getD 4 undef = .pointer (some ⟨w.heap.size + 1, 0, none⟩) := hk.slot 4 (by simp)
          have e5 : aX.tmps.getD 5 undef = .int .i64 32 := hk.slot 5 (by simp)
          have hk4 : Blk u (w.heap.size + 1) 23 (tcells (ta l) (tb l) (tc l)) := HB4.out.touch hr.1 (by simp)
          have c0 : u.cell? ⟨w.heap.size + 1, 0, none⟩ = some (.int .i64 (ta l : Nat)) := hk4.cell 0
          have c1 : u.cell? ⟨w.heap.size + 1, 1, none⟩ = some (.int .i64 (tb l : Nat)) := hk4.cell 1
          have c2 : u.cell? ⟨w.heap.size + 1, 2, none⟩ = some (.int .i64 (tc l : Nat)) := hk4.cell 2
          have rf : SmT w.heap.size (tcells (ta l) (tb l) (tc l)) u u := SmT.refl _ _ _
          rcases iX with _ | _ | _ | _ | _ | _ | _ | _ | _ | _ | _ | iX
          · obtain rfl := Option.some.inj ho
            have y4 : aX.eval (.tmp 4) = .pointer (some ⟨w.heap.size + 1, 0, none⟩) := e4
            refine st_run (want_none rfl) (TV (ta l : Nat) (tb l : Nat) (tc l : Nat)) (w' := u) ?_ (hK _ _ rfl rf)
            simp only [execOp, y4]
            go_simp
          · obtain rfl := Option.some.inj ho
            have y4 : aX.eval (.tmp 4) = .pointer (some ⟨w.heap.size + 1, 0, none⟩) := e4
            refine st_run (want_none rfl) (TV (ta l : Nat) (tb l : Nat) (tc l : Nat)) (w' := u) ?_ (hK _ _ rfl rf)
            simp only [execOp, y4]
            go_simp
          · obtain rfl := Option.some.inj ho
            have x0 : aX.eval (.tmp 32) = TV (ta l : Nat) (tb l : Nat) (tc l : Nat) := (hpre 1 _ rfl ⟨⟨1, .data⟩, by simp, rfl, rfl⟩)
            exact st_callN 11 _ _ rfl (want_none rfl) #[TV (ta l : Nat) (tb l : Nat) (tc l : Nat)] (by simp [x0]) (by kernel_rfl) _ (TRight_any (ta l) (tb l) (tc l) u false HRT.out) (fun e u' he => ⟨_, he.1, hK _ _ rfl (SmT.below hr he.2)⟩)
          · obtain rfl := Option.some.inj ho
            exact st_move (.tmp 33) rfl (want_none rfl) _ (hpre 2 _ rfl ⟨⟨2, .data⟩, by simp, rfl, rfl⟩) (hK _ _ rfl rf)
          · obtain rfl := Option.some.inj ho
            exact st_fall (want_fall rfl rfl rfl (hpre 3 _ rfl ⟨⟨3, .guard⟩, by simp, rfl, rfl⟩) (by decide)) (hK undef _ trivial rf)
          · obtain rfl := Option.some.inj ho
            exact st_fall (want_fall rfl rfl rfl (hpre 3 _ rfl ⟨⟨3, .guard⟩, by simp, rfl, rfl⟩) (by decide)) (hK undef _ trivial rf)
          · obtain rfl := Option.some.inj ho
            exact st_fall (want_fall rfl rfl rfl (hpre 3 _ rfl ⟨⟨3, .guard⟩, by simp, rfl, rfl⟩) (by decide)) (hK undef _ trivial rf)
          · obtain rfl := Option.some.inj ho
            exact st_fall (want_fall rfl rfl rfl (hpre 3 _ rfl ⟨⟨3, .guard⟩, by simp, rfl, rfl⟩) (by decide)) (hK undef _ trivial rf)
          · obtain rfl := Option.some.inj ho
            exact st_pick (.tmp 34) (.tmp 38) (.const (.bool false)) rfl (want_none rfl) false (hpre 3 _ rfl ⟨⟨3, .data⟩, by simp, rfl, rfl⟩) _ ((if_neg (by decide)).trans rfl) (hK _ _ rfl rf)
          · obtain rfl := Option.some.inj ho
            obtain ⟨old, hold, hol⟩ := hr.2
            have y31 : aX.eval (.tmp 31) = .agg (tcells (ta l) (tb l) (tc l)).toArray := (hpre 0 _ rfl ⟨⟨0, .data⟩, by simp, rfl, rfl⟩)
            exact st_storeBlk (want_none rfl) 23 (.tmp 2) (.tmp 31) rfl e2 y31 hold hol iT (tcells_one _ _ _) (fun w' h1 h2 => hK undef _ h1 ⟨h2, fun _ => h1, fun _ _ _ => ⟨_, h1, rfl⟩⟩)
          · obtain rfl := Option.some.inj ho
            exact st_assign (.tmp 39) rfl (want_none rfl) _ (hpre 8 _ rfl ⟨⟨8, .data⟩, by simp, rfl, rfl⟩) (hK _ _ rfl rf)
          · cases ho
        case m6 =>
          intro aX u hr hk hv
          have hv9 : Blk u w.heap.size 23 (tcells (ta l) (tb l) (tc l)) := hv 9 _ rfl
          have q3 : aX.tmps.getD 3 undef = .bool false := hv 10 _ rfl
          have hfr := keeps_frameP (fun s => decide (s = 3 ∨ (31 ≤ s ∧ s ≤ 39))) hk (by simp)
          refine hKx aX u ?_
          rw [hfr]
          generalize hff : (fun s => aX.tmps.getD s undef) = ff
          have hf3 : ff 3 = .bool false := by rw [← hff]; exact q3
          simp only [mixP, hf3, decide_eq_true_eq, Nat.reduceAdd, Nat.reduceLeDiff, Nat.reduceEqDiff, false_or, true_or, or_false, or_true, and_true, and_false, true_and, false_and, and_self, if_true, if_false, Nat.zero_le]
          clear hfr hff hf3 q3 hv hk
          go_wp2
          have hst := hv9
          refine ret_cell_tmp rfl rfl hst.at hu0 hd0 iT rfl ⟨ta l, tb l, tc l, by rw [HTI.out]; rfl, fun _ => ⟨rfl, rfl, rfl⟩, HI.out.1.trans (hr.1.below (fun y hy => by rw [List.mem_singleton.1 hy]; omega) HI.out.1.size)⟩
end Go.Proofs.Ythepbadecpnepaa
