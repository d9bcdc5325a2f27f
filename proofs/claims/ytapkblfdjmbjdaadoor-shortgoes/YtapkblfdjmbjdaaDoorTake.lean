/-
  What (*Hash).take does: the state is changed by the block in rest; nothing else of what was there turns.
-/
import Derived.Test.YtapkblfdjmbjdaaDoorWds
namespace Go.Proofs.YtapkblfdjmbjdaaDoor
open Go.RowKit
set_option linter.unusedVariables false

theorem index35 (l : List W32) (i : Nat) (hr : l.length = 8) (hi : i < 8) (w : World) :
    (Instr.index 35 (.agg (cw l).toArray) (.int .i64 (i : Int))).run Tryd.prog w = .ok (.int .u32 (ui (l.getD i 0))) w := by
  obtain ⟨i0, h0, hz0, hz1, hz2⟩ := info_parts wordInfo
  exact run_index_agg Tryd.underlying35 h0 hz1 (fun w => by simp [isAgg, run_underlying Tryd.underlying34]) (cw l) i _ hi (cw_get l i (by omega)) w
theorem ui_not_if (x : W32) : bits .xor .u32 (if IntKind.u32.signed = true then -1 else IntKind.u32.max) (ui x) = ui (~~~x) := ui_not x
theorem quiet_left {P : Program} {f : FuncId} {args : Array Value} {w : World} {n : Nat} {v : Value}
    (h : Calls P f args (w.drewN n) fun e w' => e = .returned v ∧ w.drewN n = w') : Calls P f args (w.drewN n) fun e w'' => e = .returned v ∧ ∃ m, w'' = w.drewN m :=
  h.mono fun _ _ ⟨he, hm⟩ => ⟨he, n, hm.symm⟩

/-- The state when the first n words have been added. -/
def addsUpto (s r : List W32) (n : Nat) : List W32 := (List.range 8).map fun j => if j < n then s.getD j 0 + r.getD j 0 else s.getD j 0
theorem addsUpto_zero (s : S8) (r : List W32) : addsUpto s.list r 0 = s.list := by simp [addsUpto, S8.list, List.range, List.range.loop]
theorem addsUpto_all (s r : S8) : addsUpto s.list r.list 8 = (s.add r).list := by simp [addsUpto, S8.list, S8.add, List.range, List.range.loop]
theorem addsUpto_length (s r : List W32) (n : Nat) : (addsUpto s r n).length = 8 := by simp [addsUpto]
theorem addsUpto_get (s r : List W32) (n : Nat) (hn : n < 8) : (addsUpto s r n).getD n 0 = s.getD n 0 := by
  rw [List.getD_eq_getElem?_getD, List.getElem?_eq_getElem (by rw [addsUpto_length]; exact hn)]
  simp [addsUpto]
theorem addsUpto_set (s r : List W32) (n : Nat) (hn : n < 8) : (addsUpto s r n).set n (s.getD n 0 + r.getD n 0) = addsUpto s r (n + 1) := by
  apply List.ext_getElem
  · simp [addsUpto]
  · intro j h1 h2
    have hj : j < 8 := by simpa [addsUpto] using h2
    rw [List.getElem_set]
    simp only [addsUpto, List.getElem_map, List.getElem_range]
    split
    · next e => subst e; rw [if_pos (by omega)]
    · next e =>
      by_cases h : j < n
      · rw [if_pos h, if_pos (by omega)]
      · rw [if_neg h, if_neg (by omega)]

theorem HB.st {w : World} {g : Nat} {st : S8} {rest : List UInt8} {len : Int} (h : HB w g st rest len) : w.rangeAt g 0 (cw st.list) :=
  Blk.range h 0 _ (fun j v hv => by
    have hj : j < 8 := by
      have := (List.getElem?_eq_some_iff.1 hv).1
      rw [cw_length] at this
      exact this
    rw [Nat.zero_add, List.getElem?_append_left (by rw [cw_length]; exact hj)]
    exact hv)
theorem eight {w : World} {g : Nat} {t : TypeId} {s : S8} (h : Blk w g t (cw s.list)) :
    w.cell? ⟨g, 0, none⟩ = some (.int .u32 (ui s.a)) ∧ w.cell? ⟨g, 1, none⟩ = some (.int .u32 (ui s.b)) ∧ w.cell? ⟨g, 2, none⟩ = some (.int .u32 (ui s.c)) ∧ w.cell? ⟨g, 3, none⟩ = some (.int .u32 (ui s.d)) ∧
    w.cell? ⟨g, 4, none⟩ = some (.int .u32 (ui s.e)) ∧ w.cell? ⟨g, 5, none⟩ = some (.int .u32 (ui s.f)) ∧ w.cell? ⟨g, 6, none⟩ = some (.int .u32 (ui s.g)) ∧ w.cell? ⟨g, 7, none⟩ = some (.int .u32 (ui s.h)) :=
  ⟨h.cell 0, h.cell 1, h.cell 2, h.cell 3, h.cell 4, h.cell 5, h.cell 6, h.cell 7⟩

/-- The world of the rounds: the block, the words, the tables are there; only new blocks have come. -/
def InTake (w : World) (g B : Nat) (st : S8) (rest : List UInt8) (len : Int) (wr : World) : Prop :=
  HB wr g st rest len ∧ Blk wr B 43 (cw (allWords rest)) ∧ Tabs wr ∧ Below w.heap.size w wr

theorem InTake.drewN {w wr : World} {g B : Nat} {st : S8} {rest : List UInt8} {len : Int} (h : InTake w g B st rest len wr) (n : Nat) : InTake w g B st rest len (wr.drewN n) :=
  ⟨h.1, h.2.1, h.2.2.1, ⟨h.2.2.2.os, h.2.2.2.tape, h.2.2.2.output, h.2.2.2.size, h.2.2.2.block⟩⟩

set_option maxHeartbeats 1000000 in
set_option maxRecDepth 100000 in
theorem take_any (g : Nat) (st : S8) (rest : List UInt8) (len : Int) (w : World) (h : HB w g st rest len) (hr : rest.length = 64) (ht : Tabs w) (hg : 1 < g) :
    Calls Tryd.prog 14 #[.pointer (some ⟨g, 0, none⟩)] w fun e w' => e = .returned (.tuple #[]) ∧ HB w' g (compress st rest) rest len ∧ w.grownBy w' (some g) := by
  have HR := Lib.hid hr
  clear hr
  have hlt := h.lt
  have H1 := Lib.hid h
  have HT := Lib.hid ht
  have HI43 := Lib.hid info43
  have HI35 := Lib.hid info35
  clear h ht
  go_enter Tryd.func14, Tryd.ntmps14
  go_wp2_with fail
  refine (words_any g st rest len _ H1.out HR.out).mono ?_
  rintro e w1 ⟨rfl, hb1⟩
  go_wp2_with (first
    | ((with_reducible refine at_store 43 ?_); refine wpList_store_abs (o := ⟨none, _, _, _, _, _⟩) rfl 43 (.tmp 2) (.tmp 18) rfl w1.heap.size (cw (allWords rest)) rfl rfl 43 (cw (List.replicate 64 0)) ?d0 ?d1 ?d2 ?d3 (fun w2 hb2 hg2 => ?_))
    | ((with_reducible refine at_dst (some 22) ?_); refine wpList_load_mid (op := ⟨some 22, _, _, _, _, _⟩) rfl 35 (.tmp 21) rfl g 0 rfl (cw st.list) _ ?d4 Tryd.underlying35 rfl ?d5 ?_)
    | ((with_reducible refine at_store 35 ?_); refine wpList_store_abs (o := ⟨none, _, _, _, _, _⟩) rfl 35 (.tmp 3) (.tmp 22) rfl w2.heap.size (cw st.list) rfl rfl 35 (cw (List.replicate 8 0)) ?d9 ?d6 ?d7 ?d8 (fun w3 hb3 hg3 => ?_)))
  case d0 => exact heap_alloc_new _ _
  case d1 => rw [HI43.out, cw_length, allWords_length]
  case d2 => rw [cw_length, cw_length, allWords_length]; rfl
  case d3 => exact cw_one _
  case d4 => exact HB.st (((H1.out.below hb1 hlt).alloc _).grown hg2 (by have := hb1.size; intro e; injection e; omega))
  case d5 => rw [HI35.out]; rfl
  case d9 => exact heap_alloc_new _ _
  case d6 => rw [HI35.out]; rfl
  case d7 => rfl
  case d8 => exact cw_one _
  have hs1 := hb1.size
  have hs2 : w1.heap.size < w2.heap.size := by have := hg2.size; simp at this; omega
  have hs3 : w2.heap.size < w3.heap.size := by have := hg3.size; simp at this; omega
  have K : InTake w g w1.heap.size st rest len w3 := by
    refine ⟨?_, ?_, ?_, ?_⟩
    · exact ((((H1.out.below hb1 hlt).alloc _).grown hg2 (by intro e; injection e; omega)).alloc _).grown hg3 (by intro e; injection e; omega)
    · exact (Blk.alloc hb2.out _).grown hg3 (by intro e; injection e; omega)
    · have hl := HT.out.lt
      have t1 : Tabs w1 := HT.out.below hb1
      have t2 : Tabs w2 := (t1.grown (only_alloc (World.grownBy.refl w1 none) _) (by simp)).grown hg2 (by intro j hj; injection hj; omega)
      exact (t2.grown (only_alloc (World.grownBy.refl w2 none) _) (by simp)).grown hg3 (by intro j hj; injection hj; omega)
    · have b2 : Below w.heap.size w w2 := below_only (hb1.alloc hs1 _) hg2 (by simp; omega) (by intro j hj; injection hj; omega)
      exact below_only (b2.alloc (by omega) _) hg3 (by simp; omega) (by intro j hj; injection hj; omega)
  obtain ⟨c0, c1, c2, c3, c4, c5, c6, c7⟩ := eight hb3.out
  have HK := Lib.hid K
  clear K hg2 hg3 hb1 hb2 hb3 hs3
  go_quiet (fail)
  go_wp2
  clear c0 c1 c2 c3 c4 c5 c6 c7
  go_loopw [39, 4, 5, 6, 7, 8, 9, 10, 11] (fun i xa xb xc xd xe xf xg xh wr => ∃ (k : Nat) (s : S8), k ≤ 64 ∧ s = rnds st (allWords rest) k ∧ i = .int .i64 k ∧ xa = .int .u32 (ui s.a) ∧ xb = .int .u32 (ui s.b) ∧ xc = .int .u32 (ui s.c) ∧ xd = .int .u32 (ui s.d) ∧ xe = .int .u32 (ui s.e) ∧ xf = .int .u32 (ui s.f) ∧ xg = .int .u32 (ui s.g) ∧ xh = .int .u32 (ui s.h) ∧ InTake w g w1.heap.size st rest len wr) (fun i _ _ _ _ _ _ _ _ _ => 64 - (intOf i).toNat)
  case atStart => exact ⟨0, st, by omega, rfl, rfl, rfl, rfl, rfl, rfl, rfl, rfl, rfl, rfl, HK.out.drewN _⟩
  case round =>
    obtain ⟨k, ⟨a, b, c, d, e, f, gg, hh⟩, hk, hs, rfl, rfl, rfl, rfl, rfl, rfl, rfl, rfl, rfl, hin⟩ := hrel
    have HS := Lib.hid hs
    have HIN := Lib.hid hin
    clear hs hin
    by_cases hk64 : k < 64
    · obtain ⟨kv, hkv⟩ : ∃ x, x = kTab.getD k 0 := ⟨_, rfl⟩
      obtain ⟨wv, hwv⟩ : ∃ x, x = (allWords rest).getD k 0 := ⟨_, rfl⟩
      have ck := HIN.out.2.2.1.k k hk64
      have cv := HIN.out.2.1.cell k
      rw [← hkv] at ck
      rw [cw_get _ _ (by rw [allWords_length]; exact hk64), ← hwv] at cv
      have E : Hid (rnds st (allWords rest) (k + 1) = rnd ⟨a, b, c, d, e, f, gg, hh⟩ kv wv) := by
        have := HS.out
        show rnd (rnds st (allWords rest) k) _ _ = _
        rw [← this, hkv, hwv]
      clear hkv hwv
      have l4 : (k : Int) < 64 := by omega
      have r1 := ui_addw
      have r2 := ui_and
      have r3 := ui_xor
      have r4 := ui_not_if
      have r6 := ui_not
      have r5 := ui_add
      go_wp2
      go_quiet ((go_at_call 19; exact quiet_left (bs1_any _ _)))
      go_wp2_with (go_at_call 19; refine (bs0_any _ _).mono ?_; rintro e1 w' ⟨rfl, rfl⟩)
      go_roundw
      case rel =>
        exact ⟨k + 1, _, by omega, E.out.symm, by go_num, rfl, rfl, rfl, rfl, rfl, rfl, rfl, rfl, HIN.out.drewN _⟩
      case measure => simp [intOf]; omega
    · have hr8 : (S8.list ⟨a, b, c, d, e, f, gg, hh⟩) = (rnds st (allWords rest) 64).list := by
        have e64 : k = 64 := by omega
        have := HS.out
        rw [e64] at this
        rw [this]
      have HR8 := Lib.hid hr8
      clear hr8 HS
      go_wp2
      rename World => w4
      have e98 : #[Value.int IntKind.u32 (ui a), .int .u32 (ui b), .int .u32 (ui c), .int .u32 (ui d), .int .u32 (ui e), .int .u32 (ui f), .int .u32 (ui gg), .int .u32 (ui hh)] = (cw (rnds st (allWords rest) 64).list).toArray := by rw [← HR8.out]; rfl
      rw [e98]
      clear e98 HR8
      go_loopw [99] (fun i wr => ∃ k : Nat, k ≤ 8 ∧ i = .int .i64 k ∧ Blk wr g 39 (cw (addsUpto st.list (rnds st (allWords rest) 64).list k) ++ (cb rest ++ [.int .u64 len])) ∧ w.grownBy wr (some g)) (fun i _ => 8 - (intOf i).toNat)
      case atStart => exact ⟨0, by omega, rfl, by rw [addsUpto_zero]; exact HIN.out.1, only_of_below HIN.out.2.2.2 _⟩
      case round =>
        obtain ⟨k2, hk2, rfl, hblk, hgr⟩ := hrel
        have HBK := Lib.hid hblk
        clear hblk
        by_cases hk8 : k2 < 8
        · have hix := index35 (rnds st (allWords rest) 64).list k2 rfl hk8
          obtain ⟨rv, hrv⟩ : ∃ x, x = (rnds st (allWords rest) 64).list.getD k2 0 := ⟨_, rfl⟩
          obtain ⟨sv, hsv⟩ : ∃ x, x = st.list.getD k2 0 := ⟨_, rfl⟩
          rw [← hrv] at hix
          have hc := HBK.out.cell k2
          rw [List.getElem?_append_left (by rw [cw_length, addsUpto_length]; exact hk8), cw_get _ _ (by rw [addsUpto_length]; exact hk8), addsUpto_get _ _ _ hk8, ← hsv] at hc
          have hf := HBK.out.frozen k2
          have HE : Hid ((addsUpto st.list (rnds st (allWords rest) 64).list k2).set k2 (sv + rv) = addsUpto st.list (rnds st (allWords rest) 64).list (k2 + 1)) := by
            show _ = _
            rw [hsv, hrv]; exact addsUpto_set _ _ _ hk8
          clear hrv hsv
          have l4 : (k2 : Int) < 8 := by omega
          have r1 := ui_addw
          have r5 := ui_add
          go_wp2
          refine wp_region_still_tail 11 (by kernel_rfl) (by kernel_rfl) ?_
          simp only [List.take_succ_cons, List.take_zero, List.drop_succ_cons, List.drop_zero]
          change wpStill _ _ wr.drew _ _ _
          iterate 11 still_step
          refine wpStill_nil ?_
          go_wp2
          go_roundw
          case rel =>
            refine ⟨k2 + 1, by omega, by go_num, ?_, ?_⟩
            · have := HBK.out.set_ k2 (.int .u32 (ui (sv + rv)))
              rw [List.set_append_left _ _ (by rw [cw_length, addsUpto_length]; exact hk8), cw_set, HE.out] at this
              exact this
            · exact only_drewN (only_setCell hgr (.inl rfl) _) 1
          case measure => simp [intOf]; omega
        · have e8 : k2 = 8 := by omega
          go_wp2
          go_end0
          refine ⟨rfl, ?_, hgr⟩
          have := HBK.out
          rw [e8, addsUpto_all] at this
          exact this
end Go.Proofs.YtapkblfdjmbjdaaDoor
