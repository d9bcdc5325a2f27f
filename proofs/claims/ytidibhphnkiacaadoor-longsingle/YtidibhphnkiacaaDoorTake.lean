/-
  What (*Hash).take does: the state is changed by the block in rest; nothing else of what was there turns.
-/
import Derived.Test.YtidibhphnkiacaaDoorWds
namespace Go.Proofs.YtidibhphnkiacaaDoor
open Go.RowKit
set_option linter.unusedVariables false
set_option linter.unusedSimpArgs false

theorem index35 (l : List W64) (i : Nat) (hr : l.length = 8) (hi : i < 8) (w : World) :
    (Instr.index 35 (.agg (cw l).toArray) (.int .i64 (i : Int))).run Tryd.prog w = .ok (.int .u64 (ui (l.getD i 0))) w := by
  obtain ⟨i0, h0, hz0, hz1, hz2⟩ := info_parts wordInfo
  exact run_index_agg Tryd.underlying35 h0 hz1 (fun w => by simp [isAgg, run_underlying Tryd.underlying34]) (cw l) i _ hi (cw_get l i (by omega)) w
/-- The state when the first n words have been added. -/
def addsUpto (s r : List W64) (n : Nat) : List W64 := (List.range 8).map fun j => if j < n then s.getD j 0 + r.getD j 0 else s.getD j 0
theorem addsUpto_zero (s : S8) (r : List W64) : addsUpto s.list r 0 = s.list := by simp [addsUpto, S8.list, List.range, List.range.loop]
theorem addsUpto_all (s r : S8) : addsUpto s.list r.list 8 = (s.add r).list := by simp [addsUpto, S8.list, S8.add, List.range, List.range.loop]
theorem addsUpto_length (s r : List W64) (n : Nat) : (addsUpto s r n).length = 8 := by simp [addsUpto]
theorem addsUpto_get (s r : List W64) (n : Nat) (hn : n < 8) : (addsUpto s r n).getD n 0 = s.getD n 0 := by
  rw [List.getD_eq_getElem?_getD, List.getElem?_eq_getElem (by rw [addsUpto_length]; exact hn)]
  simp [addsUpto]
theorem addsUpto_set (s r : List W64) (n : Nat) (hn : n < 8) : (addsUpto s r n).set n (s.getD n 0 + r.getD n 0) = addsUpto s r (n + 1) := by
  apply List.ext_getElem
  · simp [addsUpto]
  · intro j h1 h2
    have hj : j < 8 := by simpa [addsUpto] using h2
    rw [List.getElem_set]
    simp only [addsUpto, List.getElem_map, List.getElem_range]
    split
    · next e => subst e; rw [if_pos (by omega)]
    · next e =>
      by_cases h : j < n
      · rw [if_pos h, if_pos (by omega)]
      · rw [if_neg h, if_neg (by omega)]

theorem HB.st {w : World} {g : Nat} {st : S8} {rest : List UInt8} {len : Int} (h : HB w g st rest len) : w.rangeAt g 0 (cw st.list) :=
  Blk.range h 0 _ (fun j v hv => by
    have hj : j < 8 := by
      have := (List.getElem?_eq_some_iff.1 hv).1
      rw [cw_length] at this
      exact this
    rw [Nat.zero_add, List.getElem?_append_left (by rw [cw_length]; exact hj)]
    exact hv)
theorem eight {w : World} {g : Nat} {t : TypeId} {s : S8} (h : Blk w g t (cw s.list)) :
    w.cell? ⟨g, 0, none⟩ = some (.int .u64 (ui s.a)) ∧ w.cell? ⟨g, 1, none⟩ = some (.int .u64 (ui s.b)) ∧ w.cell? ⟨g, 2, none⟩ = some (.int .u64 (ui s.c)) ∧ w.cell? ⟨g, 3, none⟩ = some (.int .u64 (ui s.d)) ∧
    w.cell? ⟨g, 4, none⟩ = some (.int .u64 (ui s.e)) ∧ w.cell? ⟨g, 5, none⟩ = some (.int .u64 (ui s.f)) ∧ w.cell? ⟨g, 6, none⟩ = some (.int .u64 (ui s.g)) ∧ w.cell? ⟨g, 7, none⟩ = some (.int .u64 (ui s.h)) :=
  ⟨h.cell 0, h.cell 1, h.cell 2, h.cell 3, h.cell 4, h.cell 5, h.cell 6, h.cell 7⟩

/-- The world of the rounds: the block, the words, the tables are there; only new blocks have come. -/
def InTake (w : World) (g B : Nat) (st : S8) (rest : List UInt8) (len : Int) (wr : World) : Prop :=
  HB wr g st rest len ∧ Blk wr B 43 (cw (allWords rest)) ∧ Tabs wr ∧ Below w.heap.size w wr

theorem InTake.drewN {w wr : World} {g B : Nat} {st : S8} {rest : List UInt8} {len : Int} (h : InTake w g B st rest len wr) (n : Nat) : InTake w g B st rest len (wr.drewN n) :=
  ⟨h.1, h.2.1, h.2.2.1, ⟨h.2.2.2.os, h.2.2.2.tape, h.2.2.2.output, h.2.2.2.size, h.2.2.2.block⟩⟩

theorem InTake.below {w wr wr' : World} {g B : Nat} {st : S8} {rest : List UInt8} {len : Int} (h : InTake w g B st rest len wr) (hb : Below wr.heap.size wr wr') : InTake w g B st rest len wr' :=
  ⟨Blk.below h.1 hb (Blk.lt h.1), h.2.1.below hb h.2.1.lt, h.2.2.1.below hb, h.2.2.2.trans (hb.mono h.2.2.2.size)⟩
theorem bs0_new (x : W64) (w : World) : Calls Tryd.prog 20 #[.int .u64 (ui x), .slice (some ⟨w.heap.size, 0, none⟩) 3 3] (w.alloc (.cells #[.int .i64 28, .int .i64 34, .int .i64 39] 3)) fun e w' => e = .returned (.int .u64 (ui (bs0 x))) ∧ w.alloc (.cells #[.int .i64 28, .int .i64 34, .int .i64 39] 3) = w' := by
  have hI : Ints (w.alloc (.cells #[.int .i64 28, .int .i64 34, .int .i64 39] 3)) w.heap.size [28, 34, 39] := heap_alloc_new _ _
  have := turned_any x [28, 34, 39] w.heap.size 3 3 _ rfl (by omega) hI.cells (by decide)
  rwa [xors_bs0] at this

set_option maxHeartbeats 1000000 in
set_option maxRecDepth 100000 in
theorem take_any (g : Nat) (st : S8) (rest : List UInt8) (len : Int) (w : World) (h : HB w g st rest len) (hr : rest.length = 128) (ht : Tabs w) (hg : 1 < g) :
    Calls Tryd.prog 14 #[.pointer (some ⟨g, 0, none⟩)] w fun e w' => e = .returned (.tuple #[]) ∧ HB w' g (compress st rest) rest len ∧ w.grownBy w' (some g) := by
  have HR := Lib.hid hr
  clear hr
  have hlt := h.lt
  have H1 := Lib.hid h
  have HT := Lib.hid ht
  have HI43 := Lib.hid info43
  have HI35 := Lib.hid info35
  clear h ht
  have z43 := zero43
  go_enter Tryd.func14, Tryd.ntmps14
  go_wp2_with fail
  refine (words_any g st rest len _ H1.out HR.out).mono ?_
  rintro e w1 ⟨rfl, hb1⟩
  go_wp2_with (first
    | ((with_reducible refine at_store 43 ?_); refine wpList_store_abs (o := ⟨none, _, _, _, _, _⟩) rfl 43 (.tmp 2) (.tmp 18) rfl w1.heap.size (cw (allWords rest)) rfl rfl 43 (cw (List.replicate 80 0)) ?d0 ?d1 ?d2 ?d3 (fun w2 hb2 hg2 => ?_))
    | ((with_reducible refine at_dst (some 22) ?_); refine wpList_load_mid (op := ⟨some 22, _, _, _, _, _⟩) rfl 35 (.tmp 21) rfl g 0 rfl (cw st.list) _ ?d4 Tryd.underlying35 rfl ?d5 ?_)
    | ((with_reducible refine at_store 35 ?_); refine wpList_store_abs (o := ⟨none, _, _, _, _, _⟩) rfl 35 (.tmp 3) (.tmp 22) rfl w2.heap.size (cw st.list) rfl rfl 35 (cw (List.replicate 8 0)) ?d9 ?d6 ?d7 ?d8 (fun w3 hb3 hg3 => ?_)))
  case d0 => exact heap_alloc_new _ _
  case d1 => rw [HI43.out, cw_length, allWords_length]
  case d2 => rw [cw_length, cw_length, allWords_length]; rfl
  case d3 => exact cw_one _
  case d4 => exact HB.st (((H1.out.below hb1 hlt).alloc _).grown hg2 (by have := hb1.size; intro e; injection e; omega))
  case d5 => rw [HI35.out]; rfl
  case d9 => exact heap_alloc_new _ _
  case d6 => rw [HI35.out]; rfl
  case d7 => rfl
  case d8 => exact cw_one _
  have hs1 := hb1.size
  have hs2 : w1.heap.size < w2.heap.size := by have := hg2.size; simp at this; omega
  have hs3 : w2.heap.size < w3.heap.size := by have := hg3.size; simp at this; omega
  have K : InTake w g w1.heap.size st rest len w3 := by
    refine ⟨?_, ?_, ?_, ?_⟩
    · exact ((((H1.out.below hb1 hlt).alloc _).grown hg2 (by intro e; injection e; omega)).alloc _).grown hg3 (by intro e; injection e; omega)
    · exact (Blk.alloc hb2.out _).grown hg3 (by intro e; injection e; omega)
    · have hl := HT.out.lt
      have t1 : Tabs w1 := HT.out.below hb1
      have t2 : Tabs w2 := (t1.grown (only_alloc (World.grownBy.refl w1 none) _) (by simp)).grown hg2 (by intro j hj; injection hj; omega)
      exact (t2.grown (only_alloc (World.grownBy.refl w2 none) _) (by simp)).grown hg3 (by intro j hj; injection hj; omega)
    · have b2 : Below w.heap.size w w2 := below_only (hb1.alloc hs1 _) hg2 (by simp; omega) (by intro j hj; injection hj; omega)
      exact below_only (b2.alloc (by omega) _) hg3 (by simp; omega) (by intro j hj; injection hj; omega)
  obtain ⟨c0, c1, c2, c3, c4, c5, c6, c7⟩ := eight hb3.out
  have HK := Lib.hid K
  clear K hg2 hg3 hb1 hb2 hb3 hs3
  go_quiet (fail)
  go_wp2
  clear c0 c1 c2 c3 c4 c5 c6 c7
  go_loopw [39, 4, 5, 6, 7, 8, 9, 10, 11] (fun i xa xb xc xd xe xf xg xh wr => ∃ (k : Nat) (s : S8), k ≤ 80 ∧ s = rnds st (allWords rest) k ∧ i = .int .i64 k ∧ xa = .int .u64 (ui s.a) ∧ xb = .int .u64 (ui s.b) ∧ xc = .int .u64 (ui s.c) ∧ xd = .int .u64 (ui s.d) ∧ xe = .int .u64 (ui s.e) ∧ xf = .int .u64 (ui s.f) ∧ xg = .int .u64 (ui s.g) ∧ xh = .int .u64 (ui s.h) ∧ InTake w g w1.heap.size st rest len wr) (fun i _ _ _ _ _ _ _ _ _ => 80 - (intOf i).toNat)
  case atStart => exact ⟨0, st, by omega, rfl, rfl, rfl, rfl, rfl, rfl, rfl, rfl, rfl, rfl, HK.out.drewN _⟩
  case round =>
    obtain ⟨k, ⟨sa, sb, sc, sd, se, sf, sg, sh⟩, hk, hs, rfl, rfl, rfl, rfl, rfl, rfl, rfl, rfl, rfl, hin⟩ := hrel
    have HS := Lib.hid hs
    have HIN := Lib.hid hin
    clear hs hin
    by_cases hk64 : k < 80
    · obtain ⟨kv, hkv⟩ : ∃ x, x = kTab.getD k 0 := ⟨_, rfl⟩
      obtain ⟨wv, hwv⟩ : ∃ x, x = (allWords rest).getD k 0 := ⟨_, rfl⟩
      have ck := HIN.out.2.2.1.k k hk64
      have cv := HIN.out.2.1.cell k
      rw [← hkv] at ck
      rw [cw_get _ _ (by rw [allWords_length]; exact hk64), ← hwv] at cv
      have E : Hid (rnds st (allWords rest) (k + 1) = rnd ⟨sa, sb, sc, sd, se, sf, sg, sh⟩ kv wv) := by
        have := HS.out
        show rnd (rnds st (allWords rest) k) _ _ = _
        rw [← this, hkv, hwv]
      have hlB := HIN.out.2.1.lt
      have hl1 := HIN.out.2.2.1.lt
      have HCK := Lib.hid ck
      have HCV := Lib.hid cv
      have hk80 : k < 80 := hk64
      clear hkv hwv ck cv
      go_wp2
      rename_i hKx
      refine wp_region_each (by kernel_rfl) (by kernel_rfl) (fun iX v u => match iX with
          | 0 => v = .int .u64 (ui (sh))
          | 1 => v = .int .u64 (ui (se))
          | 2 => ∃ g, v = .slice (some ⟨g, 0, none⟩) 3 3 ∧ Ints u g [14, 18, 41]
          | 3 => v = .int .u64 (ui (xors se [14, 18, 41]))
          | 4 => v = .int .u64 (ui ((sh) + (xors se [14, 18, 41])))
          | 5 => v = .int .u64 (ui (se))
          | 6 => v = .int .u64 (ui (sf))
          | 7 => v = .int .u64 (ui ((se) &&& (sf)))
          | 8 => v = .int .u64 (ui (se))
          | 9 => v = .int .u64 (ui (~~~(se)))
          | 10 => v = .int .u64 (ui (sg))
          | 11 => v = .int .u64 (ui ((~~~(se)) &&& (sg)))
          | 12 => v = .int .u64 (ui (((se) &&& (sf)) ^^^ ((~~~(se)) &&& (sg))))
          | 13 => v = .int .u64 (ui (((sh) + (xors se [14, 18, 41])) + (((se) &&& (sf)) ^^^ ((~~~(se)) &&& (sg)))))
          | 14 => v = .int .i64 (k : Int)
          | 15 => v = .pointer (some ⟨1, k, none⟩)
          | 16 => v = .int .u64 (ui (kv))
          | 17 => v = .int .u64 (ui ((((sh) + (xors se [14, 18, 41])) + (((se) &&& (sf)) ^^^ ((~~~(se)) &&& (sg)))) + (kv)))
          | 18 => v = .int .i64 (k : Int)
          | 19 => v = .pointer (some ⟨w1.heap.size, k, none⟩)
          | 20 => v = .int .u64 (ui (wv))
          | 21 => v = .int .u64 (ui (((((sh) + (xors se [14, 18, 41])) + (((se) &&& (sf)) ^^^ ((~~~(se)) &&& (sg)))) + (kv)) + (wv)))
          | 22 => v = .int .u64 (ui (((((sh) + (xors se [14, 18, 41])) + (((se) &&& (sf)) ^^^ ((~~~(se)) &&& (sg)))) + (kv)) + (wv)))
          | _ => True) (fun u => Below wr.heap.size wr u) ?m1 (fun _ _ h1 h2 => h1.trans (h2.mono h1.size)) ⟨rfl, rfl, rfl, Nat.le_refl _, fun _ _ => rfl⟩ ?m2 ?m3
      case m1 =>
        intro iX v u u' h hr hb
        rcases iX with _ | _ | _ | _ | _ | _ | _ | _ | _ | _ | _ | _ | _ | _ | _ | _ | _ | _ | _ | _ | _ | _ | _ | iX
        · exact h
        · exact h
        · obtain ⟨g, e, hk⟩ := h; exact ⟨g, e, Blk.below hk hb (Blk.lt hk)⟩
        · exact h
        · exact h
        · exact h
        · exact h
        · exact h
        · exact h
        · exact h
        · exact h
        · exact h
        · exact h
        · exact h
        · exact h
        · exact h
        · exact h
        · exact h
        · exact h
        · exact h
        · exact h
        · exact h
        · exact h
        · trivial
      case m2 =>
        intro iX o ho a u hr hk hpre K hK
        have e11 : a.tmps.getD 11 undef = .int .u64 (ui (sh)) := hk.slot 11 (by simp)
        have e8 : a.tmps.getD 8 undef = .int .u64 (ui (se)) := hk.slot 8 (by simp)
        have e9 : a.tmps.getD 9 undef = .int .u64 (ui (sf)) := hk.slot 9 (by simp)
        have e10 : a.tmps.getD 10 undef = .int .u64 (ui (sg)) := hk.slot 10 (by simp)
        have e12 : a.tmps.getD 12 undef = .int .i64 (k : Int) := hk.slot 12 (by simp)
        have e2 : a.tmps.getD 2 undef = .pointer (some ⟨w1.heap.size, 0, none⟩) := hk.slot 2 (by simp)
        rcases iX with _ | _ | _ | _ | _ | _ | _ | _ | _ | _ | _ | _ | _ | _ | _ | _ | _ | _ | _ | _ | _ | _ | _ | iX
        · obtain rfl := Option.some.inj ho
          exact st_move (.tmp 11) rfl (want_none rfl) _ e11 (hK _ _ rfl (Below.refl _ _))
        · obtain rfl := Option.some.inj ho
          exact st_move (.tmp 8) rfl (want_none rfl) _ e8 (hK _ _ rfl (Below.refl _ _))
        · obtain rfl := Option.some.inj ho
          exact st_ints3 14 18 41 rfl (want_none rfl) (hK _ _ ⟨u.heap.size, rfl, heap_alloc_new _ _⟩ ((Below.refl _ _).alloc (Nat.le_refl _) _))
        · obtain rfl := Option.some.inj ho
          obtain ⟨gs, egs, hgs⟩ := (hpre 2 _ 44 rfl rfl ⟨⟨2, .data⟩, by simp, rfl, rfl⟩)
          exact st_call2 20 (.tmp 43) (.tmp 44) 34 50 rfl (want_none rfl) _ _ (hpre 1 _ 43 rfl rfl ⟨⟨1, .data⟩, by simp, rfl, rfl⟩) egs (cf20 _ _ _) _ (turned_any se [14, 18, 41] gs 3 3 u rfl (by omega) hgs.cells (by decide)) (fun e u' ⟨he, hw⟩ => ⟨_, he, hK _ _ rfl (by rw [← hw]; exact Below.refl _ _)⟩)
        · obtain rfl := Option.some.inj ho
          exact st_add (.tmp 42) (.tmp 45) rfl (want_none rfl) _ _ (hpre 0 _ 42 rfl rfl ⟨⟨0, .data⟩, by simp, rfl, rfl⟩) (hpre 3 _ 45 rfl rfl ⟨⟨3, .data⟩, by simp, rfl, rfl⟩) (hK _ _ rfl (Below.refl _ _))
        · obtain rfl := Option.some.inj ho
          exact st_move (.tmp 8) rfl (want_none rfl) _ e8 (hK _ _ rfl (Below.refl _ _))
        · obtain rfl := Option.some.inj ho
          exact st_move (.tmp 9) rfl (want_none rfl) _ e9 (hK _ _ rfl (Below.refl _ _))
        · obtain rfl := Option.some.inj ho
          exact st_and (.tmp 47) (.tmp 48) rfl (want_none rfl) _ _ (hpre 5 _ 47 rfl rfl ⟨⟨5, .data⟩, by simp, rfl, rfl⟩) (hpre 6 _ 48 rfl rfl ⟨⟨6, .data⟩, by simp, rfl, rfl⟩) (hK _ _ rfl (Below.refl _ _))
        · obtain rfl := Option.some.inj ho
          exact st_move (.tmp 8) rfl (want_none rfl) _ e8 (hK _ _ rfl (Below.refl _ _))
        · obtain rfl := Option.some.inj ho
          exact st_not (.tmp 50) rfl (want_none rfl) _ (hpre 8 _ 50 rfl rfl ⟨⟨8, .data⟩, by simp, rfl, rfl⟩) (hK _ _ rfl (Below.refl _ _))
        · obtain rfl := Option.some.inj ho
          exact st_move (.tmp 10) rfl (want_none rfl) _ e10 (hK _ _ rfl (Below.refl _ _))
        · obtain rfl := Option.some.inj ho
          exact st_and (.tmp 51) (.tmp 52) rfl (want_none rfl) _ _ (hpre 9 _ 51 rfl rfl ⟨⟨9, .data⟩, by simp, rfl, rfl⟩) (hpre 10 _ 52 rfl rfl ⟨⟨10, .data⟩, by simp, rfl, rfl⟩) (hK _ _ rfl (Below.refl _ _))
        · obtain rfl := Option.some.inj ho
          exact st_xor (.tmp 49) (.tmp 53) rfl (want_none rfl) _ _ (hpre 7 _ 49 rfl rfl ⟨⟨7, .data⟩, by simp, rfl, rfl⟩) (hpre 11 _ 53 rfl rfl ⟨⟨11, .data⟩, by simp, rfl, rfl⟩) (hK _ _ rfl (Below.refl _ _))
        · obtain rfl := Option.some.inj ho
          exact st_add (.tmp 46) (.tmp 54) rfl (want_none rfl) _ _ (hpre 4 _ 46 rfl rfl ⟨⟨4, .data⟩, by simp, rfl, rfl⟩) (hpre 12 _ 54 rfl rfl ⟨⟨12, .data⟩, by simp, rfl, rfl⟩) (hK _ _ rfl (Below.refl _ _))
        · obtain rfl := Option.some.inj ho
          exact st_move (.tmp 12) rfl (want_none rfl) _ e12 (hK _ _ rfl (Below.refl _ _))
        · obtain rfl := Option.some.inj ho
          exact st_index (.global 1) (.tmp 56) rfl (want_none rfl) _ _ rfl (hpre 14 _ 56 rfl rfl ⟨⟨14, .data⟩, by simp, rfl, rfl⟩) hk80 (hK _ _ rfl (Below.refl _ _))
        · obtain rfl := Option.some.inj ho
          exact st_load (.tmp 57) rfl (want_none rfl) _ _ _ (hpre 15 _ 57 rfl rfl ⟨⟨15, .data⟩, by simp, rfl, rfl⟩) ((hr.cell (p := ⟨1, k, none⟩) hl1).trans HCK.out) (hK _ _ rfl (Below.refl _ _))
        · obtain rfl := Option.some.inj ho
          exact st_add (.tmp 55) (.tmp 58) rfl (want_none rfl) _ _ (hpre 13 _ 55 rfl rfl ⟨⟨13, .data⟩, by simp, rfl, rfl⟩) (hpre 16 _ 58 rfl rfl ⟨⟨16, .data⟩, by simp, rfl, rfl⟩) (hK _ _ rfl (Below.refl _ _))
        · obtain rfl := Option.some.inj ho
          exact st_move (.tmp 12) rfl (want_none rfl) _ e12 (hK _ _ rfl (Below.refl _ _))
        · obtain rfl := Option.some.inj ho
          exact st_index (.tmp 2) (.tmp 60) rfl (want_none rfl) _ _ e2 (hpre 18 _ 60 rfl rfl ⟨⟨18, .data⟩, by simp, rfl, rfl⟩) hk80 (hK _ _ rfl (Below.refl _ _))
        · obtain rfl := Option.some.inj ho
          exact st_load (.tmp 61) rfl (want_none rfl) _ _ _ (hpre 19 _ 61 rfl rfl ⟨⟨19, .data⟩, by simp, rfl, rfl⟩) ((hr.cell (p := ⟨w1.heap.size, k, none⟩) hlB).trans HCV.out) (hK _ _ rfl (Below.refl _ _))
        · obtain rfl := Option.some.inj ho
          exact st_add (.tmp 59) (.tmp 62) rfl (want_none rfl) _ _ (hpre 17 _ 59 rfl rfl ⟨⟨17, .data⟩, by simp, rfl, rfl⟩) (hpre 20 _ 62 rfl rfl ⟨⟨20, .data⟩, by simp, rfl, rfl⟩) (hK _ _ rfl (Below.refl _ _))
        · obtain rfl := Option.some.inj ho
          exact st_assign (.tmp 63) rfl (want_none rfl) _ (hpre 21 _ 63 rfl rfl ⟨⟨21, .data⟩, by simp, rfl, rfl⟩) (hK _ _ rfl (Below.refl _ _))
        · cases ho
      case m3 =>
        intro a u1 hr hk hv
        have h13 := hv 22 _ 13 rfl rfl
        have hfr := keeps_frameP (fun s => decide (s = 13 ∨ (42 ≤ s ∧ s ≤ 63))) hk (by simp)
        refine hKx a u1 ?_
        rw [hfr]
        generalize hf : (fun s => a.tmps.getD s undef) = ff
        obtain ⟨T, hT⟩ : ∃ T, T = tOf ⟨sa, sb, sc, sd, se, sf, sg, sh⟩ kv wv := ⟨_, rfl⟩
        have hf13 : ff 13 = .int .u64 (ui T) := by rw [← hf, hT]; unfold tOf chs; rw [← xors_bs1]; exact h13
        simp only [mixP, hf13, decide_eq_true_eq, Nat.reduceAdd, Nat.reduceLeDiff, Nat.reduceEqDiff, false_or, true_or, or_false, or_true, and_true, and_false, true_and, false_and, and_self, if_true, if_false, Nat.zero_le]
        have HINa := Lib.hid (HIN.out.below hr)
        have HT2 := Lib.hid hT
        clear hfr hf h13 hv hk hr HIN hT hKx HCK HCV hlB hl1
        have r1 := ui_addw
        have r2 := ui_and
        have r3 := ui_xor
        have r5 := ui_add
        go_wp2_with (go_at_call 20; refine (bs0_new sa _).mono ?_; rintro e1 w' ⟨rfl, rfl⟩)
        go_roundw
        case rel =>
          refine ⟨k + 1, ⟨T + (bs0 sa + ((sa &&& sb) ^^^ (sa &&& sc) ^^^ (sb &&& sc))), sa, sb, sc, sd + T, se, sf, sg⟩, by omega, ?_, by go_num, rfl, rfl, rfl, rfl, rfl, rfl, rfl, rfl, HINa.out.below ((Below.refl _ _).alloc (Nat.le_refl _) _)⟩
          rw [E.out, HT2.out]
          rfl
        case measure => simp [intOf]; omega
    · have hr8 : (S8.list ⟨sa, sb, sc, sd, se, sf, sg, sh⟩) = (rnds st (allWords rest) 80).list := by
        have e64 : k = 80 := by omega
        have := HS.out
        rw [e64] at this
        rw [this]
      have HR8 := Lib.hid hr8
      clear hr8 HS
      go_wp2
      rename World => w4
      have e98 : #[Value.int IntKind.u64 (ui sa), .int .u64 (ui sb), .int .u64 (ui sc), .int .u64 (ui sd), .int .u64 (ui se), .int .u64 (ui sf), .int .u64 (ui sg), .int .u64 (ui sh)] = (cw (rnds st (allWords rest) 80).list).toArray := by rw [← HR8.out]; rfl
      rw [e98]
      clear e98 HR8
      go_loopw [101] (fun i wr => ∃ k : Nat, k ≤ 8 ∧ i = .int .i64 k ∧ Blk wr g 38 (cw (addsUpto st.list (rnds st (allWords rest) 80).list k) ++ (cb rest ++ [.int .u64 len])) ∧ w.grownBy wr (some g)) (fun i _ => 8 - (intOf i).toNat)
      case atStart => exact ⟨0, by omega, rfl, by rw [addsUpto_zero]; exact HIN.out.1, only_of_below HIN.out.2.2.2 _⟩
      case round =>
        obtain ⟨k2, hk2, rfl, hblk, hgr⟩ := hrel
        have HBK := Lib.hid hblk
        clear hblk
        by_cases hk8 : k2 < 8
        · have hix := index35 (rnds st (allWords rest) 80).list k2 rfl hk8
          obtain ⟨rv, hrv⟩ : ∃ x, x = (rnds st (allWords rest) 80).list.getD k2 0 := ⟨_, rfl⟩
          obtain ⟨sv, hsv⟩ : ∃ x, x = st.list.getD k2 0 := ⟨_, rfl⟩
          rw [← hrv] at hix
          have hc := HBK.out.cell k2
          rw [List.getElem?_append_left (by rw [cw_length, addsUpto_length]; exact hk8), cw_get _ _ (by rw [addsUpto_length]; exact hk8), addsUpto_get _ _ _ hk8, ← hsv] at hc
          have hf := HBK.out.frozen k2
          have HE : Hid ((addsUpto st.list (rnds st (allWords rest) 80).list k2).set k2 (sv + rv) = addsUpto st.list (rnds st (allWords rest) 80).list (k2 + 1)) := by
            show _ = _
            rw [hsv, hrv]; exact addsUpto_set _ _ _ hk8
          clear hrv hsv
          have l4 : (k2 : Int) < 8 := by omega
          have r1 := ui_addw
          have r5 := ui_add
          go_wp2
          refine wp_region_still_tail 11 (by kernel_rfl) (by kernel_rfl) ?_
          simp only [List.take_succ_cons, List.take_zero, List.drop_succ_cons, List.drop_zero]
          change wpStill _ _ wr.drew _ _ _
          iterate 11 still_step
          refine wpStill_nil ?_
          go_wp2
          go_roundw
          case rel =>
            refine ⟨k2 + 1, by omega, by go_num, ?_, ?_⟩
            · have := HBK.out.set_ k2 (.int .u64 (ui (sv + rv)))
              rw [List.set_append_left _ _ (by rw [cw_length, addsUpto_length]; exact hk8), cw_set, HE.out] at this
              exact this
            · exact only_drewN (only_setCell hgr (.inl rfl) _) 1
          case measure => simp [intOf]; omega
        · have e8 : k2 = 8 := by omega
          go_wp2
          go_end0
          refine ⟨rfl, ?_, hgr⟩
          have := HBK.out
          rw [e8, addsUpto_all] at this
          exact this
end Go.Proofs.YtidibhphnkiacaaDoor
