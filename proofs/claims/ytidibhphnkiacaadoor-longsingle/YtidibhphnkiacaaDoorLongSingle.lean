/-
  For every two texts LongSingle returns true, and they read behind the call as before. No condition but that the package's two tables hold what its text lays there.
-/
import Derived.Test.YtidibhphnkiacaaDoorLaw
import Derived.Test.YtidibhphnkiacaaDoorStep
import Derived.Test.YtidibhphnkiacaaDoorMix
import Derived.Test.YtidibhphnkiacaaDoorTie
import Derived.Test.YtidibhphnkiacaaDoorCards
namespace Go.Proofs.YtidibhphnkiacaaDoor.longSingle
open Go.Proofs.YtidibhphnkiacaaDoor Go.ChangeShapes Go.WideShapes Go.ChangeAt Go.RowKit
set_option linter.unusedVariables false

theorem walk_out (A B : Option Addr) (n cap m cbp : Nat) (w : World) (ht : Tabs w) (h : 500 < n ∨ (n ≤ 500 ∧ 500 < m)) :
    Calls Tryd.prog 7 #[.slice A n cap, .slice B m cbp] w fun e w' => e = .returned (.bool true) ∧ Below w.heap.size w w' := by
  have HT := Lib.hid ht
  clear ht
  rcases h with h | ⟨h0, h⟩
  all_goals
    go_enter Tryd.func7, Tryd.ntmps7
    go_wp2_with fail
    refine (anchor_any _ HT.out).mono ?_
    rintro e w1 ⟨rfl, hb1⟩
    go_wp2
    go_ret
    exact ⟨rfl, hb1⟩
theorem seg_nil (w : World) : Seg w none 0 [] := ⟨rfl, fun h => absurd h (Nat.lt_irrefl _)⟩
theorem take_snoc (l : List UInt8) (i : Nat) (h : i < l.length) : l.take i ++ [l.getD i 0] = l.take (i + 1) := by
  rw [List.take_succ_eq_append_getElem h]
  simp [List.getD, List.getElem?_eq_getElem h]

set_option maxHeartbeats 1000000 in
set_option maxRecDepth 100000 in
theorem walk_in (A : Option Addr) (n cap : Nat) (l : List UInt8) (B : Option Addr) (m cbp : Nat) (lb : List UInt8) (w : World) (hs : Seg w A n l) (hc : n ≤ cap) (hsb : Seg w B m lb) (hcb : m ≤ cbp) (ht : Tabs w) (hn : n ≤ 500) (hm : m ≤ 500) :
    Calls Tryd.prog 7 #[.slice A n cap, .slice B m cbp] w fun e w' => e = .returned (.bool true) ∧ Below w.heap.size w w' := by
  have HT := Lib.hid ht
  have HS := Lib.hid hs
  have HSB := Lib.hid hsb
  have hG := ht.lt
  clear ht hs hsb
  go_enter Tryd.func7, Tryd.ntmps7
  go_wp2_with fail
  refine (anchor_any _ HT.out).mono ?_
  rintro e w1 ⟨rfl, hb1⟩
  have hs1 := hb1.size
  go_wp2_with fail
  refine (New_any w1 (HT.out.below hb1)).mono ?_
  rintro e w2 ⟨rfl, hsg2, hb2⟩
  have hs2 := hsg2.lt
  have b2 : Below w.heap.size w w2 := hb1.trans (hb2.mono hs1)
  go_wp2_with fail
  refine (New_any w2 (HT.out.below b2)).mono ?_
  rintro e w3 ⟨rfl, hsh3, hb3⟩
  have hs3 := hsh3.lt
  have b3 : Below w.heap.size w w3 := b2.trans (hb3.mono b2.size)
  have hsg3 : Sums w3 w1.heap.size [] := hsg2.below hb3 hs2
  have HG3 := Lib.hid hsg3
  have HH3 := Lib.hid hsh3
  have HB3 := Lib.hid b3
  clear hsg2 hsg3 hsh3 hb2 hb3 b2 b3
  go_wp2
  go_loopw [23] (fun j wr => ∃ k : Nat, k ≤ n ∧ j = .int .i64 k ∧ Sums wr w1.heap.size (l.take k) ∧ Sums wr w2.heap.size [] ∧ Below w.heap.size w wr ∧ w3.heap.size ≤ wr.heap.size) (fun j _ => n - (intOf j).toNat)
  case atStart => exact ⟨0, by omega, rfl, HG3.out, HH3.out, HB3.out, Nat.le_refl _⟩
  case round =>
    obtain ⟨k, hk, rfl, hsg, hsh, hb, hB⟩ := hrel
    have HG := Lib.hid hsg
    have HH := Lib.hid hsh
    clear hsg hsh HG3 HH3 HB3
    by_cases hkn : k < n
    · obtain ⟨ad, hA, had, hcl⟩ := (HS.out.below hb).2 (by omega)
      subst hA
      have hl := HS.out.1
      obtain ⟨x, hx⟩ : ∃ x, x = l.getD k 0 := ⟨_, rfl⟩
      have cx := hcl k _ (cb_get l k (by omega))
      rw [← hx] at cx
      have HT1 : Hid (l.take k ++ [x] = l.take (k + 1)) := by show _ = _; rw [hx]; exact take_snoc l k (by omega)
      have HLK : Hid ((l.take k).length ≤ 500) := by show _ ≤ _; rw [List.length_take]; omega
      clear hx hcl hl
      go_wp2_with fail
      have hbA : Below w.heap.size w (wr.alloc (.cells #[.int .u8 (ub x)] 5)) := hb.alloc hb.size _
      have hbk : Blk (wr.alloc (.cells #[.int .u8 (ub x)] 5)) wr.heap.size 5 (cb [x]) := heap_alloc_new _ _
      have hgA : wr.grownBy (wr.alloc (.cells #[.int .u8 (ub x)] 5)) none := only_alloc (World.grownBy.refl wr none) _
      refine (Write_any w1.heap.size (l.take k) [x] _ 1 1 _ (HG.out.grown hgA (by simp)) (hbk.seg 1 rfl) (fun _ a ha => by injection ha with ha; rw [← ha]; show wr.heap.size ≠ _; omega) (Nat.le_refl _) (by omega) (by have := HLK.out; omega) (HT.out.below hbA) (by omega)).mono ?_
      rintro e w5 ⟨rfl, hsg5, hg5⟩
      have hs5 := hg5.size
      have hs5' : wr.heap.size < w5.heap.size := by simp at hs5; omega
      have b5 : Below w.heap.size w w5 := below_only hbA hg5 hbA.size (by intro j hj; injection hj; omega)
      have hsh5 : Sums w5 w2.heap.size [] := (HH.out.grown hgA (by simp)).grown hg5 (by intro e; injection e; omega)
      rw [HT1.out] at hsg5
      have HG5 := Lib.hid hsg5
      have HH5 := Lib.hid hsh5
      have HB5 := Lib.hid b5
      clear hsg5 hsh5 hg5 hgA hbk hbA hs5 b5
      by_cases h3 : k % 3 = 0
      · have hd : (((k : Int) % 3) == 0) = true := by simp; omega
        go_wp2_with fail
        refine (Write_any w1.heap.size (l.take (k + 1)) [] none 0 0 w5 HG5.out (seg_nil _) (fun h => absurd h (Nat.lt_irrefl _)) (Nat.le_refl _) (by omega) (by rw [List.length_take]; omega) (HT.out.below HB5.out) (by omega)).mono ?_
        rintro e w6 ⟨rfl, hsg6, hg6⟩
        have hs6 := hg6.size
        have b6 : Below w.heap.size w w6 := below_only HB5.out hg6 HB5.out.size (by intro j hj; injection hj; omega)
        have hsh6 : Sums w6 w2.heap.size [] := HH5.out.grown hg6 (by intro e; injection e; omega)
        rw [List.append_nil] at hsg6
        have HG6 := Lib.hid hsg6
        have HH6 := Lib.hid hsh6
        clear hsg6 hsh6 hg6
        go_wp2
        go_roundw
        case rel => exact ⟨k + 1, by omega, by go_num, HG6.out, HH6.out, b6, by omega⟩
        case measure => simp [intOf]; omega
      · have hd : (((k : Int) % 3) == 0) = false := by simp; omega
        go_wp2
        go_roundw
        case rel => exact ⟨k + 1, by omega, by go_num, HG5.out, HH5.out, HB5.out, by omega⟩
        case measure => simp [intOf]; omega
    · have ek : l.take k = l := List.take_of_length_le (by have := HS.out.1; omega)
      have hsg := HG.out
      rw [ek] at hsg
      have apart : ∀ (X : Option Addr) (q : Nat) (lx : List UInt8), Seg w X q lx → ∀ G, w.heap.size ≤ G → Apart X q G := by
        intro X q lx hx G hG' hn0 a ha
        obtain ⟨a', e', hlt', _⟩ := hx.2 hn0
        rw [ha] at e'
        injection e' with e'
        rw [e']
        omega
      have hll := HS.out.1
      have hlb := HSB.out.1
      go_wp2_with fail
      refine (Write_any w2.heap.size [] l A n cap wr HH.out (HS.out.below hb) (apart _ _ _ HS.out _ (by omega)) hc (by omega) (by show 0 < _; omega) (HT.out.below hb) (by omega)).mono ?_
      rintro e w6 ⟨rfl, hsh6, hg6⟩
      have hs6 := hg6.size
      have b6 : Below w.heap.size w w6 := below_only hb hg6 hb.size (by intro j hj; injection hj; omega)
      have hsg6 : Sums w6 w1.heap.size l := hsg.grown hg6 (by intro e; injection e; omega)
      rw [List.nil_append] at hsh6
      have g1l := hsg6.lt
      have g2l := hsh6.lt
      have HSG := Lib.hid hsg6
      have HSH := Lib.hid hsh6
      have HSA := Lib.hid (HS.out.below b6)
      have HT6 := Lib.hid (HT.out.below b6)
      have HL1 := Lib.hid hll
      have HL2 := Lib.hid hlb
      have HAP := Lib.hid apart
      clear hsg ek hsg6 hsh6 hg6 HG HH hll hlb apart
      go_wp2
      rename_i hKx
      refine wp_region_each (by kernel_rfl) (by kernel_rfl) (fun i v w => match i with
          | 0 => v = .pointer (some ⟨w1.heap.size, 0, none⟩)
          | 1 => ∃ g, v = .slice (some ⟨g, 0, none⟩) 64 64 ∧ Blk w g 5 (cb (sha l))
          | 2 => v = .string (str (sha l))
          | 3 => v = .pointer (some ⟨w2.heap.size, 0, none⟩)
          | 4 => ∃ g, v = .slice (some ⟨g, 0, none⟩) 64 64 ∧ Blk w g 5 (cb (sha l))
          | 5 => v = .string (str (sha l))
          | 6 => v = .bool false
          | 7 => v = .bool false
          | 8 => v = .pointer (some ⟨w1.heap.size, 0, none⟩)
          | 9 => ∃ g, v = .slice (some ⟨g, 0, none⟩) 64 64 ∧ Blk w g 5 (cb (sha l))
          | 10 => v = .string (str (sha l))
          | 11 => v = .slice A n cap
          | 12 => ∃ g, v = .slice (some ⟨g, 0, none⟩) 1 1 ∧ Parts w (some ⟨g, 0, none⟩) 1 [⟨A, n, cap, l⟩]
          | 13 => ∃ g, v = .slice (some ⟨g, 0, none⟩) 64 64 ∧ Blk w g 5 (cb (sha l))
          | 14 => v = .string (str (sha l))
          | 15 => v = .bool false
          | 16 => v = .bool false
          | _ => True) (fun u => Below w6.heap.size w6 u) ?m1 (fun _ _ h1 h2 => h1.trans (h2.mono h1.size)) ⟨rfl, rfl, rfl, Nat.le_refl _, fun _ _ => rfl⟩ ?m2 ?m3
      case m1 =>
        intro i v w w' h hr hb
        rcases i with _ | _ | _ | _ | _ | _ | _ | _ | _ | _ | _ | _ | _ | _ | _ | _ | _ | i
        · exact h
        · obtain ⟨g, e, hk⟩ := h; exact ⟨g, e, hk.below hb hk.lt⟩
        · exact h
        · exact h
        · obtain ⟨g, e, hk⟩ := h; exact ⟨g, e, hk.below hb hk.lt⟩
        · exact h
        · exact h
        · exact h
        · exact h
        · obtain ⟨g, e, hk⟩ := h; exact ⟨g, e, hk.below hb hk.lt⟩
        · exact h
        · exact h
        · obtain ⟨g, e, hk⟩ := h; exact ⟨g, e, hk.below hb⟩
        · obtain ⟨g, e, hk⟩ := h; exact ⟨g, e, hk.below hb hk.lt⟩
        · exact h
        · exact h
        · exact h
        · trivial
      case m2 =>
        intro i o ho a w hr hk hpre K hK
        have e5 : a.tmps.getD 5 undef = .pointer (some ⟨w1.heap.size, 0, none⟩) := hk.slot 5 (by simp)
        have e6 : a.tmps.getD 6 undef = .pointer (some ⟨w2.heap.size, 0, none⟩) := hk.slot 6 (by simp)
        have e0 : a.tmps.getD 0 undef = .slice A n cap := hk.slot 0 (by simp)
        rcases i with _ | _ | _ | _ | _ | _ | _ | _ | _ | _ | _ | _ | _ | _ | _ | _ | _ | i
        · obtain rfl := Option.some.inj ho
          exact st_move (.tmp 5) rfl (want_none rfl) _ e5 (hK _ _ rfl (Below.refl _ _))
        · obtain rfl := Option.some.inj ho
          exact st_call1 13 (.tmp 41) 25 rfl (want_none rfl) _ (hpre 0 _ 41 rfl rfl ⟨⟨0, .data⟩, by simp, rfl, rfl⟩) (cf13 _ _) _ (Sum_any w1.heap.size l w (HSG.out.below hr g1l) (by have := HL1.out; omega) (HT6.out.below hr) (by omega)) (fun e w' ⟨g, he, _, hbk, hb⟩ => ⟨_, he, hK _ _ ⟨g, rfl, hbk⟩ hb⟩)
        · obtain rfl := Option.some.inj ho
          obtain ⟨g, eg, hbk⟩ := (hpre 1 _ 42 rfl rfl ⟨⟨1, .data⟩, by simp, rfl, rfl⟩)
          exact st_conv (.tmp 42) rfl (want_none rfl) _ _ _ _ eg (hbk.seg 64 rfl) (hK _ _ rfl (Below.refl _ _))
        · obtain rfl := Option.some.inj ho
          exact st_move (.tmp 6) rfl (want_none rfl) _ e6 (hK _ _ rfl (Below.refl _ _))
        · obtain rfl := Option.some.inj ho
          exact st_call1 13 (.tmp 44) 25 rfl (want_none rfl) _ (hpre 3 _ 44 rfl rfl ⟨⟨3, .data⟩, by simp, rfl, rfl⟩) (cf13 _ _) _ (Sum_any w2.heap.size l w (HSH.out.below hr g2l) (by have := HL1.out; omega) (HT6.out.below hr) (by omega)) (fun e w' ⟨g, he, _, hbk, hb⟩ => ⟨_, he, hK _ _ ⟨g, rfl, hbk⟩ hb⟩)
        · obtain rfl := Option.some.inj ho
          obtain ⟨g, eg, hbk⟩ := (hpre 4 _ 45 rfl rfl ⟨⟨4, .data⟩, by simp, rfl, rfl⟩)
          exact st_conv (.tmp 45) rfl (want_none rfl) _ _ _ _ eg (hbk.seg 64 rfl) (hK _ _ rfl (Below.refl _ _))
        · obtain rfl := Option.some.inj ho
          exact st_neqStr (.tmp 43) (.tmp 46) rfl (want_none rfl) _ (hpre 2 _ 43 rfl rfl ⟨⟨2, .data⟩, by simp, rfl, rfl⟩) (hpre 5 _ 46 rfl rfl ⟨⟨5, .data⟩, by simp, rfl, rfl⟩) (hK _ _ rfl (Below.refl _ _))
        · obtain rfl := Option.some.inj ho
          exact st_move (.tmp 47) rfl (want_none rfl) _ (hpre 6 _ 47 rfl rfl ⟨⟨6, .data⟩, by simp, rfl, rfl⟩) (hK _ _ rfl (Below.refl _ _))
        · obtain rfl := Option.some.inj ho
          exact st_move (.tmp 5) rfl (want_some rfl rfl rfl (hpre 7 _ 48 rfl rfl ⟨⟨7, .guard⟩, by simp, rfl, rfl⟩)) _ e5 (hK _ _ rfl (Below.refl _ _))
        · obtain rfl := Option.some.inj ho
          exact st_call1 13 (.tmp 49) 25 rfl (want_some rfl rfl rfl (hpre 7 _ 48 rfl rfl ⟨⟨7, .guard⟩, by simp, rfl, rfl⟩)) _ (hpre 8 _ 49 rfl rfl ⟨⟨8, .data⟩, by simp, rfl, rfl⟩) (cf13 _ _) _ (Sum_any w1.heap.size l w (HSG.out.below hr g1l) (by have := HL1.out; omega) (HT6.out.below hr) (by omega)) (fun e w' ⟨g, he, _, hbk, hb⟩ => ⟨_, he, hK _ _ ⟨g, rfl, hbk⟩ hb⟩)
        · obtain rfl := Option.some.inj ho
          obtain ⟨g, eg, hbk⟩ := (hpre 9 _ 50 rfl rfl ⟨⟨9, .data⟩, by simp, rfl, rfl⟩)
          exact st_conv (.tmp 50) rfl (want_some rfl rfl rfl (hpre 7 _ 48 rfl rfl ⟨⟨7, .guard⟩, by simp, rfl, rfl⟩)) _ _ _ _ eg (hbk.seg 64 rfl) (hK _ _ rfl (Below.refl _ _))
        · obtain rfl := Option.some.inj ho
          exact st_move (.tmp 0) rfl (want_some rfl rfl rfl (hpre 7 _ 48 rfl rfl ⟨⟨7, .guard⟩, by simp, rfl, rfl⟩)) _ e0 (hK _ _ rfl (Below.refl _ _))
        · obtain rfl := Option.some.inj ho
          have q0 := (hpre 11 _ 52 rfl rfl ⟨⟨11, .data⟩, by simp, rfl, rfl⟩)
          exact st_build1 (.tmp 52) rfl (want_some rfl rfl rfl (hpre 7 _ 48 rfl rfl ⟨⟨7, .guard⟩, by simp, rfl, rfl⟩)) _ q0 rfl (hK _ _ ⟨w.heap.size, rfl, parts_new w [⟨A, n, cap, l⟩] (fun p hp => by obtain rfl := List.mem_singleton.1 hp; exact ⟨HSA.out.below hr, hc⟩)⟩ ((Below.refl _ _).alloc (Nat.le_refl _) _))
        · obtain rfl := Option.some.inj ho
          obtain ⟨gp, egp, hpp⟩ := (hpre 12 _ 53 rfl rfl ⟨⟨12, .data⟩, by simp, rfl, rfl⟩)
          exact st_call1 12 (.tmp 53) 22 rfl (want_some rfl rfl rfl (hpre 7 _ 48 rfl rfl ⟨⟨7, .guard⟩, by simp, rfl, rfl⟩)) _ egp (cf12 _ _) _ (Of_any _ 1 1 [⟨A, n, cap, l⟩] w hpp (by omega) (by have := HL1.out; rw [textOf_one]; show l.length < 100000; omega) (HT6.out.below hr)) (fun e w' ⟨g, he, _, hbk, hb⟩ => ⟨_, he, hK _ _ ⟨g, rfl, (by rw [textOf_one] at hbk; exact hbk)⟩ hb⟩)
        · obtain rfl := Option.some.inj ho
          obtain ⟨g, eg, hbk⟩ := (hpre 13 _ 54 rfl rfl ⟨⟨13, .data⟩, by simp, rfl, rfl⟩)
          exact st_conv (.tmp 54) rfl (want_some rfl rfl rfl (hpre 7 _ 48 rfl rfl ⟨⟨7, .guard⟩, by simp, rfl, rfl⟩)) _ _ _ _ eg (hbk.seg 64 rfl) (hK _ _ rfl (Below.refl _ _))
        · obtain rfl := Option.some.inj ho
          exact st_neqStr (.tmp 51) (.tmp 55) rfl (want_some rfl rfl rfl (hpre 7 _ 48 rfl rfl ⟨⟨7, .guard⟩, by simp, rfl, rfl⟩)) _ (hpre 10 _ 51 rfl rfl ⟨⟨10, .data⟩, by simp, rfl, rfl⟩) (hpre 14 _ 55 rfl rfl ⟨⟨14, .data⟩, by simp, rfl, rfl⟩) (hK _ _ rfl (Below.refl _ _))
        · obtain rfl := Option.some.inj ho
          exact st_pick (.tmp 48) (.const (.bool true)) (.tmp 56) rfl (want_none rfl) false (hpre 7 _ 48 rfl rfl ⟨⟨7, .data⟩, by simp, rfl, rfl⟩) _ ((if_neg (by decide)).trans (hpre 15 _ 56 rfl rfl ⟨⟨15, .data⟩, by simp, rfl, rfl⟩)) (hK _ _ rfl (Below.refl _ _))
        · cases ho
      case m3 =>
        intro a w hr hk hv
        have h57 := hv 16 _ 57 rfl rfl
        have hfr := keeps_frame 41 57 hk (fun s hs => by simp; omega)
        refine hKx a w ?_
        rw [hfr]
        generalize hf : (fun s => a.tmps.getD s undef) = f
        have hf57 : f 57 = .bool false := by rw [← hf]; exact h57
        simp only [mixL, hf57, Nat.reduceAdd, Nat.reduceLeDiff, and_true, and_false, and_self, if_true, if_false, Nat.zero_le]
        clear hfr hf h57 hv hk
        have b7 := b6.trans (hr.mono b6.size)
        have hs7 := hr.size
        have hsg7 : Sums w w1.heap.size l := HSG.out.below hr g1l
        have hsh7 : Sums w w2.heap.size l := HSH.out.below hr g2l
        clear hr
        go_wp2_with fail
        refine (Write_any w1.heap.size l lb B m cbp w hsg7 (HSB.out.below b7) (HAP.out _ _ _ HSB.out _ (by omega)) hcb (by omega) (by have := HL1.out; omega) (HT.out.below b7) (by omega)).mono ?_
        rintro e w8 ⟨rfl, hsg8, hg8⟩
        have hs8 := hg8.size
        have b8 := below_only b7 hg8 b7.size (by intro j hj; injection hj; omega)
        have hsh8 : Sums w8 w2.heap.size l := hsh7.grown hg8 (by intro e; injection e; omega)
        clear hsg7 hsh7 hg8
        go_wp2_with fail
        refine (Write_any w2.heap.size l lb B m cbp w8 hsh8 (HSB.out.below b8) (HAP.out _ _ _ HSB.out _ (by omega)) hcb (by omega) (by have := HL1.out; omega) (HT.out.below b8) (by omega)).mono ?_
        rintro e w9 ⟨rfl, hsh9, hg9⟩
        have hs9 := hg9.size
        have b9 := below_only b8 hg9 b8.size (by intro j hj; injection hj; omega)
        have hsg9 : Sums w9 w1.heap.size (l ++ lb) := hsg8.grown hg9 (by intro e; injection e; omega)
        have g1m := hsg9.lt
        have g2m := hsh9.lt
        have HSG9 := Lib.hid hsg9
        have HSH9 := Lib.hid hsh9
        have HSA9 := Lib.hid (HS.out.below b9)
        have HSB9 := Lib.hid (HSB.out.below b9)
        have HT9 := Lib.hid (HT.out.below b9)
        clear hsg8 hsh8 hsg9 hsh9 hg9 hf57
        go_wp2
        rename_i hKy
        refine wp_region_each (by kernel_rfl) (by kernel_rfl) (fun i v w => match i with
            | 0 => v = .pointer (some ⟨w1.heap.size, 0, none⟩)
            | 1 => ∃ g, v = .slice (some ⟨g, 0, none⟩) 64 64 ∧ Blk w g 5 (cb (sha (l ++ lb)))
            | 2 => v = .string (str (sha (l ++ lb)))
            | 3 => v = .pointer (some ⟨w2.heap.size, 0, none⟩)
            | 4 => ∃ g, v = .slice (some ⟨g, 0, none⟩) 64 64 ∧ Blk w g 5 (cb (sha (l ++ lb)))
            | 5 => v = .string (str (sha (l ++ lb)))
            | 6 => v = .bool true
            | 7 => v = .bool true
            | 8 => v = .pointer (some ⟨w2.heap.size, 0, none⟩)
            | 9 => ∃ g, v = .slice (some ⟨g, 0, none⟩) 64 64 ∧ Blk w g 5 (cb (sha (l ++ lb)))
            | 10 => v = .string (str (sha (l ++ lb)))
            | 11 => v = .slice A n cap
            | 12 => v = .slice B m cbp
            | 13 => ∃ g, v = .slice (some ⟨g, 0, none⟩) 3 3 ∧ Parts w (some ⟨g, 0, none⟩) 3 [⟨A, n, cap, l⟩, ⟨none, 0, 0, []⟩, ⟨B, m, cbp, lb⟩]
            | 14 => ∃ g, v = .slice (some ⟨g, 0, none⟩) 64 64 ∧ Blk w g 5 (cb (sha (l ++ lb)))
            | 15 => v = .string (str (sha (l ++ lb)))
            | 16 => v = .bool true
            | 17 => v = .bool true
            | 18 => v = .bool true
            | _ => True) (fun u => Below w9.heap.size w9 u) ?m1 (fun _ _ h1 h2 => h1.trans (h2.mono h1.size)) ⟨rfl, rfl, rfl, Nat.le_refl _, fun _ _ => rfl⟩ ?m2 ?m3
        case m1 =>
          intro i v w w' h hr hb
          rcases i with _ | _ | _ | _ | _ | _ | _ | _ | _ | _ | _ | _ | _ | _ | _ | _ | _ | _ | _ | i
          · exact h
          · obtain ⟨g, e, hk⟩ := h; exact ⟨g, e, hk.below hb hk.lt⟩
          · exact h
          · exact h
          · obtain ⟨g, e, hk⟩ := h; exact ⟨g, e, hk.below hb hk.lt⟩
          · exact h
          · exact h
          · exact h
          · exact h
          · obtain ⟨g, e, hk⟩ := h; exact ⟨g, e, hk.below hb hk.lt⟩
          · exact h
          · exact h
          · exact h
          · obtain ⟨g, e, hk⟩ := h; exact ⟨g, e, hk.below hb⟩
          · obtain ⟨g, e, hk⟩ := h; exact ⟨g, e, hk.below hb hk.lt⟩
          · exact h
          · exact h
          · exact h
          · exact h
          · trivial
        case m2 =>
          intro i o ho a w hr hk hpre K hK
          have e5 : a.tmps.getD 5 undef = .pointer (some ⟨w1.heap.size, 0, none⟩) := hk.slot 5 (by simp)
          have e6 : a.tmps.getD 6 undef = .pointer (some ⟨w2.heap.size, 0, none⟩) := hk.slot 6 (by simp)
          have e0 : a.tmps.getD 0 undef = .slice A n cap := hk.slot 0 (by simp)
          have e1 : a.tmps.getD 1 undef = .slice B m cbp := hk.slot 1 (by simp)
          rcases i with _ | _ | _ | _ | _ | _ | _ | _ | _ | _ | _ | _ | _ | _ | _ | _ | _ | _ | _ | i
          · obtain rfl := Option.some.inj ho
            exact st_move (.tmp 5) rfl (want_none rfl) _ e5 (hK _ _ rfl (Below.refl _ _))
          · obtain rfl := Option.some.inj ho
            exact st_call1 13 (.tmp 64) 25 rfl (want_none rfl) _ (hpre 0 _ 64 rfl rfl ⟨⟨0, .data⟩, by simp, rfl, rfl⟩) (cf13 _ _) _ (Sum_any w1.heap.size (l ++ lb) w (HSG9.out.below hr g1m) (by have := HL1.out; have := HL2.out; rw [List.length_append]; omega) (HT9.out.below hr) (by omega)) (fun e w' ⟨g, he, _, hbk, hb⟩ => ⟨_, he, hK _ _ ⟨g, rfl, hbk⟩ hb⟩)
          · obtain rfl := Option.some.inj ho
            obtain ⟨g, eg, hbk⟩ := (hpre 1 _ 65 rfl rfl ⟨⟨1, .data⟩, by simp, rfl, rfl⟩)
            exact st_conv (.tmp 65) rfl (want_none rfl) _ _ _ _ eg (hbk.seg 64 rfl) (hK _ _ rfl (Below.refl _ _))
          · obtain rfl := Option.some.inj ho
            exact st_move (.tmp 6) rfl (want_none rfl) _ e6 (hK _ _ rfl (Below.refl _ _))
          · obtain rfl := Option.some.inj ho
            exact st_call1 13 (.tmp 67) 25 rfl (want_none rfl) _ (hpre 3 _ 67 rfl rfl ⟨⟨3, .data⟩, by simp, rfl, rfl⟩) (cf13 _ _) _ (Sum_any w2.heap.size (l ++ lb) w (HSH9.out.below hr g2m) (by have := HL1.out; have := HL2.out; rw [List.length_append]; omega) (HT9.out.below hr) (by omega)) (fun e w' ⟨g, he, _, hbk, hb⟩ => ⟨_, he, hK _ _ ⟨g, rfl, hbk⟩ hb⟩)
          · obtain rfl := Option.some.inj ho
            obtain ⟨g, eg, hbk⟩ := (hpre 4 _ 68 rfl rfl ⟨⟨4, .data⟩, by simp, rfl, rfl⟩)
            exact st_conv (.tmp 68) rfl (want_none rfl) _ _ _ _ eg (hbk.seg 64 rfl) (hK _ _ rfl (Below.refl _ _))
          · obtain rfl := Option.some.inj ho
            exact st_eqlStr (.tmp 66) (.tmp 69) rfl (want_none rfl) _ (hpre 2 _ 66 rfl rfl ⟨⟨2, .data⟩, by simp, rfl, rfl⟩) (hpre 5 _ 69 rfl rfl ⟨⟨5, .data⟩, by simp, rfl, rfl⟩) (hK _ _ rfl (Below.refl _ _))
          · obtain rfl := Option.some.inj ho
            exact st_move (.tmp 70) rfl (want_none rfl) _ (hpre 6 _ 70 rfl rfl ⟨⟨6, .data⟩, by simp, rfl, rfl⟩) (hK _ _ rfl (Below.refl _ _))
          · obtain rfl := Option.some.inj ho
            exact st_move (.tmp 6) rfl (want_some rfl rfl rfl (hpre 7 _ 71 rfl rfl ⟨⟨7, .guard⟩, by simp, rfl, rfl⟩)) _ e6 (hK _ _ rfl (Below.refl _ _))
          · obtain rfl := Option.some.inj ho
            exact st_call1 13 (.tmp 72) 25 rfl (want_some rfl rfl rfl (hpre 7 _ 71 rfl rfl ⟨⟨7, .guard⟩, by simp, rfl, rfl⟩)) _ (hpre 8 _ 72 rfl rfl ⟨⟨8, .data⟩, by simp, rfl, rfl⟩) (cf13 _ _) _ (Sum_any w2.heap.size (l ++ lb) w (HSH9.out.below hr g2m) (by have := HL1.out; have := HL2.out; rw [List.length_append]; omega) (HT9.out.below hr) (by omega)) (fun e w' ⟨g, he, _, hbk, hb⟩ => ⟨_, he, hK _ _ ⟨g, rfl, hbk⟩ hb⟩)
          · obtain rfl := Option.some.inj ho
            obtain ⟨g, eg, hbk⟩ := (hpre 9 _ 73 rfl rfl ⟨⟨9, .data⟩, by simp, rfl, rfl⟩)
            exact st_conv (.tmp 73) rfl (want_some rfl rfl rfl (hpre 7 _ 71 rfl rfl ⟨⟨7, .guard⟩, by simp, rfl, rfl⟩)) _ _ _ _ eg (hbk.seg 64 rfl) (hK _ _ rfl (Below.refl _ _))
          · obtain rfl := Option.some.inj ho
            exact st_move (.tmp 0) rfl (want_some rfl rfl rfl (hpre 7 _ 71 rfl rfl ⟨⟨7, .guard⟩, by simp, rfl, rfl⟩)) _ e0 (hK _ _ rfl (Below.refl _ _))
          · obtain rfl := Option.some.inj ho
            exact st_move (.tmp 1) rfl (want_some rfl rfl rfl (hpre 7 _ 71 rfl rfl ⟨⟨7, .guard⟩, by simp, rfl, rfl⟩)) _ e1 (hK _ _ rfl (Below.refl _ _))
          · obtain rfl := Option.some.inj ho
            have q0 := (hpre 11 _ 75 rfl rfl ⟨⟨11, .data⟩, by simp, rfl, rfl⟩)
            have q1 := (hpre 12 _ 76 rfl rfl ⟨⟨12, .data⟩, by simp, rfl, rfl⟩)
            exact st_build3 (.tmp 75) (.const (.slice none 0 0)) (.tmp 76) rfl (want_some rfl rfl rfl (hpre 7 _ 71 rfl rfl ⟨⟨7, .guard⟩, by simp, rfl, rfl⟩)) _ _ _ q0 rfl q1 rfl rfl rfl (hK _ _ ⟨w.heap.size, rfl, parts_new w [⟨A, n, cap, l⟩, ⟨none, 0, 0, []⟩, ⟨B, m, cbp, lb⟩] (fun p hp => by rcases List.mem_cons.1 hp with rfl | hp; exact ⟨HSA9.out.below hr, hc⟩; rcases List.mem_cons.1 hp with rfl | hp; exact ⟨seg_nil _, Nat.le_refl _⟩; obtain rfl := List.mem_singleton.1 hp; exact ⟨HSB9.out.below hr, hcb⟩)⟩ ((Below.refl _ _).alloc (Nat.le_refl _) _))
          · obtain rfl := Option.some.inj ho
            obtain ⟨gp, egp, hpp⟩ := (hpre 13 _ 77 rfl rfl ⟨⟨13, .data⟩, by simp, rfl, rfl⟩)
            exact st_call1 12 (.tmp 77) 22 rfl (want_some rfl rfl rfl (hpre 7 _ 71 rfl rfl ⟨⟨7, .guard⟩, by simp, rfl, rfl⟩)) _ egp (cf12 _ _) _ (Of_any _ 3 3 [⟨A, n, cap, l⟩, ⟨none, 0, 0, []⟩, ⟨B, m, cbp, lb⟩] w hpp (by omega) (by have := HL1.out; have := HL2.out; rw [textOf_three, List.length_append, List.length_append]; show l.length + (0 + lb.length) < 100000; omega) (HT9.out.below hr)) (fun e w' ⟨g, he, _, hbk, hb⟩ => ⟨_, he, hK _ _ ⟨g, rfl, (by rw [textOf_three] at hbk; exact hbk)⟩ hb⟩)
          · obtain rfl := Option.some.inj ho
            obtain ⟨g, eg, hbk⟩ := (hpre 14 _ 78 rfl rfl ⟨⟨14, .data⟩, by simp, rfl, rfl⟩)
            exact st_conv (.tmp 78) rfl (want_some rfl rfl rfl (hpre 7 _ 71 rfl rfl ⟨⟨7, .guard⟩, by simp, rfl, rfl⟩)) _ _ _ _ eg (hbk.seg 64 rfl) (hK _ _ rfl (Below.refl _ _))
          · obtain rfl := Option.some.inj ho
            exact st_eqlStr (.tmp 74) (.tmp 79) rfl (want_some rfl rfl rfl (hpre 7 _ 71 rfl rfl ⟨⟨7, .guard⟩, by simp, rfl, rfl⟩)) _ (hpre 10 _ 74 rfl rfl ⟨⟨10, .data⟩, by simp, rfl, rfl⟩) (hpre 15 _ 79 rfl rfl ⟨⟨15, .data⟩, by simp, rfl, rfl⟩) (hK _ _ rfl (Below.refl _ _))
          · obtain rfl := Option.some.inj ho
            exact st_pick (.tmp 71) (.tmp 80) (.const (.bool false)) rfl (want_none rfl) true (hpre 7 _ 71 rfl rfl ⟨⟨7, .data⟩, by simp, rfl, rfl⟩) _ ((if_pos rfl).trans (hpre 16 _ 80 rfl rfl ⟨⟨16, .data⟩, by simp, rfl, rfl⟩)) (hK _ _ rfl (Below.refl _ _))
          · obtain rfl := Option.some.inj ho
            exact st_assign (.tmp 81) rfl (want_none rfl) _ (hpre 17 _ 81 rfl rfl ⟨⟨17, .data⟩, by simp, rfl, rfl⟩) (hK _ _ rfl (Below.refl _ _))
          · cases ho
        case m3 =>
          intro a w hr hk hv
          have h6 := hv 18 _ 4 rfl rfl
          refine hKy a w (wp_ret (bodyPost_ret (results_tmp rfl _ _ _) hk.defers ⟨?_, b9.trans (hr.mono b9.size)⟩))
          exact congrArg Ending.returned h6

theorem walk (A : Option Addr) (n cap : Nat) (l : List UInt8) (B : Option Addr) (m cbp : Nat) (lb : List UInt8) (w : World) (hs : Seg w A n l) (_ : A = none → cap = 0) (hc : n ≤ cap) (_ : cap ≤ maxLen) (hsb : Seg w B m lb) (_ : B = none → cbp = 0) (hcb : m ≤ cbp) (_ : cbp ≤ maxLen) (ht : Tabs w) :
    Calls Tryd.prog 7 #[.slice A n cap, .slice B m cbp] w fun e w' => e = .returned (.bool true) ∧ Below w.heap.size w w' := by
  by_cases h : n ≤ 500 ∧ m ≤ 500
  · exact walk_in A n cap l B m cbp lb w hs hc hsb hcb ht h.1 h.2
  · exact walk_out A B n cap m cbp w ht (by omega)

-- THE ROW's STEP
set_option maxRecDepth 100000 in
theorem lifted (os : Os) (started : os.Started) (H : Type) (enc : TypeId × Value → H) :
    ReturnsInHanded {} Tryd.checked os 7 .any (fun w args => (Rows.longSingleSpec.pre enc Tryd.prog Tryd.f7 [] false w args ∧ laidMetH Tryd.prog listed w) ∧ sizedMet enc Tryd.prog Tryd.f7 (OpenSpec.ofChange Rows.longSingleSpec) false w args)
      (Rows.longSingleSpec.post enc Tryd.prog Tryd.f7 false true false false) := by
  refine returnsInHanded_of_change_and (C := Tryd.checked) (X := fun w _ => laidMetH Tryd.prog listed w) (fun _ _ _ hh h => h.of_heap hh) own started (by kernel_rfl) Tryd.func7
    (ChangeSpec.witness_shaped (enc := enc) (C := Tryd.checked) (os := os) (X := fun w _ => laidMetH Tryd.prog listed w) false (World.doorLaid Tryd.prog 19 os) #[.slice none 0 0, .slice none 0 0] 8 rfl (World.shaped_of_RefB (by kernel_rfl) (by kernel_rfl)) (by kernel_rfl) (by kernel_rfl) (by kernel_rfl) (door_met os _)) ?_
  intro W base args ds gs before hval0 hW _ _ hL _
  have hval : ∀ (j : Nat) t v, Tryd.f7.params[j]? = some t → args[j]? = some v → Value.okWide Tryd.prog W .any base t v := hval0
  have hW' := hW
  obtain ⟨p, q, hA0, hV, rfl, hfz, hnd⟩ := hW
  have hA : DataW.TrodAll enc Tryd.prog W 0 (fun _ => true) true Tryd.f7.params.toList args.toList ds p := hA0
  rw [Tryd.params7] at hA hval
  obtain ⟨v0, vs0, d0, ds0, p0, q0, hargs, rfl, rfl, h0, r0⟩ := trodAll_cons hA
  obtain ⟨v1, vs1, d1, ds1, p1, q1, rfl, rfl, rfl, h1, r1⟩ := trodAll_cons r0
  obtain ⟨rfl, rfl, rfl⟩ := trodAll_nil r1
  obtain rfl : args = #[v0, v1] := by cases args; simp_all
  obtain ⟨rfl, rfl⟩ := trodVars_none hV
  have k0 := h0
  have lt0 : ∀ x ∈ p0, x.block < W.heap.size := by obtain ⟨m, hm⟩ := k0; exact DataW.trod_lt m _ _ _ hm
  obtain ⟨fuel0, hf0⟩ := h0
  obtain ⟨a0, len0, cap0, l0, e0, g0, hlc0, hcm0, hnil0⟩ := bytes_of_trod hf0
  obtain ⟨b0, lb0, cb0, hv0⟩ := okWide_slice Tryd.underlying24 (hval 0 24 v0 rfl rfl)
  have ev0 : v0 = .slice a0 len0 cap0 := by rw [hv0] at e0 ⊢; simpa [Value.cells] using e0
  subst ev0
  have k1 := h1
  have lt1 : ∀ x ∈ p1, x.block < W.heap.size := by obtain ⟨m, hm⟩ := k1; exact DataW.trod_lt m _ _ _ hm
  obtain ⟨fuel1, hf1⟩ := h1
  obtain ⟨a1, len1, cap1, l1, e1, g1, hlc1, hcm1, hnil1⟩ := bytes_of_trod hf1
  obtain ⟨b1, lb1, cb1, hv1⟩ := okWide_slice Tryd.underlying24 (hval 1 24 v1 rfl rfl)
  have ev1 : v1 = .slice a1 len1 cap1 := by rw [hv1] at e1 ⊢; simpa [Value.cells] using e1
  subst ev1
  clear hA0 hval0
  refine (walk a0 len0 cap0 l0 a1 len1 cap1 l1 W g0 hnil0 hlc0 hcm0 g1 hnil1 hlc1 hcm1 (tabs_of_laid hL)).mono fun e W' ⟨he, bel⟩ => ?_
  subst he
  exact ⟨_, rfl, _, _, _, [], _, [], hW', trodAll_mk1 (shut_bool Tryd.underlying4 _), (trodAll_cons_mk (Below.trod laidOut (by kernel_rfl) (of_decide_eq_true (by kernel_rfl)) k0 bel lt0) (trodAll_cons_mk (Below.trod laidOut (by kernel_rfl) (of_decide_eq_true (by kernel_rfl)) k1 bel lt1) trodAll_mk0)), rfl, bel.frame _, fun h => by cases h⟩

theorem row_holds : Rows.LongSingleSaid :=
  OpenClaim.holds_of_wide 7 Tryd.f7 rfl rfl rfl rfl rfl rfl rfl ⟨rfl, rfl, rfl, rfl, rfl⟩ rfl rfl rfl rfl rfl (by kernel_rfl) Tryd.func7 (by kernel_rfl)
    (of_decide_eq_true (by kernel_rfl)) (by unfold Func.isWrapper; first | (rw [if_pos (by decide +kernel)]; kernel_rfl) | (rw [if_neg (by decide +kernel)]; exact ⟨rfl, rfl⟩))
    (fun os started H enc _ => lifted os started H enc)

theorem proved : Rows.LongSingleCardSaid :=
  Claim7.holds_tied_plain_at .later [] [.data, .data] true Rows.longSingleCard.stood.harness false
    row_holds (fun _ h => by cases h) (by kernel_rfl) (fun _ h => by cases h) longSingle_row_tie rfl ⟨rfl, rfl⟩ (by kernel_rfl) rfl
    (fun f fn hf hfn => by
      obtain rfl : f = 7 := Option.some.inj ((show Tryd.prog.funcNamed Tryd.f7.name = some 7 by kernel_rfl).symm.trans hf) |>.symm
      obtain rfl : fn = Tryd.f7 := (Option.some.inj (Tryd.func7.symm.trans hfn)).symm
      exact ⟨by kernel_rfl, fun j t ht => by
        rw [Tryd.params7] at ht
        have h3 : t = 24 := by
          match j, ht with
          | 0, ht => simpa using ht.symm
          | 1, ht => simpa using ht.symm
          | j + 2, ht => simp at ht
        subst h3
        exact (show Tryd.prog.wantsStandIn 24 = false by kernel_rfl)⟩)
    (by kernel_rfl)
end Go.Proofs.YtidibhphnkiacaaDoor.longSingle
