/-
  What the document's own block answers: the state behind one block.
-/
import Derived.Test.YtidibhphnkiacaaDoorRefWds
import Derived.Test.YtidibhphnkiacaaDoorConst
import Derived.Test.YtidibhphnkiacaaDoorTake
namespace Go.Proofs.YtidibhphnkiacaaDoor
open Go.RowKit
set_option linter.unusedVariables false

def Eight (w : World) (g : Nat) (s : S8) : Prop :=
  w.cell? ⟨g, 0, none⟩ = some (.int .u64 (ui s.a)) ∧ w.cell? ⟨g, 1, none⟩ = some (.int .u64 (ui s.b)) ∧ w.cell? ⟨g, 2, none⟩ = some (.int .u64 (ui s.c)) ∧ w.cell? ⟨g, 3, none⟩ = some (.int .u64 (ui s.d)) ∧
  w.cell? ⟨g, 4, none⟩ = some (.int .u64 (ui s.e)) ∧ w.cell? ⟨g, 5, none⟩ = some (.int .u64 (ui s.f)) ∧ w.cell? ⟨g, 6, none⟩ = some (.int .u64 (ui s.g)) ∧ w.cell? ⟨g, 7, none⟩ = some (.int .u64 (ui s.h))
def Eight' (w : World) (g : Nat) (s : S8) : Prop := ∀ j v, (cw s.list)[j]? = some v → w.cell? ⟨g, j, none⟩ = some v
theorem Eight'.eight {w : World} {g : Nat} {s : S8} (h : Eight' w g s) : Eight w g s := ⟨h 0 _ rfl, h 1 _ rfl, h 2 _ rfl, h 3 _ rfl, h 4 _ rfl, h 5 _ rfl, h 6 _ rfl, h 7 _ rfl⟩
/-- What is there in a round: the state s in block g, the words in g1, the constants in gk, the old state. -/
def InBlk (w : World) (g g1 gk : Nat) (Ah : Option Addr) (caph : Nat) (st : S8) (bs : List UInt8) (s : S8) (wr : World) : Prop :=
  Eight' wr g s ∧ (∀ j v, (cw (allWords bs))[j]? = some v → wr.cell? ⟨g1, j, none⟩ = some v) ∧ (∀ j v, (cw kTab)[j]? = some v → wr.cell? ⟨gk, j, none⟩ = some v) ∧ Row wr 0 34 Ah 8 caph (cw st.list) ∧ Below w.heap.size w wr ∧ w.heap.size ≤ wr.heap.size ∧ (g < wr.heap.size ∧ g1 < wr.heap.size ∧ gk < wr.heap.size)
theorem InBlk.drewN {w wr : World} {g g1 gk : Nat} {Ah : Option Addr} {caph : Nat} {st s : S8} {bs : List UInt8} (h : InBlk w g g1 gk Ah caph st bs s wr) (n : Nat) : InBlk w g g1 gk Ah caph st bs s (wr.drewN n) :=
  ⟨h.1, h.2.1, h.2.2.1, h.2.2.2.1, ⟨h.2.2.2.2.1.os, h.2.2.2.2.1.tape, h.2.2.2.2.1.output, h.2.2.2.2.1.size, h.2.2.2.2.1.block⟩, h.2.2.2.2.2.1, h.2.2.2.2.2.2⟩
theorem InBlk.next {w wr wr' : World} {g g1 gk g' : Nat} {Ah : Option Addr} {caph : Nat} {st s s' : S8} {bs : List UInt8} (h : InBlk w g g1 gk Ah caph st bs s wr) (hb : Below wr.heap.size wr wr') (h8 : Eight' wr' g' s') (hg : g' < wr'.heap.size) : InBlk w g' g1 gk Ah caph st bs s' wr' := by
  obtain ⟨_, hw, hk, hr, hbel, hB, hgl, hg1, hgk⟩ := h
  have hsz := hb.size
  exact ⟨h8, fun j v hv => (hb.cell (p := ⟨g1, j, none⟩) hg1).trans (hw j v hv), fun j v hv => (hb.cell (p := ⟨gk, j, none⟩) hgk).trans (hk j v hv), hr.below hb, hbel.trans (hb.mono hB), by omega, hg, by omega, by omega⟩
theorem rnd_ref (a b c d e f g h k w : W64) : rnd ⟨a, b, c, d, e, f, g, h⟩ k w = ⟨h + (rotr e 14 ^^^ rotr e 18 ^^^ rotr e 41) + (e &&& f ^^^ (~~~e &&& g)) + k + w + (rotr a 28 ^^^ rotr a 34 ^^^ rotr a 39) + (a &&& b ^^^ (a &&& c) ^^^ (b &&& c)), a, b, c, d + (h + (rotr e 14 ^^^ rotr e 18 ^^^ rotr e 41) + (e &&& f ^^^ (~~~e &&& g)) + k + w), e, f, g⟩ := by
  rw [BitVec.add_assoc _ (rotr a 28 ^^^ rotr a 34 ^^^ rotr a 39) _]
  rfl
theorem comp_take (l : List W64) (i : Nat) (h : i < l.length) : l.take i ++ [l.getD i 0] = l.take (i + 1) := by
  rw [List.take_succ_eq_append_getElem h]
  simp [List.getD, List.getElem?_eq_getElem h]
theorem add_get (s r : S8) (i : Nat) (h : i < 8) : (s.add r).list.getD i 0 = s.list.getD i 0 + r.list.getD i 0 := by
  obtain rfl | rfl | rfl | rfl | rfl | rfl | rfl | rfl : i = 0 ∨ i = 1 ∨ i = 2 ∨ i = 3 ∨ i = 4 ∨ i = 5 ∨ i = 6 ∨ i = 7 := by omega
  all_goals rfl

set_option maxHeartbeats 2000000 in
set_option maxRecDepth 100000 in
theorem refBlock_any (Ah Ab : Option Addr) (caph capb : Nat) (st : S8) (bs : List UInt8) (w : World) (hh : Row w 0 34 Ah 8 caph (cw st.list)) (hs : Seg w Ab 128 bs) :
    Calls Tryd.prog 16 #[.slice Ah 8 caph, .slice Ab 128 capb] w fun e w' => ∃ A' cap', e = .returned (.slice A' 8 cap') ∧ Row w' w.heap.size 34 A' 8 cap' (cw (compress st bs).list) ∧ Below w.heap.size w w' := by
  obtain ⟨gh, hAh, _, hghl, hhc⟩ := hh.cells (by omega)
  subst hAh
  obtain ⟨i0, hi0, hz0, hz1, hz2⟩ := info_parts wordInfo
  have HI := Lib.hid hi0
  have HZ0 := Lib.hid hz0
  have HZ1 := Lib.hid hz1
  have HZ2 := Lib.hid hz2
  have HH := Lib.hid hh
  have HHC := Lib.hid hhc
  have HS := Lib.hid hs
  clear hi0 hz0 hz1 hz2 hh hhc hs
  go_enter Tryd.func16, Tryd.ntmps16
  go_wp2_with fail
  refine (refWords_any Ab capb bs _ HS.out).mono ?_
  rintro e w1 ⟨A1, cap1, rfl, hr1, hb1⟩
  go_wp2_with fail
  refine (constants_any _).mono ?_
  rintro e w2 ⟨rfl, hk2, hb2⟩
  have hs1 := hb1.size
  have hs2 := hb2.size
  have HR1 := Lib.hid hr1
  have HK2 := Lib.hid hk2
  have hh2 : Row w2 0 34 (some ⟨gh, 0, none⟩) 8 caph (cw st.list) := (HH.out.below hb1).below hb2
  have hsrc : ((some (⟨gh, 0, none⟩ : Addr)) = none ∧ caph = 0) ∨ ∃ ad, some (⟨gh, 0, none⟩ : Addr) = some ad ∧ ∀ j u, (cw st.list)[j]? = some u → (w2.alloc (.cells #[] 34)).cell? (ad.add j) = some u := by
    refine .inr ⟨_, rfl, fun j u hu => ?_⟩
    rw [addr_add, Nat.zero_add, World.cell?_alloc_lt _ _ _ (show gh < w2.heap.size by omega), hb2.cell (p := ⟨gh, j, none⟩) (show gh < w1.heap.size by omega), hb1.cell (p := ⟨gh, j, none⟩) hghl]
    exact HHC.out j u hu
  have HSRC := Lib.hid hsrc
  have R0 : Row (w2.alloc (.cells #[] 34)) w2.heap.size 34 (some ⟨w2.heap.size, 0, none⟩) 0 0 [] := Row.lit w2 34 [] w2.heap.size (Nat.le_refl _) (by simp)
  have b0 : Below w2.heap.size w2 (w2.alloc (.cells #[] 34)) := (Below.refl _ _).alloc (Nat.le_refl _) _
  have HR0 := Lib.hid R0
  have HB0 := Lib.hid b0
  have HH2 := Lib.hid hh2
  clear hr1 hk2 hsrc R0 b0 hh2
  go_wp2_with (first
    | ((with_reducible refine at_dst (some 21) ?_); refine wpList_app (o := ⟨some 21, _, _, _, _, _⟩) rfl (.tmp 19) (.tmp 20) 39 34 rfl Tryd.underlying39 HI.out HZ0.out HZ1.out HZ2.out rfl (by omega) HB0.out (by simp) rfl HR0.out rfl rfl HSRC.out (cw_one st.list) (fun e => by cases e) (by omega) 8 rfl ?_; intro A3 cap3 w3 hr3 hb3 hB3))
  obtain ⟨g1, hA1, _, hg1l, hwc⟩ := HR1.out.cells (by omega)
  obtain ⟨g3, hA3, _, hg3l, h3c⟩ := hr3.out.cells (by omega)
  subst hA1 hA3
  have hs3 := hb3.size
  have F : InBlk w g3 g1 w1.heap.size (some ⟨gh, 0, none⟩) caph st bs st w3 := by
    refine ⟨h3c, fun j v hv => ?_, fun j v hv => ?_, HH2.out.below hb3, hb1.trans ((hb2.mono hs1).trans (hb3.mono (by omega))), by omega, hg3l, by omega, ?_⟩
    · rw [hb3.cell (p := ⟨g1, j, none⟩) (show g1 < w2.heap.size by omega), hb2.cell (p := ⟨g1, j, none⟩) hg1l]; exact hwc j v hv
    · rw [hb3.cell (p := ⟨w1.heap.size, j, none⟩) HK2.out.lt, HK2.out.cell]; exact hv
    · have := HK2.out.lt; omega
  have HF := Lib.hid F
  clear F hwc h3c hr3 hb3 hb1 hb2 HR1 HK2 HSRC HR0 HB0
  go_loopw [8, 7] (fun i v wr => ∃ (k : Nat) (s : S8) (g cap : Nat), k ≤ 80 ∧ s = rnds st (allWords bs) k ∧ i = .int .i64 k ∧ v = .slice (some ⟨g, 0, none⟩) 8 cap ∧ InBlk w g g1 w1.heap.size (some ⟨gh, 0, none⟩) caph st bs s wr) (fun i _ _ => 80 - (intOf i).toNat)
  case atStart => exact ⟨0, st, g3, cap3, by omega, rfl, rfl, rfl, HF.out⟩
  case round =>
    obtain ⟨k, ⟨a, b, c, d, e, f, gg, h⟩, g, cap, hk, hs, rfl, rfl, hin⟩ := hrel
    have HS := Lib.hid hs
    have HIN := Lib.hid hin
    clear hs hin HF
    by_cases hk64 : k < 80
    · obtain ⟨kv, hkv⟩ : ∃ x, x = kTab.getD k 0 := ⟨_, rfl⟩
      obtain ⟨wv, hwv⟩ : ∃ x, x = (allWords bs).getD k 0 := ⟨_, rfl⟩
      have ck := HIN.out.2.2.1 k _ (cw_get kTab k (show k < 80 from hk64))
      have cv := HIN.out.2.1 k _ (cw_get (allWords bs) k (by rw [allWords_length]; exact hk64))
      have E : Hid (rnds st (allWords bs) (k + 1) = rnd ⟨a, b, c, d, e, f, gg, h⟩ kv wv) := by
        have := HS.out
        show rnd (rnds st (allWords bs) k) _ _ = _
        rw [← this, hkv, hwv]
      rw [← hkv] at ck
      rw [← hwv] at cv
      have HCK := Lib.hid ck
      have HCV := Lib.hid cv
      clear hkv hwv ck cv
      go_wp2
      obtain ⟨c0, c1, c2, c3, c4, c5, c6, c7⟩ := HIN.out.1.eight
      clear c0 c1 c2 c3 c5 c6 c7
      have r0 := ui_xor
      go_quiet ((go_at_call 23; exact Calls.quiet_of (right_int _ _ _ (by decide) (by decide))))
      clear c4 r0
      rename Nat => q1
      go_wp2
      have F1 : InBlk w g g1 w1.heap.size (some ⟨gh, 0, none⟩) caph st bs ⟨a, b, c, d, e, f, gg, h⟩ (wr.drewN q1) ∧ (wr.drewN q1).cell? ⟨w1.heap.size, k, none⟩ = some (.int .u64 (ui kv)) ∧ (wr.drewN q1).cell? ⟨g1, k, none⟩ = some (.int .u64 (ui wv)) := ⟨HIN.out.drewN q1, HCK.out, HCV.out⟩
      generalize (wr.drewN q1) = u1 at F1 ⊢
      obtain ⟨F1, ck, cv⟩ := F1
      have HI1 := Lib.hid F1
      have HCK1 := Lib.hid ck
      have HCV1 := Lib.hid cv
      clear F1 ck cv
      obtain ⟨c0, c1, c2, c3, c4, c5, c6, c7⟩ := HI1.out.1.eight
      clear c0 c1 c2 c3 c7
      have r0 := ui_xor
      have r1 := ui_and
      have r2 := ui_not_if
      have r3 := ui_not
      go_quiet (fail)
      clear c4 c5 c6 r0 r1 r2 r3
      rename Nat => q2
      go_wp2
      have F2 : InBlk w g g1 w1.heap.size (some ⟨gh, 0, none⟩) caph st bs ⟨a, b, c, d, e, f, gg, h⟩ (u1.drewN q2) ∧ (u1.drewN q2).cell? ⟨w1.heap.size, k, none⟩ = some (.int .u64 (ui kv)) ∧ (u1.drewN q2).cell? ⟨g1, k, none⟩ = some (.int .u64 (ui wv)) := ⟨HI1.out.drewN q2, HCK1.out, HCV1.out⟩
      generalize (u1.drewN q2) = u2 at F2 ⊢
      obtain ⟨F2, ck, cv⟩ := F2
      have HI2 := Lib.hid F2
      have HCK2 := Lib.hid ck
      have HCV2 := Lib.hid cv
      clear F2 ck cv
      obtain ⟨c0, c1, c2, c3, c4, c5, c6, c7⟩ := HI2.out.1.eight
      clear c0 c1 c2 c3 c4 c5 c6
      have ck := HCK2.out
      have cv := HCV2.out
      have l4 : (k : Int) < 80 := by omega
      have r0 := ui_addw
      have r1 := ui_add
      go_quiet (fail)
      clear c7 r0 r1 ck cv l4
      rename Nat => q3
      go_wp2
      have F3 : InBlk w g g1 w1.heap.size (some ⟨gh, 0, none⟩) caph st bs ⟨a, b, c, d, e, f, gg, h⟩ (u2.drewN q3) ∧ (u2.drewN q3).cell? ⟨w1.heap.size, k, none⟩ = some (.int .u64 (ui kv)) ∧ (u2.drewN q3).cell? ⟨g1, k, none⟩ = some (.int .u64 (ui wv)) := ⟨HI2.out.drewN q3, HCK2.out, HCV2.out⟩
      generalize (u2.drewN q3) = u3 at F3 ⊢
      obtain ⟨F3, ck, cv⟩ := F3
      have HI3 := Lib.hid F3
      have HCK3 := Lib.hid ck
      have HCV3 := Lib.hid cv
      clear F3 ck cv
      obtain ⟨c0, c1, c2, c3, c4, c5, c6, c7⟩ := HI3.out.1.eight
      clear c1 c2 c3 c4 c5 c6 c7
      have r0 := ui_xor
      go_quiet ((go_at_call 23; exact Calls.quiet_of (right_int _ _ _ (by decide) (by decide))))
      clear c0 r0
      rename Nat => q4
      go_wp2
      have F4 : InBlk w g g1 w1.heap.size (some ⟨gh, 0, none⟩) caph st bs ⟨a, b, c, d, e, f, gg, h⟩ (u3.drewN q4) ∧ (u3.drewN q4).cell? ⟨w1.heap.size, k, none⟩ = some (.int .u64 (ui kv)) ∧ (u3.drewN q4).cell? ⟨g1, k, none⟩ = some (.int .u64 (ui wv)) := ⟨HI3.out.drewN q4, HCK3.out, HCV3.out⟩
      generalize (u3.drewN q4) = u4 at F4 ⊢
      obtain ⟨F4, ck, cv⟩ := F4
      have HI4 := Lib.hid F4
      have HCK4 := Lib.hid ck
      have HCV4 := Lib.hid cv
      clear F4 ck cv
      obtain ⟨c0, c1, c2, c3, c4, c5, c6, c7⟩ := HI4.out.1.eight
      clear c3 c4 c5 c6 c7
      have r0 := ui_xor
      have r1 := ui_and
      go_quiet (fail)
      clear c0 c1 c2 r0 r1
      rename Nat => q5
      go_wp2
      have F5 : InBlk w g g1 w1.heap.size (some ⟨gh, 0, none⟩) caph st bs ⟨a, b, c, d, e, f, gg, h⟩ (u4.drewN q5) ∧ (u4.drewN q5).cell? ⟨w1.heap.size, k, none⟩ = some (.int .u64 (ui kv)) ∧ (u4.drewN q5).cell? ⟨g1, k, none⟩ = some (.int .u64 (ui wv)) := ⟨HI4.out.drewN q5, HCK4.out, HCV4.out⟩
      generalize (u4.drewN q5) = u5 at F5 ⊢
      obtain ⟨F5, ck, cv⟩ := F5
      have HI5 := Lib.hid F5
      have HCK5 := Lib.hid ck
      have HCV5 := Lib.hid cv
      clear F5 ck cv
      obtain ⟨c0, c1, c2, c3, c4, c5, c6, c7⟩ := HI5.out.1.eight
      clear c7
      have r0 := ui_addw
      have r1 := ui_add
      refine wp_region_still_tail 28 (by kernel_rfl) (by kernel_rfl) ?_
      simp only [List.take_succ_cons, List.take_zero, List.drop_succ_cons, List.drop_zero]
      change wpStill _ _ u5.drew _ _ _
      iterate 28 still_step
      refine wpStill_nil ?_
      clear c0 c1 c2 c3 c4 c5 c6 r0 r1
      change wpList _ _ _ _ _ u5.drew
      have F6 := HI5.out.drewN 1
      change InBlk _ _ _ _ _ _ _ _ _ u5.drew at F6
      generalize u5.drew = u6 at F6 ⊢
      have HI6 := Lib.hid F6
      clear F6
      go_wp2
      go_roundw
      case rel =>
        refine ⟨k + 1, _, u6.heap.size, 8, by omega, E.out.symm, by go_num, rfl, ?_⟩
        rw [rnd_ref]
        refine HI6.out.next ((Below.refl _ _).alloc (Nat.le_refl _) _) (fun j v hv => ?_) (by simp)
        rw [cell_of_row _ _ _ _ _ _ (heap_alloc_new u6 _)]
        rw [← hv]
        rw [← List.getElem?_toArray]
        rfl
      case measure => simp [intOf]; omega
    · have hrn : (⟨a, b, c, d, e, f, gg, h⟩ : S8) = rnds st (allWords bs) 80 := by
        have e64 : k = 80 := by omega
        have := HS.out
        rw [e64] at this
        exact this
      have HRN := Lib.hid hrn
      obtain ⟨CL, hCL⟩ : ∃ CL, CL = (compress st bs).list := ⟨_, rfl⟩
      have HCL := Lib.hid hCL
      have hin := HIN.out
      have hB := hin.2.2.2.2.2.1
      have hgl := hin.2.2.2.2.2.2.1
      clear hrn hCL hin
      go_wp2
      rename World => w5
      go_loopw [15, 14] (fun i v wr => ∃ (j : Nat) (A6 : Option Addr) (cap6 : Nat), j ≤ 8 ∧ i = .int .i64 j ∧ v = .slice A6 j cap6 ∧ Row wr w5.heap.size 34 A6 j cap6 (cw (CL.take j)) ∧ Below w5.heap.size w5 wr ∧ w5.heap.size ≤ wr.heap.size) (fun i _ _ => 8 - (intOf i).toNat)
      case atStart => exact ⟨0, none, 0, by omega, rfl, rfl, Row.nil _ _ _, Below.refl _ _, Nat.le_refl _⟩
      case round =>
        obtain ⟨j, A6, cap6, hj, rfl, rfl, hr6, hb6, hB6⟩ := hrel
        have HR6 := Lib.hid hr6
        clear hr6
        by_cases hj8 : j < 8
        · have hhl : gh < w5.heap.size := by omega
          have ch : wr.cell? ⟨gh, j, none⟩ = some (.int .u64 (ui (st.list.getD j 0))) := by
            rw [hb6.cell (p := ⟨gh, j, none⟩) hhl]
            obtain ⟨g', e', _, _, hc'⟩ := HIN.out.2.2.2.1.cells (by omega)
            injection e' with e'
            injection e' with e'
            subst e'
            exact hc' j _ (cw_get st.list j (show j < 8 from hj8))
          have cs : wr.cell? ⟨g, j, none⟩ = some (.int .u64 (ui ((rnds st (allWords bs) 80).list.getD j 0))) := by
            rw [hb6.cell (p := ⟨g, j, none⟩) hgl, ← HRN.out]
            exact HIN.out.1 j _ (cw_get _ j (show j < 8 from hj8))
          obtain ⟨x, hx⟩ : ∃ x, x = st.list.getD j 0 := ⟨_, rfl⟩
          obtain ⟨y, hy⟩ : ∃ y, y = (rnds st (allWords bs) 80).list.getD j 0 := ⟨_, rfl⟩
          rw [← hx] at ch
          rw [← hy] at cs
          have HV : Hid (CL.take j ++ [x + y] = CL.take (j + 1)) := by
            show _ = _
            have e1 := comp_take CL j (by rw [HCL.out]; exact hj8)
            have e2 := add_get st (rnds st (allWords bs) 80) j hj8
            rw [← hx, ← hy] at e2
            rw [← e1, HCL.out]
            show _ = _ ++ [(st.add (rnds st (allWords bs) 80)).list.getD j 0]
            rw [e2]
          obtain ⟨j2, hj2⟩ : ∃ j2, j + 1 = j2 := ⟨_, rfl⟩
          have HJ2 := Lib.hid hj2
          have HCH := Lib.hid ch
          have HCS := Lib.hid cs
          clear hx hy hj2 hhl ch cs
          go_wp2
          have ch := HCH.out
          have cs := HCS.out
          have l4 : (j : Int) < 8 := by omega
          have r1 := ui_addw
          have r5 := ui_add
          go_region_law (refine step_appWord rfl (.tmp 143) (.tmp 153) rfl (below_allocDrew hb6 hB6 _).1 (below_allocDrew hb6 hB6 _).2 (l := CL.take j) (x + y) rfl (HR6.out.allocDrew _) wr.heap.size rfl (one_cell _ _ _) (by omega) j2 HJ2.out ?_; intro A8 cap8 w8 hr8 hb8 hB8)
          all_goals
            clear ch cs l4 r1 r5
            go_wp2
            go_roundw
            case rel =>
              refine ⟨j2, A8, cap8, by have := HJ2.out; omega, by have := HJ2.out; rw [← this]; go_num, rfl, ?_, hb8, hB8⟩
              have := hr8.out
              rw [HV.out, HJ2.out] at this
              exact this
            case measure => simp [intOf]; omega
        · have e8 : j = 8 := by omega
          have hr9 := HR6.out
          rw [e8, List.take_of_length_le (by rw [HCL.out]; show 8 ≤ 8; omega), HCL.out] at hr9
          have HR9 := Lib.hid hr9
          subst e8
          clear hr9
          go_wp2
          go_ret
          exact ⟨A6, cap6, rfl, HR9.out.mono hB, HIN.out.2.2.2.2.1.trans (hb6.mono hB)⟩
end Go.Proofs.YtidibhphnkiacaaDoor
