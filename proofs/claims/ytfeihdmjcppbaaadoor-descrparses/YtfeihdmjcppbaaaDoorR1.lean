/-
  What keyRight, sumRight, treeRight answer. No condition but that lengths are the texts'.
-/
import Derived.Test.YtfeihdmjcppbaaaDoorSz
import Derived.Test.YtfeihdmjcppbaaaDoorV7
import Derived.Deep.RegionHeld3
namespace Go.Proofs.YtfeihdmjcppbaaaDoor
open Go.RowKit
set_option linter.unusedVariables false
set_option linter.unusedSimpArgs false
set_option maxRecDepth 100000

theorem keyRight_any (x : Dx) (hx : Hds x) (w : World) : Calls Tryd.prog 41 #[x.val] w fun e w' => e = .returned (.bool (decide (1 ≤ x.d.key.length ∧ x.d.key.length ≤ 1032))) ∧ Below w.heap.size w w' := by
  have hb : Below w.heap.size w (w.alloc (.cells x.cells.toArray 27)) := (Below.refl _ _).alloc (Nat.le_refl _) _
  have c9 : (w.alloc (.cells x.cells.toArray 27)).cell? ⟨w.heap.size, 9, none⟩ = some (.slice x.s3.A x.s3.n x.s3.cap) := (Blk.new w 27 x.cells).cell 9
  rw [hx.key]
  unfold Dx.val
  generalize x.cells.toArray = cs at hb c9 ⊢
  generalize x.s3.n = n at c9 ⊢
  generalize x.s3.A = A at c9
  generalize x.s3.cap = cap at c9
  by_cases h1 : 1 ≤ n
  · have z1 : (1 : Int) ≤ (n : Int) := by omega
    by_cases h2 : n ≤ 1032
    · have z2 : (n : Int) ≤ 1032 := by omega
      rw [decide_eq_true ⟨h1, h2⟩]
      clear h1 h2 hx
      go_enter Tryd.func41, Tryd.ntmps41
      go_wp2
      go_ret
      exact ⟨by first | rfl | simp [*], hb⟩
    · have z2 : ¬ (n : Int) ≤ 1032 := by omega
      rw [decide_eq_false (fun h => h2 h.2)]
      clear h1 h2 hx
      go_enter Tryd.func41, Tryd.ntmps41
      go_wp2
      go_ret
      exact ⟨by first | rfl | simp [*], hb⟩
  · have z1 : ¬ (1 : Int) ≤ (n : Int) := by omega
    rw [decide_eq_false (fun h => h1 h.1)]
    clear h1 hx
    go_enter Tryd.func41, Tryd.ntmps41
    go_wp2
    go_ret
    exact ⟨by first | rfl | simp [*], hb⟩
theorem sumRight_any (x : Dx) (hx : Hds x) (w : World) : Calls Tryd.prog 40 #[x.val] w fun e w' => e = .returned (.bool (decide (Summed x.d))) ∧ Below w.heap.size w w' := by
  have hb : Below w.heap.size w (w.alloc (.cells x.cells.toArray 27)) := (Below.refl _ _).alloc (Nat.le_refl _) _
  have c1 : (w.alloc (.cells x.cells.toArray 27)).cell? ⟨w.heap.size, 1, none⟩ = some (.int .i64 x.d.alg) := (Blk.new w 27 x.cells).cell 1
  have c7 : (w.alloc (.cells x.cells.toArray 27)).cell? ⟨w.heap.size, 7, none⟩ = some (.slice x.s1.A x.s1.n x.s1.cap) := (Blk.new w 27 x.cells).cell 7
  have c8 : (w.alloc (.cells x.cells.toArray 27)).cell? ⟨w.heap.size, 8, none⟩ = some (.slice x.s2.A x.s2.n x.s2.cap) := (Blk.new w 27 x.cells).cell 8
  have eS : decide (Summed x.d) = decide (szOf x.d.alg ≠ 0 ∧ (x.s2.n : Int) = szOf x.d.alg ∧ x.s1.n ≤ 64) := decide_eq_decide.2 (by unfold Summed; rw [hx.salt, hx.digest])
  rw [eS]
  clear eS
  unfold Dx.val
  generalize x.cells.toArray = cs at hb c1 c7 c8 ⊢
  generalize x.s1.n = n at c7 ⊢
  generalize x.s1.A = A at c7
  generalize x.s1.cap = cap at c7
  generalize x.s2.n = m at c8 ⊢
  generalize x.s2.A = A2 at c8
  generalize x.s2.cap = cap2 at c8
  generalize x.d.alg = z at c1 ⊢
  obtain ⟨q, hq⟩ : ∃ q, szOf z = q := ⟨_, rfl⟩
  have HQ := Lib.hid hq
  rw [hq]
  clear hq hx
  by_cases h0 : q = 0
  · have e0 : (q != 0) = false := by simp [h0]
    rw [decide_eq_false (fun h => h.1 h0)]
    clear h0
    go_enter Tryd.func40, Tryd.ntmps40
    go_wp2_with fail
    refine (Size_any z _).mono ?_
    rintro e w1 ⟨rfl, rfl⟩
    rw [HQ.out]
    go_wp2
    go_ret
    exact ⟨by first | rfl | simp [*], hb⟩
  · have e0 : (q != 0) = true := by simp [h0]
    by_cases h1 : (m : Int) = q
    · have e1 : ((m : Int) == q) = true := by simp [h1]
      by_cases h2 : n ≤ 64
      · have z2 : (n : Int) ≤ 64 := by omega
        rw [decide_eq_true ⟨h0, h1, h2⟩]
        clear h0 h1 h2
        go_enter Tryd.func40, Tryd.ntmps40
        go_wp2_with fail
        refine (Size_any z _).mono ?_
        rintro e w1 ⟨rfl, rfl⟩
        rw [HQ.out]
        go_wp2
        go_ret
        exact ⟨by first | rfl | simp [*], hb⟩
      · have z2 : ¬ (n : Int) ≤ 64 := by omega
        rw [decide_eq_false (fun h => h2 h.2.2)]
        clear h0 h1 h2
        go_enter Tryd.func40, Tryd.ntmps40
        go_wp2_with fail
        refine (Size_any z _).mono ?_
        rintro e w1 ⟨rfl, rfl⟩
        rw [HQ.out]
        go_wp2
        go_ret
        exact ⟨by first | rfl | simp [*], hb⟩
    · have e1 : ((m : Int) == q) = false := by simp [h1]
      rw [decide_eq_false (fun h => h1 h.2.1)]
      clear h0 h1
      go_enter Tryd.func40, Tryd.ntmps40
      go_wp2_with fail
      refine (Size_any z _).mono ?_
      rintro e w1 ⟨rfl, rfl⟩
      rw [HQ.out]
      go_wp2
      go_ret
      exact ⟨by first | rfl | simp [*], hb⟩
def TreeOk (d : De) : Prop := Rgt d.size d.block (szOf d.alg) ∧ d.size ≤ d.off ∧ d.off ≤ 1099511627776
instance (d : De) : Decidable (TreeOk d) := by unfold TreeOk; exact inferInstance
set_option maxHeartbeats 1000000 in
theorem treeRight_any (x : Dx) (w : World) : Calls Tryd.prog 39 #[x.val] w fun e w' => e = .returned (.bool (decide (TreeOk x.d))) ∧ Below w.heap.size w w' := by
  have hb : Below w.heap.size w (w.alloc (.cells x.cells.toArray 27)) := (Below.refl _ _).alloc (Nat.le_refl _) _
  have c1 : (w.alloc (.cells x.cells.toArray 27)).cell? ⟨w.heap.size, 1, none⟩ = some (.int .i64 x.d.alg) := (Blk.new w 27 x.cells).cell 1
  have a1 : x.cells.toArray[1]? = some (.int .i64 x.d.alg) := rfl
  have c2 : (w.alloc (.cells x.cells.toArray 27)).cell? ⟨w.heap.size, 2, none⟩ = some (.int .i64 x.d.size) := (Blk.new w 27 x.cells).cell 2
  have a2 : x.cells.toArray[2]? = some (.int .i64 x.d.size) := rfl
  have c3 : (w.alloc (.cells x.cells.toArray 27)).cell? ⟨w.heap.size, 3, none⟩ = some (.int .i64 x.d.block) := (Blk.new w 27 x.cells).cell 3
  have a3 : x.cells.toArray[3]? = some (.int .i64 x.d.block) := rfl
  have c4 : (w.alloc (.cells x.cells.toArray 27)).cell? ⟨w.heap.size, 4, none⟩ = some (.int .i64 x.d.off) := (Blk.new w 27 x.cells).cell 4
  have a4 : x.cells.toArray[4]? = some (.int .i64 x.d.off) := rfl
  have eS : decide (TreeOk x.d) = decide (Rgt x.d.size x.d.block (szOf x.d.alg) ∧ x.d.size ≤ x.d.off ∧ x.d.off ≤ 1099511627776) := decide_eq_decide.2 (by unfold TreeOk; exact Iff.rfl)
  rw [eS]
  clear eS
  unfold Dx.val
  generalize x.cells.toArray = cs at hb c1 c2 c3 c4 a1 a2 a3 a4 ⊢
  generalize x.d.alg = z at c1 a1 ⊢
  generalize x.d.size = S at c2 a2 ⊢
  generalize x.d.block = B at c3 a3 ⊢
  generalize x.d.off = O at c4 a4 ⊢
  obtain ⟨q, hq⟩ : ∃ q, szOf z = q := ⟨_, rfl⟩
  have HQ := Lib.hid hq
  rw [hq]
  clear hq
  have hlt : w.heap.size < (w.alloc (.cells cs 27)).heap.size := by simp
  have HBX : Hid (Below w.heap.size w (w.alloc (.cells cs 27)) ∧ w.heap.size < (w.alloc (.cells cs 27)).heap.size ∧ (w.alloc (.cells cs 27)).cell? ⟨w.heap.size, 2, none⟩ = some (.int .i64 S) ∧ (w.alloc (.cells cs 27)).cell? ⟨w.heap.size, 4, none⟩ = some (.int .i64 O)) := ⟨hb, hlt, c2, c4⟩
  have W1 : ∃ W, w.alloc (.cells cs 27) = W := ⟨_, rfl⟩
  obtain ⟨W, hW⟩ := W1
  rw [hW] at HBX c1 c2 c3
  clear hb hlt a1 a2 a3 a4 c4
  by_cases hh0 : Rgt S B q
  · skip
    have e0 : decide (Rgt S B q) = true := decide_eq_true hh0
    have E0 := Lib.hid e0
    clear e0
    by_cases hh1 : S ≤ O
    · skip
      have z1 : S ≤ O := hh1
      by_cases hh2 : O ≤ 1099511627776
      · skip
        have z2 : O ≤ 1099511627776 := hh2
        rw [decide_eq_true ⟨hh0, hh1, hh2⟩]
        clear hh0 hh1 hh2
        go_enter Tryd.func39, Tryd.ntmps39
        go_wp2
        
        go_region_held3 (fun w' => w'.cell? ⟨w.heap.size, 2, none⟩ = some (.int .i64 S) ∧ w'.cell? ⟨w.heap.size, 3, none⟩ = some (.int .i64 B) ∧ w'.cell? ⟨w.heap.size, 1, none⟩ = some (.int .i64 z)) (first | (refine ⟨?_, ?_, ?_⟩ <;> go_keep) | assumption) (first | (go_at_call 53; refine (Size_any z _).mono ?_; rintro e w2 ⟨rfl, rfl⟩; rw [HQ.out]))
        all_goals
          have F15 : Below W.heap.size W (W.alloc (.cells #[.int .i64 S, .int .i64 B, .int .i64 q] 79)).drew ∧ Blk (W.alloc (.cells #[.int .i64 S, .int .i64 B, .int .i64 q] 79)).drew W.heap.size 79 [.int .i64 S, .int .i64 B, .int .i64 q] := ⟨below_drew1 ((Below.refl _ _).alloc (Nat.le_refl _) _), Blk.new W 79 [.int .i64 S, .int .i64 B, .int .i64 q]⟩
          generalize (W.alloc (.cells #[.int .i64 S, .int .i64 B, .int .i64 q] 79)).drew = wy at F15 ⊢
          obtain ⟨hby, hsb⟩ := F15
          have k0 := hsb.cell 0
          have k1 := hsb.cell 1
          have k2 := hsb.cell 2
          simp only [List.getElem?_cons_zero, List.getElem?_cons_succ] at k0 k1 k2
          have BELy : Hid (Below w.heap.size w wy) := HBX.out.1.trans (hby.mono HBX.out.1.size)
          have C2y := (hby.cell (p := ⟨w.heap.size, 2, none⟩) HBX.out.2.1).trans HBX.out.2.2.1
          have C4y := (hby.cell (p := ⟨w.heap.size, 4, none⟩) HBX.out.2.1).trans HBX.out.2.2.2
          have LTy : Hid (w.heap.size < wy.heap.size) := Nat.lt_of_lt_of_le HBX.out.2.1 hby.size
          clear hby hsb c1 c2 c3
          go_wp2_with fail
          refine (PRight_any S B q _).mono ?_
          rintro e w2 ⟨rfl, hb5⟩
          rw [E0.out]
          have bel := BELy.out.trans (hb5.mono BELy.out.size)
          have C2z := (hb5.cell (p := ⟨w.heap.size, 2, none⟩) LTy.out).trans C2y
          have C4z := (hb5.cell (p := ⟨w.heap.size, 4, none⟩) LTy.out).trans C4y
          have BL := Lib.hid bel
          clear C2y C4y k0 k1 k2 hb5 bel
        all_goals (go_wp2; go_ret; exact ⟨by first | rfl | simp [*], BL.out⟩)
      · skip
        have z2 : ¬ O ≤ 1099511627776 := hh2
        rw [decide_eq_false (fun h => hh2 h.2.2)]
        clear hh0 hh1 hh2
        go_enter Tryd.func39, Tryd.ntmps39
        go_wp2
        
        go_region_held3 (fun w' => w'.cell? ⟨w.heap.size, 2, none⟩ = some (.int .i64 S) ∧ w'.cell? ⟨w.heap.size, 3, none⟩ = some (.int .i64 B) ∧ w'.cell? ⟨w.heap.size, 1, none⟩ = some (.int .i64 z)) (first | (refine ⟨?_, ?_, ?_⟩ <;> go_keep) | assumption) (first | (go_at_call 53; refine (Size_any z _).mono ?_; rintro e w2 ⟨rfl, rfl⟩; rw [HQ.out]))
        all_goals
          have F15 : Below W.heap.size W (W.alloc (.cells #[.int .i64 S, .int .i64 B, .int .i64 q] 79)).drew ∧ Blk (W.alloc (.cells #[.int .i64 S, .int .i64 B, .int .i64 q] 79)).drew W.heap.size 79 [.int .i64 S, .int .i64 B, .int .i64 q] := ⟨below_drew1 ((Below.refl _ _).alloc (Nat.le_refl _) _), Blk.new W 79 [.int .i64 S, .int .i64 B, .int .i64 q]⟩
          generalize (W.alloc (.cells #[.int .i64 S, .int .i64 B, .int .i64 q] 79)).drew = wy at F15 ⊢
          obtain ⟨hby, hsb⟩ := F15
          have k0 := hsb.cell 0
          have k1 := hsb.cell 1
          have k2 := hsb.cell 2
          simp only [List.getElem?_cons_zero, List.getElem?_cons_succ] at k0 k1 k2
          have BELy : Hid (Below w.heap.size w wy) := HBX.out.1.trans (hby.mono HBX.out.1.size)
          have C2y := (hby.cell (p := ⟨w.heap.size, 2, none⟩) HBX.out.2.1).trans HBX.out.2.2.1
          have C4y := (hby.cell (p := ⟨w.heap.size, 4, none⟩) HBX.out.2.1).trans HBX.out.2.2.2
          have LTy : Hid (w.heap.size < wy.heap.size) := Nat.lt_of_lt_of_le HBX.out.2.1 hby.size
          clear hby hsb c1 c2 c3
          go_wp2_with fail
          refine (PRight_any S B q _).mono ?_
          rintro e w2 ⟨rfl, hb5⟩
          rw [E0.out]
          have bel := BELy.out.trans (hb5.mono BELy.out.size)
          have C2z := (hb5.cell (p := ⟨w.heap.size, 2, none⟩) LTy.out).trans C2y
          have C4z := (hb5.cell (p := ⟨w.heap.size, 4, none⟩) LTy.out).trans C4y
          have BL := Lib.hid bel
          clear C2y C4y k0 k1 k2 hb5 bel
        all_goals (go_wp2; go_ret; exact ⟨by first | rfl | simp [*], BL.out⟩)
    · skip
      have z1 : ¬ S ≤ O := hh1
      rw [decide_eq_false (fun h => hh1 h.2.1)]
      clear hh0 hh1
      go_enter Tryd.func39, Tryd.ntmps39
      go_wp2
      
      go_region_held3 (fun w' => w'.cell? ⟨w.heap.size, 2, none⟩ = some (.int .i64 S) ∧ w'.cell? ⟨w.heap.size, 3, none⟩ = some (.int .i64 B) ∧ w'.cell? ⟨w.heap.size, 1, none⟩ = some (.int .i64 z)) (first | (refine ⟨?_, ?_, ?_⟩ <;> go_keep) | assumption) (first | (go_at_call 53; refine (Size_any z _).mono ?_; rintro e w2 ⟨rfl, rfl⟩; rw [HQ.out]))
      all_goals
        have F15 : Below W.heap.size W (W.alloc (.cells #[.int .i64 S, .int .i64 B, .int .i64 q] 79)).drew ∧ Blk (W.alloc (.cells #[.int .i64 S, .int .i64 B, .int .i64 q] 79)).drew W.heap.size 79 [.int .i64 S, .int .i64 B, .int .i64 q] := ⟨below_drew1 ((Below.refl _ _).alloc (Nat.le_refl _) _), Blk.new W 79 [.int .i64 S, .int .i64 B, .int .i64 q]⟩
        generalize (W.alloc (.cells #[.int .i64 S, .int .i64 B, .int .i64 q] 79)).drew = wy at F15 ⊢
        obtain ⟨hby, hsb⟩ := F15
        have k0 := hsb.cell 0
        have k1 := hsb.cell 1
        have k2 := hsb.cell 2
        simp only [List.getElem?_cons_zero, List.getElem?_cons_succ] at k0 k1 k2
        have BELy : Hid (Below w.heap.size w wy) := HBX.out.1.trans (hby.mono HBX.out.1.size)
        have C2y := (hby.cell (p := ⟨w.heap.size, 2, none⟩) HBX.out.2.1).trans HBX.out.2.2.1
        have C4y := (hby.cell (p := ⟨w.heap.size, 4, none⟩) HBX.out.2.1).trans HBX.out.2.2.2
        have LTy : Hid (w.heap.size < wy.heap.size) := Nat.lt_of_lt_of_le HBX.out.2.1 hby.size
        clear hby hsb c1 c2 c3
        go_wp2_with fail
        refine (PRight_any S B q _).mono ?_
        rintro e w2 ⟨rfl, hb5⟩
        rw [E0.out]
        have bel := BELy.out.trans (hb5.mono BELy.out.size)
        have C2z := (hb5.cell (p := ⟨w.heap.size, 2, none⟩) LTy.out).trans C2y
        have C4z := (hb5.cell (p := ⟨w.heap.size, 4, none⟩) LTy.out).trans C4y
        have BL := Lib.hid bel
        clear C2y C4y k0 k1 k2 hb5 bel
      all_goals (go_wp2; go_ret; exact ⟨by first | rfl | simp [*], BL.out⟩)
  · skip
    have e0 : decide (Rgt S B q) = false := decide_eq_false hh0
    have E0 := Lib.hid e0
    clear e0
    rw [decide_eq_false (fun h => hh0 h.1)]
    clear hh0
    go_enter Tryd.func39, Tryd.ntmps39
    go_wp2
    
    go_region_held3 (fun w' => w'.cell? ⟨w.heap.size, 2, none⟩ = some (.int .i64 S) ∧ w'.cell? ⟨w.heap.size, 3, none⟩ = some (.int .i64 B) ∧ w'.cell? ⟨w.heap.size, 1, none⟩ = some (.int .i64 z)) (first | (refine ⟨?_, ?_, ?_⟩ <;> go_keep) | assumption) (first | (go_at_call 53; refine (Size_any z _).mono ?_; rintro e w2 ⟨rfl, rfl⟩; rw [HQ.out]))
    all_goals
      have F15 : Below W.heap.size W (W.alloc (.cells #[.int .i64 S, .int .i64 B, .int .i64 q] 79)).drew ∧ Blk (W.alloc (.cells #[.int .i64 S, .int .i64 B, .int .i64 q] 79)).drew W.heap.size 79 [.int .i64 S, .int .i64 B, .int .i64 q] := ⟨below_drew1 ((Below.refl _ _).alloc (Nat.le_refl _) _), Blk.new W 79 [.int .i64 S, .int .i64 B, .int .i64 q]⟩
      generalize (W.alloc (.cells #[.int .i64 S, .int .i64 B, .int .i64 q] 79)).drew = wy at F15 ⊢
      obtain ⟨hby, hsb⟩ := F15
      have k0 := hsb.cell 0
      have k1 := hsb.cell 1
      have k2 := hsb.cell 2
      simp only [List.getElem?_cons_zero, List.getElem?_cons_succ] at k0 k1 k2
      have BELy : Hid (Below w.heap.size w wy) := HBX.out.1.trans (hby.mono HBX.out.1.size)
      have C2y := (hby.cell (p := ⟨w.heap.size, 2, none⟩) HBX.out.2.1).trans HBX.out.2.2.1
      have C4y := (hby.cell (p := ⟨w.heap.size, 4, none⟩) HBX.out.2.1).trans HBX.out.2.2.2
      have LTy : Hid (w.heap.size < wy.heap.size) := Nat.lt_of_lt_of_le HBX.out.2.1 hby.size
      clear hby hsb c1 c2 c3
      go_wp2_with fail
      refine (PRight_any S B q _).mono ?_
      rintro e w2 ⟨rfl, hb5⟩
      rw [E0.out]
      have bel := BELy.out.trans (hb5.mono BELy.out.size)
      have C2z := (hb5.cell (p := ⟨w.heap.size, 2, none⟩) LTy.out).trans C2y
      have C4z := (hb5.cell (p := ⟨w.heap.size, 4, none⟩) LTy.out).trans C4y
      have BL := Lib.hid bel
      clear C2y C4y k0 k1 k2 hb5 bel
    all_goals (go_wp2; go_ret; exact ⟨by first | rfl | simp [*], BL.out⟩)
end Go.Proofs.YtfeihdmjcppbaaaDoor
