/-
  What keyRight, sumRight, treeRight answer. No condition but that lengths are the texts'. What strings.Trim answers at the letters, and isName. No condition but that letters are bytes. What strings.Trim answers at the letters. No condition but that letters are bytes.
-/
import Derived.Test.YtlcoebenkhafcaaGreatDoorZ09
import Derived.Deep.RegionHeld3
import Derived.Laws.ResultCell
namespace Go.Proofs.YtlcoebenkhafcaaGreatDoor
open Go.RowKit
set_option linter.unusedVariables false
set_option linter.unusedSimpArgs false
set_option maxRecDepth 100000
theorem keyRight_any (x : Dx) (hx : Hds x) (w : World) : Calls Tryz.prog 183 #[x.val] w fun e w' => e = .returned (.bool (decide (1 ≤ x.d.key.length ∧ x.d.key.length ≤ 1032))) ∧ Below w.heap.size w w' := by
  have hb : Below w.heap.size w (w.alloc (.cells x.cells.toArray 71)) := (Below.refl _ _).alloc (Nat.le_refl _) _
  have c9 : (w.alloc (.cells x.cells.toArray 71)).cell? ⟨w.heap.size, 9, none⟩ = some (.slice x.s3.A x.s3.n x.s3.cap) := (Blk.new w 71 x.cells).cell 9
  rw [hx.key]
  unfold Dx.val
  generalize x.cells.toArray = cs at hb c9 ⊢
  generalize x.s3.n = n at c9 ⊢
  generalize x.s3.A = A at c9
  generalize x.s3.cap = cap at c9
  by_cases h1 : 1 ≤ n
  · have z1 : (1 : Int) ≤ (n : Int) := by omega
    by_cases h2 : n ≤ 1032
    · have z2 : (n : Int) ≤ 1032 := by omega
      rw [decide_eq_true ⟨h1, h2⟩]
      clear h1 h2 hx
      go_enter Tryz.func183, Tryz.ntmps183
      go_wp2
      go_ret
      exact ⟨by first | rfl | simp [*], hb⟩
    · have z2 : ¬ (n : Int) ≤ 1032 := by omega
      rw [decide_eq_false (fun h => h2 h.2)]
      clear h1 h2 hx
      go_enter Tryz.func183, Tryz.ntmps183
      go_wp2
      go_ret
      exact ⟨by first | rfl | simp [*], hb⟩
  · have z1 : ¬ (1 : Int) ≤ (n : Int) := by omega
    rw [decide_eq_false (fun h => h1 h.1)]
    clear h1 hx
    go_enter Tryz.func183, Tryz.ntmps183
    go_wp2
    go_ret
    exact ⟨by first | rfl | simp [*], hb⟩
theorem sumRight_any (x : Dx) (hx : Hds x) (w : World) : Calls Tryz.prog 182 #[x.val] w fun e w' => e = .returned (.bool (decide (Summed x.d))) ∧ Below w.heap.size w w' := by
  have hb : Below w.heap.size w (w.alloc (.cells x.cells.toArray 71)) := (Below.refl _ _).alloc (Nat.le_refl _) _
  have c1 : (w.alloc (.cells x.cells.toArray 71)).cell? ⟨w.heap.size, 1, none⟩ = some (.int .i64 x.d.alg) := (Blk.new w 71 x.cells).cell 1
  have c7 : (w.alloc (.cells x.cells.toArray 71)).cell? ⟨w.heap.size, 7, none⟩ = some (.slice x.s1.A x.s1.n x.s1.cap) := (Blk.new w 71 x.cells).cell 7
  have c8 : (w.alloc (.cells x.cells.toArray 71)).cell? ⟨w.heap.size, 8, none⟩ = some (.slice x.s2.A x.s2.n x.s2.cap) := (Blk.new w 71 x.cells).cell 8
  have eS : decide (Summed x.d) = decide (szOf x.d.alg ≠ 0 ∧ (x.s2.n : Int) = szOf x.d.alg ∧ x.s1.n ≤ 64) := decide_eq_decide.2 (by unfold Summed; rw [hx.salt, hx.digest])
  rw [eS]
  clear eS
  unfold Dx.val
  generalize x.cells.toArray = cs at hb c1 c7 c8 ⊢
  generalize x.s1.n = n at c7 ⊢
  generalize x.s1.A = A at c7
  generalize x.s1.cap = cap at c7
  generalize x.s2.n = m at c8 ⊢
  generalize x.s2.A = A2 at c8
  generalize x.s2.cap = cap2 at c8
  generalize x.d.alg = z at c1 ⊢
  obtain ⟨q, hq⟩ : ∃ q, szOf z = q := ⟨_, rfl⟩
  have HQ := Lib.hid hq
  rw [hq]
  clear hq hx
  by_cases h0 : q = 0
  · have e0 : (q != 0) = false := by simp [h0]
    rw [decide_eq_false (fun h => h.1 h0)]
    clear h0
    go_enter Tryz.func182, Tryz.ntmps182
    go_wp2_with fail
    refine (SizeS_any z _).mono ?_
    rintro e w1 ⟨rfl, rfl⟩
    rw [HQ.out]
    go_wp2
    go_ret
    exact ⟨by first | rfl | simp [*], hb⟩
  · have e0 : (q != 0) = true := by simp [h0]
    by_cases h1 : (m : Int) = q
    · have e1 : ((m : Int) == q) = true := by simp [h1]
      by_cases h2 : n ≤ 64
      · have z2 : (n : Int) ≤ 64 := by omega
        rw [decide_eq_true ⟨h0, h1, h2⟩]
        clear h0 h1 h2
        go_enter Tryz.func182, Tryz.ntmps182
        go_wp2_with fail
        refine (SizeS_any z _).mono ?_
        rintro e w1 ⟨rfl, rfl⟩
        rw [HQ.out]
        go_wp2
        go_ret
        exact ⟨by first | rfl | simp [*], hb⟩
      · have z2 : ¬ (n : Int) ≤ 64 := by omega
        rw [decide_eq_false (fun h => h2 h.2.2)]
        clear h0 h1 h2
        go_enter Tryz.func182, Tryz.ntmps182
        go_wp2_with fail
        refine (SizeS_any z _).mono ?_
        rintro e w1 ⟨rfl, rfl⟩
        rw [HQ.out]
        go_wp2
        go_ret
        exact ⟨by first | rfl | simp [*], hb⟩
    · have e1 : ((m : Int) == q) = false := by simp [h1]
      rw [decide_eq_false (fun h => h1 h.2.1)]
      clear h0 h1
      go_enter Tryz.func182, Tryz.ntmps182
      go_wp2_with fail
      refine (SizeS_any z _).mono ?_
      rintro e w1 ⟨rfl, rfl⟩
      rw [HQ.out]
      go_wp2
      go_ret
      exact ⟨by first | rfl | simp [*], hb⟩
def TreeOk (d : De) : Prop := Rgt d.size d.block (szOf d.alg) ∧ d.size ≤ d.off ∧ d.off ≤ 1099511627776
instance (d : De) : Decidable (TreeOk d) := by unfold TreeOk; exact inferInstance
set_option maxHeartbeats 1000000 in
theorem treeRight_any (x : Dx) (w : World) : Calls Tryz.prog 181 #[x.val] w fun e w' => e = .returned (.bool (decide (TreeOk x.d))) ∧ Below w.heap.size w w' := by
  have hb : Below w.heap.size w (w.alloc (.cells x.cells.toArray 71)) := (Below.refl _ _).alloc (Nat.le_refl _) _
  have c1 : (w.alloc (.cells x.cells.toArray 71)).cell? ⟨w.heap.size, 1, none⟩ = some (.int .i64 x.d.alg) := (Blk.new w 71 x.cells).cell 1
  have a1 : x.cells.toArray[1]? = some (.int .i64 x.d.alg) := rfl
  have c2 : (w.alloc (.cells x.cells.toArray 71)).cell? ⟨w.heap.size, 2, none⟩ = some (.int .i64 x.d.size) := (Blk.new w 71 x.cells).cell 2
  have a2 : x.cells.toArray[2]? = some (.int .i64 x.d.size) := rfl
  have c3 : (w.alloc (.cells x.cells.toArray 71)).cell? ⟨w.heap.size, 3, none⟩ = some (.int .i64 x.d.block) := (Blk.new w 71 x.cells).cell 3
  have a3 : x.cells.toArray[3]? = some (.int .i64 x.d.block) := rfl
  have c4 : (w.alloc (.cells x.cells.toArray 71)).cell? ⟨w.heap.size, 4, none⟩ = some (.int .i64 x.d.off) := (Blk.new w 71 x.cells).cell 4
  have a4 : x.cells.toArray[4]? = some (.int .i64 x.d.off) := rfl
  have eS : decide (TreeOk x.d) = decide (Rgt x.d.size x.d.block (szOf x.d.alg) ∧ x.d.size ≤ x.d.off ∧ x.d.off ≤ 1099511627776) := decide_eq_decide.2 (by unfold TreeOk; exact Iff.rfl)
  rw [eS]
  clear eS
  unfold Dx.val
  generalize x.cells.toArray = cs at hb c1 c2 c3 c4 a1 a2 a3 a4 ⊢
  generalize x.d.alg = z at c1 a1 ⊢
  generalize x.d.size = S at c2 a2 ⊢
  generalize x.d.block = B at c3 a3 ⊢
  generalize x.d.off = O at c4 a4 ⊢
  obtain ⟨q, hq⟩ : ∃ q, szOf z = q := ⟨_, rfl⟩
  have HQ := Lib.hid hq
  rw [hq]
  clear hq
  have hlt : w.heap.size < (w.alloc (.cells cs 71)).heap.size := by simp
  have HBX : Hid (Below w.heap.size w (w.alloc (.cells cs 71)) ∧ w.heap.size < (w.alloc (.cells cs 71)).heap.size ∧ (w.alloc (.cells cs 71)).cell? ⟨w.heap.size, 2, none⟩ = some (.int .i64 S) ∧ (w.alloc (.cells cs 71)).cell? ⟨w.heap.size, 4, none⟩ = some (.int .i64 O)) := ⟨hb, hlt, c2, c4⟩
  have W1 : ∃ W, w.alloc (.cells cs 71) = W := ⟨_, rfl⟩
  obtain ⟨W, hW⟩ := W1
  rw [hW] at HBX c1 c2 c3
  clear hb hlt a1 a2 a3 a4 c4
  by_cases hh0 : Rgt S B q
  · skip
    have e0 : decide (Rgt S B q) = true := decide_eq_true hh0
    have E0 := Lib.hid e0
    clear e0
    by_cases hh1 : S ≤ O
    · skip
      have z1 : S ≤ O := hh1
      by_cases hh2 : O ≤ 1099511627776
      · skip
        have z2 : O ≤ 1099511627776 := hh2
        rw [decide_eq_true ⟨hh0, hh1, hh2⟩]
        clear hh0 hh1 hh2
        go_enter Tryz.func181, Tryz.ntmps181
        go_wp2
        go_region_held3 (fun w' => w'.cell? ⟨w.heap.size, 2, none⟩ = some (.int .i64 S) ∧ w'.cell? ⟨w.heap.size, 3, none⟩ = some (.int .i64 B) ∧ w'.cell? ⟨w.heap.size, 1, none⟩ = some (.int .i64 z)) (first | (refine ⟨?_, ?_, ?_⟩ <;> go_keep) | assumption) (first | (go_at_call 38; refine (SizeS_any z _).mono ?_; rintro e w2 ⟨rfl, rfl⟩; rw [HQ.out]))
        all_goals
          have F15 : Below W.heap.size W (W.alloc (.cells #[.int .i64 S, .int .i64 B, .int .i64 q] 230)).drew ∧ Blk (W.alloc (.cells #[.int .i64 S, .int .i64 B, .int .i64 q] 230)).drew W.heap.size 230 [.int .i64 S, .int .i64 B, .int .i64 q] := ⟨below_drew1 ((Below.refl _ _).alloc (Nat.le_refl _) _), Blk.new W 230 [.int .i64 S, .int .i64 B, .int .i64 q]⟩
          generalize (W.alloc (.cells #[.int .i64 S, .int .i64 B, .int .i64 q] 230)).drew = wy at F15 ⊢
          obtain ⟨hby, hsb⟩ := F15
          have k0 := hsb.cell 0
          have k1 := hsb.cell 1
          have k2 := hsb.cell 2
          simp only [List.getElem?_cons_zero, List.getElem?_cons_succ] at k0 k1 k2
          have BELy : Hid (Below w.heap.size w wy) := HBX.out.1.trans (hby.mono HBX.out.1.size)
          have C2y := (hby.cell (p := ⟨w.heap.size, 2, none⟩) HBX.out.2.1).trans HBX.out.2.2.1
          have C4y := (hby.cell (p := ⟨w.heap.size, 4, none⟩) HBX.out.2.1).trans HBX.out.2.2.2
          have LTy : Hid (w.heap.size < wy.heap.size) := Nat.lt_of_lt_of_le HBX.out.2.1 hby.size
          clear hby hsb c1 c2 c3
          go_wp2_with fail
          refine (PRight_any S B q _).mono ?_
          rintro e w2 ⟨rfl, hb5⟩
          rw [E0.out]
          have bel := BELy.out.trans (hb5.mono BELy.out.size)
          have C2z := (hb5.cell (p := ⟨w.heap.size, 2, none⟩) LTy.out).trans C2y
          have C4z := (hb5.cell (p := ⟨w.heap.size, 4, none⟩) LTy.out).trans C4y
          have BL := Lib.hid bel
          clear C2y C4y k0 k1 k2 hb5 bel
        all_goals (go_wp2; go_ret; exact ⟨by first | rfl | simp [*], BL.out⟩)
      · skip
        have z2 : ¬ O ≤ 1099511627776 := hh2
        rw [decide_eq_false (fun h => hh2 h.2.2)]
        clear hh0 hh1 hh2
        go_enter Tryz.func181, Tryz.ntmps181
        go_wp2
        go_region_held3 (fun w' => w'.cell? ⟨w.heap.size, 2, none⟩ = some (.int .i64 S) ∧ w'.cell? ⟨w.heap.size, 3, none⟩ = some (.int .i64 B) ∧ w'.cell? ⟨w.heap.size, 1, none⟩ = some (.int .i64 z)) (first | (refine ⟨?_, ?_, ?_⟩ <;> go_keep) | assumption) (first | (go_at_call 38; refine (SizeS_any z _).mono ?_; rintro e w2 ⟨rfl, rfl⟩; rw [HQ.out]))
        all_goals
          have F15 : Below W.heap.size W (W.alloc (.cells #[.int .i64 S, .int .i64 B, .int .i64 q] 230)).drew ∧ Blk (W.alloc (.cells #[.int .i64 S, .int .i64 B, .int .i64 q] 230)).drew W.heap.size 230 [.int .i64 S, .int .i64 B, .int .i64 q] := ⟨below_drew1 ((Below.refl _ _).alloc (Nat.le_refl _) _), Blk.new W 230 [.int .i64 S, .int .i64 B, .int .i64 q]⟩
          generalize (W.alloc (.cells #[.int .i64 S, .int .i64 B, .int .i64 q] 230)).drew = wy at F15 ⊢
          obtain ⟨hby, hsb⟩ := F15
          have k0 := hsb.cell 0
          have k1 := hsb.cell 1
          have k2 := hsb.cell 2
          simp only [List.getElem?_cons_zero, List.getElem?_cons_succ] at k0 k1 k2
          have BELy : Hid (Below w.heap.size w wy) := HBX.out.1.trans (hby.mono HBX.out.1.size)
          have C2y := (hby.cell (p := ⟨w.heap.size, 2, none⟩) HBX.out.2.1).trans HBX.out.2.2.1
          have C4y := (hby.cell (p := ⟨w.heap.size, 4, none⟩) HBX.out.2.1).trans HBX.out.2.2.2
          have LTy : Hid (w.heap.size < wy.heap.size) := Nat.lt_of_lt_of_le HBX.out.2.1 hby.size
          clear hby hsb c1 c2 c3
          go_wp2_with fail
          refine (PRight_any S B q _).mono ?_
          rintro e w2 ⟨rfl, hb5⟩
          rw [E0.out]
          have bel := BELy.out.trans (hb5.mono BELy.out.size)
          have C2z := (hb5.cell (p := ⟨w.heap.size, 2, none⟩) LTy.out).trans C2y
          have C4z := (hb5.cell (p := ⟨w.heap.size, 4, none⟩) LTy.out).trans C4y
          have BL := Lib.hid bel
          clear C2y C4y k0 k1 k2 hb5 bel
        all_goals (go_wp2; go_ret; exact ⟨by first | rfl | simp [*], BL.out⟩)
    · skip
      have z1 : ¬ S ≤ O := hh1
      rw [decide_eq_false (fun h => hh1 h.2.1)]
      clear hh0 hh1
      go_enter Tryz.func181, Tryz.ntmps181
      go_wp2
      go_region_held3 (fun w' => w'.cell? ⟨w.heap.size, 2, none⟩ = some (.int .i64 S) ∧ w'.cell? ⟨w.heap.size, 3, none⟩ = some (.int .i64 B) ∧ w'.cell? ⟨w.heap.size, 1, none⟩ = some (.int .i64 z)) (first | (refine ⟨?_, ?_, ?_⟩ <;> go_keep) | assumption) (first | (go_at_call 38; refine (SizeS_any z _).mono ?_; rintro e w2 ⟨rfl, rfl⟩; rw [HQ.out]))
      all_goals
        have F15 : Below W.heap.size W (W.alloc (.cells #[.int .i64 S, .int .i64 B, .int .i64 q] 230)).drew ∧ Blk (W.alloc (.cells #[.int .i64 S, .int .i64 B, .int .i64 q] 230)).drew W.heap.size 230 [.int .i64 S, .int .i64 B, .int .i64 q] := ⟨below_drew1 ((Below.refl _ _).alloc (Nat.le_refl _) _), Blk.new W 230 [.int .i64 S, .int .i64 B, .int .i64 q]⟩
        generalize (W.alloc (.cells #[.int .i64 S, .int .i64 B, .int .i64 q] 230)).drew = wy at F15 ⊢
        obtain ⟨hby, hsb⟩ := F15
        have k0 := hsb.cell 0
        have k1 := hsb.cell 1
        have k2 := hsb.cell 2
        simp only [List.getElem?_cons_zero, List.getElem?_cons_succ] at k0 k1 k2
        have BELy : Hid (Below w.heap.size w wy) := HBX.out.1.trans (hby.mono HBX.out.1.size)
        have C2y := (hby.cell (p := ⟨w.heap.size, 2, none⟩) HBX.out.2.1).trans HBX.out.2.2.1
        have C4y := (hby.cell (p := ⟨w.heap.size, 4, none⟩) HBX.out.2.1).trans HBX.out.2.2.2
        have LTy : Hid (w.heap.size < wy.heap.size) := Nat.lt_of_lt_of_le HBX.out.2.1 hby.size
        clear hby hsb c1 c2 c3
        go_wp2_with fail
        refine (PRight_any S B q _).mono ?_
        rintro e w2 ⟨rfl, hb5⟩
        rw [E0.out]
        have bel := BELy.out.trans (hb5.mono BELy.out.size)
        have C2z := (hb5.cell (p := ⟨w.heap.size, 2, none⟩) LTy.out).trans C2y
        have C4z := (hb5.cell (p := ⟨w.heap.size, 4, none⟩) LTy.out).trans C4y
        have BL := Lib.hid bel
        clear C2y C4y k0 k1 k2 hb5 bel
      all_goals (go_wp2; go_ret; exact ⟨by first | rfl | simp [*], BL.out⟩)
  · skip
    have e0 : decide (Rgt S B q) = false := decide_eq_false hh0
    have E0 := Lib.hid e0
    clear e0
    rw [decide_eq_false (fun h => hh0 h.1)]
    clear hh0
    go_enter Tryz.func181, Tryz.ntmps181
    go_wp2
    go_region_held3 (fun w' => w'.cell? ⟨w.heap.size, 2, none⟩ = some (.int .i64 S) ∧ w'.cell? ⟨w.heap.size, 3, none⟩ = some (.int .i64 B) ∧ w'.cell? ⟨w.heap.size, 1, none⟩ = some (.int .i64 z)) (first | (refine ⟨?_, ?_, ?_⟩ <;> go_keep) | assumption) (first | (go_at_call 38; refine (SizeS_any z _).mono ?_; rintro e w2 ⟨rfl, rfl⟩; rw [HQ.out]))
    all_goals
      have F15 : Below W.heap.size W (W.alloc (.cells #[.int .i64 S, .int .i64 B, .int .i64 q] 230)).drew ∧ Blk (W.alloc (.cells #[.int .i64 S, .int .i64 B, .int .i64 q] 230)).drew W.heap.size 230 [.int .i64 S, .int .i64 B, .int .i64 q] := ⟨below_drew1 ((Below.refl _ _).alloc (Nat.le_refl _) _), Blk.new W 230 [.int .i64 S, .int .i64 B, .int .i64 q]⟩
      generalize (W.alloc (.cells #[.int .i64 S, .int .i64 B, .int .i64 q] 230)).drew = wy at F15 ⊢
      obtain ⟨hby, hsb⟩ := F15
      have k0 := hsb.cell 0
      have k1 := hsb.cell 1
      have k2 := hsb.cell 2
      simp only [List.getElem?_cons_zero, List.getElem?_cons_succ] at k0 k1 k2
      have BELy : Hid (Below w.heap.size w wy) := HBX.out.1.trans (hby.mono HBX.out.1.size)
      have C2y := (hby.cell (p := ⟨w.heap.size, 2, none⟩) HBX.out.2.1).trans HBX.out.2.2.1
      have C4y := (hby.cell (p := ⟨w.heap.size, 4, none⟩) HBX.out.2.1).trans HBX.out.2.2.2
      have LTy : Hid (w.heap.size < wy.heap.size) := Nat.lt_of_lt_of_le HBX.out.2.1 hby.size
      clear hby hsb c1 c2 c3
      go_wp2_with fail
      refine (PRight_any S B q _).mono ?_
      rintro e w2 ⟨rfl, hb5⟩
      rw [E0.out]
      have bel := BELy.out.trans (hb5.mono BELy.out.size)
      have C2z := (hb5.cell (p := ⟨w.heap.size, 2, none⟩) LTy.out).trans C2y
      have C4z := (hb5.cell (p := ⟨w.heap.size, 4, none⟩) LTy.out).trans C4y
      have BL := Lib.hid bel
      clear C2y C4y k0 k1 k2 hb5 bel
    all_goals (go_wp2; go_ret; exact ⟨by first | rfl | simp [*], BL.out⟩)
end Go.Proofs.YtlcoebenkhafcaaGreatDoor
namespace Go.Proofs.YtlcoebenkhafcaaGreatDoor
open Go.RowKit
set_option linter.unusedVariables false
set_option linter.unusedSimpArgs false
set_option maxRecDepth 100000
theorem touch_setRow (w : World) (g : Nat) (cs : Array Value) : Touch [g] w (w.setRow g cs) := ⟨rfl, rfl, rfl, by simp [World.setRow], fun k _ hk => setRow_other w g k cs (by simpa using hk)⟩
section
variable {P : Program} {ops : Array Oper} {rest : List Oper} {op : Oper} {a : Act} {w : World} {Q : Exit → Act → World → Prop}
theorem wpList_storeBlk (hgd : op.guard = none) (ty : TypeId) (x y : Operand) (ho : op.op = .store ty x y) {g : Nat} {t : TypeId} {old cs : List Value} (hx : a.eval x = .pointer (some ⟨g, 0, none⟩)) (hy : a.eval y = .agg cs.toArray) (hB : Blk w g t old)
    (hs : old.length = cs.length) (hi : (P.info? ty).map (·.size) = some cs.length) (h1 : ∀ v ∈ cs, v.oneCell' = true)
    (h : ∀ w', Hid (Blk w' g t cs) → Touch [g] w w' → wpList P ops Q rest (a.put op.dst undef) w') : wpList P ops Q (op :: rest) a w :=
  wpList_plain hgd fun _ hK => by
    unfold Oper.wp execOp
    have e := run_storeVar_row (P := P) w g t ty old.toArray cs.toArray hB (by simpa using hi) (by simpa using hs) (Array.all_eq_true_iff_forall_mem.2 (fun v hv => h1 v (by simpa using hv)))
    simp only [ho, hx, hy, Instr.storeAt, Instr.sureAddr, Sem.run_bind, Sem.run_pure, Result.andThen_ok, e]
    exact hK _ _ (h _ (setRow_heap w g _ _ t (0, 0) hB) (touch_setRow w g _))
end
def marks (l : List Nat) : List Value := (List.range 256).map fun c => Value.bool (l.contains c)
theorem marks_length (l : List Nat) : (marks l).length = 256 := by simp [marks]
theorem marks_one (l : List Nat) : ∀ v ∈ marks l, v.oneCell' = true := by intro v hv; obtain ⟨c, _, rfl⟩ := List.mem_map.1 hv; rfl
theorem marks_get (l : List Nat) (c : Nat) (hc : c < 256) : (marks l)[c]? = some (.bool (l.contains c)) := by simp [marks, hc]
theorem marks_set (l : List Nat) (c : Nat) (hc : c < 256) : (marks l).set c (.bool true) = marks (l ++ [c]) := by
  apply List.ext_getElem?
  intro i
  by_cases hi : i < 256
  · rw [marks_get _ i hi, List.getElem?_set]
    by_cases e : c = i
    · subst e
      simp [marks_length, hc]
    · rw [if_neg e, marks_get _ i hi]
      simp [Ne.symm e]
  · rw [List.getElem?_eq_none (by rw [List.length_set, marks_length]; omega), List.getElem?_eq_none (by rw [marks_length]; omega)]
def abc : List Nat := [97, 98, 99, 100, 101, 102, 103, 104, 105, 106, 107, 108, 109, 110, 111, 112, 113, 114, 115, 116, 117, 118, 119, 120, 121, 122, 48, 49, 50, 51, 52, 53, 54, 55, 56, 57, 95]
theorem abc_letter : ∀ c, c < 256 → abc.contains c = letter c := by decide +kernel
theorem infoSet : (Tryz.prog.info? 242).map (·.size) = some 256 := by kernel_rfl
theorem zeroSet (w : World) : (zeroValue 242).run Tryz.prog w = .ok (.agg (marks []).toArray) w := by kernel_rfl
theorem uSet : ∃ d, Tryz.prog.underlying 242 = some d ∧ d.isRow = true := ⟨_, Tryz.underlying242, rfl⟩
theorem str_index (l : List Nat) (i c : Nat) (hf : Fit 256 l) (h : l[i]? = some c) (z : Int) (hz : z = i) (W : World) : (Instr.index 9 (.string (str l)) (.int .i64 z)).run Tryz.prog W = .ok (.int .u8 (c : Int)) W := by
  subst hz
  have hi := (List.getElem?_eq_some_iff.1 h).1
  have hs : i < (str l).size := by rw [str_size]; exact hi
  rw [run_index_string W 9 (str l) .i64 i Tryz.underlying9, dif_pos ⟨by omega, by omega⟩]
  have e : (str l)[((i : Int)).toNat]'(by omega) = UInt8.ofNat c := by
    have h1 : (str l).toList[i]? = some (UInt8.ofNat c) := by rw [str_toList, List.getElem?_map, h]; rfl
    have h2 : (str l).toList[i]? = some ((str l)[i]'hs) := by
      rw [ByteArray.toList_eq]
      have : i < (str l).data.toList.length := by simpa using hs
      rw [List.getElem?_eq_getElem this]
      rfl
    rw [h2] at h1
    simpa using h1
  have hc := hf c (List.mem_of_getElem? h)
  rw [e]
  have : (UInt8.ofNat c).toNat = c := by simp; omega
  rw [this]
theorem str_cut (l : List Nat) (i j : Nat) (hij : i ≤ j) (hj : j ≤ l.length) : (str l).extract i j = str ((l.drop i).take (j - i)) := by
  have e : ∀ m : List Nat, str m = ⟨(m.map UInt8.ofNat).toArray⟩ := fun m => by
    show ByteArray.mk ((m.map fun (x : Nat) => (x : Int)).map fun n => UInt8.ofNat n.toNat).toArray = _
    simp [Function.comp_def]
  rw [e, e]
  apply ByteArray.ext
  rw [ByteArray.data_extract]
  apply Array.ext'
  simp [List.map_take, List.map_drop, List.take_drop]
theorem str_to (l : List Nat) (j : Nat) (hj : j ≤ l.length) (z : Int) (hz : z = j) (W : World) : (Instr.slice 9 (.string (str l)) none (some (.int .i64 z)) none).run Tryz.prog W = .ok (.string (str (l.take j))) W := by
  subst hz
  have hs := str_size l
  rw [run_slice_string_to_if W 9 (str l) .i64 j Tryz.underlying9, if_pos ⟨by omega, by omega⟩, Int.toNat_natCast, str_cut l 0 j (by omega) hj]
  simp
theorem str_from (l : List Nat) (i : Nat) (hi : i ≤ l.length) (z : Int) (hz : z = i) (W : World) : (Instr.slice 9 (.string (str l)) (some (.int .i64 z)) none none).run Tryz.prog W = .ok (.string (str (l.drop i))) W := by
  subst hz
  have hs := str_size l
  rw [run_slice_string_from_if W 9 (str l) .i64 i Tryz.underlying9, if_pos ⟨by omega, by omega⟩, Int.toNat_natCast, hs, str_cut l i l.length hi (Nat.le_refl _)]
  rw [List.take_of_length_le (by simp)]
theorem contains_any (g : Nat) (l : List Nat) (c : Nat) (hc : c < 256) (w : World) (hB : Blk w g 242 (marks l)) : Calls Tryz.prog 226 #[.pointer (some ⟨g, 0, none⟩), .int .u8 (c : Int)] w fun e w' => e = .returned (.bool (l.contains c)) ∧ w = w' := by
  have hcell : w.cell? ⟨g, c, none⟩ = some (.bool (l.contains c)) := (hB.cell c).trans (marks_get l c hc)
  generalize l.contains c = b at hcell ⊢
  have hc2 : (c : Int) < 256 := by omega
  have hc3 : (0 : Int) ≤ (c : Int) := by omega
  go_enter Tryz.func226, Tryz.ntmps226
  go_wp2
  go_ret
  exact ⟨rfl, rfl⟩
theorem trimR_any (g : Nat) (cs l : List Nat) (hf : Fit 256 l) (hl : l.length ≤ 1000) (w : World) (hB : Blk w g 242 (marks cs)) : Calls Tryz.prog 218 #[.string (str l), .pointer (some ⟨g, 0, none⟩)] w fun e w' => ∃ k, k ≤ l.length ∧ e = .returned (.string (str (l.take k))) ∧ (∀ j c, k ≤ j → l[j]? = some c → cs.contains c = true) ∧ (∀ c, 0 < k → l[k - 1]? = some c → cs.contains c = false) ∧ w = w' := by
  have HB := Lib.hid hB
  have HF := Lib.hid hf
  clear hB hf
  go_enter Tryz.func218, Tryz.ntmps218
  go_wp2
  go_loopw [0] (fun o wr => ∃ k : Nat, k ≤ l.length ∧ o = .string (str (l.take k)) ∧ (∀ j c, k ≤ j → l[j]? = some c → cs.contains c = true) ∧ w = wr) (fun o _ => match o with | .string s => s.size | _ => 0)
  case atStart => exact ⟨l.length, Nat.le_refl _, by rw [List.take_length], fun j c hj h => by (have := (List.getElem?_eq_some_iff.1 h).1; omega), rfl⟩
  case round =>
    obtain ⟨k, hk, rfl, hall, rfl⟩ := hrel
    have HA := Lib.hid hall
    clear hall
    have hsz : (str (l.take k)).size = k := by rw [str_size, List.length_take]; omega
    rcases k with _ | m
    · obtain ⟨T, hT⟩ : ∃ T, str (l.take 0) = T := ⟨_, rfl⟩
      have HT := Lib.hid hT
      rw [hT] at hsz ⊢
      clear hT
      go_wp2
      go_ret
      exact ⟨0, by omega, by rw [HT.out]; rfl, HA.out, fun c h => absurd h (by omega), rfl⟩
    · obtain ⟨c, hc⟩ : ∃ c, l[m]? = some c := ⟨_, List.getElem?_eq_getElem (by omega)⟩
      have hcf := HF.out c (List.mem_of_getElem? hc)
      obtain ⟨K, hK⟩ : ∃ K, m + 1 = K := ⟨_, rfl⟩
      have hKz : (K : Int) - 1 = (m : Int) := by omega
      have hK0 : (0 : Int) < (K : Int) := by omega
      have hix := fun W => str_index (l.take (m + 1)) m c (HF.out.take _) (by rw [List.getElem?_take, if_pos (by omega)]; exact hc) (m : Int) rfl W
      have hsl := fun W => str_to (l.take (m + 1)) m (by rw [List.length_take]; omega) (m : Int) rfl W
      rw [List.take_take, Nat.min_eq_left (by omega)] at hsl
      obtain ⟨T, hT⟩ : ∃ T, str (l.take (m + 1)) = T := ⟨_, rfl⟩
      obtain ⟨T2, hT2⟩ : ∃ T, str (l.take m) = T := ⟨_, rfl⟩
      have hs2 : T2.size = m := by rw [← hT2, str_size, List.length_take]; omega
      have HS2 := Lib.hid hs2
      have HT := Lib.hid hT
      have HT2 := Lib.hid hT2
      have HC := Lib.hid hc
      have HKK := Lib.hid hK
      rw [hT] at hsz hix hsl ⊢
      rw [hT2] at hsl
      rw [hK] at hsz
      have HSZ := Lib.hid hsz
      clear hT hT2 hc hs2 hK
      obtain ⟨b, hb⟩ : ∃ b, cs.contains c = b := ⟨_, rfl⟩
      have HBB := Lib.hid hb
      clear hb
      have HCA := Lib.hid (contains_any g cs c hcf w HB.out)
      go_wp2_with fail
      refine HCA.out.mono ?_
      rintro e w1 ⟨rfl, rfl⟩
      rw [HBB.out]
      cases b
      · go_wp2
        go_ret
        exact ⟨K, by have := HKK.out; omega, by rw [← HT.out, HKK.out]; rfl, by rw [← HKK.out]; exact HA.out, fun c' h0 h => by rw [← HKK.out, Nat.add_sub_cancel, HC.out] at h; injection h with h; rw [← h]; exact HBB.out, rfl⟩
      · go_wp2
        go_roundw
        case rel =>
          refine ⟨m, by omega, by rw [HT2.out], fun j c' hj h => ?_, trivial⟩
          by_cases e : j = m
          · subst e
            rw [HC.out] at h
            injection h with h
            rw [← h]; exact HBB.out
          · exact HA.out j c' (by omega) h
        case measure =>
          show T2.size < T.size
          rw [HS2.out, HSZ.out]
          have := HKK.out
          omega
theorem trimL_any (g : Nat) (cs l : List Nat) (hf : Fit 256 l) (hl : l.length ≤ 1000) (w : World) (hB : Blk w g 242 (marks cs)) : Calls Tryz.prog 217 #[.string (str l), .pointer (some ⟨g, 0, none⟩)] w fun e w' => ∃ k, k ≤ l.length ∧ e = .returned (.string (str (l.drop k))) ∧ (∀ j c, j < k → l[j]? = some c → cs.contains c = true) ∧ (∀ c, l[k]? = some c → cs.contains c = false) ∧ w = w' := by
  have HB := Lib.hid hB
  have HF := Lib.hid hf
  clear hB hf
  go_enter Tryz.func217, Tryz.ntmps217
  go_wp2
  go_loopw [0] (fun o wr => ∃ k : Nat, k ≤ l.length ∧ o = .string (str (l.drop k)) ∧ (∀ j c, j < k → l[j]? = some c → cs.contains c = true) ∧ w = wr) (fun o _ => match o with | .string s => s.size | _ => 0)
  case atStart => exact ⟨0, Nat.zero_le _, by rw [List.drop_zero], fun j c hj h => absurd hj (Nat.not_lt_zero _), rfl⟩
  case round =>
    obtain ⟨k, hk, rfl, hall, rfl⟩ := hrel
    have HA := Lib.hid hall
    clear hall
    have hsz : (str (l.drop k)).size = l.length - k := by rw [str_size, List.length_drop]
    by_cases hkl : k = l.length
    · subst hkl
      rw [Nat.sub_self] at hsz
      obtain ⟨T, hT⟩ : ∃ T, str (l.drop l.length) = T := ⟨_, rfl⟩
      have HT := Lib.hid hT
      rw [hT] at hsz ⊢
      clear hT
      go_wp2
      go_ret
      exact ⟨l.length, Nat.le_refl _, by rw [HT.out]; rfl, HA.out, fun c h => by (have := (List.getElem?_eq_some_iff.1 h).1; omega), rfl⟩
    · obtain ⟨c, hc⟩ : ∃ c, l[k]? = some c := ⟨_, List.getElem?_eq_getElem (by omega)⟩
      have hcf := HF.out c (List.mem_of_getElem? hc)
      obtain ⟨K, hK⟩ : ∃ K, l.length - k = K := ⟨_, rfl⟩
      have hK0 : (0 : Int) < (K : Int) := by omega
      have hix := fun W => str_index (l.drop k) 0 c (HF.out.drop _) (by rw [List.getElem?_drop, Nat.add_zero]; exact hc) 0 rfl W
      have hsl := fun W => str_from (l.drop k) 1 (by rw [List.length_drop]; omega) 1 rfl W
      rw [List.drop_drop] at hsl
      obtain ⟨T, hT⟩ : ∃ T, str (l.drop k) = T := ⟨_, rfl⟩
      obtain ⟨T2, hT2⟩ : ∃ T, str (l.drop (k + 1)) = T := ⟨_, rfl⟩
      have hs2 : T2.size = K - 1 := by rw [← hT2, str_size, List.length_drop]; omega
      have HS2 := Lib.hid hs2
      have HT := Lib.hid hT
      have HT2 := Lib.hid hT2
      have HC := Lib.hid hc
      have HKK := Lib.hid hK
      rw [hT] at hsz hix hsl ⊢
      rw [hT2] at hsl
      rw [hK] at hsz
      have HSZ := Lib.hid hsz
      clear hT hT2 hc hs2 hK
      obtain ⟨b, hb⟩ : ∃ b, cs.contains c = b := ⟨_, rfl⟩
      have HBB := Lib.hid hb
      clear hb
      have HCA := Lib.hid (contains_any g cs c hcf w HB.out)
      go_wp2_with fail
      refine HCA.out.mono ?_
      rintro e w1 ⟨rfl, rfl⟩
      rw [HBB.out]
      cases b
      · go_wp2
        go_ret
        exact ⟨k, by omega, by rw [← HT.out]; rfl, HA.out, fun c' h => by rw [HC.out] at h; injection h with h; rw [← h]; exact HBB.out, rfl⟩
      · go_wp2
        go_roundw
        case rel =>
          refine ⟨k + 1, by omega, by rw [HT2.out], fun j c' hj h => ?_, trivial⟩
          by_cases e : j = k
          · subst e
            rw [HC.out] at h
            injection h with h
            rw [← h]; exact HBB.out
          · exact HA.out j c' (by omega) h
        case measure =>
          show T2.size < T.size
          rw [HS2.out, HSZ.out]
          omega
theorem ret_cell_tmp {P : Program} {fn : Func} {p u : Tmp} {ty : TypeId} {R : Ending → World → Prop} {a : Act} {w : World} {ad : Addr} {cs : List Value} {d : TypeDesc} (h : fn.results = #[.cell p ty, .tmp u]) (hp : a.tmps.getD p undef = .pointer (some ad)) (hc : At w ad cs)
    (hu : P.underlying ty = some d) (hd : d.isRow = true) (hi : (P.info? ty).map (·.size) = some cs.length) (hdf : a.defers = []) (hR : R (.returned (.tuple #[.agg cs.toArray, a.tmps.getD u undef])) w) : bodyPost P fn R .ret a w := by
  refine bodyPost_ret (v := .tuple #[.agg cs.toArray, a.tmps.getD u undef]) ?_ hdf hR
  rw [results_cell_tmp h, hp]
  have := run_loadVar_at (P := P) (w := w) ad ty cs d hc hu hd hi
  simp [asAddr, Result.andThen, this]
set_option maxHeartbeats 1000000 in
theorem makeASCII_any (l : List Nat) (hf : Fit 128 l) (hl : l.length ≤ 100) (w : World) : Calls Tryz.prog 216 #[.string (str l)] w fun e w' => e = .returned (.tuple #[.agg (marks l).toArray, .bool true]) ∧ Below w.heap.size w w' := by
  have hz := zeroSet
  have hsz := str_size l
  have HF := Lib.hid hf
  obtain ⟨n, hn⟩ : ∃ n, l.length = n := ⟨_, rfl⟩
  rw [hn] at hsz hl
  have HN := Lib.hid hn
  obtain ⟨T, hT⟩ : ∃ T, str l = T := ⟨_, rfl⟩
  have HIX : Hid (∀ (i c : Nat), l[i]? = some c → ∀ W, (Instr.index 9 (.string T) (.int .i64 (i : Int))).run Tryz.prog W = .ok (.int .u8 (c : Int)) W) := fun i c h W => by rw [← hT]; exact str_index l i c (fun d hd => by have := hf d hd; omega) h i rfl W
  rw [hT] at hsz ⊢
  clear hf hn hT
  have hb0 : Below w.heap.size w (w.alloc (.cells (marks []).toArray 242)) := (Below.refl _ _).alloc (Nat.le_refl _) _
  have HB0 : Hid (Below w.heap.size w (w.alloc (.cells (marks []).toArray 242)) ∧ Blk (w.alloc (.cells (marks []).toArray 242)) w.heap.size 242 (marks [])) := ⟨hb0, Blk.new w _ _⟩
  generalize hm0 : (marks []).toArray = m0 at hz HB0
  clear hb0
  go_enter Tryz.func216, Tryz.ntmps216
  go_wp2
  generalize w.alloc (.cells m0 242) = w1 at HB0 ⊢
  go_loopw [4] (fun o wr => ∃ i : Nat, i ≤ n ∧ o = .int .i64 (i : Int) ∧ Hid (Below w.heap.size w wr ∧ Blk wr w.heap.size 242 (marks (l.take i)))) (fun o _ => n - (intOf o).toNat)
  case atStart => exact ⟨0, Nat.zero_le _, rfl, by rw [List.take_zero]; exact HB0⟩
  case round =>
    obtain ⟨i, hi, rfl, HB⟩ := hrel
    by_cases hin : i < n
    · obtain ⟨c, hc⟩ : ∃ c, l[i]? = some c := ⟨_, List.getElem?_eq_getElem (by rw [HN.out]; exact hin)⟩
      have hc1 := HF.out c (List.mem_of_getElem? hc)
      have hix := HIX.out i c hc
      have hcb : ¬ (128 : Int) ≤ (c : Int) := by omega
      have hcc : wr.cell? ⟨w.heap.size, c, none⟩ = some (.bool ((l.take i).contains c)) := (HB.out.2.cell c).trans (marks_get _ c (by omega))
      have hcf : wr.frozen? ⟨w.heap.size, c, none⟩ = false := HB.out.2.frozen c
      have hc2 : (c : Int) < 256 := by omega
      have hin2 : (i : Int) < (n : Int) := by omega
      have HNX : Hid (Blk (wr.setCell ⟨w.heap.size, c, none⟩ (.bool true)) w.heap.size 242 (marks (l.take (i + 1)))) := by
        have := HB.out.2.set_ c (.bool true)
        rw [marks_set _ c (by omega)] at this
        have e : l.take (i + 1) = l.take i ++ [c] := by
          obtain ⟨hi', rfl⟩ := List.getElem?_eq_some_iff.1 hc
          rw [List.take_succ_eq_append_getElem hi']
        rw [e]
        exact this
      have HC := Lib.hid hc
      clear hc
      go_wp2
      go_roundw
      case rel => exact ⟨i + 1, by omega, by go_num, HB.out.1.setCell (Nat.le_refl _) _, HNX.out⟩
      case measure => simp [intOf]; omega
    · obtain rfl : i = n := by omega
      have hall : l.take i = l := by rw [List.take_of_length_le (by rw [HN.out]; exact Nat.le_refl _)]
      rw [hall] at HB
      have hAt := HB.out.2.at
      obtain ⟨d0, hu0, hd0⟩ := uSet
      go_wp2_with (first
        | ((with_reducible refine at_dst (some 20) ?_); refine wpList_loadAt (op := ⟨some 20, _, _, _, _, _⟩) rfl 242 (.tmp 2) rfl ⟨w.heap.size, 0, none⟩ rfl (marks l) d0 hAt hu0 hd0 (by rw [marks_length]; exact infoSet) ?_)
        | ((with_reducible refine at_dst none ?_); refine wpList_storeBlk (op := ⟨none, _, _, _, _, _⟩) rfl 242 (.tmp 2) (.tmp 20) rfl (g := w.heap.size) (t := 242) (old := marks l) (cs := marks l) rfl rfl HB.out.2 rfl (by rw [marks_length]; exact infoSet) (marks_one l) ?_; intro w' hB' ht'))
      refine ret_cell_tmp rfl rfl hB'.out.at hu0 hd0 (by rw [marks_length]; exact infoSet) rfl ⟨rfl, HB.out.1.trans (ht'.below (by simp) HB.out.1.size)⟩
end Go.Proofs.YtlcoebenkhafcaaGreatDoor
namespace Go.Proofs.YtlcoebenkhafcaaGreatDoor
open Go.RowKit
set_option linter.unusedVariables false
set_option linter.unusedSimpArgs false
set_option maxRecDepth 100000
theorem str_abc : str abc = ⟨#[97, 98, 99, 100, 101, 102, 103, 104, 105, 106, 107, 108, 109, 110, 111, 112, 113, 114, 115, 116, 117, 118, 119, 120, 121, 122, 48, 49, 50, 51, 52, 53, 54, 55, 56, 57, 95]⟩ := by rfl
theorem str_empty {l : List Nat} (h : l ≠ []) : ((str l).toList == ([] : List UInt8)) = false := by
  rw [str_toList]
  cases l with
  | nil => exact absurd rfl h
  | cons a r => rfl
set_option maxHeartbeats 1000000 in
theorem TrimS_any (l : List Nat) (hf : Fit 256 l) (h0 : l ≠ []) (hl : l.length ≤ 1000) (w : World) : Calls Tryz.prog 202 #[.string (str l), .string (str abc)] w fun e w' => ∃ m, e = .returned (.string (str m)) ∧ (m = [] ↔ l.all letter = true) ∧ Below w.heap.size w w' := by
  have hz := zeroSet
  have e0 := str_empty h0
  have eA := str_empty (l := abc) (by decide)
  have sA : (str abc).size = 37 := rfl
  have HF := Lib.hid hf
  have HM := Lib.hid (makeASCII_any abc (by unfold Fit; decide) (by decide) w)
  obtain ⟨T, hT⟩ : ∃ T, str l = T := ⟨_, rfl⟩
  have HT := Lib.hid hT
  obtain ⟨C, hC⟩ : ∃ C, str abc = C := ⟨_, rfl⟩
  rw [hT] at e0 ⊢
  rw [hC] at eA sA HM ⊢
  clear hT hC hf
  generalize hmz : (marks []).toArray = mz at hz
  go_enter Tryz.func202, Tryz.ntmps202
  go_wp2_with fail
  refine HM.out.mono ?_
  rintro e w1 ⟨rfl, hb1⟩
  have HB1 := Lib.hid hb1
  have HZB : Hid (Blk (w1.alloc (.cells mz 242)) w1.heap.size 242 (marks []) ∧ Below w.heap.size w (w1.alloc (.cells mz 242))) := by
    rw [← hmz]
    exact ⟨Blk.new _ _ _, hb1.alloc hb1.size _⟩
  clear hb1 hmz
  obtain ⟨G, hG⟩ : ∃ G, w1.heap.size = G := ⟨_, rfl⟩
  rw [hG] at HZB
  have hGle : Hid (w.heap.size ≤ G) := by show _ ≤ _; rw [← hG]; exact HB1.out.size
  go_wp2_with ((with_reducible refine at_dst none ?_); refine wpList_storeBlk (op := ⟨none, _, _, _, _, _⟩) rfl 242 (.tmp 5) (.tmp 32) rfl (g := G) (t := 242) (old := marks []) (cs := marks abc) rfl rfl HZB.out.1 rfl (by rw [marks_length]; exact infoSet) (marks_one abc) ?_; intro w2 hB2 ht2)
  have HW2 : Hid (Below w.heap.size w w2) := HZB.out.2.trans (ht2.below (fun x hx => by rw [List.mem_singleton.1 hx]; exact hGle.out) HZB.out.2.size)
  have HR := trimR_any G abc l HF.out hl w2 hB2.out
  rw [HT.out] at HR
  refine HR.mono ?_
  rintro e w3 ⟨k, hk, rfl, h1, h2, rfl⟩
  have H1 := Lib.hid h1
  have H2 := Lib.hid h2
  clear h1 h2 HR ht2
  have HL := Lib.hid (trimL_any G abc (l.take k) (HF.out.take k) (by rw [List.length_take]; omega) w2 hB2.out)
  obtain ⟨T2, hT2⟩ : ∃ T, str (l.take k) = T := ⟨_, rfl⟩
  rw [hT2] at HL ⊢
  clear hT2
  go_wp2_with fail
  refine HL.out.mono ?_
  rintro e w3 ⟨j, hj, rfl, h3, h4, rfl⟩
  have H3 := Lib.hid h3
  have H4 := Lib.hid h4
  clear h3 h4
  obtain ⟨T3, hT3⟩ : ∃ T, str ((l.take k).drop j) = T := ⟨_, rfl⟩
  have HT3 := Lib.hid hT3
  rw [hT3]
  clear hT3
  go_wp2
  go_ret
  refine ⟨(l.take k).drop j, by rw [HT3.out]; rfl, ?_, HW2.out⟩
  rw [List.length_take] at hj
  have hlet : ∀ (i c : Nat), l[i]? = some c → abc.contains c = letter c := fun i c h => abc_letter c (HF.out c (List.mem_of_getElem? h))
  constructor
  · intro hm
    have hjk : k ≤ j := by
      have := congrArg List.length hm
      simp only [List.length_drop, List.length_take, List.length_nil] at this
      omega
    rw [List.all_eq_true]
    intro c hc
    obtain ⟨i, hi, rfl⟩ := List.getElem_of_mem hc
    have hg := List.getElem?_eq_getElem hi
    rw [← hlet i _ hg]
    rcases Nat.lt_or_ge i k with hik | hik
    · exact H3.out i _ (by omega) (by rw [List.getElem?_take, if_pos hik]; exact hg)
    · exact H1.out i _ hik hg
  · intro hall
    rw [List.all_eq_true] at hall
    rcases Nat.lt_or_ge j k with hjk | hjk
    · exfalso
      have hjl : j < l.length := by omega
      have hg := List.getElem?_eq_getElem hjl
      have := H4.out l[j] (by rw [List.getElem?_take, if_pos hjk]; exact hg)
      rw [hlet j _ hg, hall _ (List.getElem_mem hjl)] at this
      cases this
    · rw [List.drop_eq_nil_of_le (by rw [List.length_take]; omega)]
set_option maxHeartbeats 1000000 in
theorem isName_any (l : List Nat) (hf : Fit 256 l) (w : World) : Calls Tryz.prog 180 #[.string (str l)] w fun e w' => e = .returned (.bool (decide (Named l))) ∧ Below w.heap.size w w' := by
  have hsz := str_size l
  have HF := Lib.hid hf
  have eN : decide (Named l) = decide (1 ≤ l.length ∧ l.length ≤ 24 ∧ l.all letter = true) := decide_eq_decide.2 (by unfold Named; exact Iff.rfl)
  rw [eN]
  clear eN hf
  have HTR : Hid (1 ≤ l.length → l.length ≤ 24 → Calls Tryz.prog 202 #[.string (str l), .string (str abc)] w fun e w' => ∃ m, e = .returned (.string (str m)) ∧ (m = [] ↔ l.all letter = true) ∧ Below w.heap.size w w') := fun h1 h2 => TrimS_any l HF.out (fun e => by rw [e] at h1; simp at h1) (by omega) w
  rw [str_abc] at HTR
  obtain ⟨n, hn⟩ : ∃ n, l.length = n := ⟨_, rfl⟩
  rw [hn] at hsz HTR ⊢
  clear hn
  obtain ⟨T, hT⟩ : ∃ T, str l = T := ⟨_, rfl⟩
  rw [hT] at hsz HTR ⊢
  clear hT
  by_cases h1 : 1 ≤ n
  · have z1 : (1 : Int) ≤ (n : Int) := by omega
    by_cases h2 : n ≤ 24
    · have z2 : (n : Int) ≤ 24 := by omega
      have HC := Lib.hid (HTR.out h1 h2)
      go_enter Tryz.func180, Tryz.ntmps180
      go_wp2_with fail
      refine HC.out.mono ?_
      rintro e w2 ⟨m, rfl, hm, hb2⟩
      have HB := Lib.hid hb2
      have HMM := Lib.hid hm
      clear hb2 hm HC HTR
      by_cases hall : l.all letter = true
      · have hme := HMM.out.2 hall
        have e1 : ((str m).toList == ([] : List UInt8)) = true := by rw [hme, str_toList]; rfl
        have E := Lib.hid (decide_eq_true (p := 1 ≤ n ∧ n ≤ 24 ∧ l.all letter = true) ⟨h1, h2, hall⟩)
        clear hme
        go_wp2
        go_ret
        exact ⟨by rw [E.out]; first | rfl | simp [*], HB.out⟩
      · have hme : m ≠ [] := fun e => hall (HMM.out.1 e)
        have e1 := str_empty hme
        have E := Lib.hid (decide_eq_false (p := 1 ≤ n ∧ n ≤ 24 ∧ l.all letter = true) (fun h => hall h.2.2))
        clear hme
        go_wp2
        go_ret
        exact ⟨by rw [E.out]; first | rfl | simp [*], HB.out⟩
    · have z2 : ¬ (n : Int) ≤ 24 := by omega
      rw [decide_eq_false (fun h => h2 h.2.1)]
      clear HTR
      go_enter Tryz.func180, Tryz.ntmps180
      go_wp2
      go_ret
      exact ⟨by first | rfl | simp [*], Below.refl _ _⟩
  · have z1 : ¬ (1 : Int) ≤ (n : Int) := by omega
    rw [decide_eq_false (fun h => h1 h.1)]
    clear HTR
    go_enter Tryz.func180, Tryz.ntmps180
    go_wp2
    go_ret
    exact ⟨by first | rfl | simp [*], Below.refl _ _⟩
end Go.Proofs.YtlcoebenkhafcaaGreatDoor
