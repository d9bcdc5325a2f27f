/-
  What namedRight answers. No condition but that lengths are the texts'.
-/
import Derived.Test.YtlcoebenkhafcaaGreatDoorZ10
namespace Go.Proofs.YtlcoebenkhafcaaGreatDoor
open Go.RowKit
set_option linter.unusedVariables false
set_option linter.unusedSimpArgs false
set_option maxRecDepth 100000
section
variable {P : Program} {ops : Array Oper} {rest : List Oper} {op : Oper} {a : Act} {w : World} {Q : Exit → Act → World → Prop}
theorem wpList_loadAtG (hg : Region.wanted op (yielded ops a.tmps) = true) (ty : TypeId) (x : Operand) (ho : op.op = .load ty x) (p : Addr) (hx : a.eval x = .pointer (some p)) (cs : List Value) (d : TypeDesc) (hc : At w p cs)
    (hu : P.underlying ty = some d) (hd : d.isRow = true) (hi : (P.info? ty).map (·.size) = some cs.length) (h : wpList P ops Q rest (a.put op.dst (.agg cs.toArray)) w) : wpList P ops Q (op :: rest) a w := by
  unfold wpList
  rw [if_pos hg]
  refine .inl ?_
  unfold Oper.wp execOp
  simp only [ho, hx, Instr.loadAt, Instr.sureAddr, Sem.run_bind, Sem.run_pure, Result.andThen_ok, run_loadVar_at p ty cs d hc hu hd hi]
  exact h
end
structure Bx (w : World) (g : Nat) (ty : TypeId) (x : Dx) (W : World) : Prop where
  below : Below w.heap.size w W
  ge : w.heap.size ≤ g
  lt : g < W.heap.size
  blk : Blk W g ty x.cells
theorem Bx.new {w : World} {ty : TypeId} {x : Dx} {W : World} (h : w.alloc (.cells x.cells.toArray ty) = W) : Bx w w.heap.size ty x W := by
  subst h
  exact ⟨(Below.refl _ _).alloc (Nat.le_refl _) _, Nat.le_refl _, by simp, Blk.new _ _ _⟩
theorem Bx.next {w : World} {g : Nat} {ty : TypeId} {x : Dx} {W W2 : World} (h : Bx w g ty x W) (hb : Below W.heap.size W W2) : Bx w g ty x W2 :=
  ⟨h.below.trans (hb.mono h.below.size), h.ge, Nat.lt_of_lt_of_le h.lt hb.size, h.blk.below hb h.lt⟩
def NRight (d : De) : Prop :=
  (d.kind = 0 ∧ Named d.name ∧ d.value.length ≤ 256)
  ∨ (d.kind = 1 ∧ TreeOk d ∧ Named d.name ∧ Summed d ∧ 0 ≤ d.size ∧ d.size ≤ 1099511627776)
  ∨ (d.kind = 2 ∧ Named d.name ∧ Summed d ∧ 0 ≤ d.size ∧ d.size ≤ 1099511627776)
  ∨ (d.kind = 3 ∧ d.value.length ≤ 256)
  ∨ (d.kind = 4 ∧ Named d.name ∧ (1 ≤ d.key.length ∧ d.key.length ≤ 1032) ∧ 1 ≤ d.loc ∧ d.loc < 32)
instance (d : De) : Decidable (NRight d) := by unfold NRight; exact inferInstance
set_option maxHeartbeats 1000000 in
theorem named0 (x : Dx) (hx : Hds x) (hf : Fit 256 x.d.name) (w : World) (hk : x.d.kind = 0) : Calls Tryz.prog 148 #[x.val] w fun e w' => e = .returned (.bool (decide (NRight x.d))) ∧ Below w.heap.size w w' := by
  have eS : decide (NRight x.d) = decide (Named x.d.name ∧ x.s4.n ≤ 256) := decide_eq_decide.2 (by unfold NRight; rw [hk, hx.value]; simp)
  rw [eS]
  clear eS
  unfold Dx.val
  obtain ⟨W, hW⟩ : ∃ W, w.alloc (.cells x.cells.toArray 71) = W := ⟨_, rfl⟩
  have X := Lib.hid (Bx.new hW)
  have c0 : W.cell? ⟨w.heap.size, 0, none⟩ = some (.int .i64 x.d.kind) := X.out.blk.cell 0
  have c6 : W.cell? ⟨w.heap.size, 6, none⟩ = some (.string (str x.d.name)) := X.out.blk.cell 6
  have c10 : W.cell? ⟨w.heap.size, 10, none⟩ = some (.slice x.s4.A x.s4.n x.s4.cap) := X.out.blk.cell 10
  rw [hk] at c0
  have HX := Lib.hid hx
  have HF := Lib.hid hf
  clear hx hf hk
  by_cases hh0 : Named x.d.name
  · skip
    have E0 := Lib.hid (decide_eq_true (p := Named x.d.name) hh0)
    by_cases hh1 : x.s4.n ≤ 256
    · skip
      have z1 : (x.s4.n : Int) ≤ 256 := by omega
      rw [decide_eq_true ⟨hh0, hh1⟩]
      clear hh0 hh1
      go_enter Tryz.func148, Tryz.ntmps148
      go_wp2_with fail
      refine (isName_any x.d.name HF.out _).mono ?_
      rintro e w2 ⟨rfl, hbw2⟩
      rw [E0.out]
      have X2 := Lib.hid (X.out.next hbw2)
      have cw2_10 : w2.cell? ⟨w.heap.size, 10, none⟩ = some (.slice x.s4.A x.s4.n x.s4.cap) := X2.out.blk.cell 10
      clear hbw2
      go_wp2
      go_ret
      exact ⟨by first | rfl | simp [*], X2.out.below⟩
    · skip
      have z1 : ¬ (x.s4.n : Int) ≤ 256 := by omega
      rw [decide_eq_false (fun h => hh1 h.2)]
      clear hh0 hh1
      go_enter Tryz.func148, Tryz.ntmps148
      go_wp2_with fail
      refine (isName_any x.d.name HF.out _).mono ?_
      rintro e w2 ⟨rfl, hbw2⟩
      rw [E0.out]
      have X2 := Lib.hid (X.out.next hbw2)
      have cw2_10 : w2.cell? ⟨w.heap.size, 10, none⟩ = some (.slice x.s4.A x.s4.n x.s4.cap) := X2.out.blk.cell 10
      clear hbw2
      go_wp2
      go_ret
      exact ⟨by first | rfl | simp [*], X2.out.below⟩
  · skip
    have E0 := Lib.hid (decide_eq_false (p := Named x.d.name) hh0)
    rw [decide_eq_false (fun h => hh0 h.1)]
    clear hh0
    go_enter Tryz.func148, Tryz.ntmps148
    go_wp2_with fail
    refine (isName_any x.d.name HF.out _).mono ?_
    rintro e w2 ⟨rfl, hbw2⟩
    rw [E0.out]
    have X2 := Lib.hid (X.out.next hbw2)
    have cw2_10 : w2.cell? ⟨w.heap.size, 10, none⟩ = some (.slice x.s4.A x.s4.n x.s4.cap) := X2.out.blk.cell 10
    clear hbw2
    go_wp2
    go_ret
    exact ⟨by first | rfl | simp [*], X2.out.below⟩
set_option maxHeartbeats 1000000 in
theorem named2 (x : Dx) (hx : Hds x) (hf : Fit 256 x.d.name) (w : World) (hk : x.d.kind = 2) : Calls Tryz.prog 148 #[x.val] w fun e w' => e = .returned (.bool (decide (NRight x.d))) ∧ Below w.heap.size w w' := by
  have eS : decide (NRight x.d) = decide (Named x.d.name ∧ Summed x.d ∧ 0 ≤ x.d.size ∧ x.d.size ≤ 1099511627776) := decide_eq_decide.2 (by unfold NRight; rw [hk]; simp)
  rw [eS]
  clear eS
  obtain ⟨d0, hu0, hd0⟩ := uD
  unfold Dx.val
  obtain ⟨W, hW⟩ : ∃ W, w.alloc (.cells x.cells.toArray 71) = W := ⟨_, rfl⟩
  have X := Lib.hid (Bx.new hW)
  have c0 : W.cell? ⟨w.heap.size, 0, none⟩ = some (.int .i64 x.d.kind) := X.out.blk.cell 0
  have c6 : W.cell? ⟨w.heap.size, 6, none⟩ = some (.string (str x.d.name)) := X.out.blk.cell 6
  rw [hk] at c0
  have HX := Lib.hid hx
  have HF := Lib.hid hf
  clear hx hf hk
  by_cases hh0 : Named x.d.name
  · skip
    have E0 := Lib.hid (decide_eq_true (p := Named x.d.name) hh0)
    by_cases hh1 : Summed x.d
    · skip
      have E1 := Lib.hid (decide_eq_true (p := Summed x.d) hh1)
      by_cases hh2 : 0 ≤ x.d.size
      · skip
        have z2 : 0 ≤ x.d.size := hh2
        by_cases hh3 : x.d.size ≤ 1099511627776
        · skip
          have z3 : x.d.size ≤ 1099511627776 := hh3
          rw [decide_eq_true ⟨hh0, hh1, hh2, hh3⟩]
          clear hh0 hh1 hh2 hh3
          go_enter Tryz.func148, Tryz.ntmps148
          go_wp2_with fail
          refine (isName_any x.d.name HF.out _).mono ?_
          rintro e w2 ⟨rfl, hbw2⟩
          rw [E0.out]
          have X2 := Lib.hid (X.out.next hbw2)
          have cw2_2 : w2.cell? ⟨w.heap.size, 2, none⟩ = some (.int .i64 x.d.size) := X2.out.blk.cell 2
          clear hbw2
          go_wp2_with ((with_reducible refine at_dst (some 31) ?_); refine wpList_loadAtG (op := ⟨some 31, _, _, _, _, _⟩) (want_some rfl rfl rfl rfl) 71 (.tmp 1) rfl ⟨w.heap.size, 0, none⟩ rfl x.cells d0 X2.out.blk.at hu0 hd0 iD ?_)
          refine (sumRight_any x HX.out _).mono ?_
          rintro e w3 ⟨rfl, hbw3⟩
          rw [E1.out]
          have X3 := Lib.hid (X2.out.next hbw3)
          have cw3_2 : w3.cell? ⟨w.heap.size, 2, none⟩ = some (.int .i64 x.d.size) := X3.out.blk.cell 2
          clear hbw3 cw2_2
          go_wp2
          go_ret
          exact ⟨by first | rfl | simp [*], by first | exact X3.out.below | exact X2.out.below⟩
        · skip
          have z3 : ¬ x.d.size ≤ 1099511627776 := hh3
          rw [decide_eq_false (fun h => hh3 h.2.2.2)]
          clear hh0 hh1 hh2 hh3
          go_enter Tryz.func148, Tryz.ntmps148
          go_wp2_with fail
          refine (isName_any x.d.name HF.out _).mono ?_
          rintro e w2 ⟨rfl, hbw2⟩
          rw [E0.out]
          have X2 := Lib.hid (X.out.next hbw2)
          have cw2_2 : w2.cell? ⟨w.heap.size, 2, none⟩ = some (.int .i64 x.d.size) := X2.out.blk.cell 2
          clear hbw2
          go_wp2_with ((with_reducible refine at_dst (some 31) ?_); refine wpList_loadAtG (op := ⟨some 31, _, _, _, _, _⟩) (want_some rfl rfl rfl rfl) 71 (.tmp 1) rfl ⟨w.heap.size, 0, none⟩ rfl x.cells d0 X2.out.blk.at hu0 hd0 iD ?_)
          refine (sumRight_any x HX.out _).mono ?_
          rintro e w3 ⟨rfl, hbw3⟩
          rw [E1.out]
          have X3 := Lib.hid (X2.out.next hbw3)
          have cw3_2 : w3.cell? ⟨w.heap.size, 2, none⟩ = some (.int .i64 x.d.size) := X3.out.blk.cell 2
          clear hbw3 cw2_2
          go_wp2
          go_ret
          exact ⟨by first | rfl | simp [*], by first | exact X3.out.below | exact X2.out.below⟩
      · skip
        have z2 : ¬ 0 ≤ x.d.size := hh2
        rw [decide_eq_false (fun h => hh2 h.2.2.1)]
        clear hh0 hh1 hh2
        go_enter Tryz.func148, Tryz.ntmps148
        go_wp2_with fail
        refine (isName_any x.d.name HF.out _).mono ?_
        rintro e w2 ⟨rfl, hbw2⟩
        rw [E0.out]
        have X2 := Lib.hid (X.out.next hbw2)
        have cw2_2 : w2.cell? ⟨w.heap.size, 2, none⟩ = some (.int .i64 x.d.size) := X2.out.blk.cell 2
        clear hbw2
        go_wp2_with ((with_reducible refine at_dst (some 31) ?_); refine wpList_loadAtG (op := ⟨some 31, _, _, _, _, _⟩) (want_some rfl rfl rfl rfl) 71 (.tmp 1) rfl ⟨w.heap.size, 0, none⟩ rfl x.cells d0 X2.out.blk.at hu0 hd0 iD ?_)
        refine (sumRight_any x HX.out _).mono ?_
        rintro e w3 ⟨rfl, hbw3⟩
        rw [E1.out]
        have X3 := Lib.hid (X2.out.next hbw3)
        have cw3_2 : w3.cell? ⟨w.heap.size, 2, none⟩ = some (.int .i64 x.d.size) := X3.out.blk.cell 2
        clear hbw3 cw2_2
        go_wp2
        go_ret
        exact ⟨by first | rfl | simp [*], by first | exact X3.out.below | exact X2.out.below⟩
    · skip
      have E1 := Lib.hid (decide_eq_false (p := Summed x.d) hh1)
      rw [decide_eq_false (fun h => hh1 h.2.1)]
      clear hh0 hh1
      go_enter Tryz.func148, Tryz.ntmps148
      go_wp2_with fail
      refine (isName_any x.d.name HF.out _).mono ?_
      rintro e w2 ⟨rfl, hbw2⟩
      rw [E0.out]
      have X2 := Lib.hid (X.out.next hbw2)
      have cw2_2 : w2.cell? ⟨w.heap.size, 2, none⟩ = some (.int .i64 x.d.size) := X2.out.blk.cell 2
      clear hbw2
      go_wp2_with ((with_reducible refine at_dst (some 31) ?_); refine wpList_loadAtG (op := ⟨some 31, _, _, _, _, _⟩) (want_some rfl rfl rfl rfl) 71 (.tmp 1) rfl ⟨w.heap.size, 0, none⟩ rfl x.cells d0 X2.out.blk.at hu0 hd0 iD ?_)
      refine (sumRight_any x HX.out _).mono ?_
      rintro e w3 ⟨rfl, hbw3⟩
      rw [E1.out]
      have X3 := Lib.hid (X2.out.next hbw3)
      have cw3_2 : w3.cell? ⟨w.heap.size, 2, none⟩ = some (.int .i64 x.d.size) := X3.out.blk.cell 2
      clear hbw3 cw2_2
      go_wp2
      go_ret
      exact ⟨by first | rfl | simp [*], by first | exact X3.out.below | exact X2.out.below⟩
  · skip
    have E0 := Lib.hid (decide_eq_false (p := Named x.d.name) hh0)
    rw [decide_eq_false (fun h => hh0 h.1)]
    clear hh0
    go_enter Tryz.func148, Tryz.ntmps148
    go_wp2_with fail
    refine (isName_any x.d.name HF.out _).mono ?_
    rintro e w2 ⟨rfl, hbw2⟩
    rw [E0.out]
    have X2 := Lib.hid (X.out.next hbw2)
    have cw2_2 : w2.cell? ⟨w.heap.size, 2, none⟩ = some (.int .i64 x.d.size) := X2.out.blk.cell 2
    clear hbw2
    go_wp2
    go_ret
    exact ⟨by first | rfl | simp [*], by first | exact X3.out.below | exact X2.out.below⟩
set_option maxHeartbeats 2000000 in
theorem named1 (x : Dx) (hx : Hds x) (hf : Fit 256 x.d.name) (w : World) (hk : x.d.kind = 1) : Calls Tryz.prog 148 #[x.val] w fun e w' => e = .returned (.bool (decide (NRight x.d))) ∧ Below w.heap.size w w' := by
  have eS : decide (NRight x.d) = decide (TreeOk x.d ∧ Named x.d.name ∧ Summed x.d ∧ 0 ≤ x.d.size ∧ x.d.size ≤ 1099511627776) := decide_eq_decide.2 (by unfold NRight; rw [hk]; simp)
  rw [eS]
  clear eS
  obtain ⟨d0, hu0, hd0⟩ := uD
  unfold Dx.val
  obtain ⟨W, hW⟩ : ∃ W, w.alloc (.cells x.cells.toArray 71) = W := ⟨_, rfl⟩
  have X := Lib.hid (Bx.new hW)
  have c0 : W.cell? ⟨w.heap.size, 0, none⟩ = some (.int .i64 x.d.kind) := X.out.blk.cell 0
  rw [hk] at c0
  have HX := Lib.hid hx
  have HF := Lib.hid hf
  clear hx hf hk
  by_cases hh0 : TreeOk x.d
  · skip
    have E0 := Lib.hid (decide_eq_true (p := TreeOk x.d) hh0)
    by_cases hh1 : Named x.d.name
    · skip
      have E1 := Lib.hid (decide_eq_true (p := Named x.d.name) hh1)
      by_cases hh2 : Summed x.d
      · skip
        have E2 := Lib.hid (decide_eq_true (p := Summed x.d) hh2)
        by_cases hh3 : 0 ≤ x.d.size
        · skip
          have z3 : 0 ≤ x.d.size := hh3
          by_cases hh4 : x.d.size ≤ 1099511627776
          · skip
            have z4 : x.d.size ≤ 1099511627776 := hh4
            rw [decide_eq_true ⟨hh0, hh1, hh2, hh3, hh4⟩]
            clear hh0 hh1 hh2 hh3 hh4
            go_enter Tryz.func148, Tryz.ntmps148
            go_wp2_with ((with_reducible refine at_dst (some 24) ?_); refine wpList_loadAt (op := ⟨some 24, _, _, _, _, _⟩) rfl 71 (.tmp 1) rfl ⟨w.heap.size, 0, none⟩ rfl x.cells d0 X.out.blk.at hu0 hd0 iD ?_)
            refine (treeRight_any x _).mono ?_
            rintro e w1 ⟨rfl, hbw1⟩
            rw [E0.out]
            have X1 := Lib.hid (X.out.next hbw1)
            have cw1_6 : w1.cell? ⟨w.heap.size, 6, none⟩ = some (.string (str x.d.name)) := X1.out.blk.cell 6
            clear hbw1 c0
            go_wp2_with fail
            refine (isName_any x.d.name HF.out _).mono ?_
            rintro e w2 ⟨rfl, hbw2⟩
            rw [E1.out]
            have X2 := Lib.hid (X1.out.next hbw2)
            have cw2_2 : w2.cell? ⟨w.heap.size, 2, none⟩ = some (.int .i64 x.d.size) := X2.out.blk.cell 2
            clear hbw2
            go_wp2_with ((with_reducible refine at_dst (some 31) ?_); refine wpList_loadAtG (op := ⟨some 31, _, _, _, _, _⟩) (want_some rfl rfl rfl rfl) 71 (.tmp 1) rfl ⟨w.heap.size, 0, none⟩ rfl x.cells d0 X2.out.blk.at hu0 hd0 iD ?_)
            refine (sumRight_any x HX.out _).mono ?_
            rintro e w3 ⟨rfl, hbw3⟩
            rw [E2.out]
            have X3 := Lib.hid (X2.out.next hbw3)
            have cw3_2 : w3.cell? ⟨w.heap.size, 2, none⟩ = some (.int .i64 x.d.size) := X3.out.blk.cell 2
            clear hbw3 cw2_2
            go_wp2
            go_ret
            exact ⟨by first | rfl | simp [*], by first | exact X3.out.below | exact X2.out.below | exact X1.out.below⟩
          · skip
            have z4 : ¬ x.d.size ≤ 1099511627776 := hh4
            rw [decide_eq_false (fun h => hh4 h.2.2.2.2)]
            clear hh0 hh1 hh2 hh3 hh4
            go_enter Tryz.func148, Tryz.ntmps148
            go_wp2_with ((with_reducible refine at_dst (some 24) ?_); refine wpList_loadAt (op := ⟨some 24, _, _, _, _, _⟩) rfl 71 (.tmp 1) rfl ⟨w.heap.size, 0, none⟩ rfl x.cells d0 X.out.blk.at hu0 hd0 iD ?_)
            refine (treeRight_any x _).mono ?_
            rintro e w1 ⟨rfl, hbw1⟩
            rw [E0.out]
            have X1 := Lib.hid (X.out.next hbw1)
            have cw1_6 : w1.cell? ⟨w.heap.size, 6, none⟩ = some (.string (str x.d.name)) := X1.out.blk.cell 6
            clear hbw1 c0
            go_wp2_with fail
            refine (isName_any x.d.name HF.out _).mono ?_
            rintro e w2 ⟨rfl, hbw2⟩
            rw [E1.out]
            have X2 := Lib.hid (X1.out.next hbw2)
            have cw2_2 : w2.cell? ⟨w.heap.size, 2, none⟩ = some (.int .i64 x.d.size) := X2.out.blk.cell 2
            clear hbw2
            go_wp2_with ((with_reducible refine at_dst (some 31) ?_); refine wpList_loadAtG (op := ⟨some 31, _, _, _, _, _⟩) (want_some rfl rfl rfl rfl) 71 (.tmp 1) rfl ⟨w.heap.size, 0, none⟩ rfl x.cells d0 X2.out.blk.at hu0 hd0 iD ?_)
            refine (sumRight_any x HX.out _).mono ?_
            rintro e w3 ⟨rfl, hbw3⟩
            rw [E2.out]
            have X3 := Lib.hid (X2.out.next hbw3)
            have cw3_2 : w3.cell? ⟨w.heap.size, 2, none⟩ = some (.int .i64 x.d.size) := X3.out.blk.cell 2
            clear hbw3 cw2_2
            go_wp2
            go_ret
            exact ⟨by first | rfl | simp [*], by first | exact X3.out.below | exact X2.out.below | exact X1.out.below⟩
        · skip
          have z3 : ¬ 0 ≤ x.d.size := hh3
          rw [decide_eq_false (fun h => hh3 h.2.2.2.1)]
          clear hh0 hh1 hh2 hh3
          go_enter Tryz.func148, Tryz.ntmps148
          go_wp2_with ((with_reducible refine at_dst (some 24) ?_); refine wpList_loadAt (op := ⟨some 24, _, _, _, _, _⟩) rfl 71 (.tmp 1) rfl ⟨w.heap.size, 0, none⟩ rfl x.cells d0 X.out.blk.at hu0 hd0 iD ?_)
          refine (treeRight_any x _).mono ?_
          rintro e w1 ⟨rfl, hbw1⟩
          rw [E0.out]
          have X1 := Lib.hid (X.out.next hbw1)
          have cw1_6 : w1.cell? ⟨w.heap.size, 6, none⟩ = some (.string (str x.d.name)) := X1.out.blk.cell 6
          clear hbw1 c0
          go_wp2_with fail
          refine (isName_any x.d.name HF.out _).mono ?_
          rintro e w2 ⟨rfl, hbw2⟩
          rw [E1.out]
          have X2 := Lib.hid (X1.out.next hbw2)
          have cw2_2 : w2.cell? ⟨w.heap.size, 2, none⟩ = some (.int .i64 x.d.size) := X2.out.blk.cell 2
          clear hbw2
          go_wp2_with ((with_reducible refine at_dst (some 31) ?_); refine wpList_loadAtG (op := ⟨some 31, _, _, _, _, _⟩) (want_some rfl rfl rfl rfl) 71 (.tmp 1) rfl ⟨w.heap.size, 0, none⟩ rfl x.cells d0 X2.out.blk.at hu0 hd0 iD ?_)
          refine (sumRight_any x HX.out _).mono ?_
          rintro e w3 ⟨rfl, hbw3⟩
          rw [E2.out]
          have X3 := Lib.hid (X2.out.next hbw3)
          have cw3_2 : w3.cell? ⟨w.heap.size, 2, none⟩ = some (.int .i64 x.d.size) := X3.out.blk.cell 2
          clear hbw3 cw2_2
          go_wp2
          go_ret
          exact ⟨by first | rfl | simp [*], by first | exact X3.out.below | exact X2.out.below | exact X1.out.below⟩
      · skip
        have E2 := Lib.hid (decide_eq_false (p := Summed x.d) hh2)
        rw [decide_eq_false (fun h => hh2 h.2.2.1)]
        clear hh0 hh1 hh2
        go_enter Tryz.func148, Tryz.ntmps148
        go_wp2_with ((with_reducible refine at_dst (some 24) ?_); refine wpList_loadAt (op := ⟨some 24, _, _, _, _, _⟩) rfl 71 (.tmp 1) rfl ⟨w.heap.size, 0, none⟩ rfl x.cells d0 X.out.blk.at hu0 hd0 iD ?_)
        refine (treeRight_any x _).mono ?_
        rintro e w1 ⟨rfl, hbw1⟩
        rw [E0.out]
        have X1 := Lib.hid (X.out.next hbw1)
        have cw1_6 : w1.cell? ⟨w.heap.size, 6, none⟩ = some (.string (str x.d.name)) := X1.out.blk.cell 6
        clear hbw1 c0
        go_wp2_with fail
        refine (isName_any x.d.name HF.out _).mono ?_
        rintro e w2 ⟨rfl, hbw2⟩
        rw [E1.out]
        have X2 := Lib.hid (X1.out.next hbw2)
        have cw2_2 : w2.cell? ⟨w.heap.size, 2, none⟩ = some (.int .i64 x.d.size) := X2.out.blk.cell 2
        clear hbw2
        go_wp2_with ((with_reducible refine at_dst (some 31) ?_); refine wpList_loadAtG (op := ⟨some 31, _, _, _, _, _⟩) (want_some rfl rfl rfl rfl) 71 (.tmp 1) rfl ⟨w.heap.size, 0, none⟩ rfl x.cells d0 X2.out.blk.at hu0 hd0 iD ?_)
        refine (sumRight_any x HX.out _).mono ?_
        rintro e w3 ⟨rfl, hbw3⟩
        rw [E2.out]
        have X3 := Lib.hid (X2.out.next hbw3)
        have cw3_2 : w3.cell? ⟨w.heap.size, 2, none⟩ = some (.int .i64 x.d.size) := X3.out.blk.cell 2
        clear hbw3 cw2_2
        go_wp2
        go_ret
        exact ⟨by first | rfl | simp [*], by first | exact X3.out.below | exact X2.out.below | exact X1.out.below⟩
    · skip
      have E1 := Lib.hid (decide_eq_false (p := Named x.d.name) hh1)
      rw [decide_eq_false (fun h => hh1 h.2.1)]
      clear hh0 hh1
      go_enter Tryz.func148, Tryz.ntmps148
      go_wp2_with ((with_reducible refine at_dst (some 24) ?_); refine wpList_loadAt (op := ⟨some 24, _, _, _, _, _⟩) rfl 71 (.tmp 1) rfl ⟨w.heap.size, 0, none⟩ rfl x.cells d0 X.out.blk.at hu0 hd0 iD ?_)
      refine (treeRight_any x _).mono ?_
      rintro e w1 ⟨rfl, hbw1⟩
      rw [E0.out]
      have X1 := Lib.hid (X.out.next hbw1)
      have cw1_6 : w1.cell? ⟨w.heap.size, 6, none⟩ = some (.string (str x.d.name)) := X1.out.blk.cell 6
      clear hbw1 c0
      go_wp2_with fail
      refine (isName_any x.d.name HF.out _).mono ?_
      rintro e w2 ⟨rfl, hbw2⟩
      rw [E1.out]
      have X2 := Lib.hid (X1.out.next hbw2)
      have cw2_2 : w2.cell? ⟨w.heap.size, 2, none⟩ = some (.int .i64 x.d.size) := X2.out.blk.cell 2
      clear hbw2
      go_wp2
      go_ret
      exact ⟨by first | rfl | simp [*], by first | exact X3.out.below | exact X2.out.below | exact X1.out.below⟩
  · skip
    have E0 := Lib.hid (decide_eq_false (p := TreeOk x.d) hh0)
    rw [decide_eq_false (fun h => hh0 h.1)]
    clear hh0
    go_enter Tryz.func148, Tryz.ntmps148
    go_wp2_with ((with_reducible refine at_dst (some 24) ?_); refine wpList_loadAt (op := ⟨some 24, _, _, _, _, _⟩) rfl 71 (.tmp 1) rfl ⟨w.heap.size, 0, none⟩ rfl x.cells d0 X.out.blk.at hu0 hd0 iD ?_)
    refine (treeRight_any x _).mono ?_
    rintro e w1 ⟨rfl, hbw1⟩
    rw [E0.out]
    have X1 := Lib.hid (X.out.next hbw1)
    have cw1_6 : w1.cell? ⟨w.heap.size, 6, none⟩ = some (.string (str x.d.name)) := X1.out.blk.cell 6
    clear hbw1 c0
    go_wp2
    go_ret
    exact ⟨by first | rfl | simp [*], by first | exact X3.out.below | exact X2.out.below | exact X1.out.below⟩
theorem named3 (x : Dx) (hx : Hds x) (hf : Fit 256 x.d.name) (w : World) (hk : x.d.kind = 3) : Calls Tryz.prog 148 #[x.val] w fun e w' => e = .returned (.bool (decide (NRight x.d))) ∧ Below w.heap.size w w' := by
  have eS : decide (NRight x.d) = decide (x.s4.n ≤ 256) := decide_eq_decide.2 (by unfold NRight; rw [hk, hx.value]; simp)
  rw [eS]
  clear eS
  unfold Dx.val
  obtain ⟨W, hW⟩ : ∃ W, w.alloc (.cells x.cells.toArray 71) = W := ⟨_, rfl⟩
  have X := Lib.hid (Bx.new hW)
  have c0 : W.cell? ⟨w.heap.size, 0, none⟩ = some (.int .i64 x.d.kind) := X.out.blk.cell 0
  have c10 : W.cell? ⟨w.heap.size, 10, none⟩ = some (.slice x.s4.A x.s4.n x.s4.cap) := X.out.blk.cell 10
  rw [hk] at c0
  have HX := Lib.hid hx
  have HF := Lib.hid hf
  clear hx hf hk
  by_cases hh0 : x.s4.n ≤ 256
  · skip
    have z0 : (x.s4.n : Int) ≤ 256 := by omega
    rw [decide_eq_true hh0]
    clear hh0
    go_enter Tryz.func148, Tryz.ntmps148
    go_wp2
    go_ret
    exact ⟨by first | rfl | simp [*], X.out.below⟩
  · skip
    have z0 : ¬ (x.s4.n : Int) ≤ 256 := by omega
    rw [decide_eq_false hh0]
    clear hh0
    go_enter Tryz.func148, Tryz.ntmps148
    go_wp2
    go_ret
    exact ⟨by first | rfl | simp [*], X.out.below⟩
set_option maxHeartbeats 2000000 in
theorem named4 (x : Dx) (hx : Hds x) (hf : Fit 256 x.d.name) (w : World) (hk : x.d.kind = 4) : Calls Tryz.prog 148 #[x.val] w fun e w' => e = .returned (.bool (decide (NRight x.d))) ∧ Below w.heap.size w w' := by
  have eS : decide (NRight x.d) = decide (Named x.d.name ∧ (1 ≤ x.d.key.length ∧ x.d.key.length ≤ 1032) ∧ 1 ≤ x.d.loc ∧ x.d.loc < 32) := decide_eq_decide.2 (by unfold NRight; rw [hk]; simp)
  rw [eS]
  clear eS
  obtain ⟨d0, hu0, hd0⟩ := uD
  unfold Dx.val
  obtain ⟨W, hW⟩ : ∃ W, w.alloc (.cells x.cells.toArray 71) = W := ⟨_, rfl⟩
  have X := Lib.hid (Bx.new hW)
  have c0 : W.cell? ⟨w.heap.size, 0, none⟩ = some (.int .i64 x.d.kind) := X.out.blk.cell 0
  have c6 : W.cell? ⟨w.heap.size, 6, none⟩ = some (.string (str x.d.name)) := X.out.blk.cell 6
  rw [hk] at c0
  have HX := Lib.hid hx
  have HF := Lib.hid hf
  clear hx hf hk
  by_cases hh0 : Named x.d.name
  · skip
    have E0 := Lib.hid (decide_eq_true (p := Named x.d.name) hh0)
    by_cases hh1 : 1 ≤ x.d.key.length ∧ x.d.key.length ≤ 1032
    · skip
      have E1 := Lib.hid (decide_eq_true (p := 1 ≤ x.d.key.length ∧ x.d.key.length ≤ 1032) hh1)
      by_cases hh2 : 1 ≤ x.d.loc
      · skip
        have z2 : 1 ≤ x.d.loc := hh2
        by_cases hh3 : x.d.loc < 32
        · skip
          have z3 : x.d.loc < 32 := hh3
          rw [decide_eq_true ⟨hh0, hh1, hh2, hh3⟩]
          clear hh0 hh1 hh2 hh3
          go_enter Tryz.func148, Tryz.ntmps148
          go_wp2_with fail
          refine (isName_any x.d.name HF.out _).mono ?_
          rintro e w2 ⟨rfl, hbw2⟩
          rw [E0.out]
          have X2 := Lib.hid (X.out.next hbw2)
          have cw2_5 : w2.cell? ⟨w.heap.size, 5, none⟩ = some (.int .i64 x.d.loc) := X2.out.blk.cell 5
          clear hbw2
          go_wp2_with ((with_reducible refine at_dst (some 52) ?_); refine wpList_loadAtG (op := ⟨some 52, _, _, _, _, _⟩) (want_some rfl rfl rfl rfl) 71 (.tmp 1) rfl ⟨w.heap.size, 0, none⟩ rfl x.cells d0 X2.out.blk.at hu0 hd0 iD ?_)
          refine (keyRight_any x HX.out _).mono ?_
          rintro e w3 ⟨rfl, hbw3⟩
          rw [E1.out]
          have X3 := Lib.hid (X2.out.next hbw3)
          have cw3_5 : w3.cell? ⟨w.heap.size, 5, none⟩ = some (.int .i64 x.d.loc) := X3.out.blk.cell 5
          clear hbw3 cw2_5
          go_wp2
          go_ret
          exact ⟨by first | rfl | simp [*], by first | exact X3.out.below | exact X2.out.below⟩
        · skip
          have z3 : ¬ x.d.loc < 32 := hh3
          rw [decide_eq_false (fun h => hh3 h.2.2.2)]
          clear hh0 hh1 hh2 hh3
          go_enter Tryz.func148, Tryz.ntmps148
          go_wp2_with fail
          refine (isName_any x.d.name HF.out _).mono ?_
          rintro e w2 ⟨rfl, hbw2⟩
          rw [E0.out]
          have X2 := Lib.hid (X.out.next hbw2)
          have cw2_5 : w2.cell? ⟨w.heap.size, 5, none⟩ = some (.int .i64 x.d.loc) := X2.out.blk.cell 5
          clear hbw2
          go_wp2_with ((with_reducible refine at_dst (some 52) ?_); refine wpList_loadAtG (op := ⟨some 52, _, _, _, _, _⟩) (want_some rfl rfl rfl rfl) 71 (.tmp 1) rfl ⟨w.heap.size, 0, none⟩ rfl x.cells d0 X2.out.blk.at hu0 hd0 iD ?_)
          refine (keyRight_any x HX.out _).mono ?_
          rintro e w3 ⟨rfl, hbw3⟩
          rw [E1.out]
          have X3 := Lib.hid (X2.out.next hbw3)
          have cw3_5 : w3.cell? ⟨w.heap.size, 5, none⟩ = some (.int .i64 x.d.loc) := X3.out.blk.cell 5
          clear hbw3 cw2_5
          go_wp2
          go_ret
          exact ⟨by first | rfl | simp [*], by first | exact X3.out.below | exact X2.out.below⟩
      · skip
        have z2 : ¬ 1 ≤ x.d.loc := hh2
        rw [decide_eq_false (fun h => hh2 h.2.2.1)]
        clear hh0 hh1 hh2
        go_enter Tryz.func148, Tryz.ntmps148
        go_wp2_with fail
        refine (isName_any x.d.name HF.out _).mono ?_
        rintro e w2 ⟨rfl, hbw2⟩
        rw [E0.out]
        have X2 := Lib.hid (X.out.next hbw2)
        have cw2_5 : w2.cell? ⟨w.heap.size, 5, none⟩ = some (.int .i64 x.d.loc) := X2.out.blk.cell 5
        clear hbw2
        go_wp2_with ((with_reducible refine at_dst (some 52) ?_); refine wpList_loadAtG (op := ⟨some 52, _, _, _, _, _⟩) (want_some rfl rfl rfl rfl) 71 (.tmp 1) rfl ⟨w.heap.size, 0, none⟩ rfl x.cells d0 X2.out.blk.at hu0 hd0 iD ?_)
        refine (keyRight_any x HX.out _).mono ?_
        rintro e w3 ⟨rfl, hbw3⟩
        rw [E1.out]
        have X3 := Lib.hid (X2.out.next hbw3)
        have cw3_5 : w3.cell? ⟨w.heap.size, 5, none⟩ = some (.int .i64 x.d.loc) := X3.out.blk.cell 5
        clear hbw3 cw2_5
        go_wp2
        go_ret
        exact ⟨by first | rfl | simp [*], by first | exact X3.out.below | exact X2.out.below⟩
    · skip
      have E1 := Lib.hid (decide_eq_false (p := 1 ≤ x.d.key.length ∧ x.d.key.length ≤ 1032) hh1)
      rw [decide_eq_false (fun h => hh1 h.2.1)]
      clear hh0 hh1
      go_enter Tryz.func148, Tryz.ntmps148
      go_wp2_with fail
      refine (isName_any x.d.name HF.out _).mono ?_
      rintro e w2 ⟨rfl, hbw2⟩
      rw [E0.out]
      have X2 := Lib.hid (X.out.next hbw2)
      have cw2_5 : w2.cell? ⟨w.heap.size, 5, none⟩ = some (.int .i64 x.d.loc) := X2.out.blk.cell 5
      clear hbw2
      go_wp2_with ((with_reducible refine at_dst (some 52) ?_); refine wpList_loadAtG (op := ⟨some 52, _, _, _, _, _⟩) (want_some rfl rfl rfl rfl) 71 (.tmp 1) rfl ⟨w.heap.size, 0, none⟩ rfl x.cells d0 X2.out.blk.at hu0 hd0 iD ?_)
      refine (keyRight_any x HX.out _).mono ?_
      rintro e w3 ⟨rfl, hbw3⟩
      rw [E1.out]
      have X3 := Lib.hid (X2.out.next hbw3)
      have cw3_5 : w3.cell? ⟨w.heap.size, 5, none⟩ = some (.int .i64 x.d.loc) := X3.out.blk.cell 5
      clear hbw3 cw2_5
      go_wp2
      go_ret
      exact ⟨by first | rfl | simp [*], by first | exact X3.out.below | exact X2.out.below⟩
  · skip
    have E0 := Lib.hid (decide_eq_false (p := Named x.d.name) hh0)
    rw [decide_eq_false (fun h => hh0 h.1)]
    clear hh0
    go_enter Tryz.func148, Tryz.ntmps148
    go_wp2_with fail
    refine (isName_any x.d.name HF.out _).mono ?_
    rintro e w2 ⟨rfl, hbw2⟩
    rw [E0.out]
    have X2 := Lib.hid (X.out.next hbw2)
    have cw2_5 : w2.cell? ⟨w.heap.size, 5, none⟩ = some (.int .i64 x.d.loc) := X2.out.blk.cell 5
    clear hbw2
    go_wp2
    go_ret
    exact ⟨by first | rfl | simp [*], by first | exact X3.out.below | exact X2.out.below⟩
theorem named_other (x : Dx) (hx : Hds x) (hf : Fit 256 x.d.name) (w : World) (hk : ¬ (0 ≤ x.d.kind ∧ x.d.kind ≤ 4)) : Calls Tryz.prog 148 #[x.val] w fun e w' => e = .returned (.bool (decide (NRight x.d))) ∧ Below w.heap.size w w' := by
  have eS : decide (NRight x.d) = false := decide_eq_false (by unfold NRight; omega)
  rw [eS]
  have y0 : (x.d.kind == 0) = false := by simp; omega
  have y1 : (x.d.kind == 1) = false := by simp; omega
  have y2 : (x.d.kind == 2) = false := by simp; omega
  have y3 : (x.d.kind == 3) = false := by simp; omega
  have y4 : (x.d.kind == 4) = false := by simp; omega
  clear eS hk
  unfold Dx.val
  obtain ⟨W, hW⟩ : ∃ W, w.alloc (.cells x.cells.toArray 71) = W := ⟨_, rfl⟩
  have X := Lib.hid (Bx.new hW)
  have c0 : W.cell? ⟨w.heap.size, 0, none⟩ = some (.int .i64 x.d.kind) := X.out.blk.cell 0
  have HX := Lib.hid hx
  have HF := Lib.hid hf
  clear hx hf
  go_enter Tryz.func148, Tryz.ntmps148
  go_wp2
  go_ret
  exact ⟨rfl, X.out.below⟩
theorem namedRight_any (x : Dx) (hx : Hds x) (hf : Fit 256 x.d.name) (w : World) : Calls Tryz.prog 148 #[x.val] w fun e w' => e = .returned (.bool (decide (NRight x.d))) ∧ Below w.heap.size w w' := by
  by_cases h : 0 ≤ x.d.kind ∧ x.d.kind ≤ 4
  · rcases (by omega : x.d.kind = 0 ∨ x.d.kind = 1 ∨ x.d.kind = 2 ∨ x.d.kind = 3 ∨ x.d.kind = 4) with h | h | h | h | h
    · exact named0 x hx hf w h
    · exact named1 x hx hf w h
    · exact named2 x hx hf w h
    · exact named3 x hx hf w h
    · exact named4 x hx hf w h
  · exact named_other x hx hf w h
end Go.Proofs.YtlcoebenkhafcaaGreatDoor
