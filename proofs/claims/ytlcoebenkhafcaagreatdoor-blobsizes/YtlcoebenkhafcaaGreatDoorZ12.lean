/-
  What unnamed answers. No condition.
-/
import Derived.Test.YtlcoebenkhafcaaGreatDoorZ11
namespace Go.Proofs.YtlcoebenkhafcaaGreatDoor
open Go.RowKit
set_option linter.unusedVariables false
set_option linter.unusedSimpArgs false
set_option maxRecDepth 100000
def nilS : Sl := ⟨none, 0, 0⟩
def un0 (x : Dx) : Dx := { x with d := { x.d with name := [], value := [] }, s4 := nilS }
def un2 (x : Dx) : Dx := { x with d := { x.d with name := [], alg := 0, size := 0, salt := [], digest := [] }, s1 := nilS, s2 := nilS }
def un1 (x : Dx) : Dx := { x with d := { x.d with block := 0, off := 0, name := [], alg := 0, size := 0, salt := [], digest := [] }, s1 := nilS, s2 := nilS }
def un3 (x : Dx) : Dx := { x with d := { x.d with value := [] }, s4 := nilS }
def un4 (x : Dx) : Dx := { x with d := { x.d with name := [], key := [], loc := 0 }, s3 := nilS }
def unx (x : Dx) : Dx := if x.d.kind = 0 then un0 x else if x.d.kind = 1 then un1 x else if x.d.kind = 2 then un2 x else if x.d.kind = 3 then un3 x else if x.d.kind = 4 then un4 x else x
theorem ret_cell {P : Program} {fn : Func} {p : Tmp} {ty : TypeId} {R : Ending → World → Prop} {a : Act} {w : World} {ad : Addr} {cs : List Value} {d : TypeDesc} (h : fn.results = #[.cell p ty]) (hp : a.tmps.getD p undef = .pointer (some ad)) (hc : At w ad cs)
    (hu : P.underlying ty = some d) (hd : d.isRow = true) (hi : (P.info? ty).map (·.size) = some cs.length) (hdf : a.defers = []) (hR : R (.returned (.agg cs.toArray)) w) : bodyPost P fn R .ret a w := by
  refine bodyPost_ret (v := .agg cs.toArray) ?_ hdf hR
  have := run_loadVar_at (P := P) (w := w) ad ty cs d hc hu hd hi
  have e : (results fn a.tmps).run P w = ((asAddr (a.tmps.getD p undef)).run P w).andThen fun a w₁ => (loadVar ty a).run P w₁ := by
    simp only [results, h]
    simp [Sem.run_bind, Result.andThen]
  rw [e, hp]
  simp [asAddr, Result.andThen, this]
section
variable {P : Program} {ops : Array Oper} {rest : List Oper} {op : Oper} {a : Act} {w : World} {Q : Exit → Act → World → Prop}
theorem run_storeVar_cell (b o : Nat) (ty : TypeId) (v : Value) (hv : v.cells = #[v]) (h1 : v.oneCell' = true) (hc : (w.cell? ⟨b, o, none⟩).isSome = true) (hf : w.frozen? ⟨b, o, none⟩ = false) (hi : (P.info? ty).map (·.size) = some 1) :
    (storeVar ty ⟨b, o, none⟩ v).run P w = .ok () (w.setCell ⟨b, o, none⟩ v) := by
  have := run_storeCells_cells (P := P) b o [v] 0 w (fun j hj => by obtain rfl : j = 0 := by simpa using hj
                                                                    simpa using hc) (fun j hj => by obtain rfl : j = 0 := by simpa using hj
                                                                                                    simpa using hf) (fun u hu => by rw [List.mem_singleton.1 hu]; exact h1)
  cases hq : P.info? ty with
  | none => simp [hq] at hi
  | some i =>
    have hs : i.size = 1 := by simpa [hq] using hi
    simp only [Nat.add_zero] at this
    simp [storeVar, sizeOf, typeInfo, hq, hv, hs, this, World.setCells]
theorem wpList_storeOne (hgd : op.guard = none) (ty : TypeId) (x y : Operand) (ho : op.op = .store ty x y) {g i : Nat} {t : TypeId} {cs : List Value} {v : Value} (hx : a.eval x = .pointer (some ⟨g, i, none⟩)) (hy : a.eval y = v) (hB : Blk w g t cs) (hl : i < cs.length)
    (hv : v.cells = #[v]) (h1 : v.oneCell' = true) (hi : (P.info? ty).map (·.size) = some 1)
    (h : ∀ w', Hid (Blk w' g t (cs.set i v)) → Touch [g] w w' → wpList P ops Q rest (a.put op.dst undef) w') : wpList P ops Q (op :: rest) a w :=
  wpList_plain hgd fun _ hK => by
    unfold Oper.wp execOp
    have e := run_storeVar_cell (P := P) (w := w) g i ty v hv h1 (by rw [hB.cell, List.getElem?_eq_getElem hl]; rfl) (hB.frozen i) hi
    simp only [ho, hx, hy, Instr.storeAt, Instr.sureAddr, Sem.run_bind, Sem.run_pure, Result.andThen_ok, e]
    exact hK _ _ (h _ (hB.set_ i v) ((Touch.refl [g] w).setCell (.inl (by simp)) v))
end
theorem iInt : (Tryz.prog.info? 3).map (·.size) = some 1 := by kernel_rfl
theorem iStr : (Tryz.prog.info? 9).map (·.size) = some 1 := by kernel_rfl
theorem iSl : (Tryz.prog.info? 25).map (·.size) = some 1 := by kernel_rfl
set_option maxHeartbeats 1000000 in
theorem unnamed_0 (x : Dx) (w : World) (hk : x.d.kind = 0) : Calls Tryz.prog 149 #[x.val] w fun e w' => e = .returned (un0 x).val ∧ Below w.heap.size w w' := by
  obtain ⟨d0, hu0, hd0⟩ := uD
  unfold Dx.val
  obtain ⟨W, hW⟩ : ∃ W, w.alloc (.cells x.cells.toArray 71) = W := ⟨_, rfl⟩
  have X := Lib.hid (Bx.new hW)
  have hb2 : Below W.heap.size W (W.alloc (.cells zeroD.toArray 71)) := (Below.refl _ _).alloc (Nat.le_refl _) _
  have HB2 : Hid (Bx w w.heap.size 71 x (W.alloc (.cells zeroD.toArray 71)) ∧ Blk (W.alloc (.cells zeroD.toArray 71)) W.heap.size 71 zeroD) := ⟨X.out.next hb2, Blk.new _ _ _⟩
  obtain ⟨W2, hW2⟩ : ∃ W2, W.alloc (.cells zeroD.toArray 71) = W2 := ⟨_, rfl⟩
  rw [hW2] at HB2
  have X2 : Hid (Bx w w.heap.size 71 x W2) := HB2.out.1
  unfold zeroD at hW2
  clear hb2
  have c0 : W2.cell? ⟨w.heap.size, 0, none⟩ = some (.int .i64 x.d.kind) := X2.out.blk.cell 0
  have c6 : W2.cell? ⟨w.heap.size, 6, none⟩ = some (.string (str x.d.name)) := X2.out.blk.cell 6
  have c10 : W2.cell? ⟨w.heap.size, 10, none⟩ = some (.slice x.s4.A x.s4.n x.s4.cap) := X2.out.blk.cell 10
  rw [hk] at c0
  clear hk
  go_enter Tryz.func149, Tryz.ntmps149
  go_wp2_with (first
    | ((with_reducible refine at_dst none ?_); refine wpList_storeOne (op := ⟨none, _, _, _, _, _⟩) rfl 9 (.tmp 15) (.const (.string ⟨#[]⟩)) rfl (g := w.heap.size) (i := 6) (t := 71) rfl rfl X2.out.blk (by simp [x.cells_length]) rfl rfl iStr ?_; intro u0 hU0 hT0; have HT0 := Lib.hid hT0; clear hT0)
    | ((with_reducible refine at_dst none ?_); refine wpList_storeOne (op := ⟨none, _, _, _, _, _⟩) rfl 25 (.tmp 16) (.const (.slice none 0 0)) rfl (g := w.heap.size) (i := 10) (t := 71) rfl rfl hU0.out (by simp [x.cells_length]) rfl rfl iSl ?_; intro u1 hU1 hT1; have HT1 := Lib.hid hT1; clear hT1)
    | ((with_reducible refine at_dst (some 28) ?_); refine wpList_loadAt (op := ⟨some 28, _, _, _, _, _⟩) rfl 71 (.tmp 1) rfl ⟨w.heap.size, 0, none⟩ rfl (un0 x).cells d0 hU1.out.at hu0 hd0 iD ?_)
    | ((with_reducible refine at_dst none ?_); refine wpList_storeBlk (op := ⟨none, _, _, _, _, _⟩) rfl 71 (.tmp 2) (.tmp 28) rfl (g := W.heap.size) (t := 71) (old := zeroD) (cs := (un0 x).cells) rfl rfl ((HB2.out.2.touch HT0.out (by have := X.out.lt; simp; omega)).touch HT1.out (by have := X.out.lt; simp; omega)) rfl iD (un0 x).one ?_; intro w9 hB9 ht9))
  have HL := Lib.hid ((X2.out.below.trans (HT0.out.below (fun y hy => by rw [List.mem_singleton.1 hy]; exact Nat.le_refl _) X2.out.below.size)).trans (HT1.out.below (fun y hy => by rw [List.mem_singleton.1 hy]; exact Nat.le_refl _) (X2.out.below.trans (HT0.out.below (fun y hy => by rw [List.mem_singleton.1 hy]; exact Nat.le_refl _) X2.out.below.size)).size))
  exact ret_cell rfl rfl hB9.out.at hu0 hd0 iD rfl ⟨rfl, HL.out.trans (ht9.below (fun y hy => by rw [List.mem_singleton.1 hy]; have := X.out.lt; omega) HL.out.size)⟩
set_option maxHeartbeats 1000000 in
theorem unnamed_1 (x : Dx) (w : World) (hk : x.d.kind = 1) : Calls Tryz.prog 149 #[x.val] w fun e w' => e = .returned (un1 x).val ∧ Below w.heap.size w w' := by
  obtain ⟨d0, hu0, hd0⟩ := uD
  unfold Dx.val
  obtain ⟨W, hW⟩ : ∃ W, w.alloc (.cells x.cells.toArray 71) = W := ⟨_, rfl⟩
  have X := Lib.hid (Bx.new hW)
  have hb2 : Below W.heap.size W (W.alloc (.cells zeroD.toArray 71)) := (Below.refl _ _).alloc (Nat.le_refl _) _
  have HB2 : Hid (Bx w w.heap.size 71 x (W.alloc (.cells zeroD.toArray 71)) ∧ Blk (W.alloc (.cells zeroD.toArray 71)) W.heap.size 71 zeroD) := ⟨X.out.next hb2, Blk.new _ _ _⟩
  obtain ⟨W2, hW2⟩ : ∃ W2, W.alloc (.cells zeroD.toArray 71) = W2 := ⟨_, rfl⟩
  rw [hW2] at HB2
  have X2 : Hid (Bx w w.heap.size 71 x W2) := HB2.out.1
  unfold zeroD at hW2
  clear hb2
  have c0 : W2.cell? ⟨w.heap.size, 0, none⟩ = some (.int .i64 x.d.kind) := X2.out.blk.cell 0
  have c1 : W2.cell? ⟨w.heap.size, 1, none⟩ = some (.int .i64 x.d.alg) := X2.out.blk.cell 1
  have c2 : W2.cell? ⟨w.heap.size, 2, none⟩ = some (.int .i64 x.d.size) := X2.out.blk.cell 2
  have c3 : W2.cell? ⟨w.heap.size, 3, none⟩ = some (.int .i64 x.d.block) := X2.out.blk.cell 3
  have c4 : W2.cell? ⟨w.heap.size, 4, none⟩ = some (.int .i64 x.d.off) := X2.out.blk.cell 4
  have c6 : W2.cell? ⟨w.heap.size, 6, none⟩ = some (.string (str x.d.name)) := X2.out.blk.cell 6
  have c7 : W2.cell? ⟨w.heap.size, 7, none⟩ = some (.slice x.s1.A x.s1.n x.s1.cap) := X2.out.blk.cell 7
  have c8 : W2.cell? ⟨w.heap.size, 8, none⟩ = some (.slice x.s2.A x.s2.n x.s2.cap) := X2.out.blk.cell 8
  rw [hk] at c0
  clear hk
  go_enter Tryz.func149, Tryz.ntmps149
  go_wp2_with (first
    | ((with_reducible refine at_dst none ?_); refine wpList_storeOne (op := ⟨none, _, _, _, _, _⟩) rfl 3 (.tmp 17) (.const (.int .i64 0)) rfl (g := w.heap.size) (i := 3) (t := 71) rfl rfl X2.out.blk (by simp [x.cells_length]) rfl rfl iInt ?_; intro u0 hU0 hT0; have HT0 := Lib.hid hT0; clear hT0)
    | ((with_reducible refine at_dst none ?_); refine wpList_storeOne (op := ⟨none, _, _, _, _, _⟩) rfl 3 (.tmp 18) (.const (.int .i64 0)) rfl (g := w.heap.size) (i := 4) (t := 71) rfl rfl hU0.out (by simp [x.cells_length]) rfl rfl iInt ?_; intro u1 hU1 hT1; have HT1 := Lib.hid hT1; clear hT1)
    | ((with_reducible refine at_dst none ?_); refine wpList_storeOne (op := ⟨none, _, _, _, _, _⟩) rfl 9 (.tmp 19) (.const (.string ⟨#[]⟩)) rfl (g := w.heap.size) (i := 6) (t := 71) rfl rfl hU1.out (by simp [x.cells_length]) rfl rfl iStr ?_; intro u2 hU2 hT2; have HT2 := Lib.hid hT2; clear hT2)
    | ((with_reducible refine at_dst none ?_); refine wpList_storeOne (op := ⟨none, _, _, _, _, _⟩) rfl 3 (.tmp 20) (.const (.int .i64 0)) rfl (g := w.heap.size) (i := 1) (t := 71) rfl rfl hU2.out (by simp [x.cells_length]) rfl rfl iInt ?_; intro u3 hU3 hT3; have HT3 := Lib.hid hT3; clear hT3)
    | ((with_reducible refine at_dst none ?_); refine wpList_storeOne (op := ⟨none, _, _, _, _, _⟩) rfl 3 (.tmp 21) (.const (.int .i64 0)) rfl (g := w.heap.size) (i := 2) (t := 71) rfl rfl hU3.out (by simp [x.cells_length]) rfl rfl iInt ?_; intro u4 hU4 hT4; have HT4 := Lib.hid hT4; clear hT4)
    | ((with_reducible refine at_dst none ?_); refine wpList_storeOne (op := ⟨none, _, _, _, _, _⟩) rfl 25 (.tmp 22) (.const (.slice none 0 0)) rfl (g := w.heap.size) (i := 7) (t := 71) rfl rfl hU4.out (by simp [x.cells_length]) rfl rfl iSl ?_; intro u5 hU5 hT5; have HT5 := Lib.hid hT5; clear hT5)
    | ((with_reducible refine at_dst none ?_); refine wpList_storeOne (op := ⟨none, _, _, _, _, _⟩) rfl 25 (.tmp 23) (.const (.slice none 0 0)) rfl (g := w.heap.size) (i := 8) (t := 71) rfl rfl hU5.out (by simp [x.cells_length]) rfl rfl iSl ?_; intro u6 hU6 hT6; have HT6 := Lib.hid hT6; clear hT6)
    | ((with_reducible refine at_dst (some 28) ?_); refine wpList_loadAt (op := ⟨some 28, _, _, _, _, _⟩) rfl 71 (.tmp 1) rfl ⟨w.heap.size, 0, none⟩ rfl (un1 x).cells d0 hU6.out.at hu0 hd0 iD ?_)
    | ((with_reducible refine at_dst none ?_); refine wpList_storeBlk (op := ⟨none, _, _, _, _, _⟩) rfl 71 (.tmp 2) (.tmp 28) rfl (g := W.heap.size) (t := 71) (old := zeroD) (cs := (un1 x).cells) rfl rfl (((((((HB2.out.2.touch HT0.out (by have := X.out.lt; simp; omega)).touch HT1.out (by have := X.out.lt; simp; omega)).touch HT2.out (by have := X.out.lt; simp; omega)).touch HT3.out (by have := X.out.lt; simp; omega)).touch HT4.out (by have := X.out.lt; simp; omega)).touch HT5.out (by have := X.out.lt; simp; omega)).touch HT6.out (by have := X.out.lt; simp; omega)) rfl iD (un1 x).one ?_; intro w9 hB9 ht9))
  have HL := Lib.hid (((((((X2.out.below.trans (HT0.out.below (fun y hy => by rw [List.mem_singleton.1 hy]; exact Nat.le_refl _) X2.out.below.size)).trans (HT1.out.below (fun y hy => by rw [List.mem_singleton.1 hy]; exact Nat.le_refl _) (X2.out.below.trans (HT0.out.below (fun y hy => by rw [List.mem_singleton.1 hy]; exact Nat.le_refl _) X2.out.below.size)).size)).trans (HT2.out.below (fun y hy => by rw [List.mem_singleton.1 hy]; exact Nat.le_refl _) ((X2.out.below.trans (HT0.out.below (fun y hy => by rw [List.mem_singleton.1 hy]; exact Nat.le_refl _) X2.out.below.size)).trans (HT1.out.below (fun y hy => by rw [List.mem_singleton.1 hy]; exact Nat.le_refl _) (X2.out.below.trans (HT0.out.below (fun y hy => by rw [List.mem_singleton.1 hy]; exact Nat.le_refl _) X2.out.below.size)).size)).size)).trans (HT3.out.below (fun y hy => by rw [List.mem_singleton.1 hy]; exact Nat.le_refl _) (((X2.out.below.trans (HT0.out.below (fun y hy => by rw [List.mem_singleton.1 hy]; exact Nat.le_refl _) X2.out.below.size)).trans (HT1.out.below (fun y hy => by rw [List.mem_singleton.1 hy]; exact Nat.le_refl _) (X2.out.below.trans (HT0.out.below (fun y hy => by rw [List.mem_singleton.1 hy]; exact Nat.le_refl _) X2.out.below.size)).size)).trans (HT2.out.below (fun y hy => by rw [List.mem_singleton.1 hy]; exact Nat.le_refl _) ((X2.out.below.trans (HT0.out.below (fun y hy => by rw [List.mem_singleton.1 hy]; exact Nat.le_refl _) X2.out.below.size)).trans (HT1.out.below (fun y hy => by rw [List.mem_singleton.1 hy]; exact Nat.le_refl _) (X2.out.below.trans (HT0.out.below (fun y hy => by rw [List.mem_singleton.1 hy]; exact Nat.le_refl _) X2.out.below.size)).size)).size)).size)).trans (HT4.out.below (fun y hy => by rw [List.mem_singleton.1 hy]; exact Nat.le_refl _) ((((X2.out.below.trans (HT0.out.below (fun y hy => by rw [List.mem_singleton.1 hy]; exact Nat.le_refl _) X2.out.below.size)).trans (HT1.out.below (fun y hy => by rw [List.mem_singleton.1 hy]; exact Nat.le_refl _) (X2.out.below.trans (HT0.out.below (fun y hy => by rw [List.mem_singleton.1 hy]; exact Nat.le_refl _) X2.out.below.size)).size)).trans (HT2.out.below (fun y hy => by rw [List.mem_singleton.1 hy]; exact Nat.le_refl _) ((X2.out.below.trans (HT0.out.below (fun y hy => by rw [List.mem_singleton.1 hy]; exact Nat.le_refl _) X2.out.below.size)).trans (HT1.out.below (fun y hy => by rw [List.mem_singleton.1 hy]; exact Nat.le_refl _) (X2.out.below.trans (HT0.out.below (fun y hy => by rw [List.mem_singleton.1 hy]; exact Nat.le_refl _) X2.out.below.size)).size)).size)).trans (HT3.out.below (fun y hy => by rw [List.mem_singleton.1 hy]; exact Nat.le_refl _) (((X2.out.below.trans (HT0.out.below (fun y hy => by rw [List.mem_singleton.1 hy]; exact Nat.le_refl _) X2.out.below.size)).trans (HT1.out.below (fun y hy => by rw [List.mem_singleton.1 hy]; exact Nat.le_refl _) (X2.out.below.trans (HT0.out.below (fun y hy => by rw [List.mem_singleton.1 hy]; exact Nat.le_refl _) X2.out.below.size)).size)).trans (HT2.out.below (fun y hy => by rw [List.mem_singleton.1 hy]; exact Nat.le_refl _) ((X2.out.below.trans (HT0.out.below (fun y hy => by rw [List.mem_singleton.1 hy]; exact Nat.le_refl _) X2.out.below.size)).trans (HT1.out.below (fun y hy => by rw [List.mem_singleton.1 hy]; exact Nat.le_refl _) (X2.out.below.trans (HT0.out.below (fun y hy => by rw [List.mem_singleton.1 hy]; exact Nat.le_refl _) X2.out.below.size)).size)).size)).size)).size)).trans (HT5.out.below (fun y hy => by rw [List.mem_singleton.1 hy]; exact Nat.le_refl _) (((((X2.out.below.trans (HT0.out.below (fun y hy => by rw [List.mem_singleton.1 hy]; exact Nat.le_refl _) X2.out.below.size)).trans (HT1.out.below (fun y hy => by rw [List.mem_singleton.1 hy]; exact Nat.le_refl _) (X2.out.below.trans (HT0.out.below (fun y hy => by rw [List.mem_singleton.1 hy]; exact Nat.le_refl _) X2.out.below.size)).size)).trans (HT2.out.below (fun y hy => by rw [List.mem_singleton.1 hy]; exact Nat.le_refl _) ((X2.out.below.trans (HT0.out.below (fun y hy => by rw [List.mem_singleton.1 hy]; exact Nat.le_refl _) X2.out.below.size)).trans (HT1.out.below (fun y hy => by rw [List.mem_singleton.1 hy]; exact Nat.le_refl _) (X2.out.below.trans (HT0.out.below (fun y hy => by rw [List.mem_singleton.1 hy]; exact Nat.le_refl _) X2.out.below.size)).size)).size)).trans (HT3.out.below (fun y hy => by rw [List.mem_singleton.1 hy]; exact Nat.le_refl _) (((X2.out.below.trans (HT0.out.below (fun y hy => by rw [List.mem_singleton.1 hy]; exact Nat.le_refl _) X2.out.below.size)).trans (HT1.out.below (fun y hy => by rw [List.mem_singleton.1 hy]; exact Nat.le_refl _) (X2.out.below.trans (HT0.out.below (fun y hy => by rw [List.mem_singleton.1 hy]; exact Nat.le_refl _) X2.out.below.size)).size)).trans (HT2.out.below (fun y hy => by rw [List.mem_singleton.1 hy]; exact Nat.le_refl _) ((X2.out.below.trans (HT0.out.below (fun y hy => by rw [List.mem_singleton.1 hy]; exact Nat.le_refl _) X2.out.below.size)).trans (HT1.out.below (fun y hy => by rw [List.mem_singleton.1 hy]; exact Nat.le_refl _) (X2.out.below.trans (HT0.out.below (fun y hy => by rw [List.mem_singleton.1 hy]; exact Nat.le_refl _) X2.out.below.size)).size)).size)).size)).trans (HT4.out.below (fun y hy => by rw [List.mem_singleton.1 hy]; exact Nat.le_refl _) ((((X2.out.below.trans (HT0.out.below (fun y hy => by rw [List.mem_singleton.1 hy]; exact Nat.le_refl _) X2.out.below.size)).trans (HT1.out.below (fun y hy => by rw [List.mem_singleton.1 hy]; exact Nat.le_refl _) (X2.out.below.trans (HT0.out.below (fun y hy => by rw [List.mem_singleton.1 hy]; exact Nat.le_refl _) X2.out.below.size)).size)).trans (HT2.out.below (fun y hy => by rw [List.mem_singleton.1 hy]; exact Nat.le_refl _) ((X2.out.below.trans (HT0.out.below (fun y hy => by rw [List.mem_singleton.1 hy]; exact Nat.le_refl _) X2.out.below.size)).trans (HT1.out.below (fun y hy => by rw [List.mem_singleton.1 hy]; exact Nat.le_refl _) (X2.out.below.trans (HT0.out.below (fun y hy => by rw [List.mem_singleton.1 hy]; exact Nat.le_refl _) X2.out.below.size)).size)).size)).trans (HT3.out.below (fun y hy => by rw [List.mem_singleton.1 hy]; exact Nat.le_refl _) (((X2.out.below.trans (HT0.out.below (fun y hy => by rw [List.mem_singleton.1 hy]; exact Nat.le_refl _) X2.out.below.size)).trans (HT1.out.below (fun y hy => by rw [List.mem_singleton.1 hy]; exact Nat.le_refl _) (X2.out.below.trans (HT0.out.below (fun y hy => by rw [List.mem_singleton.1 hy]; exact Nat.le_refl _) X2.out.below.size)).size)).trans (HT2.out.below (fun y hy => by rw [List.mem_singleton.1 hy]; exact Nat.le_refl _) ((X2.out.below.trans (HT0.out.below (fun y hy => by rw [List.mem_singleton.1 hy]; exact Nat.le_refl _) X2.out.below.size)).trans (HT1.out.below (fun y hy => by rw [List.mem_singleton.1 hy]; exact Nat.le_refl _) (X2.out.below.trans (HT0.out.below (fun y hy => by rw [List.mem_singleton.1 hy]; exact Nat.le_refl _) X2.out.below.size)).size)).size)).size)).size)).size)).trans (HT6.out.below (fun y hy => by rw [List.mem_singleton.1 hy]; exact Nat.le_refl _) ((((((X2.out.below.trans (HT0.out.below (fun y hy => by rw [List.mem_singleton.1 hy]; exact Nat.le_refl _) X2.out.below.size)).trans (HT1.out.below (fun y hy => by rw [List.mem_singleton.1 hy]; exact Nat.le_refl _) (X2.out.below.trans (HT0.out.below (fun y hy => by rw [List.mem_singleton.1 hy]; exact Nat.le_refl _) X2.out.below.size)).size)).trans (HT2.out.below (fun y hy => by rw [List.mem_singleton.1 hy]; exact Nat.le_refl _) ((X2.out.below.trans (HT0.out.below (fun y hy => by rw [List.mem_singleton.1 hy]; exact Nat.le_refl _) X2.out.below.size)).trans (HT1.out.below (fun y hy => by rw [List.mem_singleton.1 hy]; exact Nat.le_refl _) (X2.out.below.trans (HT0.out.below (fun y hy => by rw [List.mem_singleton.1 hy]; exact Nat.le_refl _) X2.out.below.size)).size)).size)).trans (HT3.out.below (fun y hy => by rw [List.mem_singleton.1 hy]; exact Nat.le_refl _) (((X2.out.below.trans (HT0.out.below (fun y hy => by rw [List.mem_singleton.1 hy]; exact Nat.le_refl _) X2.out.below.size)).trans (HT1.out.below (fun y hy => by rw [List.mem_singleton.1 hy]; exact Nat.le_refl _) (X2.out.below.trans (HT0.out.below (fun y hy => by rw [List.mem_singleton.1 hy]; exact Nat.le_refl _) X2.out.below.size)).size)).trans (HT2.out.below (fun y hy => by rw [List.mem_singleton.1 hy]; exact Nat.le_refl _) ((X2.out.below.trans (HT0.out.below (fun y hy => by rw [List.mem_singleton.1 hy]; exact Nat.le_refl _) X2.out.below.size)).trans (HT1.out.below (fun y hy => by rw [List.mem_singleton.1 hy]; exact Nat.le_refl _) (X2.out.below.trans (HT0.out.below (fun y hy => by rw [List.mem_singleton.1 hy]; exact Nat.le_refl _) X2.out.below.size)).size)).size)).size)).trans (HT4.out.below (fun y hy => by rw [List.mem_singleton.1 hy]; exact Nat.le_refl _) ((((X2.out.below.trans (HT0.out.below (fun y hy => by rw [List.mem_singleton.1 hy]; exact Nat.le_refl _) X2.out.below.size)).trans (HT1.out.below (fun y hy => by rw [List.mem_singleton.1 hy]; exact Nat.le_refl _) (X2.out.below.trans (HT0.out.below (fun y hy => by rw [List.mem_singleton.1 hy]; exact Nat.le_refl _) X2.out.below.size)).size)).trans (HT2.out.below (fun y hy => by rw [List.mem_singleton.1 hy]; exact Nat.le_refl _) ((X2.out.below.trans (HT0.out.below (fun y hy => by rw [List.mem_singleton.1 hy]; exact Nat.le_refl _) X2.out.below.size)).trans (HT1.out.below (fun y hy => by rw [List.mem_singleton.1 hy]; exact Nat.le_refl _) (X2.out.below.trans (HT0.out.below (fun y hy => by rw [List.mem_singleton.1 hy]; exact Nat.le_refl _) X2.out.below.size)).size)).size)).trans (HT3.out.below (fun y hy => by rw [List.mem_singleton.1 hy]; exact Nat.le_refl _) (((X2.out.below.trans (HT0.out.below (fun y hy => by rw [List.mem_singleton.1 hy]; exact Nat.le_refl _) X2.out.below.size)).trans (HT1.out.below (fun y hy => by rw [List.mem_singleton.1 hy]; exact Nat.le_refl _) (X2.out.below.trans (HT0.out.below (fun y hy => by rw [List.mem_singleton.1 hy]; exact Nat.le_refl _) X2.out.below.size)).size)).trans (HT2.out.below (fun y hy => by rw [List.mem_singleton.1 hy]; exact Nat.le_refl _) ((X2.out.below.trans (HT0.out.below (fun y hy => by rw [List.mem_singleton.1 hy]; exact Nat.le_refl _) X2.out.below.size)).trans (HT1.out.below (fun y hy => by rw [List.mem_singleton.1 hy]; exact Nat.le_refl _) (X2.out.below.trans (HT0.out.below (fun y hy => by rw [List.mem_singleton.1 hy]; exact Nat.le_refl _) X2.out.below.size)).size)).size)).size)).size)).trans (HT5.out.below (fun y hy => by rw [List.mem_singleton.1 hy]; exact Nat.le_refl _) (((((X2.out.below.trans (HT0.out.below (fun y hy => by rw [List.mem_singleton.1 hy]; exact Nat.le_refl _) X2.out.below.size)).trans (HT1.out.below (fun y hy => by rw [List.mem_singleton.1 hy]; exact Nat.le_refl _) (X2.out.below.trans (HT0.out.below (fun y hy => by rw [List.mem_singleton.1 hy]; exact Nat.le_refl _) X2.out.below.size)).size)).trans (HT2.out.below (fun y hy => by rw [List.mem_singleton.1 hy]; exact Nat.le_refl _) ((X2.out.below.trans (HT0.out.below (fun y hy => by rw [List.mem_singleton.1 hy]; exact Nat.le_refl _) X2.out.below.size)).trans (HT1.out.below (fun y hy => by rw [List.mem_singleton.1 hy]; exact Nat.le_refl _) (X2.out.below.trans (HT0.out.below (fun y hy => by rw [List.mem_singleton.1 hy]; exact Nat.le_refl _) X2.out.below.size)).size)).size)).trans (HT3.out.below (fun y hy => by rw [List.mem_singleton.1 hy]; exact Nat.le_refl _) (((X2.out.below.trans (HT0.out.below (fun y hy => by rw [List.mem_singleton.1 hy]; exact Nat.le_refl _) X2.out.below.size)).trans (HT1.out.below (fun y hy => by rw [List.mem_singleton.1 hy]; exact Nat.le_refl _) (X2.out.below.trans (HT0.out.below (fun y hy => by rw [List.mem_singleton.1 hy]; exact Nat.le_refl _) X2.out.below.size)).size)).trans (HT2.out.below (fun y hy => by rw [List.mem_singleton.1 hy]; exact Nat.le_refl _) ((X2.out.below.trans (HT0.out.below (fun y hy => by rw [List.mem_singleton.1 hy]; exact Nat.le_refl _) X2.out.below.size)).trans (HT1.out.below (fun y hy => by rw [List.mem_singleton.1 hy]; exact Nat.le_refl _) (X2.out.below.trans (HT0.out.below (fun y hy => by rw [List.mem_singleton.1 hy]; exact Nat.le_refl _) X2.out.below.size)).size)).size)).size)).trans (HT4.out.below (fun y hy => by rw [List.mem_singleton.1 hy]; exact Nat.le_refl _) ((((X2.out.below.trans (HT0.out.below (fun y hy => by rw [List.mem_singleton.1 hy]; exact Nat.le_refl _) X2.out.below.size)).trans (HT1.out.below (fun y hy => by rw [List.mem_singleton.1 hy]; exact Nat.le_refl _) (X2.out.below.trans (HT0.out.below (fun y hy => by rw [List.mem_singleton.1 hy]; exact Nat.le_refl _) X2.out.below.size)).size)).trans (HT2.out.below (fun y hy => by rw [List.mem_singleton.1 hy]; exact Nat.le_refl _) ((X2.out.below.trans (HT0.out.below (fun y hy => by rw [List.mem_singleton.1 hy]; exact Nat.le_refl _) X2.out.below.size)).trans (HT1.out.below (fun y hy => by rw [List.mem_singleton.1 hy]; exact Nat.le_refl _) (X2.out.below.trans (HT0.out.below (fun y hy => by rw [List.mem_singleton.1 hy]; exact Nat.le_refl _) X2.out.below.size)).size)).size)).trans (HT3.out.below (fun y hy => by rw [List.mem_singleton.1 hy]; exact Nat.le_refl _) (((X2.out.below.trans (HT0.out.below (fun y hy => by rw [List.mem_singleton.1 hy]; exact Nat.le_refl _) X2.out.below.size)).trans (HT1.out.below (fun y hy => by rw [List.mem_singleton.1 hy]; exact Nat.le_refl _) (X2.out.below.trans (HT0.out.below (fun y hy => by rw [List.mem_singleton.1 hy]; exact Nat.le_refl _) X2.out.below.size)).size)).trans (HT2.out.below (fun y hy => by rw [List.mem_singleton.1 hy]; exact Nat.le_refl _) ((X2.out.below.trans (HT0.out.below (fun y hy => by rw [List.mem_singleton.1 hy]; exact Nat.le_refl _) X2.out.below.size)).trans (HT1.out.below (fun y hy => by rw [List.mem_singleton.1 hy]; exact Nat.le_refl _) (X2.out.below.trans (HT0.out.below (fun y hy => by rw [List.mem_singleton.1 hy]; exact Nat.le_refl _) X2.out.below.size)).size)).size)).size)).size)).size)).size))
  exact ret_cell rfl rfl hB9.out.at hu0 hd0 iD rfl ⟨rfl, HL.out.trans (ht9.below (fun y hy => by rw [List.mem_singleton.1 hy]; have := X.out.lt; omega) HL.out.size)⟩
set_option maxHeartbeats 1000000 in
theorem unnamed_2 (x : Dx) (w : World) (hk : x.d.kind = 2) : Calls Tryz.prog 149 #[x.val] w fun e w' => e = .returned (un2 x).val ∧ Below w.heap.size w w' := by
  obtain ⟨d0, hu0, hd0⟩ := uD
  unfold Dx.val
  obtain ⟨W, hW⟩ : ∃ W, w.alloc (.cells x.cells.toArray 71) = W := ⟨_, rfl⟩
  have X := Lib.hid (Bx.new hW)
  have hb2 : Below W.heap.size W (W.alloc (.cells zeroD.toArray 71)) := (Below.refl _ _).alloc (Nat.le_refl _) _
  have HB2 : Hid (Bx w w.heap.size 71 x (W.alloc (.cells zeroD.toArray 71)) ∧ Blk (W.alloc (.cells zeroD.toArray 71)) W.heap.size 71 zeroD) := ⟨X.out.next hb2, Blk.new _ _ _⟩
  obtain ⟨W2, hW2⟩ : ∃ W2, W.alloc (.cells zeroD.toArray 71) = W2 := ⟨_, rfl⟩
  rw [hW2] at HB2
  have X2 : Hid (Bx w w.heap.size 71 x W2) := HB2.out.1
  unfold zeroD at hW2
  clear hb2
  have c0 : W2.cell? ⟨w.heap.size, 0, none⟩ = some (.int .i64 x.d.kind) := X2.out.blk.cell 0
  have c1 : W2.cell? ⟨w.heap.size, 1, none⟩ = some (.int .i64 x.d.alg) := X2.out.blk.cell 1
  have c2 : W2.cell? ⟨w.heap.size, 2, none⟩ = some (.int .i64 x.d.size) := X2.out.blk.cell 2
  have c6 : W2.cell? ⟨w.heap.size, 6, none⟩ = some (.string (str x.d.name)) := X2.out.blk.cell 6
  have c7 : W2.cell? ⟨w.heap.size, 7, none⟩ = some (.slice x.s1.A x.s1.n x.s1.cap) := X2.out.blk.cell 7
  have c8 : W2.cell? ⟨w.heap.size, 8, none⟩ = some (.slice x.s2.A x.s2.n x.s2.cap) := X2.out.blk.cell 8
  rw [hk] at c0
  clear hk
  go_enter Tryz.func149, Tryz.ntmps149
  go_wp2_with (first
    | ((with_reducible refine at_dst none ?_); refine wpList_storeOne (op := ⟨none, _, _, _, _, _⟩) rfl 9 (.tmp 19) (.const (.string ⟨#[]⟩)) rfl (g := w.heap.size) (i := 6) (t := 71) rfl rfl X2.out.blk (by simp [x.cells_length]) rfl rfl iStr ?_; intro u0 hU0 hT0; have HT0 := Lib.hid hT0; clear hT0)
    | ((with_reducible refine at_dst none ?_); refine wpList_storeOne (op := ⟨none, _, _, _, _, _⟩) rfl 3 (.tmp 20) (.const (.int .i64 0)) rfl (g := w.heap.size) (i := 1) (t := 71) rfl rfl hU0.out (by simp [x.cells_length]) rfl rfl iInt ?_; intro u1 hU1 hT1; have HT1 := Lib.hid hT1; clear hT1)
    | ((with_reducible refine at_dst none ?_); refine wpList_storeOne (op := ⟨none, _, _, _, _, _⟩) rfl 3 (.tmp 21) (.const (.int .i64 0)) rfl (g := w.heap.size) (i := 2) (t := 71) rfl rfl hU1.out (by simp [x.cells_length]) rfl rfl iInt ?_; intro u2 hU2 hT2; have HT2 := Lib.hid hT2; clear hT2)
    | ((with_reducible refine at_dst none ?_); refine wpList_storeOne (op := ⟨none, _, _, _, _, _⟩) rfl 25 (.tmp 22) (.const (.slice none 0 0)) rfl (g := w.heap.size) (i := 7) (t := 71) rfl rfl hU2.out (by simp [x.cells_length]) rfl rfl iSl ?_; intro u3 hU3 hT3; have HT3 := Lib.hid hT3; clear hT3)
    | ((with_reducible refine at_dst none ?_); refine wpList_storeOne (op := ⟨none, _, _, _, _, _⟩) rfl 25 (.tmp 23) (.const (.slice none 0 0)) rfl (g := w.heap.size) (i := 8) (t := 71) rfl rfl hU3.out (by simp [x.cells_length]) rfl rfl iSl ?_; intro u4 hU4 hT4; have HT4 := Lib.hid hT4; clear hT4)
    | ((with_reducible refine at_dst (some 28) ?_); refine wpList_loadAt (op := ⟨some 28, _, _, _, _, _⟩) rfl 71 (.tmp 1) rfl ⟨w.heap.size, 0, none⟩ rfl (un2 x).cells d0 hU4.out.at hu0 hd0 iD ?_)
    | ((with_reducible refine at_dst none ?_); refine wpList_storeBlk (op := ⟨none, _, _, _, _, _⟩) rfl 71 (.tmp 2) (.tmp 28) rfl (g := W.heap.size) (t := 71) (old := zeroD) (cs := (un2 x).cells) rfl rfl (((((HB2.out.2.touch HT0.out (by have := X.out.lt; simp; omega)).touch HT1.out (by have := X.out.lt; simp; omega)).touch HT2.out (by have := X.out.lt; simp; omega)).touch HT3.out (by have := X.out.lt; simp; omega)).touch HT4.out (by have := X.out.lt; simp; omega)) rfl iD (un2 x).one ?_; intro w9 hB9 ht9))
  have HL := Lib.hid (((((X2.out.below.trans (HT0.out.below (fun y hy => by rw [List.mem_singleton.1 hy]; exact Nat.le_refl _) X2.out.below.size)).trans (HT1.out.below (fun y hy => by rw [List.mem_singleton.1 hy]; exact Nat.le_refl _) (X2.out.below.trans (HT0.out.below (fun y hy => by rw [List.mem_singleton.1 hy]; exact Nat.le_refl _) X2.out.below.size)).size)).trans (HT2.out.below (fun y hy => by rw [List.mem_singleton.1 hy]; exact Nat.le_refl _) ((X2.out.below.trans (HT0.out.below (fun y hy => by rw [List.mem_singleton.1 hy]; exact Nat.le_refl _) X2.out.below.size)).trans (HT1.out.below (fun y hy => by rw [List.mem_singleton.1 hy]; exact Nat.le_refl _) (X2.out.below.trans (HT0.out.below (fun y hy => by rw [List.mem_singleton.1 hy]; exact Nat.le_refl _) X2.out.below.size)).size)).size)).trans (HT3.out.below (fun y hy => by rw [List.mem_singleton.1 hy]; exact Nat.le_refl _) (((X2.out.below.trans (HT0.out.below (fun y hy => by rw [List.mem_singleton.1 hy]; exact Nat.le_refl _) X2.out.below.size)).trans (HT1.out.below (fun y hy => by rw [List.mem_singleton.1 hy]; exact Nat.le_refl _) (X2.out.below.trans (HT0.out.below (fun y hy => by rw [List.mem_singleton.1 hy]; exact Nat.le_refl _) X2.out.below.size)).size)).trans (HT2.out.below (fun y hy => by rw [List.mem_singleton.1 hy]; exact Nat.le_refl _) ((X2.out.below.trans (HT0.out.below (fun y hy => by rw [List.mem_singleton.1 hy]; exact Nat.le_refl _) X2.out.below.size)).trans (HT1.out.below (fun y hy => by rw [List.mem_singleton.1 hy]; exact Nat.le_refl _) (X2.out.below.trans (HT0.out.below (fun y hy => by rw [List.mem_singleton.1 hy]; exact Nat.le_refl _) X2.out.below.size)).size)).size)).size)).trans (HT4.out.below (fun y hy => by rw [List.mem_singleton.1 hy]; exact Nat.le_refl _) ((((X2.out.below.trans (HT0.out.below (fun y hy => by rw [List.mem_singleton.1 hy]; exact Nat.le_refl _) X2.out.below.size)).trans (HT1.out.below (fun y hy => by rw [List.mem_singleton.1 hy]; exact Nat.le_refl _) (X2.out.below.trans (HT0.out.below (fun y hy => by rw [List.mem_singleton.1 hy]; exact Nat.le_refl _) X2.out.below.size)).size)).trans (HT2.out.below (fun y hy => by rw [List.mem_singleton.1 hy]; exact Nat.le_refl _) ((X2.out.below.trans (HT0.out.below (fun y hy => by rw [List.mem_singleton.1 hy]; exact Nat.le_refl _) X2.out.below.size)).trans (HT1.out.below (fun y hy => by rw [List.mem_singleton.1 hy]; exact Nat.le_refl _) (X2.out.below.trans (HT0.out.below (fun y hy => by rw [List.mem_singleton.1 hy]; exact Nat.le_refl _) X2.out.below.size)).size)).size)).trans (HT3.out.below (fun y hy => by rw [List.mem_singleton.1 hy]; exact Nat.le_refl _) (((X2.out.below.trans (HT0.out.below (fun y hy => by rw [List.mem_singleton.1 hy]; exact Nat.le_refl _) X2.out.below.size)).trans (HT1.out.below (fun y hy => by rw [List.mem_singleton.1 hy]; exact Nat.le_refl _) (X2.out.below.trans (HT0.out.below (fun y hy => by rw [List.mem_singleton.1 hy]; exact Nat.le_refl _) X2.out.below.size)).size)).trans (HT2.out.below (fun y hy => by rw [List.mem_singleton.1 hy]; exact Nat.le_refl _) ((X2.out.below.trans (HT0.out.below (fun y hy => by rw [List.mem_singleton.1 hy]; exact Nat.le_refl _) X2.out.below.size)).trans (HT1.out.below (fun y hy => by rw [List.mem_singleton.1 hy]; exact Nat.le_refl _) (X2.out.below.trans (HT0.out.below (fun y hy => by rw [List.mem_singleton.1 hy]; exact Nat.le_refl _) X2.out.below.size)).size)).size)).size)).size))
  exact ret_cell rfl rfl hB9.out.at hu0 hd0 iD rfl ⟨rfl, HL.out.trans (ht9.below (fun y hy => by rw [List.mem_singleton.1 hy]; have := X.out.lt; omega) HL.out.size)⟩
set_option maxHeartbeats 1000000 in
theorem unnamed_3 (x : Dx) (w : World) (hk : x.d.kind = 3) : Calls Tryz.prog 149 #[x.val] w fun e w' => e = .returned (un3 x).val ∧ Below w.heap.size w w' := by
  obtain ⟨d0, hu0, hd0⟩ := uD
  unfold Dx.val
  obtain ⟨W, hW⟩ : ∃ W, w.alloc (.cells x.cells.toArray 71) = W := ⟨_, rfl⟩
  have X := Lib.hid (Bx.new hW)
  have hb2 : Below W.heap.size W (W.alloc (.cells zeroD.toArray 71)) := (Below.refl _ _).alloc (Nat.le_refl _) _
  have HB2 : Hid (Bx w w.heap.size 71 x (W.alloc (.cells zeroD.toArray 71)) ∧ Blk (W.alloc (.cells zeroD.toArray 71)) W.heap.size 71 zeroD) := ⟨X.out.next hb2, Blk.new _ _ _⟩
  obtain ⟨W2, hW2⟩ : ∃ W2, W.alloc (.cells zeroD.toArray 71) = W2 := ⟨_, rfl⟩
  rw [hW2] at HB2
  have X2 : Hid (Bx w w.heap.size 71 x W2) := HB2.out.1
  unfold zeroD at hW2
  clear hb2
  have c0 : W2.cell? ⟨w.heap.size, 0, none⟩ = some (.int .i64 x.d.kind) := X2.out.blk.cell 0
  have c10 : W2.cell? ⟨w.heap.size, 10, none⟩ = some (.slice x.s4.A x.s4.n x.s4.cap) := X2.out.blk.cell 10
  rw [hk] at c0
  clear hk
  go_enter Tryz.func149, Tryz.ntmps149
  go_wp2_with (first
    | ((with_reducible refine at_dst none ?_); refine wpList_storeOne (op := ⟨none, _, _, _, _, _⟩) rfl 25 (.tmp 24) (.const (.slice none 0 0)) rfl (g := w.heap.size) (i := 10) (t := 71) rfl rfl X2.out.blk (by simp [x.cells_length]) rfl rfl iSl ?_; intro u0 hU0 hT0; have HT0 := Lib.hid hT0; clear hT0)
    | ((with_reducible refine at_dst (some 28) ?_); refine wpList_loadAt (op := ⟨some 28, _, _, _, _, _⟩) rfl 71 (.tmp 1) rfl ⟨w.heap.size, 0, none⟩ rfl (un3 x).cells d0 hU0.out.at hu0 hd0 iD ?_)
    | ((with_reducible refine at_dst none ?_); refine wpList_storeBlk (op := ⟨none, _, _, _, _, _⟩) rfl 71 (.tmp 2) (.tmp 28) rfl (g := W.heap.size) (t := 71) (old := zeroD) (cs := (un3 x).cells) rfl rfl (HB2.out.2.touch HT0.out (by have := X.out.lt; simp; omega)) rfl iD (un3 x).one ?_; intro w9 hB9 ht9))
  have HL := Lib.hid (X2.out.below.trans (HT0.out.below (fun y hy => by rw [List.mem_singleton.1 hy]; exact Nat.le_refl _) X2.out.below.size))
  exact ret_cell rfl rfl hB9.out.at hu0 hd0 iD rfl ⟨rfl, HL.out.trans (ht9.below (fun y hy => by rw [List.mem_singleton.1 hy]; have := X.out.lt; omega) HL.out.size)⟩
set_option maxHeartbeats 1000000 in
theorem unnamed_4 (x : Dx) (w : World) (hk : x.d.kind = 4) : Calls Tryz.prog 149 #[x.val] w fun e w' => e = .returned (un4 x).val ∧ Below w.heap.size w w' := by
  obtain ⟨d0, hu0, hd0⟩ := uD
  unfold Dx.val
  obtain ⟨W, hW⟩ : ∃ W, w.alloc (.cells x.cells.toArray 71) = W := ⟨_, rfl⟩
  have X := Lib.hid (Bx.new hW)
  have hb2 : Below W.heap.size W (W.alloc (.cells zeroD.toArray 71)) := (Below.refl _ _).alloc (Nat.le_refl _) _
  have HB2 : Hid (Bx w w.heap.size 71 x (W.alloc (.cells zeroD.toArray 71)) ∧ Blk (W.alloc (.cells zeroD.toArray 71)) W.heap.size 71 zeroD) := ⟨X.out.next hb2, Blk.new _ _ _⟩
  obtain ⟨W2, hW2⟩ : ∃ W2, W.alloc (.cells zeroD.toArray 71) = W2 := ⟨_, rfl⟩
  rw [hW2] at HB2
  have X2 : Hid (Bx w w.heap.size 71 x W2) := HB2.out.1
  unfold zeroD at hW2
  clear hb2
  have c0 : W2.cell? ⟨w.heap.size, 0, none⟩ = some (.int .i64 x.d.kind) := X2.out.blk.cell 0
  have c5 : W2.cell? ⟨w.heap.size, 5, none⟩ = some (.int .i64 x.d.loc) := X2.out.blk.cell 5
  have c6 : W2.cell? ⟨w.heap.size, 6, none⟩ = some (.string (str x.d.name)) := X2.out.blk.cell 6
  have c9 : W2.cell? ⟨w.heap.size, 9, none⟩ = some (.slice x.s3.A x.s3.n x.s3.cap) := X2.out.blk.cell 9
  rw [hk] at c0
  clear hk
  go_enter Tryz.func149, Tryz.ntmps149
  go_wp2_with (first
    | ((with_reducible refine at_dst none ?_); refine wpList_storeOne (op := ⟨none, _, _, _, _, _⟩) rfl 9 (.tmp 25) (.const (.string ⟨#[]⟩)) rfl (g := w.heap.size) (i := 6) (t := 71) rfl rfl X2.out.blk (by simp [x.cells_length]) rfl rfl iStr ?_; intro u0 hU0 hT0; have HT0 := Lib.hid hT0; clear hT0)
    | ((with_reducible refine at_dst none ?_); refine wpList_storeOne (op := ⟨none, _, _, _, _, _⟩) rfl 25 (.tmp 26) (.const (.slice none 0 0)) rfl (g := w.heap.size) (i := 9) (t := 71) rfl rfl hU0.out (by simp [x.cells_length]) rfl rfl iSl ?_; intro u1 hU1 hT1; have HT1 := Lib.hid hT1; clear hT1)
    | ((with_reducible refine at_dst none ?_); refine wpList_storeOne (op := ⟨none, _, _, _, _, _⟩) rfl 3 (.tmp 27) (.const (.int .i64 0)) rfl (g := w.heap.size) (i := 5) (t := 71) rfl rfl hU1.out (by simp [x.cells_length]) rfl rfl iInt ?_; intro u2 hU2 hT2; have HT2 := Lib.hid hT2; clear hT2)
    | ((with_reducible refine at_dst (some 28) ?_); refine wpList_loadAt (op := ⟨some 28, _, _, _, _, _⟩) rfl 71 (.tmp 1) rfl ⟨w.heap.size, 0, none⟩ rfl (un4 x).cells d0 hU2.out.at hu0 hd0 iD ?_)
    | ((with_reducible refine at_dst none ?_); refine wpList_storeBlk (op := ⟨none, _, _, _, _, _⟩) rfl 71 (.tmp 2) (.tmp 28) rfl (g := W.heap.size) (t := 71) (old := zeroD) (cs := (un4 x).cells) rfl rfl (((HB2.out.2.touch HT0.out (by have := X.out.lt; simp; omega)).touch HT1.out (by have := X.out.lt; simp; omega)).touch HT2.out (by have := X.out.lt; simp; omega)) rfl iD (un4 x).one ?_; intro w9 hB9 ht9))
  have HL := Lib.hid (((X2.out.below.trans (HT0.out.below (fun y hy => by rw [List.mem_singleton.1 hy]; exact Nat.le_refl _) X2.out.below.size)).trans (HT1.out.below (fun y hy => by rw [List.mem_singleton.1 hy]; exact Nat.le_refl _) (X2.out.below.trans (HT0.out.below (fun y hy => by rw [List.mem_singleton.1 hy]; exact Nat.le_refl _) X2.out.below.size)).size)).trans (HT2.out.below (fun y hy => by rw [List.mem_singleton.1 hy]; exact Nat.le_refl _) ((X2.out.below.trans (HT0.out.below (fun y hy => by rw [List.mem_singleton.1 hy]; exact Nat.le_refl _) X2.out.below.size)).trans (HT1.out.below (fun y hy => by rw [List.mem_singleton.1 hy]; exact Nat.le_refl _) (X2.out.below.trans (HT0.out.below (fun y hy => by rw [List.mem_singleton.1 hy]; exact Nat.le_refl _) X2.out.below.size)).size)).size))
  exact ret_cell rfl rfl hB9.out.at hu0 hd0 iD rfl ⟨rfl, HL.out.trans (ht9.below (fun y hy => by rw [List.mem_singleton.1 hy]; have := X.out.lt; omega) HL.out.size)⟩
set_option maxHeartbeats 1000000 in
theorem unnamed_o (x : Dx) (w : World) (hk : ¬ (0 ≤ x.d.kind ∧ x.d.kind ≤ 4)) : Calls Tryz.prog 149 #[x.val] w fun e w' => e = .returned x.val ∧ Below w.heap.size w w' := by
  obtain ⟨d0, hu0, hd0⟩ := uD
  unfold Dx.val
  obtain ⟨W, hW⟩ : ∃ W, w.alloc (.cells x.cells.toArray 71) = W := ⟨_, rfl⟩
  have X := Lib.hid (Bx.new hW)
  have hb2 : Below W.heap.size W (W.alloc (.cells zeroD.toArray 71)) := (Below.refl _ _).alloc (Nat.le_refl _) _
  have HB2 : Hid (Bx w w.heap.size 71 x (W.alloc (.cells zeroD.toArray 71)) ∧ Blk (W.alloc (.cells zeroD.toArray 71)) W.heap.size 71 zeroD) := ⟨X.out.next hb2, Blk.new _ _ _⟩
  obtain ⟨W2, hW2⟩ : ∃ W2, W.alloc (.cells zeroD.toArray 71) = W2 := ⟨_, rfl⟩
  rw [hW2] at HB2
  have X2 : Hid (Bx w w.heap.size 71 x W2) := HB2.out.1
  unfold zeroD at hW2
  clear hb2
  have c0 : W2.cell? ⟨w.heap.size, 0, none⟩ = some (.int .i64 x.d.kind) := X2.out.blk.cell 0
  have y0 : (x.d.kind == 0) = false := by simp; omega
  have y1 : (x.d.kind == 1) = false := by simp; omega
  have y2 : (x.d.kind == 2) = false := by simp; omega
  have y3 : (x.d.kind == 3) = false := by simp; omega
  have y4 : (x.d.kind == 4) = false := by simp; omega
  clear hk
  go_enter Tryz.func149, Tryz.ntmps149
  go_wp2_with (first
    | ((with_reducible refine at_dst (some 28) ?_); refine wpList_loadAt (op := ⟨some 28, _, _, _, _, _⟩) rfl 71 (.tmp 1) rfl ⟨w.heap.size, 0, none⟩ rfl x.cells d0 X2.out.blk.at hu0 hd0 iD ?_)
    | ((with_reducible refine at_dst none ?_); refine wpList_storeBlk (op := ⟨none, _, _, _, _, _⟩) rfl 71 (.tmp 2) (.tmp 28) rfl (g := W.heap.size) (t := 71) (old := zeroD) (cs := x.cells) rfl rfl HB2.out.2 rfl iD x.one ?_; intro w9 hB9 ht9))
  have HL := Lib.hid X2.out.below
  exact ret_cell rfl rfl hB9.out.at hu0 hd0 iD rfl ⟨rfl, HL.out.trans (ht9.below (fun y hy => by rw [List.mem_singleton.1 hy]; have := X.out.lt; omega) HL.out.size)⟩
theorem unnamed_any (x : Dx) (w : World) : Calls Tryz.prog 149 #[x.val] w fun e w' => e = .returned (unx x).val ∧ Below w.heap.size w w' := by
  by_cases h : 0 ≤ x.d.kind ∧ x.d.kind ≤ 4
  · rcases (by omega : x.d.kind = 0 ∨ x.d.kind = 1 ∨ x.d.kind = 2 ∨ x.d.kind = 3 ∨ x.d.kind = 4) with h | h | h | h | h
    · have e : unx x = un0 x := by unfold unx; rw [if_pos h]
      rw [e]; exact unnamed_0 x w h
    · have e : unx x = un1 x := by unfold unx; rw [h]; rfl
      rw [e]; exact unnamed_1 x w h
    · have e : unx x = un2 x := by unfold unx; rw [h]; rfl
      rw [e]; exact unnamed_2 x w h
    · have e : unx x = un3 x := by unfold unx; rw [h]; rfl
      rw [e]; exact unnamed_3 x w h
    · have e : unx x = un4 x := by unfold unx; rw [h]; rfl
      rw [e]; exact unnamed_4 x w h
  · have e : unx x = x := by unfold unx; rw [if_neg (by omega), if_neg (by omega), if_neg (by omega), if_neg (by omega), if_neg (by omega)]
    rw [e]; exact unnamed_o x w h
end Go.Proofs.YtlcoebenkhafcaaGreatDoor
