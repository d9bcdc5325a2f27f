/-
  Words and bytes in memory: a block known whole, a sum under way as a block, slices that read as bytes or words, the two tables of the package; and the laws of the walk on whole arrays. No condition.
-/
import Derived.Test.YtidibhphnkiacaaDoorRot
import Derived.Laws.CopyOwn
import Derived.Laws.BytesArg
import Derived.Deep.MidRow
import Derived.Maps.AppendAt
import Derived.Deep.AppendLies
import Derived.OwnWalk
import Derived.WalkSmall
namespace Go.Proofs.YtidibhphnkiacaaDoor
open Go.RowKit
set_option linter.unusedVariables false

def cw (l : List W64) : List Value := l.map fun x => .int .u64 (ui x)
def cb (l : List UInt8) : List Value := l.map fun x => .int .u8 (ub x)
theorem cw_length (l : List W64) : (cw l).length = l.length := by simp [cw]
theorem cb_length (l : List UInt8) : (cb l).length = l.length := by simp [cb]
theorem cw_one (l : List W64) : ∀ v ∈ cw l, v.oneCell' = true := by intro v hv; simp [cw] at hv; obtain ⟨x, _, rfl⟩ := hv; rfl
theorem cb_one (l : List UInt8) : ∀ v ∈ cb l, v.oneCell' = true := by intro v hv; simp [cb] at hv; obtain ⟨x, _, rfl⟩ := hv; rfl
theorem cw_get (l : List W64) (i : Nat) (h : i < l.length) : (cw l)[i]? = some (.int .u64 (ui (l.getD i 0))) := by
  simp [cw, List.getElem?_eq_getElem h, List.getD]
theorem cb_get (l : List UInt8) (i : Nat) (h : i < l.length) : (cb l)[i]? = some (.int .u8 (ub (l.getD i 0))) := by
  simp [cb, List.getElem?_eq_getElem h, List.getD]

/-- Block g is just the cells cs, of element type t; none of them is frozen. -/
def Blk (w : World) (g : Nat) (t : TypeId) (cs : List Value) : Prop := w.heap[g]? = some (.cells cs.toArray t (0, 0))
section
variable {w w' : World} {g : Nat} {t : TypeId} {cs : List Value}
theorem Blk.lt (h : Blk w g t cs) : g < w.heap.size := by
  rcases Nat.lt_or_ge g w.heap.size with hlt | hge
  · exact hlt
  · unfold Blk at h; rw [Array.getElem?_eq_none hge] at h; cases h
theorem Blk.cell (h : Blk w g t cs) (i : Nat) : w.cell? ⟨g, i, none⟩ = cs[i]? := by
  have := cell_of_row w g i cs.toArray t (0, 0) h
  simpa using this
theorem Blk.frozen (h : Blk w g t cs) (i : Nat) : w.frozen? ⟨g, i, none⟩ = false := frozen_of_row w g i _ t h
theorem Blk.new (w : World) (t : TypeId) (cs : List Value) : Blk (w.alloc (.cells cs.toArray t)) w.heap.size t cs := heap_alloc_new w _
theorem Blk.drewN (h : Blk w g t cs) (n : Nat) : Blk (w.drewN n) g t cs := h
theorem Blk.alloc (h : Blk w g t cs) (o : Obj) : Blk (w.alloc o) g t cs := (Below.heap_alloc w o g h.lt).trans h
theorem Blk.set_ (h : Blk w g t cs) (i : Nat) (u : Value) : Blk (w.setCell ⟨g, i, none⟩ u) g t (cs.set i u) := by
  have := heap_setCell_same w g i cs.toArray t u h
  unfold Blk
  rw [this]
  simp
theorem Blk.far (h : Blk w g t cs) {p : Addr} (hp : g ≠ p.block) (u : Value) : Blk (w.setCell p u) g t cs := (Below.heap_setCell w p u g hp).trans h
theorem Blk.below {B : Nat} (h : Blk w g t cs) (hb : Below B w w') (hg : g < B) : Blk w' g t cs := (hb.block g hg).trans h
theorem Blk.grown {row : Option Nat} (h : Blk w g t cs) (hb : w.grownBy w' row) (hg : some g ≠ row) : Blk w' g t cs := (hb.block g h.lt hg).trans h
theorem Blk.range (h : Blk w g t cs) (o : Nat) (l : List Value) (hl : ∀ j v, l[j]? = some v → cs[o + j]? = some v) : w.rangeAt g o l := fun j v hv => by
  rw [h.cell]; exact hl j v hv
end

section
variable {a w : World}
theorem only_drewN {row : Option Nat} (h : a.grownBy w row) (n : Nat) : a.grownBy (w.drewN n) row := ⟨h.os, h.tape, h.output, h.size, h.block⟩
theorem only_alloc {row : Option Nat} (h : a.grownBy w row) (o : Obj) : a.grownBy (w.alloc o) row :=
  ⟨h.os, h.tape, h.output, Nat.le_trans h.size (by simp), fun i hi hne => (Below.heap_alloc w o i (Nat.lt_of_lt_of_le hi h.size)).trans (h.block i hi hne)⟩
theorem only_setCell {g : Nat} (h : a.grownBy w (some g)) {p : Addr} (hp : p.block = g ∨ a.heap.size ≤ p.block) (u : Value) : a.grownBy (w.setCell p u) (some g) :=
  ⟨h.os, h.tape, h.output, by simpa [World.setCell] using h.size, fun i hi hne => (Below.heap_setCell w p u i (by
    rintro rfl
    rcases hp with hp | hp
    · exact hne (by rw [hp])
    · omega)).trans (h.block i hi hne)⟩
theorem only_of_below (h : Below a.heap.size a w) (row : Option Nat) : a.grownBy w row := ⟨h.os, h.tape, h.output, h.size, fun i hi _ => h.block i hi⟩
theorem only_then {w2 : World} {g : Nat} {row : Option Nat} (h : a.grownBy w (some g)) (k : w.grownBy w2 row) (hr : ∀ j, row = some j → j = g ∨ a.heap.size ≤ j) : a.grownBy w2 (some g) :=
  ⟨k.os.trans h.os, k.tape.trans h.tape, k.output.trans h.output, Nat.le_trans h.size k.size, fun i hi hne =>
    (k.block i (Nat.lt_of_lt_of_le hi h.size) (fun e => by
      rcases hr i e.symm with h' | h'
      · exact hne (by rw [h'])
      · omega)).trans (h.block i hi hne)⟩
theorem below_only {B : Nat} {w2 : World} {row : Option Nat} (h : Below B a w) (k : w.grownBy w2 row) (hB : B ≤ w.heap.size) (hr : ∀ j, row = some j → B ≤ j) : Below B a w2 :=
  ⟨k.os.trans h.os, k.tape.trans h.tape, k.output.trans h.output, Nat.le_trans h.size k.size, fun i hi =>
    (k.block i (by omega) (fun e => by have := hr i e.symm; omega)).trans (h.block i hi)⟩
end

/-- A guard for an arm of the walk: the operation that stands next writes slot d. -/
theorem at_dst {P : Program} {ops : Array Oper} {Q : Exit → Act → World → Prop} {rest : List Oper} {a : Act} {w : World} (d : Option Nat) {op : Op} {ty : TypeId} {pos : String} {aft : Array Edge} {gd : Option (Nat × Bool)}
    (h : wpList P ops Q (⟨d, op, ty, pos, aft, gd⟩ :: rest) a w) : wpList P ops Q (⟨d, op, ty, pos, aft, gd⟩ :: rest) a w := h
theorem at_store {P : Program} {ops : Array Oper} {Q : Exit → Act → World → Prop} {rest : List Oper} {a : Act} {w : World} (t : TypeId) {x y : Operand} {d : Option Nat} {ty : TypeId} {pos : String} {aft : Array Edge} {gd : Option (Nat × Bool)}
    (h : wpList P ops Q (⟨d, .store t x y, ty, pos, aft, gd⟩ :: rest) a w) : wpList P ops Q (⟨d, .store t x y, ty, pos, aft, gd⟩ :: rest) a w := h

/-- A whole array stored over a block of its size. -/
theorem wpList_store_abs {P : Program} {ops : Array Oper} {rest : List Oper} {o : Oper} {a : Act} {w : World} {Q : Exit → Act → World → Prop} (hgd : o.guard = none) (ty : TypeId) (x y : Operand) (ho : o.op = .store ty x y)
    (g : Nat) (cells : List Value) (hx : a.eval x = .pointer (some ⟨g, 0, none⟩)) (hy : a.eval y = .agg cells.toArray)
    (t : TypeId) (old : List Value) (hg : Blk w g t old) (hi : (P.info? ty).map (·.size) = some cells.length)
    (hold : old.length = cells.length) (h1 : ∀ v ∈ cells, v.oneCell' = true)
    (h : ∀ w', Hid (Blk w' g t cells) → w.grownBy w' (some g) → wpList P ops Q rest (a.put o.dst undef) w') : wpList P ops Q (o :: rest) a w := by
  refine wpList_store_row hgd ty x y ho g cells.toArray hx hy t old.toArray hg (by simpa using hi) (by simpa using hold) (all_oneCell_toArray h1) (h _ (setRow_heap _ _ _ _ _ _ hg) ?_)
  exact ⟨rfl, rfl, rfl, by simp [World.setRow], fun k hk hne => setRow_other w g k _ (fun e => hne (by rw [e]))⟩
/-- copy into a block that is known whole: nothing else turns. -/
theorem wpList_copy_abs {P : Program} {w : World} {ops : Array Oper} {rest : List Oper} {o : Oper} {a : Act} {Q : Exit → Act → World → Prop} (hgd : o.guard = none) (d s : Operand) (dT sT : TypeId)
    (ho : o.op = .call { callee := .builtin .copy, args := #[d, s], argTypes := #[dT, sT] }) (elem : TypeId) (hu : P.underlying dT = some (.slice elem)) (hsz : (P.info? elem).map (·.size) = some 1)
    (dp sp : Option Addr) (dLen dCap sLen sCap : Nat) (hd : a.eval d = .slice dp dLen dCap) (hs : a.eval s = .slice sp sLen sCap)
    (g off : Nat) (cur : List Value) (t : TypeId) (hg : Blk w g t cur) (cs : List Value) (hn : cs.length = Nat.min sLen dLen)
    (hpos : 0 < cs.length → dp = some ⟨g, off, none⟩ ∧ ∃ ad, sp = some ad ∧ ∀ j v, cs[j]? = some v → w.cell? (ad.add j) = some v)
    (hfit : off + cs.length ≤ cur.length) (h1 : ∀ v ∈ cs, v.oneCell' = true)
    (h : ∀ w', Hid (Blk w' g t (splice cur off cs)) → w.grownBy w' (some g) → wpList P ops Q rest (a.put o.dst (goInt cs.length)) w') :
    wpList P ops Q (o :: rest) a w := by
  by_cases h0 : cs.length = 0
  · obtain rfl : cs = [] := List.eq_nil_of_length_eq_zero h0
    refine wpList_copy_nothing hgd d s dT sT ho elem hu hsz dp sp dLen dCap sLen sCap hd hs (by simpa using hn.symm) ?_
    refine h w ?_ (World.grownBy.refl w _)
    show Blk w g t (splice cur off [])
    simpa [splice] using hg
  · obtain ⟨rfl, ad, rfl, hsrc⟩ := hpos (by omega)
    refine wpList_copy_own hgd d s dT sT ho elem hu hsz g off dLen dCap ad sLen sCap hd hs cur.toArray t hg cs hn hsrc (by simpa using hfit) h1 ?_
    refine h _ ?_ ⟨rfl, rfl, rfl, by simp [World.setRow], fun k hk hne => setRow_other w g k _ (fun e => hne (by rw [e]))⟩
    show Blk _ g t (splice cur off cs)
    have := setRow_heap w g _ (cur.toArray.toList.take off ++ (cs ++ cur.toArray.toList.drop (off + cs.length))).toArray t _ hg
    simpa [splice, Blk] using this

/-- A sum under way, as a block: eight words, 128 bytes, the length. -/
def HB (w : World) (g : Nat) (st : S8) (rest : List UInt8) (len : Int) : Prop := Blk w g 38 (cw st.list ++ (cb rest ++ [.int .u64 len]))
/-- The package's two tables. -/
def Tabs (w : World) : Prop := (∃ t fr, w.heap[0]? = some (.cells (cw init8.list).toArray t fr)) ∧ (∃ t fr, w.heap[1]? = some (.cells (cw kTab).toArray t fr))
theorem Tabs.lt {w : World} (h : Tabs w) : 1 < w.heap.size := by
  obtain ⟨_, t, fr, h⟩ := h
  rcases Nat.lt_or_ge 1 w.heap.size with hlt | hge
  · exact hlt
  · rw [Array.getElem?_eq_none hge] at h; cases h
theorem Tabs.grown {w w' : World} {row : Option Nat} (h : Tabs w) (k : w.grownBy w' row) (hr : ∀ j, row = some j → 1 < j) : Tabs w' := by
  have hl := h.lt
  obtain ⟨⟨t, fr, h0⟩, t', fr', h1⟩ := h
  exact ⟨⟨t, fr, (k.block 0 (by omega) (fun e => by have := hr 0 e.symm; omega)).trans h0⟩, t', fr', (k.block 1 (by omega) (fun e => by have := hr 1 e.symm; omega)).trans h1⟩
theorem Tabs.below {w w' : World} (h : Tabs w) (k : Below w.heap.size w w') : Tabs w' := h.grown (only_of_below k none) (by simp)
theorem Tabs.k {w : World} (h : Tabs w) (i : Nat) (hi : i < 80) : w.cell? ⟨1, i, none⟩ = some (.int .u64 (ui (kTab.getD i 0))) := by
  obtain ⟨_, t, fr, h⟩ := h
  have := cell_of_row w 1 i _ t fr h
  rw [this, List.getElem?_toArray]
  exact cw_get _ _ (show i < 80 from hi)

theorem info38 : (Tryd.prog.info? 38).map (·.size) = some 137 := by kernel_rfl
theorem info43 : (Tryd.prog.info? 43).map (·.size) = some 80 := by kernel_rfl
theorem info35 : (Tryd.prog.info? 35).map (·.size) = some 8 := by kernel_rfl
theorem info36 : (Tryd.prog.info? 36).map (·.size) = some 128 := by kernel_rfl
theorem zero43 (w : World) : (zeroValue 43).run Tryd.prog w = .ok (.agg (cw (List.replicate 80 0)).toArray) w := by kernel_rfl
theorem zero38 (w : World) : (zeroValue 38).run Tryd.prog w = .ok (.agg (cw (List.replicate 8 0) ++ (cb (List.replicate 128 0) ++ [Value.int .u64 0])).toArray) w := by kernel_rfl
theorem byteInfo : (Tryd.prog.info? 5).map (fun i => (i.zero, i.size, i.bytes)) = some (some (.int .u8 0), 1, 1) := by kernel_rfl
theorem byteSize : (Tryd.prog.info? 5).map (·.size) = some 1 := by kernel_rfl
theorem wordInfo : (Tryd.prog.info? 34).map (fun i => (i.zero, i.size, i.bytes)) = some (some (.int .u64 0), 1, 8) := by kernel_rfl

/-- The element of an array held by value. -/
theorem run_index_agg {t e : TypeId} {n : Nat} {i0 : TypeInfo} (ht : Tryd.prog.underlying t = some (.array n e)) (hi : Tryd.prog.info? e = some i0) (hz : i0.size = 1) (hag : ∀ w, (isAgg e).run Tryd.prog w = .ok false w)
    (cs : List Value) (i : Nat) (v : Value) (hn : i < n) (hv : cs[i]? = some v) (w : World) :
    (Instr.index t (.agg cs.toArray) (.int .i64 (i : Int))).run Tryd.prog w = .ok v w := by
  have h1 : (0 : Int) ≤ (i : Int) ∧ (i : Int) < (n : Int) := ⟨by omega, by omega⟩
  have hv' : cs.toArray[i]? = some v := by simpa using hv
  simp [Instr.index, asIntOf, run_underlying ht, h1, sizeOf, typeInfo, hi, hz, part, hag, hv]
  intro; omega
end Go.Proofs.YtidibhphnkiacaaDoor
