/-
  append onto a row of the call's own, of bytes or words, whatever the source; what lies below the row's base stays.
-/
import Derived.Test.YtidibhphnkiacaaDoorSum
import Derived.Laws.AppendOwnNone
namespace Go.Proofs.YtidibhphnkiacaaDoor
open Go.RowKit
set_option linter.unusedVariables false

/-- A slice that the call has made, of n cells, in a block from B on (or nil). -/
def Row (w : World) (B : Nat) (e : TypeId) (A : Option Addr) (n cap : Nat) (xs : List Value) : Prop := w.ownsRow B e 1 (.slice A n cap) n xs
theorem Row.length {w : World} {B : Nat} {e : TypeId} {A : Option Addr} {n cap : Nat} {xs : List Value} (h : Row w B e A n cap xs) : xs.length = n := by
  have := h.1; omega
theorem Row.below {w w' : World} {B : Nat} {e : TypeId} {A : Option Addr} {n cap : Nat} {xs : List Value} (h : Row w B e A n cap xs) (hb : Below w.heap.size w w') : Row w' B e A n cap xs :=
  World.ownsRow.kept h (only_of_below hb none) (by cases hv : (Value.slice A n cap).ownBlock <;> simp)
theorem Row.grown {w w' : World} {B : Nat} {e : TypeId} {A : Option Addr} {n cap : Nat} {xs : List Value} {g : Nat} (h : Row w B e A n cap xs) (hb : w.grownBy w' (some g)) (hne : ∀ ad, A = some ad → ad.block ≠ g) : Row w' B e A n cap xs := by
  refine World.ownsRow.kept h hb ?_
  rcases A with _ | ad
  · exact .inl rfl
  · exact .inr (fun e => hne ad rfl (by injection e))
theorem Row.mono {w : World} {B B' : Nat} {e : TypeId} {A : Option Addr} {n cap : Nat} {xs : List Value} (h : Row w B e A n cap xs) (hb : B' ≤ B) : Row w B' e A n cap xs :=
  ⟨h.1, h.2.imp id fun ⟨g, cap, cur, h1, h2, h3⟩ => ⟨g, cap, cur, h1, Nat.le_trans hb h2, h3⟩⟩
theorem Row.lt {w : World} {B : Nat} {e : TypeId} {A : Option Addr} {n cap : Nat} {xs : List Value} (h : Row w B e A n cap xs) (ad : Addr) (ha : A = some ad) : B ≤ ad.block ∧ ad.block < w.heap.size :=
  World.ownsRow.lt h ad.block (by rw [ha]; rfl)
theorem Row.cells {w : World} {B : Nat} {e : TypeId} {A : Option Addr} {n cap : Nat} {xs : List Value} (h : Row w B e A n cap xs) (hn : 0 < n) : ∃ g, A = some ⟨g, 0, none⟩ ∧ B ≤ g ∧ g < w.heap.size ∧ ∀ j u, xs[j]? = some u → w.cell? ⟨g, j, none⟩ = some u := by
  obtain ⟨g, cap', hv, hb, hlt⟩ := World.ownsRow.form h hn
  have hA : A = some ⟨g, 0, none⟩ := by injection hv
  subst hA
  exact ⟨g, rfl, hb, hlt, fun j u hu => by have := World.ownsRow.cells h (g := g) rfl j u hu; rwa [addr_add, Nat.zero_add] at this⟩
theorem Row.le {w : World} {B : Nat} {e : TypeId} {A : Option Addr} {n cap : Nat} {xs : List Value} (h : Row w B e A n cap xs) : n ≤ cap ∧ cap ≤ maxLen := by
  rcases h.2 with ⟨hv, h0⟩ | ⟨g, cap', cur, hv, _, _, hnc, hm, _⟩
  · injection hv with _ h1 h2; omega
  · injection hv with _ h1 h2; omega
theorem Row.seg {w : World} {B : Nat} {A : Option Addr} {n cap : Nat} {l : List UInt8} (h : Row w B 5 A n cap (cb l)) : Seg w A n l := by
  refine ⟨by have := h.length; rwa [cb_length] at this, fun hn => ?_⟩
  obtain ⟨g, rfl, _, hlt, hc⟩ := h.cells hn
  exact ⟨_, rfl, hlt, fun j v hv => by rw [addr_add, Nat.zero_add]; exact hc j v hv⟩
theorem Row.lit (w : World) (e : TypeId) (cs : List Value) (B : Nat) (hB : B ≤ w.heap.size) (hm : cs.length ≤ maxLen) : Row (w.alloc (.cells cs.toArray e)) B e (some ⟨w.heap.size, 0, none⟩) cs.length cs.length cs := by
  have := World.ownsRow_lit (base := B) (e := e) (size := 1) w cs.toArray cs.length hB hm (by simp)
  unfold Row
  simpa using this
theorem Row.nil (w : World) (B : Nat) (e : TypeId) : Row w B e none 0 0 [] := World.ownsRow_nil w B e 1

theorem run_app {t ty e : TypeId} {i : TypeInfo} {z : Value} {bytes : Nat} (ht : Tryd.prog.underlying t = some (.slice e)) (hi : Tryd.prog.info? e = some i) (hz : i.zero = some z) (hsize : i.size = 1) (hby : i.bytes = bytes) (hzs : z.cells.size = 1) (hb8 : bytes ≤ 8)
    {B : Nat} {w0 w : World} (hbel : Below B w0 w) (hB : B ≤ w.heap.size) {A : Option Addr} {n cap : Nat} {xs : List Value} (hrow : Row w B e A n cap xs) {A2 : Option Addr} {m c2 : Nat} {news : List Value} (hl : news.length = m)
    (hsrc : A2 = none ∧ c2 = 0 ∨ ∃ ad, A2 = some ad ∧ ∀ j u, news[j]? = some u → w.cell? (ad.add j) = some u) (h1 : ∀ u ∈ news, u.oneCell' = true) (hm0 : A2 = none → m = 0) (hnm : n + m ≤ 1000000) :
    ∃ A' cap' w', (Builtin.append_ #[t, t] ty #[.slice A n cap, .slice A2 m c2]).run Tryd.prog w = .ok (.slice A' (n + m) cap') w' ∧ Row w' B e A' (n + m) cap' (xs ++ news) ∧ Below B w0 w' ∧ w.heap.size ≤ w'.heap.size := by
  rcases hsrc with ⟨rfl, rfl⟩ | ⟨ad, rfl, hc⟩
  · obtain rfl := hm0 rfl
    obtain rfl : news = [] := List.eq_nil_of_length_eq_zero hl
    exact ⟨A, cap, w, run_append_owned_none (P := Tryd.prog) (w := w) B t ty e i 1 ht hi _ n xs hrow, by simpa using hrow, hbel, Nat.le_refl _⟩
  · obtain ⟨v', w', hrun, hown, hg, hnil, hat⟩ := run_append_own_at (P := Tryd.prog) w B t ty e i z 1 bytes ht hi hz hsize hby hzs (by omega) _ n xs hrow ad m c2 news (by omega) hc h1 (by unfold maxLen; omega) (by
      have : (n + m) * bytes ≤ 1000000 * 8 := Nat.mul_le_mul hnm hb8
      omega) hB
    have hform : ∃ A' cap', v' = .slice A' (n + m) cap' := by
      rcases hown.2 with ⟨rfl, h0⟩ | ⟨g, cap', cur, rfl, _⟩
      · exact ⟨none, 0, by rw [h0]⟩
      · exact ⟨_, _, rfl⟩
    obtain ⟨A', cap', rfl⟩ := hform
    refine ⟨A', cap', w', hrun, hown, below_only hbel hg hB (fun j hj => ?_), hg.size⟩
    exact (World.ownsRow.lt hrow j hj).1

theorem wpList_app {ops : Array Oper} {rest : List Oper} {o : Oper} {a : Act} {w : World} {Q : Exit → Act → World → Prop} (hgd : o.guard = none) (s x : Operand) (t e : TypeId) (ho : o.op = .call { callee := .builtin .append, args := #[s, x], argTypes := #[t, t] })
    {i : TypeInfo} {z : Value} {bytes : Nat} (ht : Tryd.prog.underlying t = some (.slice e)) (hi : Tryd.prog.info? e = some i) (hz : i.zero = some z) (hsize : i.size = 1) (hby : i.bytes = bytes) (hzs : z.cells.size = 1) (hb8 : bytes ≤ 8)
    {B : Nat} {w0 : World} (hbel : Below B w0 w) (hB : B ≤ w.heap.size) {A : Option Addr} {n cap : Nat} {xs : List Value} (hs : a.eval s = .slice A n cap) (hrow : Row w B e A n cap xs) {A2 : Option Addr} {m c2 : Nat} {news : List Value} (hx : a.eval x = .slice A2 m c2) (hl : news.length = m)
    (hsrc : A2 = none ∧ c2 = 0 ∨ ∃ ad, A2 = some ad ∧ ∀ j u, news[j]? = some u → w.cell? (ad.add j) = some u) (h1 : ∀ u ∈ news, u.oneCell' = true) (hm0 : A2 = none → m = 0) (hnm : n + m ≤ 1000000) (N : Nat) (hN : n + m = N)
    (h : ∀ A' cap' w', Hid (Row w' B e A' N cap' (xs ++ news)) → Below B w0 w' → B ≤ w'.heap.size → wpList Tryd.prog ops Q rest (a.put o.dst (.slice A' N cap')) w') : wpList Tryd.prog ops Q (o :: rest) a w := by
  subst hN
  obtain ⟨A', cap', w', hrun, hr, hb, hsz⟩ := run_app (ty := o.type) ht hi hz hsize hby hzs hb8 hbel hB hrow hl hsrc h1 hm0 hnm
  refine wpList_plain hgd fun K hK => ?_
  unfold Oper.wp
  simp [execOp, ho, resolve, invoke, builtin, hs, hx, hrun, Result.andThen]
  exact hK _ _ (h A' cap' w' hr hb (by omega))

/-- One byte more, one word more: what stands in the source that the walk has just built. -/
theorem one_src (w : World) (x : Value) (t : TypeId) : (some (⟨w.heap.size, 0, none⟩ : Addr) = none ∧ 1 = 0) ∨ ∃ ad, some (⟨w.heap.size, 0, none⟩ : Addr) = some ad ∧ ∀ j u, [x][j]? = some u → (w.alloc (.cells #[x] t)).cell? (ad.add j) = some u :=
  .inr ⟨_, rfl, cell_one_new w x t⟩
theorem wpList_appByte {ops : Array Oper} {rest : List Oper} {o : Oper} {a : Act} {w : World} {Q : Exit → Act → World → Prop} (hgd : o.guard = none) (s x : Operand) (ho : o.op = .call { callee := .builtin .append, args := #[s, x], argTypes := #[24, 24] })
    {B : Nat} {w0 : World} (hbel : Below B w0 w) (hB : B ≤ w.heap.size) {A : Option Addr} {n cap : Nat} {l : List UInt8} (b : UInt8) (y : Int) (hy : y = ub b) (hs : a.eval s = .slice A n cap) (hrow : Row w B 5 A n cap (cb l)) (hx : a.eval x = .slice (some ⟨w.heap.size, 0, none⟩) 1 1) (hn : n < 1000000) (N : Nat) (hN : n + 1 = N)
    (h : ∀ A' cap' w', Hid (Row w' B 5 A' N cap' (cb (l ++ [b]))) → Below B w0 w' → B ≤ w'.heap.size → wpList Tryd.prog ops Q rest (a.put o.dst (.slice A' N cap')) w') : wpList Tryd.prog ops Q (o :: rest) a (w.alloc (.cells #[.int .u8 y] 5)) := by
  obtain ⟨i0, hi, hz0, hz1, hz2⟩ := info_parts byteInfo
  subst hy
  refine wpList_app hgd s x 24 5 ho Tryd.underlying24 hi hz0 hz1 hz2 rfl (by omega) (hbel.alloc hB _) (by simp; omega) hs (World.ownsRow.alloc hrow _) hx (news := [.int .u8 (ub b)]) rfl (one_src w _ _) (by intro u hu; rw [List.mem_singleton.1 hu]; rfl) (fun e => by cases e) (by omega) N hN ?_
  intro A' cap' w' hr hb hB'
  refine h A' cap' w' ?_ hb hB'
  have := hr.out
  show Row _ _ _ _ _ _ _
  simpa [cb] using this
theorem wpList_appWord {ops : Array Oper} {rest : List Oper} {o : Oper} {a : Act} {w : World} {Q : Exit → Act → World → Prop} (hgd : o.guard = none) (s x : Operand) (ho : o.op = .call { callee := .builtin .append, args := #[s, x], argTypes := #[39, 39] })
    {B : Nat} {w0 : World} (hbel : Below B w0 w) (hB : B ≤ w.heap.size) {A : Option Addr} {n cap : Nat} {l : List W64} (b : W64) (y : Int) (hy : y = ui b) (hs : a.eval s = .slice A n cap) (hrow : Row w B 34 A n cap (cw l)) (hx : a.eval x = .slice (some ⟨w.heap.size, 0, none⟩) 1 1) (hn : n < 1000000) (N : Nat) (hN : n + 1 = N)
    (h : ∀ A' cap' w', Hid (Row w' B 34 A' N cap' (cw (l ++ [b]))) → Below B w0 w' → B ≤ w'.heap.size → wpList Tryd.prog ops Q rest (a.put o.dst (.slice A' N cap')) w') : wpList Tryd.prog ops Q (o :: rest) a (w.alloc (.cells #[.int .u64 y] 34)) := by
  obtain ⟨i0, hi, hz0, hz1, hz2⟩ := info_parts wordInfo
  subst hy
  refine wpList_app hgd s x 39 34 ho Tryd.underlying39 hi hz0 hz1 hz2 rfl (by omega) (hbel.alloc hB _) (by simp; omega) hs (World.ownsRow.alloc hrow _) hx (news := [.int .u64 (ui b)]) rfl (one_src w _ _) (by intro u hu; rw [List.mem_singleton.1 hu]; rfl) (fun e => by cases e) (by omega) N hN ?_
  intro A' cap' w' hr hb hB'
  refine h A' cap' w' ?_ hb hB'
  have := hr.out
  show Row _ _ _ _ _ _ _
  simpa [cw] using this
/-- The same as one step of a region that draws its order. -/
theorem step_appWord {ops : Array Oper} {o : Oper} {a : Act} {w : World} {K : Act → World → Prop} {Q : Exit → Act → World → Prop} {E : Prop} (hgd : o.guard = none) (s x : Operand) (ho : o.op = .call { callee := .builtin .append, args := #[s, x], argTypes := #[39, 39] })
    {B : Nat} {w0 : World} (hbel : Below B w0 w) (hB : B ≤ w.heap.size) {A : Option Addr} {n cap : Nat} {l : List W64} (b : W64) (hs : a.eval s = .slice A n cap) (hrow : Row w B 34 A n cap (cw l)) (g2 : Nat) (hx : a.eval x = .slice (some ⟨g2, 0, none⟩) 1 1) (hc : w.cell? ⟨g2, 0, none⟩ = some (.int .u64 (ui b))) (hn : n < 1000000) (N : Nat) (hN : n + 1 = N)
    (h : ∀ A' cap' w', Hid (Row w' B 34 A' N cap' (cw (l ++ [b]))) → Below B w0 w' → B ≤ w'.heap.size → K (a.put o.dst (.slice A' N cap')) w') :
    if Region.wanted o (yielded ops a.tmps) = true then Oper.wp Tryd.prog o a w K Q else E := by
  obtain ⟨i0, hi, hz0, hz1, hz2⟩ := info_parts wordInfo
  have hw : Region.wanted o (yielded ops a.tmps) = true := by simp [Region.wanted, hgd]
  rw [if_pos hw]
  obtain ⟨A', cap', w', hrun, hr, hb, hsz⟩ := run_app (ty := o.type) (A2 := some ⟨g2, 0, none⟩) (m := 1) (c2 := 1) (news := [.int .u64 (ui b)]) Tryd.underlying39 hi hz0 hz1 hz2 rfl (by omega) hbel hB hrow rfl (.inr ⟨_, rfl, fun j u hj => by
    match j, hj with
    | 0, hj => rw [addr_add]; simp at hj; subst hj; exact hc⟩) (by intro u hu; rw [List.mem_singleton.1 hu]; rfl) (fun e => by cases e) (by omega)
  subst hN
  unfold Oper.wp
  simp [execOp, ho, resolve, invoke, builtin, hs, hx, hrun, Result.andThen]
  refine h A' cap' w' ?_ hb (by omega)
  show Row _ _ _ _ _ _ _
  simpa [cw] using hr
theorem one_cell (w : World) (v : Value) (t : TypeId) : (w.alloc (.cells #[v] t)).drew.cell? ⟨w.heap.size, 0, none⟩ = some v := by
  rw [show (w.alloc (.cells #[v] t)).drew.cell? ⟨w.heap.size, 0, none⟩ = (w.alloc (.cells #[v] t)).cell? ⟨w.heap.size, 0, none⟩ from rfl, cell_of_row _ _ _ _ _ _ (heap_alloc_new w _)]
  rfl
theorem Row.allocDrew {w : World} {B : Nat} {e : TypeId} {A : Option Addr} {n cap : Nat} {xs : List Value} (h : Row w B e A n cap xs) (o : Obj) : Row (w.alloc o).drew B e A n cap xs := World.ownsRow.alloc h o
theorem below_allocDrew {B : Nat} {w0 w : World} (h : Below B w0 w) (hB : B ≤ w.heap.size) (o : Obj) : Below B w0 (w.alloc o).drew ∧ B ≤ (w.alloc o).drew.heap.size := by
  have := h.alloc hB o
  exact ⟨⟨this.os, this.tape, this.output, this.size, this.block⟩, by show B ≤ (w.alloc o).heap.size; simp; omega⟩
end Go.Proofs.YtidibhphnkiacaaDoor
