/-
  Numbers in memory: a slice that reads as a list of numbers, a block known whole, a row of the call's own; make and append. No condition.
-/
import Derived.Test.YthepbadecpnepaaProg
import Derived.KernelRfl
import Derived.WalkKit
import Derived.WalkSpells
import Derived.WalkLawsBesides
import Derived.Lib.Hide
import Derived.Outline
import Derived.Deep.QuietTactic
import Derived.BigQuiet
import Derived.Laws.BitsAllLaws
import Derived.Laws.CopyOwn
import Derived.Laws.BytesArg
import Derived.Deep.MidRow
import Derived.Maps.AppendAt
import Derived.Deep.AppendLies
import Derived.OwnWalk
import Derived.WalkSmall
import Derived.Laws.AppendOwnNone
import Derived.StillTailTactics
import Derived.IntWalk
import Derived.Maps.OwnSet
import Derived.Laws.RangeString
import Derived.WalkArith
namespace Go.Proofs.Ythepbadecpnepaa
set_option maxRecDepth 100000
open Go.RowKit
set_option linter.unusedVariables false

/-- Numbers as cells. -/
def cn (k : IntKind) (l : List Nat) : List Value := l.map fun (x : Nat) => Value.int k (x : Int)
theorem cn_length (k : IntKind) (l : List Nat) : (cn k l).length = l.length := by simp [cn]
theorem cn_one (k : IntKind) (l : List Nat) : ∀ v ∈ cn k l, v.oneCell' = true := by intro v hv; simp [cn] at hv; obtain ⟨x, _, rfl⟩ := hv; rfl
theorem cn_get {k : IntKind} {l : List Nat} {i x : Nat} (h : l[i]? = some x) : (cn k l)[i]? = some (.int k (x : Int)) := by simp [cn, h]
theorem cn_set (k : IntKind) (l : List Nat) (i x : Nat) : (cn k l).set i (.int k (x : Int)) = cn k (l.set i x) := by simp [cn, List.map_set]
theorem cn_append (k : IntKind) (a b : List Nat) : cn k (a ++ b) = cn k a ++ cn k b := by simp [cn]
theorem get_some {l : List Nat} {i : Nat} (h : i < l.length) : ∃ x, l[i]? = some x := ⟨_, List.getElem?_eq_getElem h⟩

/-- Block g is just the cells cs, of element type t; none of them is frozen. -/
def Blk (w : World) (g : Nat) (t : TypeId) (cs : List Value) : Prop := w.heap[g]? = some (.cells cs.toArray t (0, 0))
section
variable {w w' : World} {g : Nat} {t : TypeId} {cs : List Value}
theorem Blk.lt (h : Blk w g t cs) : g < w.heap.size := by
  rcases Nat.lt_or_ge g w.heap.size with hlt | hge
  · exact hlt
  · unfold Blk at h; rw [Array.getElem?_eq_none hge] at h; cases h
theorem Blk.cell (h : Blk w g t cs) (i : Nat) : w.cell? ⟨g, i, none⟩ = cs[i]? := by
  have := cell_of_row w g i cs.toArray t (0, 0) h
  simpa using this
theorem Blk.frozen (h : Blk w g t cs) (i : Nat) : w.frozen? ⟨g, i, none⟩ = false := frozen_of_row w g i _ t h
theorem Blk.new (w : World) (t : TypeId) (cs : List Value) : Blk (w.alloc (.cells cs.toArray t)) w.heap.size t cs := heap_alloc_new w _
theorem Blk.drewN (h : Blk w g t cs) (n : Nat) : Blk (w.drewN n) g t cs := h
theorem Blk.alloc (h : Blk w g t cs) (o : Obj) : Blk (w.alloc o) g t cs := (Below.heap_alloc w o g h.lt).trans h
theorem Blk.set_ (h : Blk w g t cs) (i : Nat) (u : Value) : Blk (w.setCell ⟨g, i, none⟩ u) g t (cs.set i u) := by
  have := heap_setCell_same w g i cs.toArray t u h
  unfold Blk
  rw [this]
  simp
theorem Blk.far (h : Blk w g t cs) {p : Addr} (hp : g ≠ p.block) (u : Value) : Blk (w.setCell p u) g t cs := (Below.heap_setCell w p u g hp).trans h
theorem Blk.below {B : Nat} (h : Blk w g t cs) (hb : Below B w w') (hg : g < B) : Blk w' g t cs := (hb.block g hg).trans h
theorem Blk.grown {row : Option Nat} (h : Blk w g t cs) (hb : w.grownBy w' row) (hg : some g ≠ row) : Blk w' g t cs := (hb.block g h.lt hg).trans h
end

section
variable {a w : World}
theorem only_drewN {row : Option Nat} (h : a.grownBy w row) (n : Nat) : a.grownBy (w.drewN n) row := ⟨h.os, h.tape, h.output, h.size, h.block⟩
theorem only_setCell {g : Nat} (h : a.grownBy w (some g)) {p : Addr} (hp : p.block = g ∨ a.heap.size ≤ p.block) (u : Value) : a.grownBy (w.setCell p u) (some g) :=
  ⟨h.os, h.tape, h.output, by simpa [World.setCell] using h.size, fun i hi hne => (Below.heap_setCell w p u i (by
    rintro rfl
    rcases hp with hp | hp
    · exact hne (by rw [hp])
    · omega)).trans (h.block i hi hne)⟩
theorem only_of_below (h : Below a.heap.size a w) (row : Option Nat) : a.grownBy w row := ⟨h.os, h.tape, h.output, h.size, fun i hi _ => h.block i hi⟩
theorem below_only {B : Nat} {w2 : World} {row : Option Nat} (h : Below B a w) (k : w.grownBy w2 row) (hB : B ≤ w.heap.size) (hr : ∀ j, row = some j → B ≤ j) : Below B a w2 :=
  ⟨k.os.trans h.os, k.tape.trans h.tape, k.output.trans h.output, Nat.le_trans h.size k.size, fun i hi =>
    (k.block i (by omega) (fun e => by have := hr i e.symm; omega)).trans (h.block i hi)⟩
theorem below_drewN {B : Nat} (h : Below B a w) (n : Nat) : Below B a (w.drewN n) := ⟨h.os, h.tape, h.output, h.size, h.block⟩
theorem below_then {w2 : World} (h : Below a.heap.size a w) (k : Below w.heap.size w w2) : Below a.heap.size a w2 := h.trans (k.mono h.size)
theorem below_self : Below a.heap.size a a := Below.refl _ _
end

theorem block_add (a : Addr) (n : Nat) : (a.add n).block = a.block := by unfold Addr.add; split <;> rfl
theorem add_add (a : Addr) (i j : Nat) : (a.add i).add j = a.add (i + j) := by
  unfold Addr.add
  by_cases hi : i = 0 <;> by_cases hj : j = 0 <;> simp [hi, hj, Nat.add_assoc]
theorem addr_add (b off j : Nat) : (⟨b, off, none⟩ : Addr).add j = ⟨b, off + j, none⟩ := by unfold Addr.add; split <;> simp_all

/-- The slice at A of n numbers of kind k reads as l, in memory that is there. -/
def Rd (k : IntKind) (w : World) (A : Option Addr) (n : Nat) (l : List Nat) : Prop :=
  l.length = n ∧ (0 < n → ∃ ad, A = some ad ∧ ad.block < w.heap.size ∧ ∀ (j x : Nat), l[j]? = some x → w.cell? (ad.add j) = some (.int k (x : Int)))
section
variable {k : IntKind} {w w' : World} {A : Option Addr} {n : Nat} {l : List Nat}
theorem Rd.nil (k : IntKind) (w : World) (A : Option Addr) : Rd k w A 0 [] := ⟨rfl, fun h => absurd h (Nat.lt_irrefl _)⟩
theorem Rd.get (h : Rd k w A n l) {j : Nat} (hj : j < n) : ∃ ad x, A = some ad ∧ l[j]? = some x ∧ w.cell? (ad.add j) = some (.int k (x : Int)) := by
  obtain ⟨ad, e, _, hc⟩ := h.2 (by omega)
  obtain ⟨x, hx⟩ := get_some (l := l) (i := j) (by rw [h.1]; exact hj)
  exact ⟨ad, x, e, hx, hc j x hx⟩
theorem Rd.below (h : Rd k w A n l) (hb : Below w.heap.size w w') : Rd k w' A n l :=
  ⟨h.1, fun hn => by
    obtain ⟨ad, e, hlt, hc⟩ := h.2 hn
    exact ⟨ad, e, Nat.lt_of_lt_of_le hlt hb.size, fun j x hj => (hb.cell (p := ad.add j) (by rw [block_add]; exact hlt)).trans (hc j x hj)⟩⟩
theorem Rd.belowAt {B : Nat} (h : Rd k w A n l) (hb : Below B w w') (hlt : ∀ ad, A = some ad → ad.block < B) : Rd k w' A n l :=
  ⟨h.1, fun hn => by
    obtain ⟨ad, e, h1, hc⟩ := h.2 hn
    exact ⟨ad, e, Nat.lt_of_lt_of_le h1 hb.size, fun j x hj => (hb.cell (p := ad.add j) (by rw [block_add]; exact hlt ad e)).trans (hc j x hj)⟩⟩
theorem cell_grown {g : Nat} {ad : Addr} (hg : w.grownBy w' (some g)) (hlt : ad.block < w.heap.size) (hne : ad.block ≠ g) : w'.cell? ad = w.cell? ad := by
  have := hg.block ad.block hlt (fun e => hne (by injection e))
  simp only [World.cell?, this]
theorem Rd.grown {g : Nat} (h : Rd k w A n l) (hg : w.grownBy w' (some g)) (hne : ∀ ad, A = some ad → ad.block ≠ g) : Rd k w' A n l :=
  ⟨h.1, fun hn => by
    obtain ⟨ad, e, hlt, hc⟩ := h.2 hn
    exact ⟨ad, e, Nat.lt_of_lt_of_le hlt hg.size, fun j x hj => (cell_grown (ad := ad.add j) hg (by rw [block_add]; exact hlt) (by rw [block_add]; exact hne ad e)).trans (hc j x hj)⟩⟩
theorem Rd.drewN (h : Rd k w A n l) (m : Nat) : Rd k (w.drewN m) A n l := h
theorem Rd.lt (h : Rd k w A n l) (hn : 0 < n) : ∀ ad, A = some ad → ad.block < w.heap.size := by
  intro ad e
  obtain ⟨ad', e', hlt, _⟩ := h.2 hn
  rw [e] at e'
  injection e' with e'
  rw [e']; exact hlt
theorem Rd.take (h : Rd k w A n l) (m : Nat) (hm : m ≤ n) : Rd k w A m (l.take m) :=
  ⟨by rw [List.length_take, h.1]; omega, fun hp => by
    obtain ⟨ad, e, hlt, hc⟩ := h.2 (by omega)
    refine ⟨ad, e, hlt, fun j x hj => hc j x ?_⟩
    rw [List.getElem?_take] at hj
    split at hj
    · exact hj
    · cases hj⟩
theorem Rd.drop (h : Rd k w A n l) (m cap : Nat) (hm : m ≤ n) (hc : n ≤ cap) : Rd k w (if cap = m then A else A.map (·.add m)) (n - m) (l.drop m) := by
  refine ⟨by rw [List.length_drop, h.1], fun hp => ?_⟩
  obtain ⟨ad, rfl, hlt, hcell⟩ := h.2 (by omega)
  rw [if_neg (by omega)]
  refine ⟨ad.add m, rfl, by rw [block_add]; exact hlt, fun j x hj => ?_⟩
  rw [add_add]
  exact hcell _ _ (by rw [List.getElem?_drop] at hj; exact hj)
theorem Blk.rd {g : Nat} {t : TypeId} (h : Blk w g t (cn k l)) (m : Nat) (hm : l.length = m) : Rd k w (some ⟨g, 0, none⟩) m l :=
  ⟨hm, fun _ => ⟨_, rfl, h.lt, fun j x hj => by rw [addr_add, Nat.zero_add, h.cell]; exact cn_get hj⟩⟩
theorem Blk.rdAt {g : Nat} {t : TypeId} {l0 : List Nat} (h : Blk w g t (cn k l0)) (off m : Nat) (hl : l = (l0.drop off).take m) (hm : off + m ≤ l0.length) : Rd k w (some ⟨g, off, none⟩) m l :=
  ⟨by rw [hl, List.length_take, List.length_drop]; omega, fun _ => ⟨_, rfl, h.lt, fun j x hj => by
    rw [addr_add, h.cell]
    refine cn_get ?_
    rw [hl, List.getElem?_take, List.getElem?_drop] at hj
    split at hj
    · exact hj
    · cases hj⟩⟩
end

/-- A guard for an arm of the walk: the operation that stands next writes slot d. -/
theorem at_dst {P : Program} {ops : Array Oper} {Q : Exit → Act → World → Prop} {rest : List Oper} {a : Act} {w : World} (d : Option Nat) {op : Op} {ty : TypeId} {pos : String} {aft : Array Edge} {gd : Option (Nat × Bool)}
    (h : wpList P ops Q (⟨d, op, ty, pos, aft, gd⟩ :: rest) a w) : wpList P ops Q (⟨d, op, ty, pos, aft, gd⟩ :: rest) a w := h

theorem byteInfo : (Try.prog.info? 5).map (fun i => (i.zero, i.size, i.bytes)) = some (some (.int .u8 0), 1, 1) := by kernel_rfl
theorem intInfo : (Try.prog.info? 3).map (fun i => (i.zero, i.size, i.bytes)) = some (some (.int .i64 0), 1, 8) := by kernel_rfl

/-- make of numbers: a new block of noughts. -/
theorem wpList_makeNums {ops : Array Oper} {rest : List Oper} {o : Oper} {a : Act} {w : World} {Q : Exit → Act → World → Prop} (hgd : o.guard = none) (x y : Operand) (t e : TypeId) (ho : o.op = .makeSlice t x y) (q : IntKind) (bytes : Nat)
    (ht : Try.prog.underlying t = some (.slice e)) (hinf : (Try.prog.info? e).map (fun i => (i.zero, i.size, i.bytes)) = some (some (.int q 0), 1, bytes)) (hb8 : bytes ≤ 8)
    (k : IntKind) (z : Int) (hx : a.eval x = .int k z) (hy : a.eval y = .int k z) (L : Nat) (hz : z = L) (hL : L ≤ 100000)
    (h : ∀ w', Hid (Blk w' w.heap.size e (cn q (List.replicate L 0))) → Below w.heap.size w w' → w.heap.size < w'.heap.size → wpList Try.prog ops Q rest (a.put o.dst (.slice (some ⟨w.heap.size, 0, none⟩) L L)) w') :
    wpList Try.prog ops Q (o :: rest) a w := by
  obtain ⟨i0, hi, hz0, hz1, hz2⟩ := info_parts hinf
  subst hz
  have hm : madeCells (Value.int q 0).cells L = (cn q (List.replicate L 0)).toArray := by
    apply Array.ext
    · simp [size_madeCells, cn]
    · intro i h1 h2
      simp [madeCells, cn, Value.cells, Nat.mod_one]
  have hrun : (Instr.makeSlice t (.int k (L : Int)) (.int k (L : Int))).run Try.prog w = .ok (.slice (some ⟨w.heap.size, 0, none⟩) L L) (w.alloc (.cells (cn q (List.replicate L 0)).toArray e)) := by
    have hlb : L * bytes ≤ 100000 * 8 := Nat.mul_le_mul hL hb8
    have := run_make (P := Try.prog) w t e i0 _ ht hi hz0 k k (L : Int) (L : Int) (by omega) (by omega) (by rw [hz2, ← Int.natCast_mul, Nat.mul_comm]; omega) (by omega)
    rw [hz1, Nat.mul_one, Int.toNat_natCast, hm] at this
    exact this
  refine wpList_plain hgd fun K hK => ?_
  unfold Oper.wp
  simp [execOp, ho, hx, hy, hrun, Result.andThen]
  exact hK _ _ (h _ (heap_alloc_new _ _) ((Below.refl _ _).alloc (Nat.le_refl _) _) (by simp))

/-- A slice that the call has made, of n cells, in a block from B on (or nil). -/
def Row (w : World) (B : Nat) (e : TypeId) (A : Option Addr) (n cap : Nat) (xs : List Value) : Prop := w.ownsRow B e 1 (.slice A n cap) n xs
section
variable {w w' : World} {B : Nat} {e : TypeId} {A : Option Addr} {n cap : Nat} {xs : List Value}
theorem Row.length (h : Row w B e A n cap xs) : xs.length = n := by
  have := h.1; omega
theorem Row.below (h : Row w B e A n cap xs) (hb : Below w.heap.size w w') : Row w' B e A n cap xs :=
  World.ownsRow.kept h (only_of_below hb none) (by cases hv : (Value.slice A n cap).ownBlock <;> simp)
theorem Row.lt (h : Row w B e A n cap xs) (ad : Addr) (ha : A = some ad) : B ≤ ad.block ∧ ad.block < w.heap.size :=
  World.ownsRow.lt h ad.block (by rw [ha]; rfl)
theorem Row.cells (h : Row w B e A n cap xs) (hn : 0 < n) : ∃ g, A = some ⟨g, 0, none⟩ ∧ B ≤ g ∧ g < w.heap.size ∧ ∀ j u, xs[j]? = some u → w.cell? ⟨g, j, none⟩ = some u := by
  obtain ⟨g, cap', hv, hb, hlt⟩ := World.ownsRow.form h hn
  have hA : A = some ⟨g, 0, none⟩ := by injection hv
  subst hA
  exact ⟨g, rfl, hb, hlt, fun j u hu => by have := World.ownsRow.cells h (g := g) rfl j u hu; rwa [addr_add, Nat.zero_add] at this⟩
theorem Row.le (h : Row w B e A n cap xs) : n ≤ cap ∧ cap ≤ maxLen := by
  rcases h.2 with ⟨hv, h0⟩ | ⟨g, cap', cur, hv, _, _, hnc, hm, _⟩
  · injection hv with _ h1 h2; omega
  · injection hv with _ h1 h2; omega
theorem Row.rd {k : IntKind} {l : List Nat} (h : Row w B e A n cap (cn k l)) : Rd k w A n l := by
  refine ⟨by have := h.length; rwa [cn_length] at this, fun hn => ?_⟩
  obtain ⟨g, rfl, _, hlt, hc⟩ := h.cells hn
  exact ⟨_, rfl, hlt, fun j v hv => by rw [addr_add, Nat.zero_add]; exact hc j _ (cn_get hv)⟩
theorem Row.nil (w : World) (B : Nat) (e : TypeId) : Row w B e none 0 0 [] := World.ownsRow_nil w B e 1
end

theorem run_app {t ty e : TypeId} {i : TypeInfo} {z : Value} {bytes : Nat} (ht : Try.prog.underlying t = some (.slice e)) (hi : Try.prog.info? e = some i) (hz : i.zero = some z) (hsize : i.size = 1) (hby : i.bytes = bytes) (hzs : z.cells.size = 1) (hb8 : bytes ≤ 8)
    {B : Nat} {w0 w : World} (hbel : Below B w0 w) (hB : B ≤ w.heap.size) {A : Option Addr} {n cap : Nat} {xs : List Value} (hrow : Row w B e A n cap xs) {A2 : Option Addr} {m c2 : Nat} {news : List Value} (hl : news.length = m)
    (hsrc : A2 = none ∧ c2 = 0 ∨ ∃ ad, A2 = some ad ∧ ∀ j u, news[j]? = some u → w.cell? (ad.add j) = some u) (h1 : ∀ u ∈ news, u.oneCell' = true) (hm0 : A2 = none → m = 0) (hnm : n + m ≤ 1000000) :
    ∃ A' cap' w', (Builtin.append_ #[t, t] ty #[.slice A n cap, .slice A2 m c2]).run Try.prog w = .ok (.slice A' (n + m) cap') w' ∧ Row w' B e A' (n + m) cap' (xs ++ news) ∧ Below B w0 w' ∧ w.heap.size ≤ w'.heap.size := by
  rcases hsrc with ⟨rfl, rfl⟩ | ⟨ad, rfl, hc⟩
  · obtain rfl := hm0 rfl
    obtain rfl : news = [] := List.eq_nil_of_length_eq_zero hl
    exact ⟨A, cap, w, run_append_owned_none (P := Try.prog) (w := w) B t ty e i 1 ht hi _ n xs hrow, by simpa using hrow, hbel, Nat.le_refl _⟩
  · obtain ⟨v', w', hrun, hown, hg, hnil, hat⟩ := run_append_own_at (P := Try.prog) w B t ty e i z 1 bytes ht hi hz hsize hby hzs (by omega) _ n xs hrow ad m c2 news (by omega) hc h1 (by unfold maxLen; omega) (by
      have : (n + m) * bytes ≤ 1000000 * 8 := Nat.mul_le_mul hnm hb8
      omega) hB
    have hform : ∃ A' cap', v' = .slice A' (n + m) cap' := by
      rcases hown.2 with ⟨rfl, h0⟩ | ⟨g, cap', cur, rfl, _⟩
      · exact ⟨none, 0, by rw [h0]⟩
      · exact ⟨_, _, rfl⟩
    obtain ⟨A', cap', rfl⟩ := hform
    refine ⟨A', cap', w', hrun, hown, below_only hbel hg hB (fun j hj => ?_), hg.size⟩
    exact (World.ownsRow.lt hrow j hj).1
theorem wpList_app {ops : Array Oper} {rest : List Oper} {o : Oper} {a : Act} {w : World} {Q : Exit → Act → World → Prop} (hgd : o.guard = none) (s x : Operand) (t e : TypeId) (ho : o.op = .call { callee := .builtin .append, args := #[s, x], argTypes := #[t, t] })
    {i : TypeInfo} {z : Value} {bytes : Nat} (ht : Try.prog.underlying t = some (.slice e)) (hi : Try.prog.info? e = some i) (hz : i.zero = some z) (hsize : i.size = 1) (hby : i.bytes = bytes) (hzs : z.cells.size = 1) (hb8 : bytes ≤ 8)
    {B : Nat} {w0 : World} (hbel : Below B w0 w) (hB : B ≤ w.heap.size) {A : Option Addr} {n cap : Nat} {xs : List Value} (hs : a.eval s = .slice A n cap) (hrow : Row w B e A n cap xs) {A2 : Option Addr} {m c2 : Nat} {news : List Value} (hx : a.eval x = .slice A2 m c2) (hl : news.length = m)
    (hsrc : A2 = none ∧ c2 = 0 ∨ ∃ ad, A2 = some ad ∧ ∀ j u, news[j]? = some u → w.cell? (ad.add j) = some u) (h1 : ∀ u ∈ news, u.oneCell' = true) (hm0 : A2 = none → m = 0) (hnm : n + m ≤ 1000000) (N : Nat) (hN : n + m = N)
    (h : ∀ A' cap' w', Hid (Row w' B e A' N cap' (xs ++ news)) → Below B w0 w' → B ≤ w'.heap.size → wpList Try.prog ops Q rest (a.put o.dst (.slice A' N cap')) w') : wpList Try.prog ops Q (o :: rest) a w := by
  subst hN
  obtain ⟨A', cap', w', hrun, hr, hb, hsz⟩ := run_app (ty := o.type) ht hi hz hsize hby hzs hb8 hbel hB hrow hl hsrc h1 hm0 hnm
  refine wpList_plain hgd fun K hK => ?_
  unfold Oper.wp
  simp [execOp, ho, resolve, invoke, builtin, hs, hx, hrun, Result.andThen]
  exact hK _ _ (h A' cap' w' hr hb (by omega))
theorem one_src (w : World) (x : Value) (t : TypeId) : (some (⟨w.heap.size, 0, none⟩ : Addr) = none ∧ 1 = 0) ∨ ∃ ad, some (⟨w.heap.size, 0, none⟩ : Addr) = some ad ∧ ∀ j u, [x][j]? = some u → (w.alloc (.cells #[x] t)).cell? (ad.add j) = some u :=
  .inr ⟨_, rfl, cell_one_new w x t⟩
end Go.Proofs.Ythepbadecpnepaa
