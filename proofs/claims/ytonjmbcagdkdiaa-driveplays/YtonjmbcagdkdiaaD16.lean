/-
  An argument of operations, as it is read. No condition.
-/
import Derived.Test.YtonjmbcagdkdiaaD15
namespace Go.Proofs.Ytonjmbcagdkdiaa
open Go.RowKit Go.ChangeShapes Go.WideShapes Go.ChangeAt
set_option linter.unusedVariables false
set_option linter.unusedSimpArgs false
set_option maxRecDepth 100000

/-- An operation: the seven numbers of it, and what its slices hold. -/
structure OpV where
  kind : Int
  off : Int
  n : Int
  nm : ByteArray
  dA : Option Addr
  dn : Nat
  dc : Nat
  db : List Nat
  on : Bool
  kA : Option Addr
  kn : Nat
  kc : Nat
  kp : List Bool
deriving Inhabited
def OpV.cells (o : OpV) : List Value := [.int .i64 o.kind, .int .i64 o.off, .int .i64 o.n, .string o.nm, .slice o.dA o.dn o.dc, .bool o.on, .slice o.kA o.kn o.kc]
structure OpAt (w : World) (a : Addr) (o : OpV) : Prop where
  c0 : w.cell? a = some (.int .i64 o.kind)
  c1 : w.cell? ⟨a.block, a.off + 1, none⟩ = some (.int .i64 o.off)
  c2 : w.cell? ⟨a.block, a.off + 2, none⟩ = some (.int .i64 o.n)
  c3 : w.cell? ⟨a.block, a.off + 3, none⟩ = some (.string o.nm)
  c4 : w.cell? ⟨a.block, a.off + 4, none⟩ = some (.slice o.dA o.dn o.dc)
  c5 : w.cell? ⟨a.block, a.off + 5, none⟩ = some (.bool o.on)
  c6 : w.cell? ⟨a.block, a.off + 6, none⟩ = some (.slice o.kA o.kn o.kc)
  data : Bs w o.dA o.dn o.dc o.db
  keep : Ss w o.kA o.kn o.kc 1 (bcells o.kp)
  kindOk : I64 o.kind
  offOk : I64 o.off
  nOk : I64 o.n
  lt : a.block < w.heap.size
theorem OpAt.below {w w' : World} {a : Addr} {o : OpV} (h : OpAt w a o) (hb : Below w.heap.size w w') : OpAt w' a o where
  c0 := (hb.cell h.lt).trans h.c0
  c1 := (hb.cell (p := ⟨a.block, a.off + 1, none⟩) h.lt).trans h.c1
  c2 := (hb.cell (p := ⟨a.block, a.off + 2, none⟩) h.lt).trans h.c2
  c3 := (hb.cell (p := ⟨a.block, a.off + 3, none⟩) h.lt).trans h.c3
  c4 := (hb.cell (p := ⟨a.block, a.off + 4, none⟩) h.lt).trans h.c4
  c5 := (hb.cell (p := ⟨a.block, a.off + 5, none⟩) h.lt).trans h.c5
  c6 := (hb.cell (p := ⟨a.block, a.off + 6, none⟩) h.lt).trans h.c6
  data := h.data.below hb
  keep := h.keep.below hb
  kindOk := h.kindOk
  offOk := h.offOk
  nOk := h.nOk
  lt := Nat.lt_of_lt_of_le h.lt hb.size
/-- Operations that came in. -/
structure Ops (w : World) (A : Option Addr) (n cap : Nat) (f : Nat → OpV) : Prop where
  each : ∀ i, i < n → ∃ ad, A = some ad ∧ OpAt w (ad.add (i * 7)) (f i)
  le : n ≤ cap
  max : cap ≤ 9223372036854775807
theorem cellsOp : Try.prog.cellsOf 41 = 7 := by kernel_rfl
theorem cells9 : Try.prog.cellsOf 9 = 1 := by kernel_rfl
theorem cells39 : Try.prog.cellsOf 39 = 1 := by kernel_rfl
theorem cells32 : Try.prog.cellsOf 32 = 1 := by kernel_rfl
section
variable {H : Type} {enc : TypeId × Value → H} {W : World} {base : Nat} {sp : Nat → Bool} {held : Bool}
theorem ops_of_trod {fuel : Nat} {cs : List Value} {x : DataW H × List MemPlace} (h : DataW.trod enc Try.prog W base sp held fuel 23 cs = some x) :
    ∃ (A : Option Addr) (n cap : Nat) (l : Nat → OpV), cs = [.slice A n cap] ∧ Ops W A n cap l := by
  rcases Deep.open_slice Try.underlying23 h with ⟨rfl, _⟩ | ⟨a, len, cap, m, n, D, Pl, rfl, _, hl, hm, hmm, _, hx⟩
  · exact ⟨none, 0, 0, fun _ => ⟨0, 0, 0, ⟨#[]⟩, none, 0, 0, [], false, none, 0, 0, []⟩, rfl, ⟨fun i hi => absurd hi (Nat.not_lt_zero i), Nat.le_refl _, by simp⟩⟩
  · have each : ∀ i, i < len → ∃ q : OpV, OpAt W (a.add (i * 7)) q := by
      intro i hi
      obtain ⟨cs', g1, g2⟩ := hx i (by rw [hmm]; split <;> omega)
      rw [cellsOp] at g1
      obtain ⟨_, hlen, hcell⟩ := World.cells?_some g1
      obtain ⟨xs, k, hk, hxy, _, hxl, hfe⟩ := DataW.trod_struct Try.underlying41 g2
      match xs, hxl, cs', hlen with
      | [y0, y1, y2, y3, y4, y5, y6], _, [v0, v1, v2, v3, v4, v5, v6], _ =>
        have f0 := hfe 0 _ rfl
        have f1 := hfe 1 _ rfl
        have f2 := hfe 2 _ rfl
        have f3 := hfe 3 _ rfl
        have f4 := hfe 4 _ rfl
        have f5 := hfe 5 _ rfl
        have f6 := hfe 6 _ rfl
        simp [cells3, cells4, cells9, cells39, cells32] at f0 f1 f2 f3 f4 f5 f6
        obtain ⟨n0, e0, _, z0⟩ := DataW.trod_int Try.underlying3 f0
        obtain ⟨n1, e1, _, z1⟩ := DataW.trod_int Try.underlying3 f1
        obtain ⟨n2, e2, _, z2⟩ := DataW.trod_int Try.underlying3 f2
        obtain ⟨s3, e3, _, z3⟩ := DataW.trod_string Try.underlying9 f3
        obtain ⟨dA, dn, dc, db, e4, g4⟩ := bytes_of_trod f4
        obtain ⟨b5, e5, _⟩ := DataW.trod_bool Try.underlying4 f5
        obtain ⟨kA, kn, kc, kp, e6, g6⟩ := bools_of_trod f6
        simp at e0 e1 e2 e3 e4 e5 e6
        subst e0 e1 e2 e3 e4 e5 e6
        have t0 := hcell 0 (by omega)
        have t1 := hcell 1 (by omega)
        have t2 := hcell 2 (by omega)
        have t3 := hcell 3 (by omega)
        have t4 := hcell 4 (by omega)
        have t5 := hcell 5 (by omega)
        have t6 := hcell 6 (by omega)
        have hlt := World.block_lt_of_cell? W _ t0
        exact ⟨⟨n0, n1, n2, s3, dA, dn, dc, db, b5, kA, kn, kc, kp⟩, t0, t1, t2, t3, t4, t5, t6, g4, g6, i64_wf z0, i64_wf z1, i64_wf z2, hlt⟩
    obtain ⟨P, hP⟩ := Deep.choose_lt each
    exact ⟨some a, len, cap, P, rfl, ⟨fun i hi => ⟨a, rfl, hP i hi⟩, hl, by unfold maxLen at hm; omega⟩⟩
end
end Go.Proofs.Ytonjmbcagdkdiaa
