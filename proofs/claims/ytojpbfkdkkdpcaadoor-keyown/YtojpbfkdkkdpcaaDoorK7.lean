/-
  What a byte that is written over changes: bytes of one's own, and no key.
-/
import Derived.Test.YtojpbfkdkkdpcaaDoorK6
namespace Go.Proofs.YtojpbfkdkkdpcaaDoor
open Go.RowKit
set_option linter.unusedVariables false
set_option linter.unusedSimpArgs false
set_option maxRecDepth 100000

theorem Row.blk {w : World} {B : Nat} {g n cap : Nat} {xs : List Value} (h : Row w B 5 (some ⟨g, 0, none⟩) n cap xs) : B ≤ g ∧ ∃ cs, Blk w g 5 cs ∧ cs.length = cap ∧ cs.take n = xs := by
  rcases h.2 with ⟨e, _⟩ | ⟨g', cap', cur, e, hB, hg, h1, h2, h3, h4⟩
  · cases e
  · injection e with e1 e2 e3
    injection e1 with e1
    injection e1 with e1
    subst e1; subst e3
    refine ⟨hB, cur.toList, ?_, ?_, ?_⟩
    · unfold Blk; simpa using hg
    · simpa using h3
    · simpa using h4
theorem Row.fz {w : World} {B : Nat} {g n cap : Nat} {xs : List Value} (h : Row w B 5 (some ⟨g, 0, none⟩) n cap xs) (p : Nat) : w.frozen? ⟨g, p, none⟩ = false := by
  obtain ⟨_, cs, hb, _⟩ := h.blk
  exact hb.frozen p
theorem Row.put {w : World} {B g n cap : Nat} {l : List Nat} (h : Row w B 5 (some ⟨g, 0, none⟩) n cap (cn .u8 l)) (p y : Nat) : Row (w.setCell ⟨g, p, none⟩ (.int .u8 (y : Int))) B 5 (some ⟨g, 0, none⟩) n cap (cn .u8 (l.set p y)) := by
  obtain ⟨hB, cs, hb, hc, ht⟩ := h.blk
  have hl := h.length
  have hle := h.le
  have hb2 := hb.set_ p (.int .u8 (y : Int))
  refine ⟨by rw [cn_length, List.length_set, ← cn_length .u8 l]; simpa using hl, .inr ⟨g, cap, (cs.set p (.int .u8 (y : Int))).toArray, rfl, hB, hb2, hle.1, hle.2, by simp [hc], ?_⟩⟩
  rw [List.toList_toArray, Nat.mul_one, List.take_set, ht, cn_set]
theorem Row.at_ {w : World} {B g n cap : Nat} {l : List Nat} (h : Row w B 5 (some ⟨g, 0, none⟩) n cap (cn .u8 l)) {p x : Nat} (hp : p < n) (hx : l[p]? = some x) : w.cell? ⟨g, p, none⟩ = some (.int .u8 (x : Int)) := by
  obtain ⟨ad, y, e, hy, hc⟩ := h.rd.get hp
  injection e with e
  rw [hx] at hy
  injection hy with hy
  rw [← e, addr_add, Nat.zero_add, ← hy] at hc
  exact hc
/-- A row elsewhere. -/
theorem Rd.setFar {q : IntKind} {w : World} {A : Option Addr} {n : Nat} {l : List Nat} (h : Rd q w A n l) {p : Addr} (hne : ∀ ad, A = some ad → ad.block ≠ p.block) (u : Value) : Rd q (w.setCell p u) A n l :=
  ⟨h.1, fun hn => by
    obtain ⟨ad, e, hlt, hc⟩ := h.2 hn
    refine ⟨ad, e, by simpa [World.setCell] using hlt, fun j x hj => ?_⟩
    rw [World.cell?_of_block (Below.heap_setCell w p u _ (by rw [block_add]; exact hne ad e))]
    exact hc j x hj⟩
theorem Row.setFar {w : World} {B g n cap : Nat} {l : List Nat} (h : Row w B 5 (some ⟨g, 0, none⟩) n cap (cn .u8 l)) {p : Addr} (hne : g ≠ p.block) (u : Value) : Row (w.setCell p u) B 5 (some ⟨g, 0, none⟩) n cap (cn .u8 l) := by
  obtain ⟨hB, cs, hb, hc, ht⟩ := h.blk
  exact ⟨h.1, .inr ⟨g, cap, cs.toArray, rfl, hB, hb.far hne u, h.le.1, h.le.2, by simp [hc], by simpa using ht⟩⟩
/-- A byte's cell lies in no ring. -/
theorem Whole.set8 {w : World} {g k N gp j : Nat} {x : Int} (h : Whole w g k N) (hp : w.cell? ⟨gp, j, none⟩ = some (.int .u8 x)) (u : Value) : Whole (w.setCell ⟨gp, j, none⟩ u) g k N := by
  obtain ⟨n0, A, c, ln, A', c', lr, h1, h2, h3, h4⟩ := h
  have hne : g ≠ gp := by
    rintro rfl
    rw [h1.blk.cell j] at hp
    match j, hp with
    | 0, hp => cases hp
    | 1, hp => cases hp
    | 2, hp => cases hp
    | j + 3, hp => simp at hp
  refine ⟨n0, A, c, ln, A', c', lr, ⟨h1.blk.far hne u, h1.rd.setOther hp (fun x e => by cases e) u, h1.fit, h1.num, h1.k1, h1.k2, h1.odd, h1.gt, h1.n1, h1.inv⟩, h2.setOther hp (fun x e => by cases e) u, h3, h4⟩
theorem Keyed.set8 {w : World} {g k N gm c gr gp j : Nat} {x : Int} (h : Keyed w g k N gm c gr) (hp : w.cell? ⟨gp, j, none⟩ = some (.int .u8 x)) (hgm : gm ≠ gp) (u : Value) : Keyed (w.setCell ⟨gp, j, none⟩ u) g k N gm c gr := by
  have hne : g ≠ gp := by
    rintro rfl
    rw [h.blk.cell j] at hp
    match j, hp with
    | 0, hp => cases hp
    | 1, hp => cases hp
    | j + 2, hp => simp at hp
  exact ⟨h.blk.far hne u, h.rd.setFar (fun ad e => by injection e with e; rw [← e]; exact hgm) u, h.c1, h.c2, h.ring.set8 hp u, h.k1, h.k2, h.k3, h.room⟩
theorem xor_ne {o y : Nat} (hy : y ≠ 0) : o ^^^ y ≠ o := by
  intro h
  have h1 : o ^^^ (o ^^^ y) = y := by rw [← Nat.xor_assoc, Nat.xor_self, Nat.zero_xor]
  rw [h, Nat.xor_self] at h1
  exact hy h1.symm
theorem set_ne {l : List Nat} {p o v : Nat} (ho : l[p]? = some o) (hv : v ≠ o) : l.set p v ≠ l := by
  intro h
  have hp := (List.getElem?_eq_some_iff.1 ho).1
  have : (l.set p v)[p]? = some v := by rw [List.getElem?_set_self hp]
  rw [h, ho] at this
  injection this with this
  exact hv this.symm
end Go.Proofs.YtojpbfkdkkdpcaaDoor
