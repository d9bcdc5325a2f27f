/-
  What a step may turn; slices of any cells. No condition.
-/
import Derived.Test.YtfeihdmjcppbaaaDoorDm
namespace Go.Proofs.YtfeihdmjcppbaaaDoor
open Go.RowKit
set_option linter.unusedVariables false
set_option linter.unusedSimpArgs false
set_option maxRecDepth 100000

/-- Of what was there only the blocks of F may have turned; the streams are as they were. -/
structure Touch (F : List Nat) (w w' : World) : Prop where
  os : w'.os = w.os
  tape : w'.tape = w.tape
  output : w'.output = w.output
  size : w.heap.size ≤ w'.heap.size
  block : ∀ k, k < w.heap.size → k ∉ F → w'.heap[k]? = w.heap[k]?
section
variable {F G : List Nat} {a b c w w' : World} {B : Nat}
theorem Touch.refl (F : List Nat) (w : World) : Touch F w w := ⟨rfl, rfl, rfl, Nat.le_refl _, fun _ _ _ => rfl⟩
theorem Touch.then (h : Touch F a b) (k : Touch G b c) (hG : ∀ x ∈ G, x ∈ F ∨ a.heap.size ≤ x) : Touch F a c :=
  ⟨k.os.trans h.os, k.tape.trans h.tape, k.output.trans h.output, Nat.le_trans h.size k.size, fun i hi hn => (k.block i (Nat.lt_of_lt_of_le hi h.size) (fun hg => by
    rcases hG i hg with h1 | h1
    · exact hn h1
    · omega)).trans (h.block i hi hn)⟩
theorem Touch.trans (h : Touch F a b) (k : Touch F b c) : Touch F a c := h.then k (fun x hx => .inl hx)
theorem Touch.wider (h : Touch F a b) (hG : ∀ x ∈ F, x ∈ G) : Touch G a b := ⟨h.os, h.tape, h.output, h.size, fun i hi hn => h.block i hi (fun hf => hn (hG i hf))⟩
theorem Touch.of_below (F : List Nat) (h : Below w.heap.size w w') : Touch F w w' := ⟨h.os, h.tape, h.output, h.size, fun i hi _ => h.block i hi⟩
theorem Touch.then_below (h : Touch F a b) (k : Below b.heap.size b c) : Touch F a c := h.trans (Touch.of_below F k)
theorem Touch.below (h : Touch F w w') (hF : ∀ x ∈ F, B ≤ x) (hB : B ≤ w.heap.size) : Below B w w' :=
  ⟨h.os, h.tape, h.output, h.size, fun i hi => h.block i (by omega) (fun hf => by have := hF i hf; omega)⟩
theorem Touch.drewN (h : Touch F a w) (n : Nat) : Touch F a (w.drewN n) := ⟨h.os, h.tape, h.output, h.size, h.block⟩
theorem Touch.drew (h : Touch F a w) : Touch F a w.drew := ⟨h.os, h.tape, h.output, h.size, h.block⟩
theorem Touch.alloc (h : Touch F a w) (o : Obj) : Touch F a (w.alloc o) := h.trans (Touch.of_below F ((Below.refl _ _).alloc (Nat.le_refl _) o))
theorem Touch.setCell (h : Touch F a w) {p : Addr} (hp : p.block ∈ F ∨ a.heap.size ≤ p.block) (u : Value) : Touch F a (w.setCell p u) :=
  h.then (G := [p.block]) ⟨rfl, rfl, rfl, by simp [World.setCell], fun k _ hn => Below.heap_setCell _ _ _ _ (by simpa using hn)⟩ (fun x hx => by
    obtain rfl := List.mem_singleton.1 hx
    exact hp)
theorem Touch.grown {g : Nat} (h : Touch F a w) (hg : w.grownBy w' (some g)) (hp : g ∈ F ∨ a.heap.size ≤ g) : Touch F a w' :=
  h.then (G := [g]) ⟨hg.os, hg.tape, hg.output, hg.size, fun k hk hn => hg.block k hk (fun e => hn (by injection e with e; simp [e]))⟩ (fun x hx => by
    obtain rfl := List.mem_singleton.1 hx
    exact hp)
theorem Blk.touch {g : Nat} {t : TypeId} {cs : List Value} (h : Blk w g t cs) (k : Touch F w w') (hg : g ∉ F) : Blk w' g t cs := (k.block g h.lt hg).trans h
theorem Touch.cell (h : Touch F w w') {p : Addr} (hl : p.block < w.heap.size) (hp : p.block ∉ F) : w'.cell? p = w.cell? p := World.cell?_of_block (w := w) (h.block p.block hl hp)
theorem Touch.frozen (h : Touch F w w') {p : Addr} (hl : p.block < w.heap.size) (hp : p.block ∉ F) : w'.frozen? p = w.frozen? p := World.frozen?_of_block (w := w) (h.block p.block hl hp)
theorem Rd.touch {k : IntKind} {A : Option Addr} {n : Nat} {l : List Nat} (h : Rd k w A n l) (t : Touch F w w') (hF : ∀ ad, A = some ad → ad.block ∉ F) : Rd k w' A n l :=
  ⟨h.1, fun hn => by
    obtain ⟨ad, e, hlt, hc⟩ := h.2 hn
    exact ⟨ad, e, Nat.lt_of_lt_of_le hlt t.size, fun j x hj => (t.cell (p := ad.add j) (by rw [block_add]; exact hlt) (by rw [block_add]; exact hF ad e)).trans (hc j x hj)⟩⟩
end

theorem Rd.touch0 {F : List Nat} {w w' : World} {k : IntKind} {A : Option Addr} {n : Nat} {l : List Nat} (h : Rd k w A n l) (t : Touch F w w') (hF : 0 < n → ∀ ad, A = some ad → ad.block ∉ F) : Rd k w' A n l :=
  ⟨h.1, fun hn => by
    obtain ⟨ad, e, hlt, hc⟩ := h.2 hn
    exact ⟨ad, e, Nat.lt_of_lt_of_le hlt t.size, fun j x hj => (t.cell (p := ad.add j) (by rw [block_add]; exact hlt) (by rw [block_add]; exact hF hn ad e)).trans (hc j x hj)⟩⟩

/-- The slice at A reads as these cells. -/
def Rs (w : World) (A : Option Addr) (vs : List Value) : Prop := 0 < vs.length → ∃ ad, A = some ad ∧ ad.block < w.heap.size ∧ ∀ (j : Nat) u, vs[j]? = some u → w.cell? (ad.add j) = some u
section
variable {F : List Nat} {w w' : World} {A : Option Addr} {vs : List Value}
theorem Rs.nil (w : World) (A : Option Addr) : Rs w A [] := fun h => absurd h (by simp)
theorem Rs.touch (h : Rs w A vs) (t : Touch F w w') (hF : ∀ ad, A = some ad → ad.block ∉ F) : Rs w' A vs := fun hn => by
  obtain ⟨ad, e, hlt, hc⟩ := h hn
  exact ⟨ad, e, Nat.lt_of_lt_of_le hlt t.size, fun j x hj => (t.cell (p := ad.add j) (by rw [block_add]; exact hlt) (by rw [block_add]; exact hF ad e)).trans (hc j x hj)⟩
theorem Rs.touch0 (h : Rs w A vs) (t : Touch F w w') (hF : 0 < vs.length → ∀ ad, A = some ad → ad.block ∉ F) : Rs w' A vs := fun hn => by
  obtain ⟨ad, e, hlt, hc⟩ := h hn
  exact ⟨ad, e, Nat.lt_of_lt_of_le hlt t.size, fun j x hj => (t.cell (p := ad.add j) (by rw [block_add]; exact hlt) (by rw [block_add]; exact hF hn ad e)).trans (hc j x hj)⟩
theorem Rs.below (h : Rs w A vs) (hb : Below w.heap.size w w') : Rs w' A vs := h.touch (Touch.of_below [] hb) (fun _ _ => by simp)
theorem Rs.belowAt {B : Nat} (h : Rs w A vs) (hb : Below B w w') (hlt : ∀ ad, A = some ad → ad.block < B) : Rs w' A vs := fun hn => by
  obtain ⟨ad, e, h1, hc⟩ := h hn
  exact ⟨ad, e, Nat.lt_of_lt_of_le h1 hb.size, fun j x hj => (hb.cell (p := ad.add j) (by rw [block_add]; exact hlt ad e)).trans (hc j x hj)⟩
theorem Rs.drewN (h : Rs w A vs) (m : Nat) : Rs (w.drewN m) A vs := h
theorem Rs.lt (h : Rs w A vs) (hn : 0 < vs.length) : ∀ ad, A = some ad → ad.block < w.heap.size := by
  intro ad e
  obtain ⟨ad', e', hlt, _⟩ := h hn
  rw [e] at e'
  injection e' with e'
  rw [e']; exact hlt
theorem Rs.get (h : Rs w A vs) {j : Nat} {u : Value} (hj : vs[j]? = some u) : ∃ ad, A = some ad ∧ w.cell? (ad.add j) = some u := by
  obtain ⟨ad, e, _, hc⟩ := h (by have := (List.getElem?_eq_some_iff.1 hj).1; omega)
  exact ⟨ad, e, hc j u hj⟩
theorem Rs.take (h : Rs w A vs) (m : Nat) : Rs w A (vs.take m) := fun hp => by
  rw [List.length_take] at hp
  obtain ⟨ad, e, hlt, hc⟩ := h (by omega)
  refine ⟨ad, e, hlt, fun j x hj => hc j x ?_⟩
  rw [List.getElem?_take] at hj
  split at hj
  · exact hj
  · cases hj
theorem Blk.rs {g : Nat} {t : TypeId} (h : Blk w g t vs) : Rs w (some ⟨g, 0, none⟩) vs := fun _ => ⟨_, rfl, h.lt, fun j x hj => by rw [addr_add, Nat.zero_add, h.cell]; exact hj⟩
theorem Rd.rs {k : IntKind} {n : Nat} {l : List Nat} (h : Rd k w A n l) : Rs w A (cn k l) := fun hn => by
  rw [cn_length, h.1] at hn
  obtain ⟨ad, e, hlt, hc⟩ := h.2 hn
  refine ⟨ad, e, hlt, fun j u hu => ?_⟩
  have hj : j < l.length := by have := (List.getElem?_eq_some_iff.1 hu).1; rwa [cn_length] at this
  obtain ⟨x, hx⟩ := get_some hj
  rw [cn_get hx] at hu
  injection hu with hu
  rw [hc j x hx, hu]
theorem Rs.rd {k : IntKind} {n : Nat} {l : List Nat} (h : Rs w A (cn k l)) (hn : l.length = n) : Rd k w A n l := ⟨hn, fun hp => by
  obtain ⟨ad, e, hlt, hc⟩ := h (by rw [cn_length, hn]; exact hp)
  exact ⟨ad, e, hlt, fun j x hj => hc j _ (cn_get hj)⟩⟩
end

end Go.Proofs.YtfeihdmjcppbaaaDoor
