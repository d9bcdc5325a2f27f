/-
  Bytes in memory as a string; what an argument of bytes, or of parts of bytes, gives the walks. No condition.
-/
import Derived.Test.YtidibhphnkiacaaDoorFrame
import Derived.Deep.Slices
namespace Go.Proofs.YtidibhphnkiacaaDoor
open Go.ChangeShapes Go.WideShapes Go.ChangeAt Go.RowKit
set_option linter.unusedVariables false

theorem laidOut : laidOutB Tryd.prog = true := by kernel_rfl
/-- A text of bytes as the walk's string. -/
def str (l : List UInt8) : ByteArray := strOfNums (l.map ub)
theorem Seg.str {w : World} {A : Option Addr} {k : Nat} {l : List UInt8} (h : Seg w A k l) (cap : Nat) : (convert 24 9 (.slice A k cap)).run Tryd.prog w = .ok (.string (str l)) w := by
  rcases A with _ | a
  · have hl : l = [] := by
      rcases Nat.eq_zero_or_pos k with h0 | h0
      · exact List.eq_nil_of_length_eq_zero (by rw [h.1]; exact h0)
      · obtain ⟨_, e, _⟩ := h.2 h0; cases e
    subst hl
    rw [run_convert_bytes_nil (P := Tryd.prog) w 24 5 Tryd.underlying24 Tryd.underlying5 k cap 9 Tryd.underlying9]
    rfl
  · have hl : (loadCells a k).run Tryd.prog w = .ok ((l.map ub).map (Value.int .u8)).toArray w := by
      have := run_loadCells_list (P := Tryd.prog) w a (cb l) (fun j v hj => by
        have hjl := (List.getElem?_eq_some_iff.1 hj).1
        rw [cb_length, h.1] at hjl
        obtain ⟨ad, e, _, hc⟩ := h.2 (by omega)
        injection e with e
        subst e
        exact hc j v hj)
      rw [cb_length, h.1] at this
      rw [this]
      simp [cb]
    rw [run_convert_bytes_string w 24 9 5 _ k cap Tryd.underlying24 Tryd.underlying5 Tryd.underlying9, run_bytesToString w _ k cap (l.map ub) hl, foldl_push_bytes]
    simp [Proofs.YtidibhphnkiacaaDoor.str, strOfNums, ByteArray.empty, ByteArray.emptyWithCapacity]
    rfl
theorem Blk.str {w : World} {g : Nat} {l : List UInt8} (h : Blk w g 5 (cb l)) (n cap : Nat) (hn : l.length = n) : (convert 24 9 (.slice (some ⟨g, 0, none⟩) n cap)).run Tryd.prog w = .ok (.string (Proofs.YtidibhphnkiacaaDoor.str l)) w := (h.seg n hn).str cap
theorem Row.nilcap {w : World} {B : Nat} {e : TypeId} {A : Option Addr} {n cap : Nat} {xs : List Value} (h : Row w B e A n cap xs) (hA : A = none) : cap = 0 := by
  rcases h.2 with ⟨hv, h0⟩ | ⟨g, cap', cur, hv, _⟩
  · injection hv
  · injection hv with h1; rw [hA] at h1; cases h1

/-- Parts that the call has just put together. -/
theorem parts_new (W : World) (ps : List Part) (h : ∀ p ∈ ps, Seg W p.A p.n p.l ∧ p.n ≤ p.cap) : Parts (W.alloc (.cells (ps.map fun p => Value.slice p.A p.n p.cap).toArray 24)) (some ⟨W.heap.size, 0, none⟩) ps.length ps := by
  have hb : Below W.heap.size W (W.alloc (.cells (ps.map fun p => Value.slice p.A p.n p.cap).toArray 24)) := (Below.refl _ _).alloc (Nat.le_refl _) _
  refine ⟨rfl, fun _ => ⟨_, rfl, by simp, fun j p hj => ?_⟩, fun p hp => ⟨(h p hp).1.below hb, (h p hp).2, Nat.zero_le _⟩⟩
  rw [addr_add, Nat.zero_add, cell_of_row _ _ _ _ _ _ (heap_alloc_new W _), List.getElem?_toArray, List.getElem?_map, hj]
  rfl
theorem textOf_one (p : Part) : textOf [p] = p.l := by simp [textOf]
theorem textOf_two (p q : Part) : textOf [p, q] = p.l ++ q.l := by simp [textOf]
theorem textOf_three (p q r : Part) : textOf [p, q, r] = p.l ++ (q.l ++ r.l) := by simp [textOf]

section
variable {H : Type} {enc : TypeId × Value → H} {W : World} {base : Nat} {sp : Nat → Bool} {held : Bool}
/-- An argument of bytes. -/
theorem bytes_of_trod {fuel : Nat} {cs : List Value} {x : DataW H × List MemPlace} (h : DataW.trod enc Tryd.prog W base sp held fuel 24 cs = some x) :
    ∃ (A : Option Addr) (n cap : Nat) (l : List UInt8), cs = [.slice A n cap] ∧ Seg W A n l ∧ n ≤ cap ∧ cap ≤ maxLen ∧ (A = none → cap = 0) := by
  rcases Deep.open_slice1 Tryd.underlying24 cells5 h with ⟨rfl, _⟩ | ⟨a, len, cap, m, k, V, D, Pl, rfl, _, hl, hm, hmm, _, hx⟩
  · exact ⟨none, 0, 0, [], rfl, ⟨rfl, fun h => absurd h (Nat.lt_irrefl _)⟩, Nat.le_refl _, by simp, fun _ => rfl⟩
  · have each : ∀ i, i < len → ∃ b : UInt8, W.cell? (a.add i) = some (.int .u8 (ub b)) := by
      intro i hi
      obtain ⟨hc, ht⟩ := hx i (by rw [hmm]; split <;> omega)
      obtain ⟨z, e, _, hz⟩ := DataW.trod_int Tryd.underlying5 ht
      injection e with e
      rw [e] at hc
      have hb : 0 ≤ z ∧ z ≤ 255 := by
        simp [Lit.wf, IntKind.min, IntKind.max, IntKind.bits, IntKind.signed] at hz
        omega
      refine ⟨UInt8.ofNat z.toNat, ?_⟩
      rw [hc]
      congr 2
      unfold ub
      rw [UInt8.toNat_ofNat']
      omega
    obtain ⟨b, hb⟩ := Deep.choose_lt each
    refine ⟨some a, len, cap, (List.range len).map b, rfl, ⟨by simp, fun hn => ⟨a, rfl, ?_, fun j v hv => ?_⟩⟩, hl, hm, fun e => by cases e⟩
    · have := World.block_lt_of_cell? W _ (hb 0 hn)
      rwa [block_add] at this
    · have hj : j < len := by
        have := (List.getElem?_eq_some_iff.1 hv).1
        simpa [cb] using this
      have e : (cb ((List.range len).map b))[j]? = some (.int .u8 (ub (b j))) := by simp [cb, hj]
      rw [e] at hv
      injection hv with hv
      rw [← hv]
      exact hb j hj
/-- An argument of parts of bytes. -/
theorem parts_of_trod {fuel : Nat} {cs : List Value} {x : DataW H × List MemPlace} (h : DataW.trod enc Tryd.prog W base sp held fuel 22 cs = some x) :
    ∃ (A : Option Addr) (n cap : Nat) (ps : List Part), cs = [.slice A n cap] ∧ Parts W A n ps ∧ n ≤ cap ∧ cap ≤ maxLen ∧ (∀ p ∈ ps, p.A = none → p.cap = 0) := by
  rcases Deep.open_slice1 Tryd.underlying22 cells24 h with ⟨rfl, _⟩ | ⟨a, len, cap, m, k, V, D, Pl, rfl, _, hl, hm, hmm, _, hx⟩
  · exact ⟨none, 0, 0, [], rfl, ⟨rfl, fun h => absurd h (Nat.lt_irrefl _), fun p hp => by cases hp⟩, Nat.le_refl _, by simp, fun p hp => by cases hp⟩
  · have each : ∀ i, i < len → ∃ p : Part, W.cell? (a.add i) = some (.slice p.A p.n p.cap) ∧ Seg W p.A p.n p.l ∧ p.n ≤ p.cap ∧ p.cap ≤ maxLen ∧ (p.A = none → p.cap = 0) := by
      intro i hi
      obtain ⟨hc, ht⟩ := hx i (by rw [hmm]; split <;> omega)
      obtain ⟨A, n, cap, l, e, h1, h2, h3, h4⟩ := bytes_of_trod ht
      injection e with e
      exact ⟨⟨A, n, cap, l⟩, by rw [hc, e], h1, h2, h3, h4⟩
    haveI : Inhabited Part := ⟨⟨none, 0, 0, []⟩⟩
    obtain ⟨P, hP⟩ := Deep.choose_lt each
    have mem : ∀ p ∈ (List.range len).map P, ∃ i, i < len ∧ P i = p := by
      intro p hp
      obtain ⟨i, hi, rfl⟩ := List.mem_map.1 hp
      exact ⟨i, List.mem_range.1 hi, rfl⟩
    refine ⟨some a, len, cap, (List.range len).map P, rfl, ⟨by simp, fun hn => ⟨a, rfl, ?_, fun j p hp => ?_⟩, fun p hp => ?_⟩, hl, hm, fun p hp => ?_⟩
    · have := World.block_lt_of_cell? W _ (hP 0 hn).1
      rwa [block_add] at this
    · have hj : j < len := by
        have := (List.getElem?_eq_some_iff.1 hp).1
        simpa using this
      have e : ((List.range len).map P)[j]? = some (P j) := by simp [hj]
      rw [e] at hp
      injection hp with hp
      subst hp
      exact (hP j hj).1
    · obtain ⟨i, hi, rfl⟩ := mem p hp
      obtain ⟨_, h1, h2, h3, _⟩ := hP i hi
      exact ⟨h1, h2, Nat.zero_le _⟩
    · obtain ⟨i, hi, rfl⟩ := mem p hp
      exact (hP i hi).2.2.2.2
end
end Go.Proofs.YtidibhphnkiacaaDoor
