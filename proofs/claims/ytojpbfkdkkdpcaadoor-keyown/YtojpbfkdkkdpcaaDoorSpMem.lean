/-
  Bytes in memory: a slice that reads as a list of bytes, a block of bytes that a call has made; and what span.longer makes of a slice of at most 100000 bytes.
-/
import Derived.Test.YtojpbfkdkkdpcaaDoorSpBase
import Derived.Laws.CopyOwn
import Derived.Laws.BytesArg
namespace Go.Proofs.YtojpbfkdkkdpcaaDoorSp
set_option maxRecDepth 100000
open Go.RowKit
set_option linter.unusedVariables false

theorem byteInfo : (Tryd.prog.info? 5).map (fun i => (i.zero, i.size, i.bytes)) = some (some (.int .u8 0), 1, 1) := by kernel_rfl
theorem byteSize : (Tryd.prog.info? 5).map (·.size) = some 1 := by kernel_rfl

def AreBytes (l : List Int) : Prop := ∀ x ∈ l, 0 ≤ x ∧ x ≤ 255

/-- The slice at A of n bytes reads as l, in memory that is there. -/
def Seg (w : World) (A : Option Addr) (n : Nat) (l : List Int) : Prop :=
  l.length = n ∧ AreBytes l ∧ (0 < n → ∃ ad, A = some ad ∧ ad.block < w.heap.size ∧ ∀ j, j < n → w.cell? (ad.add j) = some (.int .u8 (l.getD j 0)))

def cellsOfBytes (l : List Int) : List Value := l.map (Value.int .u8)
/-- Block g is just the bytes l. -/
def Own (w : World) (g : Nat) (l : List Int) : Prop := AreBytes l ∧ w.heap[g]? = some (.cells (cellsOfBytes l).toArray 5 (0, 0))

theorem addr_add (b off j : Nat) : (⟨b, off, none⟩ : Addr).add j = ⟨b, off + j, none⟩ := by unfold Addr.add; split <;> simp_all

theorem Own.lt {w : World} {g : Nat} {l : List Int} (h : Own w g l) : g < w.heap.size := by
  rcases Nat.lt_or_ge g w.heap.size with hlt | hge
  · exact hlt
  · have := h.2; rw [Array.getElem?_eq_none hge] at this; cases this
theorem Own.cell {w : World} {g : Nat} {l : List Int} (h : Own w g l) (i : Nat) (hi : i < l.length) : w.cell? ⟨g, i, none⟩ = some (.int .u8 (l.getD i 0)) := by
  have := cell_of_row w g i _ _ _ h.2
  rw [this]
  simp [cellsOfBytes, List.getElem?_eq_getElem hi, List.getD]
theorem Own.frozen {w : World} {g : Nat} {l : List Int} (h : Own w g l) (i : Nat) : w.frozen? ⟨g, i, none⟩ = false := by
  simp [World.frozen?, h.2]
theorem Own.seg {w : World} {g : Nat} {l : List Int} (h : Own w g l) : Seg w (some ⟨g, 0, none⟩) l.length l :=
  ⟨rfl, h.1, fun _ => ⟨_, rfl, h.lt, fun j hj => by rw [addr_add, Nat.zero_add]; exact h.cell j hj⟩⟩
theorem Own.set {w : World} {g : Nat} {l : List Int} (h : Own w g l) (i : Nat) (x : Int) (hx : 0 ≤ x ∧ x ≤ 255) : Own (w.setCell ⟨g, i, none⟩ (.int .u8 x)) g (l.set i x) := by
  refine ⟨?_, ?_⟩
  · intro y hy
    rcases List.mem_or_eq_of_mem_set hy with h' | rfl
    · exact h.1 y h'
    · exact hx
  · have := h.2
    simp [World.setCell, Array.getElem?_modify, this, cellsOfBytes, List.map_set]
theorem Own.below {w w' : World} {g B : Nat} {l : List Int} (h : Own w g l) (hb : Below B w w') (hg : g < B) : Own w' g l := ⟨h.1, (hb.block g hg).trans h.2⟩
theorem Own.drewN {w : World} {g : Nat} {l : List Int} (h : Own w g l) (n : Nat) : Own (w.drewN n) g l := h

theorem block_add (a : Addr) (n : Nat) : (a.add n).block = a.block := by unfold Addr.add; split <;> rfl
theorem add_add (a : Addr) (i j : Nat) : (a.add i).add j = a.add (i + j) := by
  unfold Addr.add
  by_cases hi : i = 0 <;> by_cases hj : j = 0 <;> simp [hi, hj, Nat.add_assoc]

theorem Seg.below {w w' : World} {A : Option Addr} {n : Nat} {l : List Int} (h : Seg w A n l) (hb : Below w.heap.size w w') : Seg w' A n l :=
  ⟨h.1, h.2.1, fun hn => by
    obtain ⟨ad, e, hlt, hc⟩ := h.2.2 hn
    exact ⟨ad, e, Nat.lt_of_lt_of_le hlt hb.size, fun j hj => (hb.cell (p := ad.add j) (by rw [block_add]; exact hlt)).trans (hc j hj)⟩⟩
theorem Seg.cut {w : World} {A : Option Addr} {n : Nat} {l : List Int} (h : Seg w A n l) (k m cap : Nat) (hk : k + m ≤ n) (hc : n ≤ cap) :
    Seg w (if cap = k then A else A.map (·.add k)) m ((l.drop k).take m) := by
  refine ⟨by rw [List.length_take, List.length_drop, h.1]; omega, fun x hx => h.2.1 x (List.mem_of_mem_drop (List.mem_of_mem_take hx)), fun hm => ?_⟩
  obtain ⟨ad, rfl, hlt, hcell⟩ := h.2.2 (by omega)
  rw [if_neg (by omega)]
  refine ⟨ad.add k, rfl, by rw [block_add]; exact hlt, fun j hj => ?_⟩
  rw [add_add, hcell _ (by omega)]
  simp [List.getD, List.getElem?_drop, hj]

theorem made_bytes (k : Nat) : madeCells (Value.int .u8 0).cells k = (cellsOfBytes (List.replicate k 0)).toArray := by
  apply Array.ext
  · simp [size_madeCells, cellsOfBytes]
  · intro i h1 h2
    simp [madeCells, cellsOfBytes, Value.cells, Nat.mod_one]

/-- A call's answer: a slice over a new block that is just these bytes; what was there before is as it was. -/
def GivesBytes (w : World) (m : Nat) (L : List Int) (e : Ending) (w' : World) : Prop :=
  e = .returned (.slice (some ⟨w.heap.size, 0, none⟩) m m) ∧ L.length = m ∧ Own w' w.heap.size L ∧ Below w.heap.size w w'

set_option maxHeartbeats 400000 in
theorem longer_any (A : Option Addr) (n cap : Nat) (l : List Int) (more : Int) (w : World) (hs : Seg w A n l) (hn : n ≤ 100000) (h0 : 0 ≤ more) (h1 : more ≤ 100000) (m : Nat) (hm : (m : Int) = n + more) :
    Calls Tryd.prog 62 #[.slice A n cap, .int .i64 more] w (GivesBytes w m (l ++ List.replicate more.toNat 0)) := by
  have HM := Lib.hid hm
  clear hm
  obtain ⟨i0, hi, hz0, hz1, hz2⟩ := info_parts byteInfo
  have hmk : ∀ w : World, (Instr.makeSlice 22 (.int .i64 (n + more)) (.int .i64 (n + more))).run Tryd.prog w = .ok (.slice (some ⟨w.heap.size, 0, none⟩) (n + more).toNat (n + more).toNat) (w.alloc (.cells (cellsOfBytes (List.replicate (n + more).toNat 0)).toArray 5)) := by
    intro w
    have := run_make (P := Tryd.prog) w 22 5 i0 _ Tryd.underlying22 hi hz0 .i64 .i64 (n + more) (n + more) (by omega) (by omega) (by rw [hz2]; omega) (by omega)
    rw [hz1, Nat.mul_one, made_bytes] at this
    exact this
  clear hi hz0 hz1 hz2
  go_enter Tryd.func62, Tryd.ntmps62
  go_wp2_with (with_reducible refine wpList_copy_splice (o := ⟨some 13, _, _, _, _, _⟩) rfl (.tmp 11) (.tmp 12) 22 22 rfl 5 Tryd.underlying22 byteSize _ _ _ _ _ _ rfl rfl w.heap.size 0 (cellsOfBytes (List.replicate (n + more).toNat 0)) 5 (heap_alloc_new _ _) (cellsOfBytes l) ?c1 ?c2 ?c3 ?c4 w.heap.size w ((Below.refl _ _).alloc (Nat.le_refl _) _) (Nat.le_refl _) ?c5)
  case c1 => simp only [cellsOfBytes, hs.1, List.length_map]; show n = min n _; omega
  case c2 =>
    intro hp
    obtain ⟨ad, e, hlt, hc⟩ := hs.2.2 (by simpa [cellsOfBytes, hs.1] using hp)
    refine ⟨ad, e, fun j v hj => ?_⟩
    have hjl : j < l.length := by
      rcases Nat.lt_or_ge j l.length with h | h
      · exact h
      · simp [cellsOfBytes, List.getElem?_eq_none h] at hj
    rw [World.cell?_alloc_lt _ _ _ (by rw [block_add]; exact hlt), hc j (by rw [← hs.1]; exact hjl)]
    simp [cellsOfBytes, List.getElem?_eq_getElem hjl] at hj
    subst hj
    simp [List.getD, List.getElem?_eq_getElem hjl]
  case c3 => simp [cellsOfBytes, hs.1]; omega
  case c4 => intro v hv; simp [cellsOfBytes] at hv; obtain ⟨x, _, rfl⟩ := hv; rfl
  case c5 =>
    intro w' hg hb
    go_wp2
    go_ret
    have e1 : (n + more).toNat = m := by have := HM.out; omega
    refine ⟨?_, ?_, ⟨?_, ?_⟩, hb⟩
    · show Ending.returned (.slice (some ⟨w.heap.size, 0, none⟩) (n + more).toNat (n + more).toNat) = _
      rw [e1]
    · have := HM.out; simp [hs.1]; omega
    · intro x hx
      rcases List.mem_append.1 hx with h | h
      · exact hs.2.1 x h
      · rw [(List.mem_replicate.1 h).2]; omega
    · rw [hg.out]
      congr 2
      simp [splice, cellsOfBytes, hs.1]
      congr 1
      omega
end Go.Proofs.YtojpbfkdkkdpcaaDoorSp
