/-
  Four texts that are written over while a key stands; bytes of a string; the key's bytes are read as the key.
-/
import Derived.Test.YtojpbfkdkkdpcaaDoorK7
import Derived.Test.YtojpbfkdkkdpcaaDoorK9
import Derived.Test.YtojpbfkdkkdpcaaDoorH1
namespace Go.Proofs.YtojpbfkdkkdpcaaDoor
open Go.RowKit
set_option linter.unusedVariables false
set_option linter.unusedSimpArgs false
set_option maxRecDepth 100000

/-- Four texts, listed at block gL, each in a block of its own; a key at block g, and the sums' tables, apart from them. -/
structure Four (w0 w : World) (gL : Nat) (G L C : Nat → Nat) (g k N gm ck gr : Nat) : Prop where
  cell : ∀ t, t < 4 → w.cell? ⟨gL, t, none⟩ = some (.slice (some ⟨G t, 0, none⟩) (L t) (C t))
  row : ∀ t, t < 4 → ∃ l, Fit 256 l ∧ Row w 0 5 (some ⟨G t, 0, none⟩) (L t) (C t) (cn .u8 l)
  key : Keyed w g k N gm ck gr
  tabs : YtojpbfkdkkdpcaaDoorSh.Tabs w
  bel : Below w0.heap.size w0 w
  apart : ∀ s t, s < 4 → t < 4 → s ≠ t → G s ≠ G t
  ngm : ∀ t, t < 4 → G t ≠ gm
  ngL : ∀ t, t < 4 → G t ≠ gL
  above : ∀ t, t < 4 → w0.heap.size ≤ G t
  low : 1 < w0.heap.size
/-- One byte more is written over. -/
theorem Four.store {w0 w : World} {gL : Nat} {G L C : Nat → Nat} {g k N gm ck gr : Nat} (h : Four w0 w gL G L C g k N gm ck gr) (s p v : Nat) (hs : s < 4) (hp : p < L s) (hv : v < 256) : Four w0 (w.setCell ⟨G s, p, none⟩ (.int .u8 (v : Int))) gL G L C g k N gm ck gr := by
  obtain ⟨l, hl, hrow⟩ := h.row s hs
  obtain ⟨x, hx⟩ := get_some (l := l) (i := p) (by have := hrow.length; rw [cn_length] at this; omega)
  have hc := hrow.at_ hp hx
  refine ⟨fun t ht => ?_, fun t ht => ?_, h.key.set8 hc (h.ngm s hs).symm _, ?_, h.bel.setCell (h.above s hs) _, h.apart, h.ngm, h.ngL, h.above, h.low⟩
  · rw [World.cell?_of_block (Below.heap_setCell w ⟨G s, p, none⟩ _ _ (h.ngL s hs).symm)]
    exact h.cell t ht
  · by_cases e : t = s
    · subst e
      exact ⟨l.set p v, hl.set p v hv, hrow.put p v⟩
    · obtain ⟨l', hl', hrow'⟩ := h.row t ht
      exact ⟨l', hl', hrow'.setFar (h.apart t s ht hs e) _⟩
  · have h0 := h.above s hs
    have h1 := h.low
    obtain ⟨⟨t1, f1, e1⟩, t2, f2, e2⟩ := h.tabs
    exact ⟨⟨t1, f1, (Below.heap_setCell w ⟨G s, p, none⟩ _ 0 (by show (0 : Nat) ≠ G s; omega)).trans e1⟩, t2, f2, (Below.heap_setCell w ⟨G s, p, none⟩ _ 1 (by show (1 : Nat) ≠ G s; omega)).trans e2⟩
theorem take_left {a b : List Nat} {n : Nat} (h : a.length = n) : (a ++ b).take n = a := by subst h; simp
theorem drop_left {a b : List Nat} {n : Nat} (h : a.length = n) : (a ++ b).drop n = b := by subst h; simp
theorem key_bits {k N : Nat} (hk : k ≤ 512) : bitsOf (keyBytes k N) = 8 * k := by
  have e : (keyBytes k N).take 4 = bytesOf 4 (8 * k) := by
    unfold keyBytes
    rw [List.append_assoc, List.append_assoc]
    exact take_left (bytesOf_length _ _)
  rw [bitsOf, e]
  exact bytesOf_val (Nat.lt_of_lt_of_le (show 8 * k < 256 ^ 2 by omega) (Nat.pow_le_pow_right (by omega) (by omega)))
theorem key_mod (k N : Nat) : modOf (keyBytes k N) k = bytesOf k N := by
  have e : (keyBytes k N).drop 8 = bytesOf k N ++ bytesOf k (256 ^ (2 * k) % N) := by
    unfold keyBytes
    rw [List.append_assoc (bytesOf 4 (8 * k) ++ bytesOf 4 (n0of N))]
    exact drop_left (by simp [bytesOf_length])
  rw [modOf, e]
  exact take_left (bytesOf_length _ _)
theorem key_good {k N : Nat} (hM : Modul k (bytesOf k N)) (hN : N < 256 ^ k) : GoodParse (keyBytes k N) k := by
  obtain ⟨h1, h2, h3, _⟩ := id hM
  refine ⟨?_, key_bits h2, keyBytes_length k N, by rw [key_mod]; exact hM, by rw [key_mod, bytesOf_val hN]⟩
  rw [key_bits h2]
  exact ⟨by omega, by omega, by omega⟩
/-- The bytes of a string, just made. -/
theorem rd_bytesWorld (w : World) (l : List Nat) (hf : Fit 256 l) : Rd .u8 (Lib.bytesWorld w 5 (str l)) (some ⟨w.heap.size, 0, none⟩) l.length l :=
  ⟨rfl, fun hn => ⟨_, rfl, by rw [Lib.bytesWorld_size]; exact Nat.lt_succ_self _, fun j x hx => by
    have hj := (List.getElem?_eq_some_iff.1 hx).1
    have hd : (str l).data.toList = l.map UInt8.ofNat := by
      show ((l.map fun (x : Nat) => (x : Int)).map fun n => UInt8.ofNat n.toNat) = _
      simp [Function.comp_def]
    have hsz : j < (str l).size := by
      show j < (str l).data.size
      rw [← Array.length_toList, hd, List.length_map]; exact hj
    rw [addr_add, Nat.zero_add, Lib.bytesWorld_cell w 5 (str l) j hsz, hd]
    have hb := hf.get hx
    simp only [List.getD_eq_getElem?_getD, List.getElem?_map, hx, Option.map_some, Option.getD_some, UInt8.toNat_ofNat']
    congr 2
    omega⟩⟩
theorem str_size (l : List Nat) : (str l).size = l.length := by
  show (str l).data.size = _
  rw [← Array.length_toList]
  show ((l.map fun (x : Nat) => (x : Int)).map fun n => UInt8.ofNat n.toNat).length = _
  simp
end Go.Proofs.YtojpbfkdkkdpcaaDoor
