/-
  What span.Put, Get, Cut and Pad answer. No condition but that bytes are there and lengths small.
-/
import Derived.Test.YthepbadecpnepaaD2
import Derived.Laws.CopyOwn
import Derived.Laws.BytesArg
import Derived.WalkSpells
import Derived.WalkLawsBesides
namespace Go.Proofs.YthepbadecpnepaaSp
set_option maxRecDepth 100000
open Go.RowKit
set_option linter.unusedVariables false


def gapOf (n to : Int) : Int := if n % to = 0 then 0 else to - n % to
theorem gapOf_bd (n to : Int) (h : 1 ≤ to) : 0 ≤ gapOf n to ∧ gapOf n to < to := by
  unfold gapOf
  have h1 := Int.emod_nonneg n (show to ≠ 0 by omega)
  have h2 := Int.emod_lt_of_pos n (show 0 < to by omega)
  split <;> omega
theorem gapOf_mod (n to : Int) (h : 1 ≤ to) : (n + gapOf n to) % to = 0 := by
  unfold gapOf
  split
  · simpa using ‹_›
  · have : n + (to - n % to) = to * (n / to + 1) := by
      have := Int.mul_ediv_add_emod n to
      rw [Int.mul_add]; omega
    rw [this]; exact Int.mul_emod_right _ _

theorem sizeRight_yes (n : Int) (w : World) (h1 : 1 ≤ n) (h2 : n ≤ 8) :
    Calls Try.prog 44 #[.int .i64 n] w fun e w' => e = .returned (.bool true) ∧ w = w' := by
  go_enter Try.func44, Try.ntmps44
  go_wp2
  go_ret
  exact ⟨rfl, rfl⟩
theorem sizeRight_no (n : Int) (w : World) (h : n < 1 ∨ 8 < n) :
    Calls Try.prog 44 #[.int .i64 n] w fun e w' => e = .returned (.bool false) ∧ w = w' := by
  rcases h with h | h
  · have h' : ¬ 1 ≤ n := by omega
    go_enter Try.func44, Try.ntmps44
    go_wp2
    go_ret
    exact ⟨rfl, rfl⟩
  · have h1 : 1 ≤ n := by omega
    have h' : ¬ n ≤ 8 := by omega
    go_enter Try.func44, Try.ntmps44
    go_wp2
    go_ret
    exact ⟨rfl, rfl⟩
/-- A stretch lies within so many bytes. -/
def Lies (off len total : Int) : Prop := 0 ≤ off ∧ 0 ≤ len ∧ 0 ≤ total ∧ off + len ≤ total
theorem Within_yes (off len total : Int) (w : World) (h : Lies off len total) (ht : total ≤ 9223372036854775807) :
    Calls Try.prog 49 #[.int .i64 off, .int .i64 len, .int .i64 total] w fun e w' => e = .returned (.bool true) ∧ w = w' := by
  obtain ⟨h1, h2, h3, h4⟩ := h
  have h5 : off ≤ total - len := by omega
  go_enter Try.func49, Try.ntmps49
  go_wp2
  go_ret
  exact ⟨rfl, rfl⟩


theorem byteInfo : (Try.prog.info? 5).map (fun i => (i.zero, i.size, i.bytes)) = some (some (.int .u8 0), 1, 1) := by kernel_rfl
theorem byteSize : (Try.prog.info? 5).map (·.size) = some 1 := by kernel_rfl

def AreBytes (l : List Int) : Prop := ∀ x ∈ l, 0 ≤ x ∧ x ≤ 255

/-- The slice at A of n bytes reads as l, in memory that is there. -/
def Seg (w : World) (A : Option Addr) (n : Nat) (l : List Int) : Prop :=
  l.length = n ∧ AreBytes l ∧ (0 < n → ∃ ad, A = some ad ∧ ad.block < w.heap.size ∧ ∀ j, j < n → w.cell? (ad.add j) = some (.int .u8 (l.getD j 0)))

def cellsOfBytes (l : List Int) : List Value := l.map (Value.int .u8)
/-- Block g is just the bytes l. -/
def Own (w : World) (g : Nat) (l : List Int) : Prop := AreBytes l ∧ w.heap[g]? = some (.cells (cellsOfBytes l).toArray 5 (0, 0))

theorem addr_add (b off j : Nat) : (⟨b, off, none⟩ : Addr).add j = ⟨b, off + j, none⟩ := by unfold Addr.add; split <;> simp_all

theorem Own.lt {w : World} {g : Nat} {l : List Int} (h : Own w g l) : g < w.heap.size := by
  rcases Nat.lt_or_ge g w.heap.size with hlt | hge
  · exact hlt
  · have := h.2; rw [Array.getElem?_eq_none hge] at this; cases this
theorem Own.cell {w : World} {g : Nat} {l : List Int} (h : Own w g l) (i : Nat) (hi : i < l.length) : w.cell? ⟨g, i, none⟩ = some (.int .u8 (l.getD i 0)) := by
  have := cell_of_row w g i _ _ _ h.2
  rw [this]
  simp [cellsOfBytes, List.getElem?_eq_getElem hi, List.getD]
theorem Own.frozen {w : World} {g : Nat} {l : List Int} (h : Own w g l) (i : Nat) : w.frozen? ⟨g, i, none⟩ = false := by
  simp [World.frozen?, h.2]
theorem Own.seg {w : World} {g : Nat} {l : List Int} (h : Own w g l) : Seg w (some ⟨g, 0, none⟩) l.length l :=
  ⟨rfl, h.1, fun _ => ⟨_, rfl, h.lt, fun j hj => by rw [addr_add, Nat.zero_add]; exact h.cell j hj⟩⟩
theorem Own.set {w : World} {g : Nat} {l : List Int} (h : Own w g l) (i : Nat) (x : Int) (hx : 0 ≤ x ∧ x ≤ 255) : Own (w.setCell ⟨g, i, none⟩ (.int .u8 x)) g (l.set i x) := by
  refine ⟨?_, ?_⟩
  · intro y hy
    rcases List.mem_or_eq_of_mem_set hy with h' | rfl
    · exact h.1 y h'
    · exact hx
  · have := h.2
    simp [World.setCell, Array.getElem?_modify, this, cellsOfBytes, List.map_set]
theorem Own.below {w w' : World} {g B : Nat} {l : List Int} (h : Own w g l) (hb : Below B w w') (hg : g < B) : Own w' g l := ⟨h.1, (hb.block g hg).trans h.2⟩
theorem Own.drewN {w : World} {g : Nat} {l : List Int} (h : Own w g l) (n : Nat) : Own (w.drewN n) g l := h

theorem block_add (a : Addr) (n : Nat) : (a.add n).block = a.block := by unfold Addr.add; split <;> rfl
theorem add_add (a : Addr) (i j : Nat) : (a.add i).add j = a.add (i + j) := by
  unfold Addr.add
  by_cases hi : i = 0 <;> by_cases hj : j = 0 <;> simp [hi, hj, Nat.add_assoc]

theorem Seg.below {w w' : World} {A : Option Addr} {n : Nat} {l : List Int} (h : Seg w A n l) (hb : Below w.heap.size w w') : Seg w' A n l :=
  ⟨h.1, h.2.1, fun hn => by
    obtain ⟨ad, e, hlt, hc⟩ := h.2.2 hn
    exact ⟨ad, e, Nat.lt_of_lt_of_le hlt hb.size, fun j hj => (hb.cell (p := ad.add j) (by rw [block_add]; exact hlt)).trans (hc j hj)⟩⟩
theorem Seg.cut {w : World} {A : Option Addr} {n : Nat} {l : List Int} (h : Seg w A n l) (k m cap : Nat) (hk : k + m ≤ n) (hc : n ≤ cap) :
    Seg w (if cap = k then A else A.map (·.add k)) m ((l.drop k).take m) := by
  refine ⟨by rw [List.length_take, List.length_drop, h.1]; omega, fun x hx => h.2.1 x (List.mem_of_mem_drop (List.mem_of_mem_take hx)), fun hm => ?_⟩
  obtain ⟨ad, rfl, hlt, hcell⟩ := h.2.2 (by omega)
  rw [if_neg (by omega)]
  refine ⟨ad.add k, rfl, by rw [block_add]; exact hlt, fun j hj => ?_⟩
  rw [add_add, hcell _ (by omega)]
  simp [List.getD, List.getElem?_drop, hj]

theorem made_bytes (k : Nat) : madeCells (Value.int .u8 0).cells k = (cellsOfBytes (List.replicate k 0)).toArray := by
  apply Array.ext
  · simp [size_madeCells, cellsOfBytes]
  · intro i h1 h2
    simp [madeCells, cellsOfBytes, Value.cells, Nat.mod_one]

/-- A call's answer: a slice over a new block that is just these bytes; what was there before is as it was. -/
def GivesBytes (w : World) (m : Nat) (L : List Int) (e : Ending) (w' : World) : Prop :=
  e = .returned (.slice (some ⟨w.heap.size, 0, none⟩) m m) ∧ L.length = m ∧ Own w' w.heap.size L ∧ Below w.heap.size w w'

set_option maxHeartbeats 400000 in
theorem longer_any (A : Option Addr) (n cap : Nat) (l : List Int) (more : Int) (w : World) (hs : Seg w A n l) (hn : n ≤ 100000) (h0 : 0 ≤ more) (h1 : more ≤ 100000) (m : Nat) (hm : (m : Int) = n + more) :
    Calls Try.prog 45 #[.slice A n cap, .int .i64 more] w (GivesBytes w m (l ++ List.replicate more.toNat 0)) := by
  have HM := Lib.hid hm
  clear hm
  obtain ⟨i0, hi, hz0, hz1, hz2⟩ := info_parts byteInfo
  have hmk : ∀ w : World, (Instr.makeSlice 25 (.int .i64 (n + more)) (.int .i64 (n + more))).run Try.prog w = .ok (.slice (some ⟨w.heap.size, 0, none⟩) (n + more).toNat (n + more).toNat) (w.alloc (.cells (cellsOfBytes (List.replicate (n + more).toNat 0)).toArray 5)) := by
    intro w
    have := run_make (P := Try.prog) w 25 5 i0 _ Try.underlying25 hi hz0 .i64 .i64 (n + more) (n + more) (by omega) (by omega) (by rw [hz2]; omega) (by omega)
    rw [hz1, Nat.mul_one, made_bytes] at this
    exact this
  clear hi hz0 hz1 hz2
  go_enter Try.func45, Try.ntmps45
  go_wp2_with (with_reducible refine wpList_copy_splice (o := ⟨some 13, _, _, _, _, _⟩) rfl (.tmp 11) (.tmp 12) 25 25 rfl 5 Try.underlying25 byteSize _ _ _ _ _ _ rfl rfl w.heap.size 0 (cellsOfBytes (List.replicate (n + more).toNat 0)) 5 (heap_alloc_new _ _) (cellsOfBytes l) ?c1 ?c2 ?c3 ?c4 w.heap.size w ((Below.refl _ _).alloc (Nat.le_refl _) _) (Nat.le_refl _) ?c5)
  case c1 => simp only [cellsOfBytes, hs.1, List.length_map]; show n = min n _; omega
  case c2 =>
    intro hp
    obtain ⟨ad, e, hlt, hc⟩ := hs.2.2 (by simpa [cellsOfBytes, hs.1] using hp)
    refine ⟨ad, e, fun j v hj => ?_⟩
    have hjl : j < l.length := by
      rcases Nat.lt_or_ge j l.length with h | h
      · exact h
      · simp [cellsOfBytes, List.getElem?_eq_none h] at hj
    rw [World.cell?_alloc_lt _ _ _ (by rw [block_add]; exact hlt), hc j (by rw [← hs.1]; exact hjl)]
    simp [cellsOfBytes, List.getElem?_eq_getElem hjl] at hj
    subst hj
    simp [List.getD, List.getElem?_eq_getElem hjl]
  case c3 => simp [cellsOfBytes, hs.1]; omega
  case c4 => intro v hv; simp [cellsOfBytes] at hv; obtain ⟨x, _, rfl⟩ := hv; rfl
  case c5 =>
    intro w' hg hb
    go_wp2
    go_ret
    have e1 : (n + more).toNat = m := by have := HM.out; omega
    refine ⟨?_, ?_, ⟨?_, ?_⟩, hb⟩
    · show Ending.returned (.slice (some ⟨w.heap.size, 0, none⟩) (n + more).toNat (n + more).toNat) = _
      rw [e1]
    · have := HM.out; simp [hs.1]; omega
    · intro x hx
      rcases List.mem_append.1 hx with h | h
      · exact hs.2.1 x h
      · rw [(List.mem_replicate.1 h).2]; omega
    · rw [hg.out]
      congr 2
      simp [splice, cellsOfBytes, hs.1]
      congr 1
      omega


theorem Put_form (A : Option Addr) (k cap : Nat) (size n : Int) (w : World) (h : size < 1 ∨ 8 < size) :
    Calls Try.prog 25 #[.slice A k cap, .int .i64 size, .int .i64 n] w fun e w' => e = .returned (.tuple #[.slice none 0 0, .int .i64 12]) ∧ w = w' := by
  go_enter Try.func25, Try.ntmps25
  go_wp2_with (go_at_call 44; refine (sizeRight_no _ _ h).mono ?_; rintro e w' ⟨rfl, rfl⟩)
  go_ret2
  exact ⟨rfl, rfl⟩
theorem Put_neg (A : Option Addr) (k cap : Nat) (size n : Int) (w : World) (h1 : 1 ≤ size) (h2 : size ≤ 8) (h : n < 0) :
    Calls Try.prog 25 #[.slice A k cap, .int .i64 size, .int .i64 n] w fun e w' => e = .returned (.tuple #[.slice none 0 0, .int .i64 11]) ∧ w = w' := by
  go_enter Try.func25, Try.ntmps25
  go_wp2_with (go_at_call 44; refine (sizeRight_yes _ _ h1 h2).mono ?_; rintro e w' ⟨rfl, rfl⟩)
  go_ret2
  exact ⟨rfl, rfl⟩
theorem Put_big (A : Option Addr) (k cap : Nat) (size n : Int) (w : World) (h1 : 1 ≤ size) (h2 : size ≤ 8) (h0 : 0 ≤ n) (h3 : n ≤ 9223372036854775807) (h : (n / 2 ^ (8 * size).toNat != 0) = true) :
    Calls Try.prog 25 #[.slice A k cap, .int .i64 size, .int .i64 n] w fun e w' => e = .returned (.tuple #[.slice none 0 0, .int .i64 11]) ∧ w = w' := by
  go_enter Try.func25, Try.ntmps25
  go_wp2_with (go_at_call 44; refine (sizeRight_yes _ _ h1 h2).mono ?_; rintro e w' ⟨rfl, rfl⟩)
  go_ret2
  exact ⟨rfl, rfl⟩

/-- n in s bytes, the highest one first, of which the last k are laid. -/
def part (s k : Nat) (n : Int) : List Int := (List.range s).map fun j => if s ≤ j + k then n / 2 ^ (8 * (s - 1 - j)) % 256 else 0
def be (s : Nat) (n : Int) : List Int := (List.range s).map fun j => n / 2 ^ (8 * (s - 1 - j)) % 256
theorem part_zero (s : Nat) (n : Int) : part s 0 n = List.replicate s 0 := by
  apply List.ext_getElem
  · simp [part]
  · intro i h1 h2
    simp [part] at h1 ⊢
    omega
theorem part_all (s : Nat) (n : Int) : part s s n = be s n := by
  apply List.ext_getElem
  · simp [part, be]
  · intro i h1 h2
    simp [part, be]
theorem part_length (s k : Nat) (n : Int) : (part s k n).length = s := by simp [part]
theorem be_length (s : Nat) (n : Int) : (be s n).length = s := by simp [be]
theorem part_set (s k : Nat) (n : Int) (hk : k < s) : (part s k n).set (s - 1 - k) (n / 2 ^ (8 * k) % 256) = part s (k + 1) n := by
  apply List.ext_getElem
  · simp [part]
  · intro i h1 h2
    simp [part, List.getElem_set] at h1 ⊢
    by_cases e : s - 1 - k = i
    · rw [if_pos e, if_pos (by omega)]
      congr 3
      omega
    · rw [if_neg e]
      by_cases h : s ≤ i + k
      · rw [if_pos h, if_pos (by omega)]
      · rw [if_neg h, if_neg (by omega)]

def GivesBytesOK (w : World) (m : Nat) (L : List Int) (e : Ending) (w' : World) : Prop :=
  e = .returned (.tuple #[.slice (some ⟨w.heap.size, 0, none⟩) m m, .int .i64 0]) ∧ L.length = m ∧ Own w' w.heap.size L ∧ Below w.heap.size w w'

set_option maxHeartbeats 400000 in
theorem Put_ok (A : Option Addr) (k cap : Nat) (l : List Int) (size n : Int) (w : World) (hs : Seg w A k l) (hk : k ≤ 90000) (h1 : 1 ≤ size) (h2 : size ≤ 8) (h0 : 0 ≤ n) (h3 : n ≤ 9223372036854775807) (h : (n / 2 ^ (8 * size).toNat != 0) = false)
    (m : Nat) (hm : (m : Int) = k + size) :
    Calls Try.prog 25 #[.slice A k cap, .int .i64 size, .int .i64 n] w (GivesBytesOK w m (l ++ be size.toNat n)) := by
  have HM := Lib.hid hm
  have hm1 : (m : Int) ≤ k + size := by omega
  have hm2 : k + size ≤ (m : Int) := by omega
  clear hm
  go_enter Try.func25, Try.ntmps25
  go_wp2_with (first | (go_at_call 44; refine (sizeRight_yes _ _ h1 h2).mono ?_; rintro e w' ⟨rfl, rfl⟩) | (go_at_call 45; refine (longer_any A k cap l size _ hs (by omega) (by omega) (by omega) m HM.out).mono ?_; rintro e w1 ⟨rfl, hL, hown, hb⟩; have HL := Lib.hid hL; clear hL))
  go_loopw [26] (fun i wr => ∃ j : Nat, (j : Int) ≤ size ∧ i = .int .i64 j ∧ Own wr w.heap.size (l ++ part size.toNat j n) ∧ Below w.heap.size w wr) (fun i _ => size.toNat - (intOf i).toNat)
  case atStart => exact ⟨0, by omega, rfl, by rw [part_zero]; exact hown, hb⟩
  case round =>
    obtain ⟨j, hj, rfl, hown1, hb1⟩ := hrel
    by_cases hlt : (j : Int) < size
    · have hl : (l ++ part size.toNat j n).length = m := by have := HM.out; rw [List.length_append, part_length, hs.1]; omega
      have hc := hown1.cell (m - 1 - j) (by omega)
      have hf := hown1.frozen (m - 1 - j)
      have HL2 := Lib.hid hl
      clear hl HL
      go_wp2
      go_roundw
      case rel =>
        refine ⟨j + 1, by omega, by go_num, ?_, hb1.setCell (Nat.le_refl _) _⟩
        have := hown1.set (m - 1 - j) (n / 2 ^ (8 * j) % 256) ⟨by omega, by omega⟩
        have e : (l ++ part size.toNat j n).set (m - 1 - j) (n / 2 ^ (8 * j) % 256) = l ++ part size.toNat (j + 1) n := by
          have hh := HM.out
          have e2 : m - 1 - j = l.length + (size.toNat - 1 - j) := by rw [hs.1]; omega
          rw [e2, List.set_append_right _ _ (by omega), Nat.add_sub_cancel_left, part_set _ _ _ (by omega)]
        rw [e] at this
        exact this
      case measure => simp [intOf]; omega
    · go_wp2
      go_ret2
      have e : j = size.toNat := by omega
      subst e
      rw [part_all] at hown1
      have hh := HM.out
      exact ⟨rfl, by rw [List.length_append, be_length, hs.1]; omega, hown1, hb1⟩


theorem not_lies {off len total : Int} (h : ¬ Lies off len total) : off < 0 ∨ (0 ≤ off ∧ len < 0) ∨ (0 ≤ off ∧ 0 ≤ len ∧ total < 0) ∨ (0 ≤ off ∧ 0 ≤ len ∧ 0 ≤ total ∧ total < off + len) := by
  unfold Lies at h; omega
theorem Within_no (off len total : Int) (w : World) (h : ¬ Lies off len total) (h1 : len ≤ 9223372036854775807) (h2 : off ≤ 9223372036854775807) (ht : total ≤ 9223372036854775807) :
    Calls Try.prog 49 #[.int .i64 off, .int .i64 len, .int .i64 total] w fun e w' => e = .returned (.bool false) ∧ w = w' := by
  rcases not_lies h with h | ⟨a, h⟩ | ⟨a, b, h⟩ | ⟨a, b, c, h⟩
  · go_enter Try.func49, Try.ntmps49
    go_wp2
    go_ret
    exact ⟨rfl, rfl⟩
  · go_enter Try.func49, Try.ntmps49
    go_wp2
    go_ret
    exact ⟨rfl, rfl⟩
  · go_enter Try.func49, Try.ntmps49
    go_wp2
    go_ret
    exact ⟨rfl, rfl⟩
  · have h5 : ¬ off ≤ total - len := by omega
    go_enter Try.func49, Try.ntmps49
    go_wp2
    go_ret
    exact ⟨rfl, rfl⟩
theorem Get_form (A : Option Addr) (k cap : Nat) (off size : Int) (w : World) (h : size < 1 ∨ 8 < size) :
    Calls Try.prog 30 #[.slice A k cap, .int .i64 off, .int .i64 size] w fun e w' => e = .returned (.tuple #[.int .i64 0, .int .i64 12]) ∧ w = w' := by
  go_enter Try.func30, Try.ntmps30
  go_wp2_with (go_at_call 44; refine (sizeRight_no _ _ h).mono ?_; rintro e w' ⟨rfl, rfl⟩)
  go_ret2
  exact ⟨rfl, rfl⟩
theorem Get_end (A : Option Addr) (k cap : Nat) (off size : Int) (w : World) (h1 : 1 ≤ size) (h2 : size ≤ 8) (hk : k ≤ 100000) (ho : off ≤ 9223372036854775807) (h : ¬ Lies off size k) :
    Calls Try.prog 30 #[.slice A k cap, .int .i64 off, .int .i64 size] w fun e w' => e = .returned (.tuple #[.int .i64 0, .int .i64 10]) ∧ w = w' := by
  go_enter Try.func30, Try.ntmps30
  go_wp2_with (first | (go_at_call 44; refine (sizeRight_yes _ _ h1 h2).mono ?_; rintro e w' ⟨rfl, rfl⟩) | (go_at_call 49; refine (Within_no _ _ _ _ h (by omega) ho (by omega)).mono ?_; rintro e w' ⟨rfl, rfl⟩))
  go_ret2
  exact ⟨rfl, rfl⟩

def num (l : List Int) : Int := l.foldl (fun n x => n * 256 + x) 0
theorem num_snoc (l : List Int) (x : Int) : num (l ++ [x]) = num l * 256 + x := by simp [num]
theorem num_from (l : List Int) : ∀ a : Int, l.foldl (fun n x => n * 256 + x) a = a * 256 ^ l.length + num l := by
  induction l with
  | nil => intro a; simp [num]
  | cons x l ih =>
    intro a
    simp only [List.foldl_cons, List.length_cons, num]
    rw [ih, ih (0 * 256 + x)]
    simp only [Int.pow_succ, Int.add_mul, Int.zero_mul, Int.zero_add]
    rw [Int.mul_assoc, Int.mul_comm 256]
    omega
theorem num_cons (x : Int) (l : List Int) : num (x :: l) = x * 256 ^ l.length + num l := by
  show l.foldl (fun n x => n * 256 + x) (0 * 256 + x) = _
  rw [num_from]; simp
theorem num_bd (l : List Int) (h : AreBytes l) : 0 ≤ num l ∧ num l < 256 ^ l.length := by
  induction l with
  | nil => simp [num]
  | cons x l ih =>
    have hx := h x (by simp)
    have hl := ih (fun y hy => h y (by simp [hy]))
    rw [num_cons, List.length_cons, Int.pow_succ]
    have hp : (0 : Int) < 256 ^ l.length := Int.pow_pos (by decide)
    have h1 : x * 256 ^ l.length ≤ 255 * 256 ^ l.length := Int.mul_le_mul_of_nonneg_right hx.2 (by omega)
    have h2 : 0 ≤ x * 256 ^ l.length := Int.mul_nonneg hx.1 (by omega)
    omega
theorem pow_le7 (j : Nat) (h : j ≤ 7) : (256 : Int) ^ j ≤ 72057594037927936 := by
  have h1 : 256 ^ j ≤ 256 ^ 7 := Nat.pow_le_pow_right (by decide) h
  have h2 : ((256 ^ j : Nat) : Int) ≤ ((256 ^ 7 : Nat) : Int) := by exact_mod_cast h1
  rw [Int.natCast_pow] at h2
  exact Int.le_trans h2 (by decide)
theorem AreBytes.seg {l : List Int} (h : AreBytes l) (o j : Nat) : AreBytes ((l.drop o).take j) := fun x hx => h x (List.mem_of_mem_drop (List.mem_of_mem_take hx))
theorem AreBytes.at_ {l : List Int} (h : AreBytes l) (j : Nat) : 0 ≤ l.getD j 0 ∧ l.getD j 0 ≤ 255 := by
  rcases Nat.lt_or_ge j l.length with hj | hj
  · have e : l.getD j 0 = l[j] := by simp [List.getD, List.getElem?_eq_getElem hj]
    rw [e]; exact h _ (List.getElem_mem hj)
  · simp [List.getD, List.getElem?_eq_none hj]
theorem or_byte (n x : Int) (h0 : 0 ≤ n) (h1 : n < 72057594037927936) (h2 : 0 ≤ x) (h3 : x ≤ 255) : bits .or .u64 (n * 256) (IntKind.u64.wrap x) = n * 256 + x := by
  rw [IntKind.wrap_u64, Int.emod_eq_of_lt h2 (by omega), u64_or _ _ (by omega) (by omega) h2 (by omega)]
  obtain ⟨a, rfl⟩ := Int.eq_ofNat_of_zero_le h0
  obtain ⟨b, rfl⟩ := Int.eq_ofNat_of_zero_le h2
  have e1 : ((a : Int) * 256).toNat = 2 ^ 8 * a := by omega
  have e2 : ((b : Int)).toNat = b := by omega
  rw [e1, e2, ← Nat.two_pow_add_eq_or_of_lt (show b < 2 ^ 8 by omega)]
  omega
theorem seg_snoc (l : List Int) (o j : Nat) (h : o + j < l.length) : (l.drop o).take (j + 1) = (l.drop o).take j ++ [l.getD (o + j) 0] := by
  rw [List.take_succ_eq_append_getElem (by simp; omega)]
  simp [List.getD, List.getElem?_eq_getElem h]

/-- What Get answers of the number n. -/
def getEnd (n : Int) : Value := if 9223372036854775807 < n then .tuple #[.int .i64 0, .int .i64 11] else .tuple #[.int .i64 n, .int .i64 0]
set_option maxHeartbeats 400000 in
theorem Get_num (A : Option Addr) (k cap : Nat) (l : List Int) (off size : Int) (w : World) (hs : Seg w A k l) (hk : k ≤ 100000) (hcap : k ≤ cap) (hcap2 : cap ≤ maxLen) (h1 : 1 ≤ size) (h2 : size ≤ 8) (h : Lies off size k) :
    Calls Try.prog 30 #[.slice A k cap, .int .i64 off, .int .i64 size] w fun e w' => e = .returned (getEnd (num ((l.drop off.toNat).take size.toNat))) ∧ w = w' := by
  obtain ⟨o, rfl⟩ : ∃ o : Nat, off = (o : Int) := ⟨off.toNat, by have := h.1; omega⟩
  obtain ⟨s, rfl⟩ : ∃ s : Nat, size = (s : Int) := ⟨size.toNat, by omega⟩
  have h5 : o + s ≤ k := by have := h.2.2.2; omega
  obtain ⟨ad, rfl, hlt, hc⟩ := hs.2.2 (by omega)
  unfold maxLen at hcap2
  simp only [Int.toNat_natCast]
  go_enter Try.func30, Try.ntmps30
  go_wp2_with (first | (go_at_call 44; refine (sizeRight_yes _ _ h1 h2).mono ?_; rintro e w' ⟨rfl, rfl⟩) | (go_at_call 49; refine (Within_yes _ _ _ _ h (by omega)).mono ?_; rintro e w' ⟨rfl, rfl⟩))
  go_loop [8, 27] (fun n i => ∃ j : Nat, j ≤ s ∧ i = .int .i64 j ∧ n = .int .u64 (num ((l.drop o).take j))) (fun _ i => s - (intOf i).toNat)
  case atStart => exact ⟨0, Nat.zero_le _, rfl, rfl⟩
  case round =>
    obtain ⟨j, hj, rfl, rfl⟩ := hrel
    by_cases hlt : j < s
    · have hcj : w.cell? ((ad.add o).add j) = some (.int .u8 (l.getD (o + j) 0)) := by rw [add_add]; exact hc _ (by omega)
      have b := num_bd _ (hs.2.1.seg o j)
      have bl : ((l.drop o).take j).length = j := by simp [hs.1]; omega
      rw [bl] at b
      have b0 := b.1
      have b1 : num ((l.drop o).take j) < 72057594037927936 := Int.lt_of_lt_of_le b.2 (pow_le7 j (by omega))
      obtain ⟨b2, b3⟩ := hs.2.1.at_ (o + j)
      clear hc b bl
      go_wp2
      go_round
      case rel =>
        refine ⟨j + 1, by omega, by go_num, ?_⟩
        rw [seg_snoc l o j (by rw [hs.1]; omega), num_snoc]
        rw [show l[o + j]?.getD 0 = l.getD (o + j) 0 from rfl, or_byte _ _ b0 b1 b2 b3]
      case measure => simp [intOf]; omega
    · obtain rfl : j = s := by omega
      by_cases hbig : 9223372036854775807 < num ((l.drop o).take j)
      · have e : getEnd (num ((l.drop o).take j)) = .tuple #[.int .i64 0, .int .i64 11] := by simp only [getEnd, if_pos hbig]
        have E := Lib.hid e
        clear e
        go_wp2
        go_ret2
        exact ⟨congrArg Ending.returned E.out.symm, rfl⟩
      · have e : getEnd (num ((l.drop o).take j)) = .tuple #[.int .i64 (num ((l.drop o).take j)), .int .i64 0] := by simp only [getEnd, if_neg hbig]
        have E := Lib.hid e
        clear e
        have b0 := (num_bd _ (hs.2.1.seg o j)).1
        go_wp2
        go_ret2
        exact ⟨congrArg Ending.returned E.out.symm, rfl⟩

end Go.Proofs.YthepbadecpnepaaSp
