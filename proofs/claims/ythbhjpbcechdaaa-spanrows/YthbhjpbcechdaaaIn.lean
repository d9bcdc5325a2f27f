/-
  A slice of bytes that came in reads as a list; when a number of eight bytes at most is above int's greatest.
-/
import Derived.Test.YthbhjpbcechdaaaCut
import Derived.OpenShut
namespace Go.Proofs.Ythbhjpbcechdaaa
open Go.RowKit
set_option linter.unusedVariables false

/-- A slice of integers that came in: nil, or a row of 'cap' cells that hold zs, of which the first 'len' are its elements. -/
def IsRow (k : IntKind) (w : World) (a : Option Addr) (len cap : Nat) (zs : List Int) : Prop :=
  (a = none ∧ len = 0 ∧ cap = 0 ∧ zs = []) ∨
  ∃ x, a = some x ∧ len ≤ cap ∧ cap ≤ maxLen ∧ zs.length = cap ∧ (∀ i, i < zs.length → w.cell? (x.add i) = some (.int k (zs.getD i 0))) ∧ ∀ n ∈ zs, (Lit.int k n).wf = true

theorem block_lt {w : World} {p : Addr} {v : Value} (h : w.cell? p = some v) : p.block < w.heap.size := by
  rcases Nat.lt_or_ge p.block w.heap.size with h1 | h1
  · exact h1
  · simp [World.cell?, Array.getElem?_eq_none h1] at h
theorem IsRow.seg {w : World} {a : Option Addr} {len cap : Nat} {zs : List Int} (h : IsRow .u8 w a len cap zs) : Seg w a len (zs.take len) ∧ len ≤ cap ∧ cap ≤ maxLen := by
  rcases h with ⟨rfl, rfl, rfl, rfl⟩ | ⟨x, rfl, h1, h2, h3, h4, h5⟩
  · exact ⟨⟨rfl, by simp [AreBytes], by simp⟩, by simp, by simp⟩
  · refine ⟨⟨by simp; omega, fun y hy => ?_, fun hn => ⟨x, rfl, ?_, fun j hj => ?_⟩⟩, h1, h2⟩
    · exact bounds_u8 (h5 y (List.mem_of_mem_take hy))
    · have := block_lt (h4 0 (by omega))
      rwa [block_add] at this
    · rw [h4 j (by omega)]
      simp [List.getD, hj]

theorem num_small (l : List Int) (h : AreBytes l) (h7 : l.length ≤ 7) : num l < 72057594037927936 :=
  Int.lt_of_lt_of_le (num_bd l h).2 (pow_le7 _ h7)
theorem num_first (l : List Int) (o : Nat) (h : AreBytes l) (ho : o + 8 ≤ l.length) : 9223372036854775807 < num ((l.drop o).take 8) ↔ 127 < l.getD o 0 := by
  have e : (l.drop o).take 8 = l.getD o 0 :: (l.drop (o + 1)).take 7 := by
    rw [List.drop_eq_getElem_cons (by omega), List.take_succ_cons]
    simp [List.getD, List.getElem?_eq_getElem (show o < l.length by omega)]
  have hl : ((l.drop (o + 1)).take 7).length = 7 := by simp; omega
  have hb := num_bd _ (h.seg (o + 1) 7)
  rw [e, num_cons, hl]
  rw [hl] at hb
  have e2 : (256 : Int) ^ 7 = 72057594037927936 := by decide
  rw [e2] at hb ⊢
  omega
theorem num_step (l : List Int) (o s j : Nat) (h : AreBytes l) (hs : s ≤ 8) (ho : o + s ≤ l.length) (hj : j < s) (hn : num ((l.drop o).take s) ≤ 9223372036854775807) :
    0 ≤ num ((l.drop o).take j) ∧ num ((l.drop o).take j) ≤ 36028797018963967 ∧ num ((l.drop o).take (j + 1)) = num ((l.drop o).take j) * 256 + l.getD (o + j) 0 := by
  have hx := h.at_ (o + j)
  have e := seg_snoc l o j (by omega)
  have b := num_bd _ (h.seg o j)
  have hl : ((l.drop o).take j).length = j := by simp; omega
  have b7 := num_small _ (h.seg o j) (by omega)
  have e2 : num ((l.drop o).take (j + 1)) = num ((l.drop o).take j) * 256 + l.getD (o + j) 0 := by rw [e, num_snoc]
  refine ⟨b.1, ?_, e2⟩
  by_cases h8 : j + 1 = s
  · subst h8; omega
  · have := num_small _ (h.seg o (j + 1)) (by simp; omega)
    omega
theorem Get_big (A : Option Addr) (k cap : Nat) (l : List Int) (off size : Int) (w : World) (hs : Seg w A k l) (hk : k ≤ 100000) (hcap : k ≤ cap) (hcap2 : cap ≤ maxLen) (h1 : 1 ≤ size) (h2 : size ≤ 8) (h : Lies off size k)
    (hb : 9223372036854775807 < num ((l.drop off.toNat).take size.toNat)) :
    Calls Try.prog 12 #[.slice A k cap, .int .i64 off, .int .i64 size] w fun e w' => e = .returned (.tuple #[.int .i64 0, .int .i64 11]) ∧ w = w' := by
  have := Get_num A k cap l off size w hs hk hcap hcap2 h1 h2 h
  rw [show getEnd (num ((l.drop off.toNat).take size.toNat)) = _ from if_pos hb] at this
  exact this
theorem Get_val (A : Option Addr) (k cap : Nat) (l : List Int) (off size : Int) (w : World) (hs : Seg w A k l) (hk : k ≤ 100000) (hcap : k ≤ cap) (hcap2 : cap ≤ maxLen) (h1 : 1 ≤ size) (h2 : size ≤ 8) (h : Lies off size k)
    (x : Int) (hx : num ((l.drop off.toNat).take size.toNat) = x) (hb : x ≤ 9223372036854775807) :
    Calls Try.prog 12 #[.slice A k cap, .int .i64 off, .int .i64 size] w fun e w' => e = .returned (.tuple #[.int .i64 x, .int .i64 0]) ∧ w = w' := by
  have := Get_num A k cap l off size w hs hk hcap hcap2 h1 h2 h
  rw [hx, show getEnd x = _ from if_neg (by omega)] at this
  exact this
end Go.Proofs.Ythbhjpbcechdaaa
