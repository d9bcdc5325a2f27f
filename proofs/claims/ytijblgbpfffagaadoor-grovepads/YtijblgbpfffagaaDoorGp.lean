/-
  Noughts behind the data, within the last block, change no block of the tree. No condition.
-/
import Derived.Test.YtijblgbpfffagaaDoorGd
namespace Go.Proofs.YtijblgbpfffagaaDoor
set_option linter.unusedVariables false
set_option linter.unusedSimpArgs false

theorem pad_take (B k : Nat) (rest : List Nat) : pad B ((rest ++ List.replicate k 0).take B) = pad B (rest.take B) := by
  by_cases h : B ≤ rest.length
  · rw [List.take_append_of_le_length h]
  · have h' : rest.length ≤ B := by omega
    rw [List.take_of_length_le h', List.take_append, List.take_of_length_le h', List.take_replicate, pad, pad, List.length_append, List.length_replicate, List.append_assoc, List.replicate_append_replicate]
    congr 2
    omega
/-- As many noughts as the last block has room for: the same lowest level. -/
theorem up_more {S B k : Nat} (hB : 0 < B) (hS : 0 < S) (hk : k ≤ (B - S % B) % B) : up (S + k) B = up S B := by
  obtain ⟨h1, h2⟩ := up_spec (a := S) hB
  have hm := Nat.mod_lt S hB
  have hd := Nat.div_add_mod S B
  refine up_unique hB ?_ (by omega)
  by_cases h0 : S % B = 0
  · rw [h0, Nat.sub_zero, Nat.mod_self] at hk
    omega
  · rw [Nat.mod_eq_of_lt (by omega)] at hk
    have hu : up S B = S / B + 1 := by unfold up; rw [if_neg h0]
    rw [hu, Nat.add_mul, Nat.one_mul, Nat.mul_comm]
    omega
section
variable {S B D a n k : Nat} {data : List Nat}
theorem Shp.pads (h : Shp S B D a n) (hk : k ≤ (B - S % B) % B) (hmax : S + k ≤ 1099511627776) : Shp (S + k) B D a n := by
  have hb := h.b
  obtain ⟨h1, h2, h3, h4, h5⟩ := h.rgt
  exact ⟨⟨by omega, by omega, h3, h4, h5⟩, h.ar, (up_more (by omega) (by omega) hk).trans h.low⟩
theorem blk_pads (H : List Nat → List Nat) (h : Shp S B D a n) (hl : data.length = S) (l i : Nat) (hi : i < lev a n l) : blk H B a n (data ++ List.replicate k 0) l i = blk H B a n data l i := by
  refine blk_congr (fun i hi => ?_) (by have := h.a2; omega) l i hi
  have hb := h.b
  have tl : i * B ≤ S := by
    obtain ⟨k1, k2⟩ := up_spec (a := S) (b := B) (by omega)
    rw [h.low] at k2
    have : (i + 1) * B ≤ n * B := Nat.mul_le_mul_right _ hi
    rw [Nat.add_mul, Nat.one_mul] at this
    omega
  rw [blk, blk, List.drop_append_of_le_length (by omega), pad_take]
theorem lvl_pads (H : List Nat → List Nat) (h : Shp S B D a n) (hl : data.length = S) (l : Nat) : lvl H B a n (data ++ List.replicate k 0) l = lvl H B a n data l := by
  unfold lvl
  rw [List.flatMap_def, List.flatMap_def]
  congr 1
  apply List.map_congr_left
  intro i hi
  exact blk_pads H h hl l i (List.mem_range.1 hi)
/-- The tree and the root are the same. -/
theorem tree_pads (H : List Nat → List Nat) (h : Shp S B D a n) (hl : data.length = S) (m : Nat) : tree H B a n (data ++ List.replicate k 0) m = tree H B a n data m := by
  unfold tree
  rw [List.flatMap_def, List.flatMap_def]
  congr 1
  apply List.map_congr_left
  intro j _
  exact lvl_pads H h hl _
end
/-- A byte turned in the data turns the block where it stands. -/
theorem blk_turned (H : List Nat → List Nat) {B a n : Nat} {data data' : List Nat} (hB : 0 < B) {p x y : Nat} (h1 : data[p]? = some x) (h2 : data'[p]? = some y) (hne : x ≠ y) : blk H B a n data 0 (p / B) ≠ blk H B a n data' 0 (p / B) := by
  have hm := Nat.mod_lt p hB
  have hd : p / B * B + p % B = p := by rw [Nat.mul_comm]; exact Nat.div_add_mod p B
  have key : ∀ (l : List Nat) (v : Nat), l[p]? = some v → (blk H B a n l 0 (p / B))[p % B]? = some v := by
    intro l v hv
    have hp := (List.getElem?_eq_some_iff.1 hv).1
    rw [blk, pad, List.getElem?_append_left (by rw [List.length_take, List.length_drop]; omega), List.getElem?_take, if_pos hm, List.getElem?_drop, hd]
    exact hv
  intro e
  have k1 := key data x h1
  rw [e, key data' y h2] at k1
  injection k1 with k1
  exact hne k1.symm
end Go.Proofs.YtijblgbpfffagaaDoor
