/-
  Trees of digests: the blocks of each level, what stands above which, and where two ways up to one root part. No condition.
-/
import Derived.Test.YtfoenafjaaidmaaDoorPl
namespace Go.Proofs.YtfoenafjaaidmaaDoor
set_option linter.unusedVariables false
set_option linter.unusedSimpArgs false

/-- Bytes, and noughts behind them, up to B of them. -/
def pad (B : Nat) (l : List Nat) : List Nat := l ++ List.replicate (B - l.length) 0
theorem pad_length {B : Nat} {l : List Nat} (h : l.length ≤ B) : (pad B l).length = B := by
  simp only [pad, List.length_append, List.length_replicate]; omega
theorem pad_full {B : Nat} {l : List Nat} (h : l.length = B) : pad B l = l := by simp [pad, h]
/-- The digests of c texts, one behind the other. -/
def kids (H : List Nat → List Nat) (f : Nat → List Nat) : Nat → List Nat
  | 0 => []
  | c + 1 => kids H f c ++ H (f c)
section
variable {H : List Nat → List Nat} {D : Nat}
theorem kids_length (hH : ∀ t, (H t).length = D) (f : Nat → List Nat) : ∀ c, (kids H f c).length = c * D
  | 0 => by simp [kids]
  | c + 1 => by rw [kids, List.length_append, kids_length hH f c, hH, Nat.add_mul, Nat.one_mul]
theorem kids_get (hH : ∀ t, (H t).length = D) (f : Nat → List Nat) : ∀ c k, k < c → ((kids H f c).drop (k * D)).take D = H (f k)
  | 0, k, h => absurd h (Nat.not_lt_zero _)
  | c + 1, k, h => by
    have hl := kids_length hH f c
    rw [kids]
    by_cases hk : k = c
    · subst hk
      rw [← hl, List.drop_left, List.take_of_length_le (by rw [hH]; exact Nat.le_refl _)]
    · have h2 : (k + 1) * D ≤ c * D := Nat.mul_le_mul_right _ (by omega)
      rw [Nat.add_mul, Nat.one_mul] at h2
      rw [List.drop_append_of_le_length (by omega), List.take_append_of_le_length (by rw [List.length_drop]; omega)]
      exact kids_get hH f c k (by omega)
theorem kids_congr {f g : Nat → List Nat} : ∀ c, (∀ k, k < c → f k = g k) → kids H f c = kids H g c
  | 0, _ => rfl
  | c + 1, h => by rw [kids, kids, kids_congr c (fun k hk => h k (by omega)), h c (by omega)]
end
/-- The block number i of a level, of the tree over data whose lowest level has n blocks. -/
def blk (H : List Nat → List Nat) (B a n : Nat) (data : List Nat) : Nat → Nat → List Nat
  | 0, i => pad B ((data.drop (i * B)).take B)
  | l + 1, i => pad B (kids H (fun k => blk H B a n data l (i * a + k)) (min a (lev a n l - i * a)))
section
variable {H : List Nat → List Nat} {D B a n : Nat} {data : List Nat}
theorem blk_length (hH : ∀ t, (H t).length = D) (hB : a * D = B) : ∀ l i, (blk H B a n data l i).length = B
  | 0, i => pad_length (by rw [List.length_take]; omega)
  | l + 1, i => by
    refine pad_length ?_
    rw [kids_length hH, ← hB]
    exact Nat.mul_le_mul_right _ (by omega)
/-- What is above a block has its digest where it stands. -/
theorem blk_above (hH : ∀ t, (H t).length = D) (hB : a * D = B) (ha : 0 < a) {l i : Nat} (hi : i < lev a n l) : ((blk H B a n data (l + 1) (i / a)).drop (i % a * D)).take D = H (blk H B a n data l i) := by
  have h1 := Nat.div_add_mod i a
  have h2 := Nat.mod_lt i ha
  have e : i / a * a + i % a = i := by rw [Nat.mul_comm]; exact h1
  have hk : i % a < min a (lev a n l - i / a * a) := by omega
  have hl := kids_length hH (fun k => blk H B a n data l (i / a * a + k)) (min a (lev a n l - i / a * a))
  have h3 : (i % a + 1) * D ≤ min a (lev a n l - i / a * a) * D := Nat.mul_le_mul_right _ hk
  rw [Nat.add_mul, Nat.one_mul] at h3
  rw [blk, pad, List.drop_append_of_le_length (by omega), List.take_append_of_le_length (by rw [List.length_drop]; omega), kids_get hH _ _ _ hk, e]
/-- The way up from the block i: the blocks of m levels. -/
def way (H : List Nat → List Nat) (B a n : Nat) (data : List Nat) (i m : Nat) : List (List Nat) := (List.range m).map fun j => blk H B a n data j (i / a ^ j)
theorem way_length (i m : Nat) : (way H B a n data i m).length = m := by simp [way]
theorem way_get {i m j : Nat} (h : j < m) : (way H B a n data i m)[j]? = some (blk H B a n data j (i / a ^ j)) := by simp [way, h]
end
/-- Each block but the last has its digest in the next one, at the byte where it stands. -/
def Linked (H : List Nat → List Nat) (D a i : Nat) (l : List (List Nat)) : Prop := ∀ j x y, l[j]? = some x → l[j + 1]? = some y → (y.drop (i / a ^ j % a * D)).take D = H x
/-- One climbs along these blocks to a root. -/
structure Climbs (H : List Nat → List Nat) (B D a i m : Nat) (l : List (List Nat)) (root : List Nat) : Prop where
  len : l.length = m
  form : ∀ x ∈ l, x.length = B
  linked : Linked H D a i l
  top : ∀ x, l[m - 1]? = some x → H x = root
section
variable {H : List Nat → List Nat} {D B a n : Nat} {data : List Nat}
theorem way_climbs (hH : ∀ t, (H t).length = D) (hB : a * D = B) (ha : 0 < a) {i m : Nat} (hi : i < n) (hm : 0 < m) (hone : lev a n (m - 1) = 1) : Climbs H B D a i m (way H B a n data i m) (H (blk H B a n data (m - 1) 0)) := by
  refine ⟨way_length i m, fun x hx => ?_, fun j x y hx hy => ?_, fun x hx => ?_⟩
  · obtain ⟨j, _, rfl⟩ := List.mem_map.1 hx
    exact blk_length hH hB _ _
  · have hj := (List.getElem?_eq_some_iff.1 hy).1
    rw [way_length] at hj
    rw [way_get (by omega)] at hx
    rw [way_get hj] at hy
    injection hx with hx
    injection hy with hy
    rw [← hx, ← hy, Nat.pow_succ, ← Nat.div_div_eq_div_mul]
    exact blk_above hH hB ha (above_lt ha hi j)
  · rw [way_get (by omega)] at hx
    injection hx with hx
    have := above_lt (b := a) ha hi (m - 1)
    rw [hone] at this
    rw [← hx, Nat.lt_one_iff.1 this]
end
/-- The place, from the end on, of the first pair of blocks that are unlike: of two lists of one length, turned round. -/
def parting : List (List Nat) → List (List Nat) → Option (List Nat × List Nat)
  | x :: l, y :: r => if x = y then parting l r else some (x, y)
  | _, _ => none
/-- What Differ tells. -/
def differ (l r : List (List Nat)) : Option (List Nat × List Nat) := parting l.reverse r.reverse
theorem parting_none : ∀ (l r : List (List Nat)), l.length = r.length → parting l r = none → l = r
  | [], [], _, _ => rfl
  | [], _ :: _, h, _ => by simp at h
  | _ :: _, [], h, _ => by simp at h
  | x :: l, y :: r, h, e => by
    unfold parting at e
    split at e
    · next h1 => rw [h1, parting_none l r (by simpa using h) e]
    · cases e
/-- The pair stands somewhere, and all before it are the same. -/
theorem parting_some : ∀ (l r : List (List Nat)) (x y : List Nat), parting l r = some (x, y) → ∃ k : Nat, l[k]? = some x ∧ r[k]? = some y ∧ x ≠ y ∧ ∀ j : Nat, j < k → l[j]? = r[j]?
  | [], _, x, y, e => by simp [parting] at e
  | _ :: _, [], x, y, e => by simp [parting] at e
  | p :: l, q :: r, x, y, e => by
    unfold parting at e
    split at e
    · next h1 =>
      obtain ⟨k, h2, h3, h4, h5⟩ := parting_some l r x y e
      refine ⟨k + 1, by simpa using h2, by simpa using h3, h4, fun j hj => ?_⟩
      match j with
      | 0 => simp [h1]
      | j + 1 => simpa using h5 j (by omega)
    · next h1 =>
      injection e with e
      injection e with e1 e2
      subst e1 e2
      exact ⟨0, rfl, rfl, h1, fun j hj => absurd hj (Nat.not_lt_zero _)⟩
/-- Two ways up to one root: the first blocks are the same, or the pair that Differ tells has one digest. -/
theorem two_ways {H : List Nat → List Nat} {B D a i m : Nat} {l r : List (List Nat)} {root : List Nat} (hl : Climbs H B D a i m l root) (hr : Climbs H B D a i m r root) (hm : 0 < m) (hne : l[0]? ≠ r[0]?) : ∃ x y, differ l r = some (x, y) ∧ x ≠ y ∧ x.length = y.length ∧ H x = H y := by
  have ll := hl.len
  have lr := hr.len
  cases e : differ l r with
  | none =>
    have := parting_none _ _ (by simp [ll, lr]) e
    have : l = r := by simpa using congrArg List.reverse this
    exact absurd (by rw [this]) hne
  | some p =>
    obtain ⟨x, y⟩ := p
    obtain ⟨k, h1, h2, h3, h4⟩ := parting_some _ _ _ _ e
    have hk := (List.getElem?_eq_some_iff.1 h1).1
    rw [List.length_reverse, ll] at hk
    rw [List.getElem?_reverse (by omega), ll] at h1
    rw [List.getElem?_reverse (by omega), lr] at h2
    refine ⟨x, y, rfl, h3, ?_, ?_⟩
    · rw [hl.form x (List.mem_of_getElem? h1), hr.form y (List.mem_of_getElem? h2)]
    · by_cases hk0 : k = 0
      · subst hk0
        rw [hl.top x (by simpa using h1), hr.top y (by simpa using h2)]
      · have h5 := h4 (k - 1) (by omega)
        rw [List.getElem?_reverse (by omega), List.getElem?_reverse (by omega), ll, lr, show m - 1 - (k - 1) = m - 1 - k + 1 by omega] at h5
        obtain ⟨z, hz⟩ : ∃ z, l[m - 1 - k + 1]? = some z := ⟨_, List.getElem?_eq_getElem (by omega)⟩
        have hz2 := hz
        rw [h5] at hz2
        rw [← hl.linked _ _ _ h1 hz, ← hr.linked _ _ _ h2 hz2]
section
variable {H : List Nat → List Nat} {D B a n : Nat}
/-- Data that have the same blocks have the same tree. -/
theorem blk_congr {data data' : List Nat} (h : ∀ i, i < n → blk H B a n data 0 i = blk H B a n data' 0 i) (ha : 0 < a) : ∀ l i, i < lev a n l → blk H B a n data l i = blk H B a n data' l i
  | 0, i, hi => h i hi
  | l + 1, i, hi => by
    rw [blk, blk]
    congr 1
    refine kids_congr _ fun k hk => ?_
    exact blk_congr h ha l _ (by omega)
/-- The bytes of a level, and those of the tree: the top first. -/
def lvl (H : List Nat → List Nat) (B a n : Nat) (data : List Nat) (l : Nat) : List Nat := (List.range (lev a n l)).flatMap fun i => blk H B a n data l i
def tree (H : List Nat → List Nat) (B a n : Nat) (data : List Nat) (m : Nat) : List Nat := (List.range (m - 1)).flatMap fun j => lvl H B a n data (m - 1 - j)
end
end Go.Proofs.YtfoenafjaaidmaaDoor
