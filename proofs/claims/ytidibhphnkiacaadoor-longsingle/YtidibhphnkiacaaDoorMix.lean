/-
  The whole frame behind a region that draws its order, where the region's own slots lie in a row.
-/
import Derived.Test.YtidibhphnkiacaaDoorEach
namespace Go.Proofs.YtidibhphnkiacaaDoor
open Go.RowKit
set_option linter.unusedVariables false
set_option linter.unusedSimpArgs false

/-- A frame behind a region whose own slots are lo to hi: the old one elsewhere. -/
def mixL (lo hi : Nat) (f : Nat → Value) : Nat → List Value → List Value
  | _, [] => []
  | k, v :: r => (if lo ≤ k ∧ k ≤ hi then f k else v) :: mixL lo hi f (k + 1) r
theorem mixL_length (lo hi : Nat) (f : Nat → Value) : ∀ (l : List Value) (k : Nat), (mixL lo hi f k l).length = l.length
  | [], _ => rfl
  | _ :: r, k => by simp [mixL, mixL_length lo hi f r (k + 1)]
theorem mixL_get (lo hi : Nat) (f : Nat → Value) : ∀ (l : List Value) (k i : Nat), i < l.length → (mixL lo hi f k l).getD i undef = if lo ≤ k + i ∧ k + i ≤ hi then f (k + i) else l.getD i undef
  | [], _, _, h => by simp at h
  | v :: r, k, 0, _ => by simp [mixL]
  | v :: r, k, i + 1, h => by
    have := mixL_get lo hi f r (k + 1) i (by simpa using h)
    simp only [mixL, List.getD_cons_succ]
    rw [this, show k + 1 + i = k + (i + 1) by omega]
theorem keeps_frame {l : List Oper} {tm : Array Value} {a : Act} (lo hi : Nat) (hk : Keeps l ⟨tm, []⟩ a) (hd : ∀ s, s < lo ∨ hi < s → ∀ o ∈ l, o.dst ≠ some s) : a = ⟨(mixL lo hi (fun s => a.tmps.getD s undef) 0 tm.toList).toArray, []⟩ := by
  obtain ⟨t, df⟩ := a
  have h1 : df = [] := hk.defers
  have h2 : t.size = tm.size := hk.size
  subst h1
  congr 1
  apply Array.ext
  · simp [mixL_length, h2]
  · intro i hi1 hi2
    have hl : i < tm.toList.length := by simp; omega
    have e := mixL_get lo hi (fun s => t.getD s undef) tm.toList 0 i hl
    rw [Nat.zero_add] at e
    have e1 : t[i] = t.getD i undef := by simp [Array.getD, hi1]
    have e2 : ((mixL lo hi (fun s => t.getD s undef) 0 tm.toList).toArray)[i] = (mixL lo hi (fun s => t.getD s undef) 0 tm.toList).getD i undef := by
      rw [List.getD_eq_getElem?_getD, List.getElem?_eq_getElem (by simpa using hi2)]
      simp
    rw [e1, e2, e]
    by_cases hn : lo ≤ i ∧ i ≤ hi
    · rw [if_pos hn]
    · rw [if_neg hn]
      have e3 : t.getD i undef = tm.getD i undef := hk.slot i (hd i (by omega))
      rw [e3]
      simp [Array.getD, show i < tm.size by simpa using hl, List.getD_eq_getElem?_getD]

/-- The same where the region's own slots are those of p. -/
def mixP (p : Nat → Bool) (f : Nat → Value) : Nat → List Value → List Value
  | _, [] => []
  | k, v :: r => (if p k = true then f k else v) :: mixP p f (k + 1) r
theorem mixP_length (p : Nat → Bool) (f : Nat → Value) : ∀ (l : List Value) (k : Nat), (mixP p f k l).length = l.length
  | [], _ => rfl
  | _ :: r, k => by simp [mixP, mixP_length p f r (k + 1)]
theorem mixP_get (p : Nat → Bool) (f : Nat → Value) : ∀ (l : List Value) (k i : Nat), i < l.length → (mixP p f k l).getD i undef = if p (k + i) = true then f (k + i) else l.getD i undef
  | [], _, _, h => by simp at h
  | v :: r, k, 0, _ => by simp [mixP]
  | v :: r, k, i + 1, h => by
    have := mixP_get p f r (k + 1) i (by simpa using h)
    simp only [mixP, List.getD_cons_succ]
    rw [this, show k + 1 + i = k + (i + 1) by omega]
theorem keeps_frameP {l : List Oper} {tm : Array Value} {a : Act} (p : Nat → Bool) (hk : Keeps l ⟨tm, []⟩ a) (hd : ∀ o ∈ l, ∀ s, o.dst = some s → p s = true) : a = ⟨(mixP p (fun s => a.tmps.getD s undef) 0 tm.toList).toArray, []⟩ := by
  obtain ⟨t, df⟩ := a
  have h1 : df = [] := hk.defers
  have h2 : t.size = tm.size := hk.size
  subst h1
  congr 1
  apply Array.ext
  · simp [mixP_length, h2]
  · intro i hi1 hi2
    have hl : i < tm.toList.length := by simp; omega
    have e := mixP_get p (fun s => t.getD s undef) tm.toList 0 i hl
    rw [Nat.zero_add] at e
    have e1 : t[i] = t.getD i undef := by simp [Array.getD, hi1]
    have e2 : ((mixP p (fun s => t.getD s undef) 0 tm.toList).toArray)[i] = (mixP p (fun s => t.getD s undef) 0 tm.toList).getD i undef := by
      rw [List.getD_eq_getElem?_getD, List.getElem?_eq_getElem (by simpa using hi2)]
      simp
    rw [e1, e2, e]
    by_cases hn : p i = true
    · rw [if_pos hn]
    · rw [if_neg hn]
      have e3 : t.getD i undef = tm.getD i undef := hk.slot i (fun o ho e => hn (hd o ho i e))
      rw [e3]
      simp [Array.getD, show i < tm.size by simpa using hl, List.getD_eq_getElem?_getD]
end Go.Proofs.YtidibhphnkiacaaDoor
