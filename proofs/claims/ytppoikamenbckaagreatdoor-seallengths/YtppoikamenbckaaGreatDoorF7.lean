/-
  The whole frame behind a region that draws its order; the fixed keys; what a signature by one of them opens to.
-/
import Derived.Test.YtppoikamenbckaaGreatDoorL7
import Derived.Test.YtppoikamenbckaaGreatDoorQ7
import Derived.Test.YtppoikamenbckaaGreatDoorH3
namespace Go.Proofs.YtppoikamenbckaaGreatDoor
open Go.RowKit
set_option linter.unusedVariables false
set_option linter.unusedSimpArgs false

/-- A frame behind a region whose own slots are those of p: the old one elsewhere. -/
def mixP (p : Nat → Bool) (f : Nat → Value) : Nat → List Value → List Value
  | _, [] => []
  | k, v :: r => (if p k = true then f k else v) :: mixP p f (k + 1) r
theorem mixP_length (p : Nat → Bool) (f : Nat → Value) : ∀ (l : List Value) (k : Nat), (mixP p f k l).length = l.length
  | [], _ => rfl
  | _ :: r, k => by simp [mixP, mixP_length p f r (k + 1)]
theorem mixP_get (p : Nat → Bool) (f : Nat → Value) : ∀ (l : List Value) (k i : Nat), i < l.length → (mixP p f k l).getD i undef = if p (k + i) = true then f (k + i) else l.getD i undef
  | [], _, _, h => by simp at h
  | v :: r, k, 0, _ => by simp [mixP]
  | v :: r, k, i + 1, h => by
    have := mixP_get p f r (k + 1) i (by simpa using h)
    simp only [mixP, List.getD_cons_succ]
    rw [this, show k + 1 + i = k + (i + 1) by omega]
theorem keeps_frameP {l : List Oper} {tm : Array Value} {a : Act} (p : Nat → Bool) (hk : Keeps l ⟨tm, []⟩ a) (hd : ∀ o ∈ l, ∀ s, o.dst = some s → p s = true) : a = ⟨(mixP p (fun s => a.tmps.getD s undef) 0 tm.toList).toArray, []⟩ := by
  obtain ⟨t, df⟩ := a
  have h1 : df = [] := hk.defers
  have h2 : t.size = tm.size := hk.size
  subst h1
  congr 1
  apply Array.ext
  · simp [mixP_length, h2]
  · intro i hi1 hi2
    have hl : i < tm.toList.length := by simp; omega
    have e := mixP_get p (fun s => t.getD s undef) tm.toList 0 i hl
    rw [Nat.zero_add] at e
    have e1 : t[i] = t.getD i undef := by simp [Array.getD, hi1]
    have e2 : ((mixP p (fun s => t.getD s undef) 0 tm.toList).toArray)[i] = (mixP p (fun s => t.getD s undef) 0 tm.toList).getD i undef := by
      rw [List.getD_eq_getElem?_getD, List.getElem?_eq_getElem (by simpa using hi2)]
      simp
    rw [e1, e2, e]
    by_cases hn : p i = true
    · rw [if_pos hn]
    · rw [if_neg hn]
      have e3 : t.getD i undef = tm.getD i undef := hk.slot i (fun o ho e => hn (hd o ho i e))
      rw [e3]
      simp [Array.getD, show i < tm.size by simpa using hl, List.getD_eq_getElem?_getD]

/-- What the walks need of a fixed key: its modulus N in k bytes, its secret D. -/
structure Fixed (z k N D : Nat) : Prop where
  k1 : 64 ≤ k
  k2 : k ≤ 256
  small : z < 2 → k = 64
  great : z = 2 → k = 128
  mo : ∀ w, Calls Tryz.prog 14 #[.int .i64 (z : Int)] w (GivesRow w k (bytesOf k N))
  se : ∀ w, Calls Tryz.prog 16 #[.int .i64 (z : Int)] w (GivesRow w k (bytesOf k D))
  modul : Modul k (bytesOf k N)
  vn : vbe (bytesOf k N) = N
  vd : vbe (bytesOf k D) = D
  room : N < 256 ^ k
  gt : 1 < N
  ok : KeyOk N keyE D
  inj : ∀ s t, s < N → t < N → s ^ keyE % N = t ^ keyE % N → s = t
theorem keyN_gt {z : Nat} (hz : z ≤ 3) : 1 < keyN z := by
  have := (keyN_modul hz).gt (bytesOf_length _ _)
  rwa [bytesOf_val (keyN_room hz)] at this
theorem fixed_of {z : Nat} (hz : z ≤ 2) : ∃ k N D, Fixed z k N D :=
  ⟨keyK z, keyN z, keyD z, (keyK_ok (by omega)).1, (keyK_ok (by omega)).2.1, fun h => by (rcases (by omega : z = 0 ∨ z = 1) with rfl | rfl <;> rfl), fun h => by (subst h; rfl), ModulusOf_any z (by omega), SecretOf_any z hz, keyN_modul (by omega), bytesOf_val (keyN_room (by omega)), bytesOf_val (keyD_room hz), keyN_room (by omega), keyN_gt (by omega), keyz_ok hz, fun s t hs ht h => keyz_open hz hs ht h⟩
/-- The number of a text's signature. -/
def sigOf (k N D z : Nat) (l : List Nat) : Nat := vbe (blockOf z (sumOf z l) k) ^ D % N
section
variable {y k N D z s : Nat} {l : List Nat}
theorem Fixed.blk_lt (hF : Fixed y k N D) (hz : z = 1 ∨ z = 2) (hs : sizeOfAlg z = s) (hk : 30 + s ≤ k) (l : List Nat) : vbe (blockOf z (sumOf z l) k) < N := by
  have := block_below (alg := z) hF.modul (bytesOf_length _ _) (sumOf_fit z l) (by rw [sizeAlg hz, hs]; omega)
  rwa [hF.vn] at this
theorem Fixed.sig_lt (hF : Fixed y k N D) (l : List Nat) : sigOf k N D z l < N := Nat.mod_lt _ (Nat.lt_trans Nat.zero_lt_one hF.gt)
theorem Fixed.sig_val (hF : Fixed y k N D) (l : List Nat) : vbe (bytesOf k (sigOf k N D z l)) = sigOf k N D z l := bytesOf_val (Nat.lt_trans (hF.sig_lt l) hF.room)
theorem Fixed.sig_back (hF : Fixed y k N D) (hz : z = 1 ∨ z = 2) (hs : sizeOfAlg z = s) (hk : 30 + s ≤ k) (l : List Nat) : sigOf k N D z l ^ keyE % N = vbe (blockOf z (sumOf z l) k) :=
  hF.ok.back _ (hF.blk_lt hz hs hk l)
theorem blk_bytes (hz : z = 1 ∨ z = 2) (hs : sizeOfAlg z = s) (hk : 30 + s ≤ k) (l : List Nat) : bytesOf k (vbe (blockOf z (sumOf z l) k)) = blockOf z (sumOf z l) k :=
  (bytesOf_eq (blockOf_length (by rw [sizeAlg hz, hs]; omega)) (blockOf_fit (sumOf_fit _ _)) rfl).symm
/-- It opens to the text's block, and to no other one's. -/
theorem Fixed.opens (hF : Fixed y k N D) (hz : z = 1 ∨ z = 2) (hs : sizeOfAlg z = s) (hk : 30 + s ≤ k) (l lo : List Nat) : Opens k N (bytesOf k (sigOf k N D z l)) (blockOf z (sumOf z lo) k) ↔ sumOf z l = sumOf z lo := by
  have e : bytesOf k (vbe (bytesOf k (sigOf k N D z l)) ^ keyE % N) = blockOf z (sumOf z l) k := by
    rw [hF.sig_val, hF.sig_back hz hs hk, blk_bytes hz hs hk]
  constructor
  · intro h
    have h2 := h.2.2
    rw [e] at h2
    exact blockOf_inj (by rw [sizeAlg hz, sizeAlg hz]) h2
  · intro h
    refine ⟨bytesOf_length _ _, by rw [hF.sig_val]; exact hF.sig_lt l, ?_⟩
    rw [e, h]
/-- Nothing else opens to the text's block. -/
theorem Fixed.only (hF : Fixed y k N D) (hz : z = 1 ∨ z = 2) (hs : sizeOfAlg z = s) (hk : 30 + s ≤ k) (l : List Nat) {ls : List Nat} (hf : Fit 256 ls) (h : Opens k N ls (blockOf z (sumOf z l) k)) : ls = bytesOf k (sigOf k N D z l) := by
  obtain ⟨h1, h2, h3⟩ := h
  have hlt : vbe ls ^ keyE % N < 256 ^ k := Nat.lt_trans (Nat.mod_lt _ (Nat.lt_trans Nat.zero_lt_one hF.gt)) hF.room
  have h4 := congrArg vbe h3
  rw [bytesOf_val hlt, ← hF.sig_back hz hs hk l] at h4
  have h5 := hF.inj _ _ h2 (hF.sig_lt l) h4
  rw [← h5]
  exact bytesOf_eq h1 hf rfl
end
end Go.Proofs.YtppoikamenbckaaGreatDoor
