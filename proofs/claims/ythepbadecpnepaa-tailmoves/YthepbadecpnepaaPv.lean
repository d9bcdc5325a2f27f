/-
  Numbers as bytes, and tails as bytes, with no program. No condition.
-/
import Derived.Test.YthepbadecpnepaaD1
namespace Go.Proofs.Ythepbadecpnepaa
open Go.RowKit
set_option linter.unusedVariables false
set_option linter.unusedSimpArgs false
set_option maxRecDepth 100000

theorem Fit.nil (B : Nat) : Fit B [] := fun d h => by cases h
theorem Fit.noughts (n : Nat) : Fit 256 (List.replicate n 0) := fun d hd => by rw [(List.mem_replicate.1 hd).2]; omega
/-- n in s bytes, the highest first. -/
def be : Nat → Nat → List Nat
  | 0, _ => []
  | s + 1, n => be s (n / 256) ++ [n % 256]
theorem be_length : ∀ (s n : Nat), (be s n).length = s
  | 0, _ => rfl
  | s + 1, n => by rw [be, List.length_append, be_length s, List.length_singleton]
theorem be_fit : ∀ (s n : Nat), Fit 256 (be s n)
  | 0, _ => Fit.nil _
  | s + 1, n => (be_fit s _).append (fun d hd => by rw [List.mem_singleton.1 hd]; exact Nat.mod_lt _ (by omega))
/-- The number of bytes. -/
def num (l : List Nat) : Nat := l.foldl (fun n x => n * 256 + x) 0
theorem num_snoc (l : List Nat) (x : Nat) : num (l ++ [x]) = num l * 256 + x := by simp [num]
theorem num_be : ∀ (s n : Nat), n < 256 ^ s → num (be s n) = n
  | 0, n, h => by simp at h; subst h; rfl
  | s + 1, n, h => by
    rw [be, num_snoc, num_be s (n / 256) (by rw [Nat.pow_succ] at h; omega)]
    omega
theorem num_from : ∀ (l : List Nat), Fit 256 l → ∀ a : Nat, l.foldl (fun n x => n * 256 + x) a < (a + 1) * 256 ^ l.length
  | [], _, a => by simp
  | x :: l, h, a => by
    have h1 := num_from l (fun d hd => h d (by simp [hd])) (a * 256 + x)
    have h2 := h x (by simp)
    rw [List.foldl_cons, List.length_cons, Nat.pow_succ]
    refine Nat.lt_of_lt_of_le h1 ?_
    rw [show (a + 1) * (256 ^ l.length * 256) = ((a + 1) * 256) * 256 ^ l.length by rw [Nat.mul_comm (256 ^ l.length), Nat.mul_assoc]]
    exact Nat.mul_le_mul_right _ (by omega)
theorem num_lt (l : List Nat) (h : Fit 256 l) : num l < 256 ^ l.length := by
  have := num_from l h 0
  rw [Nat.zero_add, Nat.one_mul] at this
  exact this

/-- How many noughts lack to a multiple. -/
def gapn (n to : Nat) : Nat := (to - n % to) % to
def sl (b : List Nat) (o n : Nat) : List Nat := (b.drop o).take n
theorem sl_length {b : List Nat} {o n : Nat} (h : o + n ≤ b.length) : (sl b o n).length = n := by simp [sl]; omega
theorem sl_fit {b : List Nat} (h : Fit 256 b) (o n : Nat) : Fit 256 (sl b o n) := (h.drop o).take n
theorem sl_append {p q r : List Nat} {o n : Nat} (ho : p.length = o) (hn : q.length = n) : sl (p ++ (q ++ r)) o n = q := by
  subst ho hn; simp [sl]
theorem take_snoc' {α : Type} {l : List α} {i : Nat} {d : α} (h : l[i]? = some d) : l.take (i + 1) = l.take i ++ [d] := by
  obtain ⟨hi, rfl⟩ := List.getElem?_eq_some_iff.1 h
  rw [List.take_succ_eq_append_getElem hi]
theorem be_num : ∀ (s : Nat) (l : List Nat), Fit 256 l → l.length = s → be s (num l) = l
  | 0, l, _, h => by rw [List.length_eq_zero_iff.1 h]; rfl
  | s + 1, l, hf, h => by
    rcases List.eq_nil_or_concat l with rfl | ⟨r, x, rfl⟩
    · simp at h
    · rw [List.concat_eq_append] at h hf ⊢
      have hx : x < 256 := hf x (by simp)
      rw [num_snoc, be, show (num r * 256 + x) / 256 = num r by omega, show (num r * 256 + x) % 256 = x by omega, be_num s r (fun d hd => hf d (by simp [hd])) (by simp at h; exact h)]

/-- A tail is right. -/
def TOk (a b c : Int) : Prop := 0 ≤ a ∧ a ≤ b ∧ b ≤ 1099511627776 ∧ b % 64 = 0 ∧ 1 ≤ c ∧ c ≤ 65536
instance (a b c : Int) : Decidable (TOk a b c) := by unfold TOk; exact inferInstance
def mag : List Nat := [65, 86, 66, 102]
def ver : List Nat := [0, 0, 0, 1]
def thead : List Nat := [65, 86, 66, 102, 0, 0, 0, 1]
def tnums (a b c : Nat) : List Nat := be 8 a ++ (be 8 b ++ be 8 c)
/-- The bytes of a tail. -/
def tbytes (a b c : Nat) : List Nat := thead ++ (be 8 a ++ (be 8 b ++ (be 8 c ++ List.replicate 32 0)))
theorem tbytes_length (a b c : Nat) : (tbytes a b c).length = 64 := by simp [tbytes, thead, be_length]
theorem tbytes_fit (a b c : Nat) : Fit 256 (tbytes a b c) := by
  refine Fit.append (fun d hd => ?_) ((be_fit _ _).append ((be_fit _ _).append ((be_fit _ _).append (Fit.noughts _))))
  simp [thead] at hd; omega
theorem tbytes_mag (a b c : Nat) : (tbytes a b c).take 4 = mag := rfl
theorem tbytes_ver (a b c : Nat) : sl (tbytes a b c) 4 4 = ver := rfl
theorem tbytes_a (a b c : Nat) : sl (tbytes a b c) 8 8 = be 8 a := sl_append rfl (be_length _ _)
theorem tbytes_b (a b c : Nat) : sl (tbytes a b c) 16 8 = be 8 b := by
  have e : tbytes a b c = (thead ++ be 8 a) ++ (be 8 b ++ (be 8 c ++ List.replicate 32 0)) := by simp [tbytes]
  rw [e]; exact sl_append (by simp [thead, be_length]) (be_length _ _)
theorem tbytes_c (a b c : Nat) : sl (tbytes a b c) 24 8 = be 8 c := by
  have e : tbytes a b c = (thead ++ (be 8 a ++ be 8 b)) ++ (be 8 c ++ List.replicate 32 0) := by simp [tbytes]
  rw [e]; exact sl_append (by simp [thead, be_length]) (be_length _ _)
theorem tbytes_rest (a b c : Nat) : (tbytes a b c).drop 32 = List.replicate 32 0 := by
  have e : tbytes a b c = (thead ++ (be 8 a ++ (be 8 b ++ be 8 c))) ++ List.replicate 32 0 := by simp [tbytes]
  rw [e, List.drop_append_of_le_length (by simp [thead, be_length]), List.drop_of_length_le (by simp [thead, be_length]), List.nil_append]
theorem TOk.nat {a b c : Int} (h : TOk a b c) : ∃ p q r : Nat, a = p ∧ b = q ∧ c = r ∧ p ≤ q ∧ q ≤ 1099511627776 ∧ q % 64 = 0 ∧ 1 ≤ r ∧ r ≤ 65536 :=
  ⟨a.toNat, b.toNat, c.toNat, by unfold TOk at h; omega, by unfold TOk at h; omega, by unfold TOk at h; omega, by unfold TOk at h; omega, by unfold TOk at h; omega, by unfold TOk at h; omega, by unfold TOk at h; omega, by unfold TOk at h; omega⟩
/-- What bytes say: the three numbers, .. -/
def ta (l : List Nat) : Nat := num (sl l 8 8)
def tb (l : List Nat) : Nat := num (sl l 16 8)
def tc (l : List Nat) : Nat := num (sl l 24 8)
/-- .. and whether they are a right tail's. -/
def TIs (l : List Nat) : Prop := TOk (ta l) (tb l) (tc l) ∧ l.drop 32 = List.replicate 32 0
instance (l : List Nat) : Decidable (TIs l) := by unfold TIs; exact inferInstance
theorem ta_bytes {a b c : Nat} (ha : a < 256 ^ 8) : ta (tbytes a b c) = a := by rw [ta, tbytes_a, num_be _ _ ha]
theorem tb_bytes {a b c : Nat} (hb : b < 256 ^ 8) : tb (tbytes a b c) = b := by rw [tb, tbytes_b, num_be _ _ hb]
theorem tc_bytes {a b c : Nat} (hc : c < 256 ^ 8) : tc (tbytes a b c) = c := by rw [tc, tbytes_c, num_be _ _ hc]
theorem four {l : List Nat} (h : l.length = 4) (k : Fit 256 l) (e : num l = 1) : l = ver := by
  have := be_num 4 l k h
  rw [e] at this
  exact this.symm
/-- The first error of bytes, or 0. -/
def terr (l : List Nat) : Int := if l.length ≠ 64 then 10 else if l.take 4 ≠ mag then 30 else if num (sl l 4 4) ≠ 1 then 31 else if TIs l then 0 else 12
theorem split_bytes {l : List Nat} (hf : Fit 256 l) (hl : l.length = 64) (hm : l.take 4 = mag) (hv : num (sl l 4 4) = 1) (hz : l.drop 32 = List.replicate 32 0) : l = tbytes (ta l) (tb l) (tc l) := by
  have h4 := four (l := sl l 4 4) (sl_length (by omega)) (sl_fit hf _ _) hv
  have e1 := be_num 8 (sl l 8 8) (sl_fit hf _ _) (sl_length (by omega))
  have e2 := be_num 8 (sl l 16 8) (sl_fit hf _ _) (sl_length (by omega))
  have e3 := be_num 8 (sl l 24 8) (sl_fit hf _ _) (sl_length (by omega))
  unfold tbytes ta tb tc
  rw [e1, e2, e3, ← hz, show thead = l.take 4 ++ sl l 4 4 by rw [hm, h4]; rfl]
  unfold sl
  have k : ∀ i n : Nat, (l.drop i).take n ++ l.drop (i + n) = l.drop i := fun i n => by rw [← List.drop_drop, List.take_append_drop]
  rw [k 24 8, k 16 8, k 8 8, List.append_assoc, k 4 4, List.take_append_drop]
theorem terr_bytes {a b c : Nat} (h : TOk a b c) : terr (tbytes a b c) = 0 := by
  have hb : (a : Int) < 256 ^ 8 ∧ (b : Int) < 256 ^ 8 ∧ (c : Int) < 256 ^ 8 := by unfold TOk at h; omega
  have ha := ta_bytes (a := a) (b := b) (c := c) (by omega)
  have hb2 := tb_bytes (a := a) (b := b) (c := c) (by omega)
  have hc := tc_bytes (a := a) (b := b) (c := c) (by omega)
  unfold terr
  rw [if_neg (fun h => h (tbytes_length a b c)), if_neg (fun h => h (tbytes_mag a b c)), if_neg (fun h => h (by rw [tbytes_ver]; rfl)), if_pos ⟨by rw [ha, hb2, hc]; exact h, tbytes_rest a b c⟩]
end Go.Proofs.Ythepbadecpnepaa
