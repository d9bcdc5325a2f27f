/-
  Descriptors with no program: their bytes, when they are right, and what bytes are read as. No condition.
-/
import Derived.WalkKit
import Derived.KernelRfl
namespace Go.Proofs.YtfeihdmjcppbaaaDoor
set_option linter.unusedVariables false
set_option linter.unusedSimpArgs false

def Fit (B : Nat) (l : List Nat) : Prop := ∀ d ∈ l, d < B
theorem Fit.nil (B : Nat) : Fit B [] := fun d h => by cases h
theorem Fit.append {B : Nat} {a b : List Nat} (h : Fit B a) (k : Fit B b) : Fit B (a ++ b) := fun d hd => (List.mem_append.1 hd).elim (h d) (k d)
theorem Fit.take {B : Nat} {a : List Nat} (h : Fit B a) (n : Nat) : Fit B (a.take n) := fun d hd => h d (List.mem_of_mem_take hd)
theorem Fit.drop {B : Nat} {a : List Nat} (h : Fit B a) (n : Nat) : Fit B (a.drop n) := fun d hd => h d (List.mem_of_mem_drop hd)
theorem Fit.noughts (n : Nat) : Fit 256 (List.replicate n 0) := fun d hd => by rw [(List.mem_replicate.1 hd).2]; omega

/-- n in s bytes, the highest first. -/
def be : Nat → Nat → List Nat
  | 0, _ => []
  | s + 1, n => be s (n / 256) ++ [n % 256]
theorem be_length : ∀ (s n : Nat), (be s n).length = s
  | 0, _ => rfl
  | s + 1, n => by rw [be, List.length_append, be_length s, List.length_singleton]
theorem be_fit : ∀ (s n : Nat), Fit 256 (be s n)
  | 0, _ => Fit.nil _
  | s + 1, n => (be_fit s _).append (fun d hd => by rw [List.mem_singleton.1 hd]; exact Nat.mod_lt _ (by omega))
/-- The number of bytes. -/
def num (l : List Nat) : Nat := l.foldl (fun n x => n * 256 + x) 0
theorem num_snoc (l : List Nat) (x : Nat) : num (l ++ [x]) = num l * 256 + x := by simp [num]
theorem num_be : ∀ (s n : Nat), n < 256 ^ s → num (be s n) = n
  | 0, n, h => by simp at h; subst h; rfl
  | s + 1, n, h => by
    rw [be, num_snoc, num_be s (n / 256) (by rw [Nat.pow_succ] at h; omega)]
    omega
theorem num_from : ∀ (l : List Nat), Fit 256 l → ∀ a : Nat, l.foldl (fun n x => n * 256 + x) a < (a + 1) * 256 ^ l.length
  | [], _, a => by simp
  | x :: l, h, a => by
    have h1 := num_from l (fun d hd => h d (by simp [hd])) (a * 256 + x)
    have h2 := h x (by simp)
    rw [List.foldl_cons, List.length_cons, Nat.pow_succ]
    refine Nat.lt_of_lt_of_le h1 ?_
    rw [show (a + 1) * (256 ^ l.length * 256) = ((a + 1) * 256) * 256 ^ l.length by rw [Nat.mul_comm (256 ^ l.length), Nat.mul_assoc]]
    exact Nat.mul_le_mul_right _ (by omega)
theorem num_lt (l : List Nat) (h : Fit 256 l) : num l < 256 ^ l.length := by
  have := num_from l h 0
  rw [Nat.zero_add, Nat.one_mul] at this
  exact this

/-- A descriptor: what it holds. -/
structure De where
  kind : Int
  alg : Int
  size : Int
  block : Int
  off : Int
  loc : Int
  name : List Nat
  salt : List Nat
  digest : List Nat
  key : List Nat
  value : List Nat
deriving DecidableEq, Inhabited

def letter (c : Nat) : Bool := decide (97 ≤ c ∧ c ≤ 122 ∨ 48 ≤ c ∧ c ≤ 57 ∨ c = 95)
def Named (l : List Nat) : Prop := 1 ≤ l.length ∧ l.length ≤ 24 ∧ l.all letter = true
instance (l : List Nat) : Decidable (Named l) := by unfold Named; exact inferInstance
def szOf (a : Int) : Int := if a = 1 then 32 else if a = 2 then 64 else 0
theorem szOf_cases (a : Int) : (a = 1 ∧ szOf a = 32) ∨ (a = 2 ∧ szOf a = 64) ∨ (a ≠ 1 ∧ a ≠ 2 ∧ szOf a = 0) := by 
  unfold szOf
  by_cases h1 : a = 1
  · rw [if_pos h1]; omega
  · rw [if_neg h1]
    by_cases h2 : a = 2
    · rw [if_pos h2]; omega
    · rw [if_neg h2]; omega
/-- A shape is right. -/
def Rgt (S B D : Int) : Prop := 1 ≤ S ∧ S ≤ 1099511627776 ∧ (D = 32 ∨ D = 64) ∧ 2 * D ≤ B ∧ (B = 64 ∨ B = 128 ∨ B = 256 ∨ B = 512 ∨ B = 1024 ∨ B = 2048 ∨ B = 4096)
instance (S B D : Int) : Decidable (Rgt S B D) := by unfold Rgt; exact inferInstance
def NoSum (d : De) : Prop := d.alg = 0 ∧ d.size = 0 ∧ d.salt.length = 0 ∧ d.digest.length = 0
def NoShape (d : De) : Prop := d.block = 0 ∧ d.off = 0
def NoChain (d : De) : Prop := d.loc = 0 ∧ d.key.length = 0
def Summed (d : De) : Prop := szOf d.alg ≠ 0 ∧ (d.digest.length : Int) = szOf d.alg ∧ d.salt.length ≤ 64
instance (d : De) : Decidable (NoSum d) := by unfold NoSum; exact inferInstance
instance (d : De) : Decidable (NoShape d) := by unfold NoShape; exact inferInstance
instance (d : De) : Decidable (NoChain d) := by unfold NoChain; exact inferInstance
instance (d : De) : Decidable (Summed d) := by unfold Summed; exact inferInstance
/-- Is a descriptor right? -/
def Right (d : De) : Prop :=
  (d.kind = 0 ∧ NoSum d ∧ NoShape d ∧ NoChain d ∧ Named d.name ∧ d.value.length ≤ 256)
  ∨ (d.kind = 1 ∧ NoChain d ∧ d.value.length = 0 ∧ Named d.name ∧ Summed d ∧ Rgt d.size d.block (szOf d.alg) ∧ d.size ≤ d.off ∧ d.off ≤ 1099511627776)
  ∨ (d.kind = 2 ∧ NoShape d ∧ NoChain d ∧ d.value.length = 0 ∧ Named d.name ∧ Summed d ∧ 0 ≤ d.size ∧ d.size ≤ 1099511627776)
  ∨ (d.kind = 3 ∧ NoSum d ∧ NoShape d ∧ NoChain d ∧ d.name.length = 0 ∧ d.value.length ≤ 256)
  ∨ (d.kind = 4 ∧ NoSum d ∧ NoShape d ∧ d.value.length = 0 ∧ Named d.name ∧ 1 ≤ d.loc ∧ d.loc ≤ 31 ∧ 1 ≤ d.key.length ∧ d.key.length ≤ 1032)
instance (d : De) : Decidable (Right d) := by unfold Right; exact inferInstance
/-- The bounds of a right one. -/
structure Bds (d : De) : Prop where
  kind : 0 ≤ d.kind ∧ d.kind ≤ 4
  alg : 0 ≤ d.alg ∧ d.alg ≤ 2
  size : 0 ≤ d.size ∧ d.size ≤ 1099511627776
  block : 0 ≤ d.block ∧ d.block ≤ 4096
  off : 0 ≤ d.off ∧ d.off ≤ 1099511627776
  loc : 0 ≤ d.loc ∧ d.loc ≤ 31
  name : d.name.length ≤ 24
  salt : d.salt.length ≤ 64
  digest : d.digest.length ≤ 64
  key : d.key.length ≤ 1032
  value : d.value.length ≤ 256
theorem Right.bds {d : De} (h : Right d) : Bds d := by
  have hs := szOf_cases d.alg
  unfold Right NoSum NoShape NoChain Named Summed Rgt at h
  constructor <;> omega

/-- The texts, one behind the other. -/
def texts (d : De) : List Nat := d.name ++ (d.salt ++ (d.digest ++ (d.key ++ d.value)))
def nums (d : De) : List Nat := be 4 d.alg.toNat ++ (be 8 d.size.toNat ++ (be 4 d.block.toNat ++ (be 8 d.off.toNat ++ be 4 d.loc.toNat)))
def lens (d : De) : List Nat := be 4 d.name.length ++ (be 4 d.salt.length ++ (be 4 d.digest.length ++ (be 4 d.key.length ++ be 4 d.value.length)))
def raw (d : De) : List Nat := nums d ++ (lens d ++ texts d)
/-- How many noughts lack to a multiple. -/
def gapn (n to : Nat) : Nat := (to - n % to) % to
def body (d : De) : List Nat := raw d ++ List.replicate (gapn (raw d).length 8) 0
def enc (d : De) : List Nat := be 8 d.kind.toNat ++ (be 8 (body d).length ++ body d)
def encs (l : List De) : List Nat := l.flatMap enc
/-- Bytes that fit. -/
structure Fits (d : De) : Prop where
  name : Fit 256 d.name
  salt : Fit 256 d.salt
  digest : Fit 256 d.digest
  key : Fit 256 d.key
  value : Fit 256 d.value
theorem nums_length (d : De) : (nums d).length = 28 := by simp [nums, be_length]
theorem lens_length (d : De) : (lens d).length = 20 := by simp [lens, be_length]
def tlen (d : De) : Nat := d.name.length + d.salt.length + d.digest.length + d.key.length + d.value.length
theorem texts_length (d : De) : (texts d).length = tlen d := by simp [texts, tlen]; omega
theorem raw_length (d : De) : (raw d).length = 48 + tlen d := by simp [raw, nums_length, lens_length, texts_length]; omega
theorem body_length (d : De) : (body d).length = 48 + (tlen d + 7) / 8 * 8 := by
  simp only [body, List.length_append, raw_length, List.length_replicate, gapn]
  omega
theorem enc_length (d : De) : (enc d).length = 16 + (body d).length := by simp [enc, be_length]; omega
theorem texts_fit {d : De} (h : Fits d) : Fit 256 (texts d) := h.name.append (h.salt.append (h.digest.append (h.key.append h.value)))
theorem nums_fit (d : De) : Fit 256 (nums d) := (be_fit _ _).append ((be_fit _ _).append ((be_fit _ _).append ((be_fit _ _).append (be_fit _ _))))
theorem lens_fit (d : De) : Fit 256 (lens d) := (be_fit _ _).append ((be_fit _ _).append ((be_fit _ _).append ((be_fit _ _).append (be_fit _ _))))
theorem body_fit {d : De} (h : Fits d) : Fit 256 (body d) := ((nums_fit d).append ((lens_fit d).append (texts_fit h))).append (Fit.noughts _)
theorem enc_fit {d : De} (h : Fits d) : Fit 256 (enc d) := (be_fit _ _).append ((be_fit _ _).append (body_fit h))
theorem encs_fit {l : List De} (h : ∀ d ∈ l, Fits d) : Fit 256 (encs l) := fun x hx => by
  obtain ⟨d, hd, hx⟩ := List.mem_flatMap.1 hx
  exact enc_fit (h d hd) x hx
theorem Right.tlen_le {d : De} (h : Right d) : tlen d ≤ 1440 := by
  have b := h.bds
  have := b.name; have := b.salt; have := b.digest; have := b.key; have := b.value
  unfold tlen; omega

/-- A stretch. -/
def sl (b : List Nat) (o n : Nat) : List Nat := (b.drop o).take n
theorem sl_length {b : List Nat} {o n : Nat} (h : o + n ≤ b.length) : (sl b o n).length = n := by simp [sl]; omega
theorem sl_fit {b : List Nat} (h : Fit 256 b) (o n : Nat) : Fit 256 (sl b o n) := (h.drop o).take n
/-- What a body says. -/
def ln (b : List Nat) (i : Nat) : Nat := num (sl b (28 + 4 * i) 4)
def en (b : List Nat) : Nat → Nat
  | 0 => 48
  | i + 1 => en b i + ln b i
def said (kind : Nat) (b : List Nat) : De where
  kind := kind
  alg := num (sl b 0 4)
  size := num (sl b 4 8)
  block := num (sl b 12 4)
  off := num (sl b 16 8)
  loc := num (sl b 24 4)
  name := sl b (en b 0) (ln b 0)
  salt := sl b (en b 1) (ln b 1)
  digest := sl b (en b 2) (ln b 2)
  key := sl b (en b 3) (ln b 3)
  value := sl b (en b 4) (ln b 4)
/-- The right descriptor whose body this is, if there is one. -/
def dec (kind : Nat) (b : List Nat) : Option De := if 48 ≤ b.length ∧ en b 5 ≤ b.length ∧ Right (said kind b) ∧ body (said kind b) = b then some (said kind b) else none
end Go.Proofs.YtfeihdmjcppbaaaDoor
