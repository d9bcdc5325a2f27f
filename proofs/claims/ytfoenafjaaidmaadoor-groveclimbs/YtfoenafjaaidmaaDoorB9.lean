/-
  Numbers and bytes in memory; bytes as strings; bytes behind bytes; bytes.Clone and bytes.Equal. No condition.
-/
import Derived.Test.YtfoenafjaaidmaaDoorProg
import Derived.KernelRfl
import Derived.WalkKit
import Derived.WalkSpells
import Derived.WalkLawsBesides
import Derived.Lib.Hide
import Derived.Outline
import Derived.Deep.QuietTactic
import Derived.BigQuiet
import Derived.Laws.BitsAllLaws
import Derived.Laws.CopyOwn
import Derived.Laws.BytesArg
import Derived.Deep.MidRow
import Derived.Maps.AppendAt
import Derived.Deep.AppendLies
import Derived.OwnWalk
import Derived.WalkSmall
import Derived.Laws.AppendOwnNone
import Derived.StillTailTactics
import Derived.IntWalk
import Derived.Test.YtfoenafjaaidmaaDoorShB
namespace Go.Proofs.YtfoenafjaaidmaaDoor
set_option maxRecDepth 100000
set_option linter.unusedVariables false
set_option linter.unusedSimpArgs false

/-- The number whose digits to the base B these are, the lowest first. -/
def val (B : Nat) : List Nat → Nat
  | [] => 0
  | d :: r => d + B * val B r
/-- All digits are digits. -/
def Fit (B : Nat) (l : List Nat) : Prop := ∀ d ∈ l, d < B
theorem val_append (B : Nat) (a b : List Nat) : val B (a ++ b) = val B a + B ^ a.length * val B b := by
  induction a with
  | nil => simp [val]
  | cons d r ih => simp only [List.cons_append, val, ih, List.length_cons, Nat.pow_succ]; rw [Nat.mul_add, Nat.add_assoc, Nat.mul_comm (B ^ r.length) B, Nat.mul_assoc]
theorem val_snoc (B : Nat) (a : List Nat) (d : Nat) : val B (a ++ [d]) = val B a + B ^ a.length * d := by
  rw [val_append]; simp [val]
theorem Fit.cons {B d : Nat} {r : List Nat} (h : Fit B (d :: r)) : d < B ∧ Fit B r := ⟨h d (by simp), fun x hx => h x (by simp [hx])⟩
theorem Fit.append {B : Nat} {a b : List Nat} (ha : Fit B a) (hb : Fit B b) : Fit B (a ++ b) := fun x hx => (List.mem_append.1 hx).elim (ha x) (hb x)
theorem Fit.left {B : Nat} {a b : List Nat} (h : Fit B (a ++ b)) : Fit B a := fun x hx => h x (by simp [hx])
theorem Fit.right {B : Nat} {a b : List Nat} (h : Fit B (a ++ b)) : Fit B b := fun x hx => h x (by simp [hx])
theorem Fit.nil (B : Nat) : Fit B [] := fun x hx => by cases hx
theorem Fit.take {B : Nat} {a : List Nat} (h : Fit B a) (n : Nat) : Fit B (a.take n) := fun x hx => h x (List.mem_of_mem_take hx)
theorem Fit.one {B d : Nat} (h : d < B) : Fit B [d] := fun x hx => by rw [List.mem_singleton.1 hx]; exact h
theorem Fit.get {B : Nat} {a : List Nat} (h : Fit B a) {i d : Nat} (hi : a[i]? = some d) : d < B := h d (List.mem_of_getElem? hi)
theorem Fit.set {B : Nat} {a : List Nat} (h : Fit B a) (i d : Nat) (hd : d < B) : Fit B (a.set i d) := fun x hx => by
  rcases List.mem_or_eq_of_mem_set hx with h1 | h1
  · exact h x h1
  · rw [h1]; exact hd
theorem Fit.replicate (B n d : Nat) (hd : d < B) : Fit B (List.replicate n d) := fun x hx => by rw [List.eq_of_mem_replicate hx]; exact hd
theorem Fit.reverse {B : Nat} {a : List Nat} (h : Fit B a) : Fit B a.reverse := fun x hx => h x (List.mem_reverse.1 hx)
theorem val_replicate (B n : Nat) : val B (List.replicate n 0) = 0 := by
  induction n with
  | zero => rfl
  | succ n ih => rw [List.replicate_succ, val, ih]; simp
theorem val_lt {B : Nat} : ∀ {l : List Nat}, Fit B l → val B l < B ^ l.length
  | [], _ => by simp [val]
  | d :: r, h => by
    have h1 := val_lt h.cons.2
    have h2 := h.cons.1
    rw [val, List.length_cons, Nat.pow_succ]
    have : B * val B r + B ≤ B ^ r.length * B := by
      have : (val B r + 1) * B ≤ B ^ r.length * B := Nat.mul_le_mul_right B h1
      rw [Nat.add_mul, Nat.mul_comm (val B r)] at this
      omega
    omega
/-- As many digits, one number: the same digits. -/
theorem val_inj {B : Nat} : ∀ {a b : List Nat}, Fit B a → Fit B b → a.length = b.length → val B a = val B b → a = b
  | [], [], _, _, _, _ => rfl
  | [], _ :: _, _, _, h, _ => by cases h
  | _ :: _, [], _, _, h, _ => by cases h
  | d :: r, e :: s, ha, hb, hl, hv => by
    have h1 := ha.cons.1
    have h2 := hb.cons.1
    simp only [val] at hv
    have e1 : (d + B * val B r) % B = d := by rw [Nat.add_mul_mod_self_left, Nat.mod_eq_of_lt h1]
    have e2 : (e + B * val B s) % B = e := by rw [Nat.add_mul_mod_self_left, Nat.mod_eq_of_lt h2]
    have hd : d = e := by rw [← e1, ← e2, hv]
    subst hd
    have hm : val B r = val B s := Nat.eq_of_mul_eq_mul_left (by omega : 0 < B) (by omega)
    rw [val_inj ha.cons.2 hb.cons.2 (by simpa using hl) hm]
/-- Without noughts at its upper end. -/
def trim : List Nat → List Nat
  | [] => []
  | d :: r => match trim r with
    | [] => if d = 0 then [] else [d]
    | e :: s => d :: e :: s
/-- The digits of a number, just as many as it has. -/
def Tight (l : List Nat) : Prop := l = [] ∨ ∃ r d, l = r ++ [d] ∧ d ≠ 0
theorem trim_val (B : Nat) : ∀ l : List Nat, val B (trim l) = val B l
  | [] => rfl
  | d :: r => by
    have h := trim_val B r
    rw [trim]
    split
    · next h0 =>
      rw [h0] at h
      have h' : val B r = 0 := h.symm
      split
      · next hd => rw [val, val, h', hd, Nat.mul_zero]
      · rw [val, val, val, h']
    · next e s h0 => rw [h0] at h; rw [val, h, val]
theorem trim_fit {B : Nat} : ∀ {l : List Nat}, Fit B l → Fit B (trim l)
  | [], h => h
  | d :: r, h => by
    have h1 := trim_fit h.cons.2
    rw [trim]
    split
    · split
      · exact Fit.nil _
      · exact Fit.one h.cons.1
    · next e s h0 =>
      rw [h0] at h1
      intro x hx
      rcases List.mem_cons.1 hx with rfl | hx
      · exact h.cons.1
      · exact h1 x hx
theorem trim_tight : ∀ l : List Nat, Tight (trim l)
  | [] => .inl rfl
  | d :: r => by
    have h := trim_tight r
    rw [trim]
    split
    · split
      · exact .inl rfl
      · next h0 => exact .inr ⟨[], d, rfl, h0⟩
    · next e s h0 =>
      rw [h0] at h
      rcases h with h | ⟨r', d', h, h'⟩
      · cases h
      · exact .inr ⟨d :: r', d', by rw [h]; rfl, h'⟩
theorem trim_zero (l : List Nat) : trim (l ++ [0]) = trim l := by
  induction l with
  | nil => rfl
  | cons d r ih => rw [List.cons_append, trim, ih, trim]
theorem trim_of_tight {l : List Nat} (h : Tight l) : trim l = l := by
  rcases h with rfl | ⟨r, d, rfl, hd⟩
  · rfl
  · induction r with
    | nil => simp [trim, hd]
    | cons e r ih =>
      rw [List.cons_append, trim, ih]
      cases r <;> rfl
theorem tight_len {B : Nat} {l : List Nat} (hf : Fit B l) (ht : Tight l) (k : Nat) (hB : 2 ≤ B) : l.length ≤ k ↔ val B l < B ^ k := by
  constructor
  · intro h
    exact Nat.lt_of_lt_of_le (val_lt hf) (Nat.pow_le_pow_right (by omega) h)
  · intro h
    rcases ht with rfl | ⟨r, d, rfl, hd⟩
    · simp
    · rw [val_snoc] at h
      have h1 : B ^ r.length * 1 ≤ B ^ r.length * d := Nat.mul_le_mul_left _ (by omega)
      have h2 : B ^ r.length < B ^ k := by omega
      have := (Nat.pow_lt_pow_iff_right (by omega : 1 < B)).1 h2
      simp; omega
theorem tight_inj {B : Nat} {a b : List Nat} (hB : 2 ≤ B) (ha : Fit B a) (hb : Fit B b) (ta : Tight a) (tb : Tight b) (h : val B a = val B b) : a = b := by
  refine val_inj ha hb ?_ h
  have h1 := (tight_len ha ta b.length hB).2 (by rw [h]; exact val_lt hb)
  have h2 := (tight_len hb tb a.length hB).2 (by rw [← h]; exact val_lt ha)
  omega
/-- The base B digits of a number below B ^ n, n of them. -/
def nums (B : Nat) : Nat → Nat → List Nat
  | 0, _ => []
  | n + 1, x => x % B :: nums B n (x / B)
theorem nums_length (B : Nat) : ∀ n x, (nums B n x).length = n
  | 0, _ => rfl
  | n + 1, x => by rw [nums, List.length_cons, nums_length B n]
theorem nums_fit {B : Nat} (hB : 0 < B) : ∀ n x, Fit B (nums B n x)
  | 0, _ => Fit.nil _
  | n + 1, x => by
    intro d hd
    rw [nums] at hd
    rcases List.mem_cons.1 hd with rfl | hd
    · exact Nat.mod_lt _ hB
    · exact nums_fit hB n _ d hd
theorem nums_val (B : Nat) : ∀ n x, val B (nums B n x) = x % B ^ n
  | 0, x => by simp [nums, val, Nat.mod_one]
  | n + 1, x => by rw [nums, val, nums_val B n, Nat.pow_succ, Nat.mul_comm (B ^ n) B, Nat.mod_mul]
theorem nums_get (B : Nat) : ∀ n x i, i < n → (nums B n x)[i]? = some (x / B ^ i % B)
  | 0, _, i, h => by omega
  | n + 1, x, 0, _ => by simp [nums]
  | n + 1, x, i + 1, h => by
    rw [nums, List.getElem?_cons_succ, nums_get B n _ i (by omega), Nat.div_div_eq_div_mul, Nat.pow_succ, Nat.mul_comm]
theorem nums_of {B : Nat} {l : List Nat} (hB : 0 < B) (h : Fit B l) : l = nums B l.length (val B l) :=
  val_inj h (nums_fit hB _ _) (nums_length _ _ _).symm (by rw [nums_val, Nat.mod_eq_of_lt (val_lt h)])
/-- The digits of a number to the base 256: fuel enough is the number. -/
def digs (x : Nat) : List Nat := trim (nums 256 x x)
theorem lt_pow256 (x : Nat) : x < 256 ^ x := Nat.lt_of_lt_of_le Nat.lt_two_pow_self (Nat.pow_le_pow_left (by omega) x)
theorem digs_val (x : Nat) : val 256 (digs x) = x := by rw [digs, trim_val, nums_val, Nat.mod_eq_of_lt (lt_pow256 x)]
theorem digs_fit (x : Nat) : Fit 256 (digs x) := trim_fit (nums_fit (by omega) _ _)
theorem digs_tight (x : Nat) : Tight (digs x) := trim_tight _
theorem trim_digs {l : List Nat} (h : Fit 256 l) : trim l = digs (val 256 l) :=
  tight_inj (B := 256) (by omega) (trim_fit h) (digs_fit _) (trim_tight _) (digs_tight _) (by rw [trim_val, digs_val])
theorem tight_digs {l : List Nat} (h : Fit 256 l) (ht : Tight l) : l = digs (val 256 l) := (trim_of_tight ht).symm.trans (trim_digs h)
theorem digs_len (x k : Nat) : (digs x).length ≤ k ↔ x < 256 ^ k := by
  have := tight_len (digs_fit x) (digs_tight x) k (by omega)
  rwa [digs_val] at this
/-- The four bytes of a limb, the lowest first. -/
def four (x : Nat) : List Nat := [x % 256, x / 256 % 256, x / 256 / 256 % 256, x / 256 / 256 / 256 % 256]
theorem four_get (x : Nat) {k : Nat} (hk : k < 4) : (four x)[k]? = some (x / 256 ^ k % 256) := nums_get 256 4 x k hk
theorem four_fit (x : Nat) : Fit 256 (four x) := by
  intro d hd
  simp only [four, List.mem_cons, List.mem_nil_iff, or_false] at hd
  omega
theorem four_val {x : Nat} (h : x < 4294967296) : val 256 (four x) = x := by
  simp only [four, val]; omega
theorem fours_val : ∀ {l : List Nat}, Fit 4294967296 l → val 256 (l.flatMap four) = val 4294967296 l
  | [], _ => rfl
  | d :: r, h => by
    rw [List.flatMap_cons, val_append, four_val h.cons.1, fours_val h.cons.2, val]
    have : (four d).length = 4 := rfl
    rw [this]
theorem fours_fit (l : List Nat) : Fit 256 (l.flatMap four) := by
  intro d hd
  obtain ⟨x, _, hx⟩ := List.mem_flatMap.1 hd
  exact four_fit x d hx
/-- How many bits a number has. -/
def bitlen (x : Nat) : Nat := if x = 0 then 0 else x.log2 + 1
theorem bitlen_le (x k : Nat) : bitlen x ≤ k ↔ x < 2 ^ k := by
  unfold bitlen
  split
  · next h => subst h; simp [Nat.two_pow_pos]
  · next h => rw [Nat.add_one_le_iff, Nat.log2_lt h]
theorem bitlen_eq {x k : Nat} (h1 : x < 2 ^ k) (h2 : k = 0 ∨ 2 ^ (k - 1) ≤ x) : bitlen x = k := by
  have h3 := (bitlen_le x k).2 h1
  rcases h2 with rfl | h2
  · omega
  · rcases Nat.eq_zero_or_pos k with rfl | hk
    · omega
    · have h4 : ¬ bitlen x ≤ k - 1 := fun h => by have := (bitlen_le x (k - 1)).1 h; omega
      omega
theorem bitlen_zero : bitlen 0 = 0 := rfl
theorem bitlen_half {x : Nat} (h : 0 < x) : bitlen x = bitlen (x / 2) + 1 := by
  have h1 := (bitlen_le (x / 2) (bitlen (x / 2))).1 (Nat.le_refl _)
  refine bitlen_eq ?_ (.inr ?_)
  · rw [Nat.pow_succ]; omega
  · rw [Nat.add_sub_cancel]
    rcases Nat.eq_zero_or_pos (bitlen (x / 2)) with h2 | h2
    · rw [h2]; omega
    · have h4 : ¬ x / 2 < 2 ^ (bitlen (x / 2) - 1) := fun h => by have := (bitlen_le (x / 2) (bitlen (x / 2) - 1)).2 h; omega
      have h5 : 2 ^ bitlen (x / 2) = 2 ^ (bitlen (x / 2) - 1) * 2 := by rw [← Nat.pow_succ]; congr 1; omega
      omega
/-- The bits of a number with a highest digit that isn't 0. -/
theorem bitlen_top (s : Nat) {a : List Nat} {d : Nat} (ha : Fit (2 ^ s) a) (hd : d ≠ 0) : bitlen (val (2 ^ s) (a ++ [d])) = s * a.length + bitlen d := by
  have h1 := val_lt ha
  have h2 := (bitlen_le d (bitlen d)).1 (Nat.le_refl _)
  have h3 : 2 ^ (bitlen d - 1) ≤ d := Nat.not_lt.1 fun h => by
    have := (bitlen_le d (bitlen d - 1)).2 h
    have : 0 < bitlen d := by unfold bitlen; rw [if_neg hd]; omega
    omega
  have h0 : 0 < bitlen d := by unfold bitlen; rw [if_neg hd]; omega
  rw [val_snoc]
  rw [← Nat.pow_mul] at h1 ⊢
  refine bitlen_eq ?_ (.inr ?_)
  · rw [Nat.pow_add]
    have : 2 ^ (s * a.length) * (d + 1) ≤ 2 ^ (s * a.length) * 2 ^ bitlen d := Nat.mul_le_mul_left _ h2
    rw [Nat.mul_add, Nat.mul_one] at this
    omega
  · rw [show s * a.length + bitlen d - 1 = s * a.length + (bitlen d - 1) by omega, Nat.pow_add]
    have : 2 ^ (s * a.length) * 2 ^ (bitlen d - 1) ≤ 2 ^ (s * a.length) * d := Nat.mul_le_mul_left _ h3
    omega
/-- Which is the greater. -/
def ord (x y : Nat) : Int := if x < y then -1 else if y < x then 1 else 0
theorem ord_self (x : Nat) : ord x x = 0 := by simp [ord]
theorem ord_swap (x y : Nat) : ord y x = -ord x y := by unfold ord; split <;> split <;> omega
theorem ord_zero (x y : Nat) : ord x y = 0 ↔ x = y := by unfold ord; split <;> (try split) <;> omega
theorem ord_lt (x y : Nat) : ord x y < 0 ↔ x < y := by unfold ord; split <;> (try split) <;> omega
theorem ord_ge (x y : Nat) : 0 ≤ ord x y ↔ y ≤ x := by unfold ord; split <;> (try split) <;> omega
/-- Two numbers whose upper digits are the same and whose next ones are not. -/
theorem ord_at {B : Nat} {a b c : List Nat} {d e : Nat} (ha : Fit B a) (hb : Fit B b) (hl : a.length = b.length) (hne : d ≠ e) : ord (val B (a ++ d :: c)) (val B (b ++ e :: c)) = ord d e := by
  have h1 := val_lt ha
  have h2 := val_lt hb
  rw [val_append, val_append, val, val, ← hl]
  rw [← hl] at h2
  generalize B ^ a.length = P at *
  have key : ∀ x y u v t : Nat, x < P → y < P → u < v → x + P * (u + t) < y + P * (v + t) := by
    intro x y u v t hx hy huv
    have : P * (u + t + 1) ≤ P * (v + t) := Nat.mul_le_mul_left _ (by omega)
    rw [Nat.mul_add, Nat.mul_one] at this
    omega
  unfold ord
  rcases Nat.lt_or_gt_of_ne hne with h | h
  · have := key _ _ _ _ (B * val B c) h1 h2 h
    rw [if_pos this, if_pos h]
  · have := key _ _ _ _ (B * val B c) h2 h1 h
    rw [if_neg (by omega), if_pos this, if_neg (by omega), if_pos h]
theorem ord_len {a b : List Nat} (ha : Fit 256 a) (hb : Fit 256 b) (ta : Tight a) (tb : Tight b) (h : a.length < b.length) : val 256 a < val 256 b := by
  have h1 := val_lt ha
  have h2 : ¬ val 256 b < 256 ^ a.length := fun hx => by have := (tight_len hb tb a.length (by omega)).2 hx; omega
  omega

open Go.RowKit
/-- Numbers as cells. -/
def cn (k : IntKind) (l : List Nat) : List Value := l.map fun (x : Nat) => Value.int k (x : Int)
theorem cn_length (k : IntKind) (l : List Nat) : (cn k l).length = l.length := by simp [cn]
theorem cn_one (k : IntKind) (l : List Nat) : ∀ v ∈ cn k l, v.oneCell' = true := by intro v hv; simp [cn] at hv; obtain ⟨x, _, rfl⟩ := hv; rfl
theorem cn_get {k : IntKind} {l : List Nat} {i x : Nat} (h : l[i]? = some x) : (cn k l)[i]? = some (.int k (x : Int)) := by simp [cn, h]
theorem cn_set (k : IntKind) (l : List Nat) (i x : Nat) : (cn k l).set i (.int k (x : Int)) = cn k (l.set i x) := by simp [cn, List.map_set]
theorem cn_append (k : IntKind) (a b : List Nat) : cn k (a ++ b) = cn k a ++ cn k b := by simp [cn]
theorem get_some {l : List Nat} {i : Nat} (h : i < l.length) : ∃ x, l[i]? = some x := ⟨_, List.getElem?_eq_getElem h⟩
/-- Block g is just the cells cs, of element type t; none of them is frozen. -/
def Blk (w : World) (g : Nat) (t : TypeId) (cs : List Value) : Prop := w.heap[g]? = some (.cells cs.toArray t (0, 0))
section
variable {w w' : World} {g : Nat} {t : TypeId} {cs : List Value}
theorem Blk.lt (h : Blk w g t cs) : g < w.heap.size := by
  rcases Nat.lt_or_ge g w.heap.size with hlt | hge
  · exact hlt
  · unfold Blk at h; rw [Array.getElem?_eq_none hge] at h; cases h
theorem Blk.cell (h : Blk w g t cs) (i : Nat) : w.cell? ⟨g, i, none⟩ = cs[i]? := by
  have := cell_of_row w g i cs.toArray t (0, 0) h
  simpa using this
theorem Blk.frozen (h : Blk w g t cs) (i : Nat) : w.frozen? ⟨g, i, none⟩ = false := frozen_of_row w g i _ t h
theorem Blk.new (w : World) (t : TypeId) (cs : List Value) : Blk (w.alloc (.cells cs.toArray t)) w.heap.size t cs := heap_alloc_new w _
theorem Blk.drewN (h : Blk w g t cs) (n : Nat) : Blk (w.drewN n) g t cs := h
theorem Blk.alloc (h : Blk w g t cs) (o : Obj) : Blk (w.alloc o) g t cs := (Below.heap_alloc w o g h.lt).trans h
theorem Blk.set_ (h : Blk w g t cs) (i : Nat) (u : Value) : Blk (w.setCell ⟨g, i, none⟩ u) g t (cs.set i u) := by
  have := heap_setCell_same w g i cs.toArray t u h
  unfold Blk
  rw [this]
  simp
theorem Blk.far (h : Blk w g t cs) {p : Addr} (hp : g ≠ p.block) (u : Value) : Blk (w.setCell p u) g t cs := (Below.heap_setCell w p u g hp).trans h
theorem Blk.below {B : Nat} (h : Blk w g t cs) (hb : Below B w w') (hg : g < B) : Blk w' g t cs := (hb.block g hg).trans h
theorem Blk.grown {row : Option Nat} (h : Blk w g t cs) (hb : w.grownBy w' row) (hg : some g ≠ row) : Blk w' g t cs := (hb.block g h.lt hg).trans h
end
section
variable {a w : World}
theorem only_drewN {row : Option Nat} (h : a.grownBy w row) (n : Nat) : a.grownBy (w.drewN n) row := ⟨h.os, h.tape, h.output, h.size, h.block⟩
theorem only_setCell {g : Nat} (h : a.grownBy w (some g)) {p : Addr} (hp : p.block = g ∨ a.heap.size ≤ p.block) (u : Value) : a.grownBy (w.setCell p u) (some g) :=
  ⟨h.os, h.tape, h.output, by simpa [World.setCell] using h.size, fun i hi hne => (Below.heap_setCell w p u i (by
    rintro rfl
    rcases hp with hp | hp
    · exact hne (by rw [hp])
    · omega)).trans (h.block i hi hne)⟩
theorem only_of_below (h : Below a.heap.size a w) (row : Option Nat) : a.grownBy w row := ⟨h.os, h.tape, h.output, h.size, fun i hi _ => h.block i hi⟩
theorem below_only {B : Nat} {w2 : World} {row : Option Nat} (h : Below B a w) (k : w.grownBy w2 row) (hB : B ≤ w.heap.size) (hr : ∀ j, row = some j → B ≤ j) : Below B a w2 :=
  ⟨k.os.trans h.os, k.tape.trans h.tape, k.output.trans h.output, Nat.le_trans h.size k.size, fun i hi =>
    (k.block i (by omega) (fun e => by have := hr i e.symm; omega)).trans (h.block i hi)⟩
theorem below_drewN {B : Nat} (h : Below B a w) (n : Nat) : Below B a (w.drewN n) := ⟨h.os, h.tape, h.output, h.size, h.block⟩
theorem below_then {w2 : World} (h : Below a.heap.size a w) (k : Below w.heap.size w w2) : Below a.heap.size a w2 := h.trans (k.mono h.size)
theorem below_self : Below a.heap.size a a := Below.refl _ _
end
theorem block_add (a : Addr) (n : Nat) : (a.add n).block = a.block := by unfold Addr.add; split <;> rfl
theorem add_add (a : Addr) (i j : Nat) : (a.add i).add j = a.add (i + j) := by
  unfold Addr.add
  by_cases hi : i = 0 <;> by_cases hj : j = 0 <;> simp [hi, hj, Nat.add_assoc]
theorem addr_add (b off j : Nat) : (⟨b, off, none⟩ : Addr).add j = ⟨b, off + j, none⟩ := by unfold Addr.add; split <;> simp_all
/-- The slice at A of n numbers of kind k reads as l, in memory that is there. -/
def Rd (k : IntKind) (w : World) (A : Option Addr) (n : Nat) (l : List Nat) : Prop :=
  l.length = n ∧ (0 < n → ∃ ad, A = some ad ∧ ad.block < w.heap.size ∧ ∀ (j x : Nat), l[j]? = some x → w.cell? (ad.add j) = some (.int k (x : Int)))
section
variable {k : IntKind} {w w' : World} {A : Option Addr} {n : Nat} {l : List Nat}
theorem Rd.nil (k : IntKind) (w : World) (A : Option Addr) : Rd k w A 0 [] := ⟨rfl, fun h => absurd h (Nat.lt_irrefl _)⟩
theorem Rd.get (h : Rd k w A n l) {j : Nat} (hj : j < n) : ∃ ad x, A = some ad ∧ l[j]? = some x ∧ w.cell? (ad.add j) = some (.int k (x : Int)) := by
  obtain ⟨ad, e, _, hc⟩ := h.2 (by omega)
  obtain ⟨x, hx⟩ := get_some (l := l) (i := j) (by rw [h.1]; exact hj)
  exact ⟨ad, x, e, hx, hc j x hx⟩
theorem Rd.below (h : Rd k w A n l) (hb : Below w.heap.size w w') : Rd k w' A n l :=
  ⟨h.1, fun hn => by
    obtain ⟨ad, e, hlt, hc⟩ := h.2 hn
    exact ⟨ad, e, Nat.lt_of_lt_of_le hlt hb.size, fun j x hj => (hb.cell (p := ad.add j) (by rw [block_add]; exact hlt)).trans (hc j x hj)⟩⟩
theorem Rd.belowAt {B : Nat} (h : Rd k w A n l) (hb : Below B w w') (hlt : ∀ ad, A = some ad → ad.block < B) : Rd k w' A n l :=
  ⟨h.1, fun hn => by
    obtain ⟨ad, e, h1, hc⟩ := h.2 hn
    exact ⟨ad, e, Nat.lt_of_lt_of_le h1 hb.size, fun j x hj => (hb.cell (p := ad.add j) (by rw [block_add]; exact hlt ad e)).trans (hc j x hj)⟩⟩
theorem cell_grown {g : Nat} {ad : Addr} (hg : w.grownBy w' (some g)) (hlt : ad.block < w.heap.size) (hne : ad.block ≠ g) : w'.cell? ad = w.cell? ad := by
  have := hg.block ad.block hlt (fun e => hne (by injection e))
  simp only [World.cell?, this]
theorem Rd.grown {g : Nat} (h : Rd k w A n l) (hg : w.grownBy w' (some g)) (hne : ∀ ad, A = some ad → ad.block ≠ g) : Rd k w' A n l :=
  ⟨h.1, fun hn => by
    obtain ⟨ad, e, hlt, hc⟩ := h.2 hn
    exact ⟨ad, e, Nat.lt_of_lt_of_le hlt hg.size, fun j x hj => (cell_grown (ad := ad.add j) hg (by rw [block_add]; exact hlt) (by rw [block_add]; exact hne ad e)).trans (hc j x hj)⟩⟩
theorem Rd.drewN (h : Rd k w A n l) (m : Nat) : Rd k (w.drewN m) A n l := h
theorem Rd.lt (h : Rd k w A n l) (hn : 0 < n) : ∀ ad, A = some ad → ad.block < w.heap.size := by
  intro ad e
  obtain ⟨ad', e', hlt, _⟩ := h.2 hn
  rw [e] at e'
  injection e' with e'
  rw [e']; exact hlt
theorem Rd.take (h : Rd k w A n l) (m : Nat) (hm : m ≤ n) : Rd k w A m (l.take m) :=
  ⟨by rw [List.length_take, h.1]; omega, fun hp => by
    obtain ⟨ad, e, hlt, hc⟩ := h.2 (by omega)
    refine ⟨ad, e, hlt, fun j x hj => hc j x ?_⟩
    rw [List.getElem?_take] at hj
    split at hj
    · exact hj
    · cases hj⟩
theorem Rd.drop (h : Rd k w A n l) (m cap : Nat) (hm : m ≤ n) (hc : n ≤ cap) : Rd k w (if cap = m then A else A.map (·.add m)) (n - m) (l.drop m) := by
  refine ⟨by rw [List.length_drop, h.1], fun hp => ?_⟩
  obtain ⟨ad, rfl, hlt, hcell⟩ := h.2 (by omega)
  rw [if_neg (by omega)]
  refine ⟨ad.add m, rfl, by rw [block_add]; exact hlt, fun j x hj => ?_⟩
  rw [add_add]
  exact hcell _ _ (by rw [List.getElem?_drop] at hj; exact hj)
theorem Blk.rd {g : Nat} {t : TypeId} (h : Blk w g t (cn k l)) (m : Nat) (hm : l.length = m) : Rd k w (some ⟨g, 0, none⟩) m l :=
  ⟨hm, fun _ => ⟨_, rfl, h.lt, fun j x hj => by rw [addr_add, Nat.zero_add, h.cell]; exact cn_get hj⟩⟩
theorem Blk.rdAt {g : Nat} {t : TypeId} {l0 : List Nat} (h : Blk w g t (cn k l0)) (off m : Nat) (hl : l = (l0.drop off).take m) (hm : off + m ≤ l0.length) : Rd k w (some ⟨g, off, none⟩) m l :=
  ⟨by rw [hl, List.length_take, List.length_drop]; omega, fun _ => ⟨_, rfl, h.lt, fun j x hj => by
    rw [addr_add, h.cell]
    refine cn_get ?_
    rw [hl, List.getElem?_take, List.getElem?_drop] at hj
    split at hj
    · exact hj
    · cases hj⟩⟩
end
/-- A guard for an arm of the walk: the operation that stands next writes slot d. -/
theorem at_dst {P : Program} {ops : Array Oper} {Q : Exit → Act → World → Prop} {rest : List Oper} {a : Act} {w : World} (d : Option Nat) {op : Op} {ty : TypeId} {pos : String} {aft : Array Edge} {gd : Option (Nat × Bool)}
    (h : wpList P ops Q (⟨d, op, ty, pos, aft, gd⟩ :: rest) a w) : wpList P ops Q (⟨d, op, ty, pos, aft, gd⟩ :: rest) a w := h
theorem byteInfo : (Tryd.prog.info? 5).map (fun i => (i.zero, i.size, i.bytes)) = some (some (.int .u8 0), 1, 1) := by kernel_rfl
theorem wordInfo : (Tryd.prog.info? 87).map (fun i => (i.zero, i.size, i.bytes)) = some (some (.int .u32 0), 1, 4) := by kernel_rfl
theorem intInfo : (Tryd.prog.info? 3).map (fun i => (i.zero, i.size, i.bytes)) = some (some (.int .i64 0), 1, 8) := by kernel_rfl
/-- make of numbers: a new block of noughts. -/
theorem wpList_makeNums {ops : Array Oper} {rest : List Oper} {o : Oper} {a : Act} {w : World} {Q : Exit → Act → World → Prop} (hgd : o.guard = none) (x y : Operand) (t e : TypeId) (ho : o.op = .makeSlice t x y) (q : IntKind) (bytes : Nat)
    (ht : Tryd.prog.underlying t = some (.slice e)) (hinf : (Tryd.prog.info? e).map (fun i => (i.zero, i.size, i.bytes)) = some (some (.int q 0), 1, bytes)) (hb8 : bytes ≤ 8)
    (k : IntKind) (z : Int) (hx : a.eval x = .int k z) (hy : a.eval y = .int k z) (L : Nat) (hz : z = L) (hL : L ≤ 100000)
    (h : ∀ w', Hid (Blk w' w.heap.size e (cn q (List.replicate L 0))) → Below w.heap.size w w' → w.heap.size < w'.heap.size → wpList Tryd.prog ops Q rest (a.put o.dst (.slice (some ⟨w.heap.size, 0, none⟩) L L)) w') :
    wpList Tryd.prog ops Q (o :: rest) a w := by
  obtain ⟨i0, hi, hz0, hz1, hz2⟩ := info_parts hinf
  subst hz
  have hm : madeCells (Value.int q 0).cells L = (cn q (List.replicate L 0)).toArray := by
    apply Array.ext
    · simp [size_madeCells, cn]
    · intro i h1 h2
      simp [madeCells, cn, Value.cells, Nat.mod_one]
  have hrun : (Instr.makeSlice t (.int k (L : Int)) (.int k (L : Int))).run Tryd.prog w = .ok (.slice (some ⟨w.heap.size, 0, none⟩) L L) (w.alloc (.cells (cn q (List.replicate L 0)).toArray e)) := by
    have hlb : L * bytes ≤ 100000 * 8 := Nat.mul_le_mul hL hb8
    have := run_make (P := Tryd.prog) w t e i0 _ ht hi hz0 k k (L : Int) (L : Int) (by omega) (by omega) (by rw [hz2, ← Int.natCast_mul, Nat.mul_comm]; omega) (by omega)
    rw [hz1, Nat.mul_one, Int.toNat_natCast, hm] at this
    exact this
  refine wpList_plain hgd fun K hK => ?_
  unfold Oper.wp
  simp [execOp, ho, hx, hy, hrun, Result.andThen]
  exact hK _ _ (h _ (heap_alloc_new _ _) ((Below.refl _ _).alloc (Nat.le_refl _) _) (by simp))
/-- A slice that the call has made, of n cells, in a block from B on (or nil). -/
def Row (w : World) (B : Nat) (e : TypeId) (A : Option Addr) (n cap : Nat) (xs : List Value) : Prop := w.ownsRow B e 1 (.slice A n cap) n xs
section
variable {w w' : World} {B : Nat} {e : TypeId} {A : Option Addr} {n cap : Nat} {xs : List Value}
theorem Row.length (h : Row w B e A n cap xs) : xs.length = n := by
  have := h.1; omega
theorem Row.below (h : Row w B e A n cap xs) (hb : Below w.heap.size w w') : Row w' B e A n cap xs :=
  World.ownsRow.kept h (only_of_below hb none) (by cases hv : (Value.slice A n cap).ownBlock <;> simp)
theorem Row.lt (h : Row w B e A n cap xs) (ad : Addr) (ha : A = some ad) : B ≤ ad.block ∧ ad.block < w.heap.size :=
  World.ownsRow.lt h ad.block (by rw [ha]; rfl)
theorem Row.cells (h : Row w B e A n cap xs) (hn : 0 < n) : ∃ g, A = some ⟨g, 0, none⟩ ∧ B ≤ g ∧ g < w.heap.size ∧ ∀ j u, xs[j]? = some u → w.cell? ⟨g, j, none⟩ = some u := by
  obtain ⟨g, cap', hv, hb, hlt⟩ := World.ownsRow.form h hn
  have hA : A = some ⟨g, 0, none⟩ := by injection hv
  subst hA
  exact ⟨g, rfl, hb, hlt, fun j u hu => by have := World.ownsRow.cells h (g := g) rfl j u hu; rwa [addr_add, Nat.zero_add] at this⟩
theorem Row.le (h : Row w B e A n cap xs) : n ≤ cap ∧ cap ≤ maxLen := by
  rcases h.2 with ⟨hv, h0⟩ | ⟨g, cap', cur, hv, _, _, hnc, hm, _⟩
  · injection hv with _ h1 h2; omega
  · injection hv with _ h1 h2; omega
theorem Row.rd {k : IntKind} {l : List Nat} (h : Row w B e A n cap (cn k l)) : Rd k w A n l := by
  refine ⟨by have := h.length; rwa [cn_length] at this, fun hn => ?_⟩
  obtain ⟨g, rfl, _, hlt, hc⟩ := h.cells hn
  exact ⟨_, rfl, hlt, fun j v hv => by rw [addr_add, Nat.zero_add]; exact hc j _ (cn_get hv)⟩
theorem Row.nil (w : World) (B : Nat) (e : TypeId) : Row w B e none 0 0 [] := World.ownsRow_nil w B e 1
end
theorem run_app {t ty e : TypeId} {i : TypeInfo} {z : Value} {bytes : Nat} (ht : Tryd.prog.underlying t = some (.slice e)) (hi : Tryd.prog.info? e = some i) (hz : i.zero = some z) (hsize : i.size = 1) (hby : i.bytes = bytes) (hzs : z.cells.size = 1) (hb8 : bytes ≤ 8)
    {B : Nat} {w0 w : World} (hbel : Below B w0 w) (hB : B ≤ w.heap.size) {A : Option Addr} {n cap : Nat} {xs : List Value} (hrow : Row w B e A n cap xs) {A2 : Option Addr} {m c2 : Nat} {news : List Value} (hl : news.length = m)
    (hsrc : A2 = none ∧ c2 = 0 ∨ ∃ ad, A2 = some ad ∧ ∀ j u, news[j]? = some u → w.cell? (ad.add j) = some u) (h1 : ∀ u ∈ news, u.oneCell' = true) (hm0 : A2 = none → m = 0) (hnm : n + m ≤ 1000000) :
    ∃ A' cap' w', (Builtin.append_ #[t, t] ty #[.slice A n cap, .slice A2 m c2]).run Tryd.prog w = .ok (.slice A' (n + m) cap') w' ∧ Row w' B e A' (n + m) cap' (xs ++ news) ∧ Below B w0 w' ∧ w.heap.size ≤ w'.heap.size := by
  rcases hsrc with ⟨rfl, rfl⟩ | ⟨ad, rfl, hc⟩
  · obtain rfl := hm0 rfl
    obtain rfl : news = [] := List.eq_nil_of_length_eq_zero hl
    exact ⟨A, cap, w, run_append_owned_none (P := Tryd.prog) (w := w) B t ty e i 1 ht hi _ n xs hrow, by simpa using hrow, hbel, Nat.le_refl _⟩
  · obtain ⟨v', w', hrun, hown, hg, hnil, hat⟩ := run_append_own_at (P := Tryd.prog) w B t ty e i z 1 bytes ht hi hz hsize hby hzs (by omega) _ n xs hrow ad m c2 news (by omega) hc h1 (by unfold maxLen; omega) (by
      have : (n + m) * bytes ≤ 1000000 * 8 := Nat.mul_le_mul hnm hb8
      omega) hB
    have hform : ∃ A' cap', v' = .slice A' (n + m) cap' := by
      rcases hown.2 with ⟨rfl, h0⟩ | ⟨g, cap', cur, rfl, _⟩
      · exact ⟨none, 0, by rw [h0]⟩
      · exact ⟨_, _, rfl⟩
    obtain ⟨A', cap', rfl⟩ := hform
    refine ⟨A', cap', w', hrun, hown, below_only hbel hg hB (fun j hj => ?_), hg.size⟩
    exact (World.ownsRow.lt hrow j hj).1
theorem wpList_app {ops : Array Oper} {rest : List Oper} {o : Oper} {a : Act} {w : World} {Q : Exit → Act → World → Prop} (hgd : o.guard = none) (s x : Operand) (t e : TypeId) (ho : o.op = .call { callee := .builtin .append, args := #[s, x], argTypes := #[t, t] })
    {i : TypeInfo} {z : Value} {bytes : Nat} (ht : Tryd.prog.underlying t = some (.slice e)) (hi : Tryd.prog.info? e = some i) (hz : i.zero = some z) (hsize : i.size = 1) (hby : i.bytes = bytes) (hzs : z.cells.size = 1) (hb8 : bytes ≤ 8)
    {B : Nat} {w0 : World} (hbel : Below B w0 w) (hB : B ≤ w.heap.size) {A : Option Addr} {n cap : Nat} {xs : List Value} (hs : a.eval s = .slice A n cap) (hrow : Row w B e A n cap xs) {A2 : Option Addr} {m c2 : Nat} {news : List Value} (hx : a.eval x = .slice A2 m c2) (hl : news.length = m)
    (hsrc : A2 = none ∧ c2 = 0 ∨ ∃ ad, A2 = some ad ∧ ∀ j u, news[j]? = some u → w.cell? (ad.add j) = some u) (h1 : ∀ u ∈ news, u.oneCell' = true) (hm0 : A2 = none → m = 0) (hnm : n + m ≤ 1000000) (N : Nat) (hN : n + m = N)
    (h : ∀ A' cap' w', Hid (Row w' B e A' N cap' (xs ++ news)) → Below B w0 w' → B ≤ w'.heap.size → wpList Tryd.prog ops Q rest (a.put o.dst (.slice A' N cap')) w') : wpList Tryd.prog ops Q (o :: rest) a w := by
  subst hN
  obtain ⟨A', cap', w', hrun, hr, hb, hsz⟩ := run_app (ty := o.type) ht hi hz hsize hby hzs hb8 hbel hB hrow hl hsrc h1 hm0 hnm
  refine wpList_plain hgd fun K hK => ?_
  unfold Oper.wp
  simp [execOp, ho, resolve, invoke, builtin, hs, hx, hrun, Result.andThen]
  exact hK _ _ (h A' cap' w' hr hb (by omega))
theorem one_src (w : World) (x : Value) (t : TypeId) : (some (⟨w.heap.size, 0, none⟩ : Addr) = none ∧ 1 = 0) ∨ ∃ ad, some (⟨w.heap.size, 0, none⟩ : Addr) = some ad ∧ ∀ j u, [x][j]? = some u → (w.alloc (.cells #[x] t)).cell? (ad.add j) = some u :=
  .inr ⟨_, rfl, cell_one_new w x t⟩
/-- One digit more. -/
theorem wpList_appInt {ops : Array Oper} {rest : List Oper} {o : Oper} {a : Act} {w : World} {Q : Exit → Act → World → Prop} (hgd : o.guard = none) (s x : Operand) (ho : o.op = .call { callee := .builtin .append, args := #[s, x], argTypes := #[39, 39] })
    {B : Nat} {w0 : World} (hbel : Below B w0 w) (hB : B ≤ w.heap.size) {A : Option Addr} {n cap : Nat} {l : List Nat} (d : Nat) (y : Int) (hy : y = (d : Int)) (hs : a.eval s = .slice A n cap) (hrow : Row w B 3 A n cap (cn .i64 l)) (hx : a.eval x = .slice (some ⟨w.heap.size, 0, none⟩) 1 1) (hn : n < 1000000) (N : Nat) (hN : n + 1 = N)
    (h : ∀ A' cap' w', Hid (Row w' B 3 A' N cap' (cn .i64 (l ++ [d]))) → Below B w0 w' → B ≤ w'.heap.size → wpList Tryd.prog ops Q rest (a.put o.dst (.slice A' N cap')) w') : wpList Tryd.prog ops Q (o :: rest) a (w.alloc (.cells #[.int .i64 y] 3)) := by
  obtain ⟨i0, hi, hz0, hz1, hz2⟩ := info_parts intInfo
  subst hy
  refine wpList_app hgd s x 39 3 ho Tryd.underlying39 hi hz0 hz1 hz2 rfl (by omega) (hbel.alloc hB _) (by simp; omega) hs (World.ownsRow.alloc hrow _) hx (news := [.int .i64 (d : Int)]) rfl (one_src w _ _) (by intro u hu; rw [List.mem_singleton.1 hu]; rfl) (fun e => by cases e) (by omega) N hN ?_
  intro A' cap' w' hr hb hB'
  refine h A' cap' w' ?_ hb hB'
  have := hr.out
  show Row _ _ _ _ _ _ _
  simpa [cn] using this
theorem own_empty (w : World) (e : TypeId) : Row (w.alloc (.cells #[] e)) w.heap.size e (some ⟨w.heap.size, 0, none⟩) 0 0 [] :=
  World.ownsRow_made w #[] 0 (Nat.le_refl _) (Nat.zero_le _) (by simp)
/-- Bytes as the walk's string. -/
def str (l : List Nat) : ByteArray := strOfNums (l.map fun (x : Nat) => (x : Int))
theorem rd_str {w : World} {A : Option Addr} {k : Nat} {l : List Nat} (h : Rd .u8 w A k l) (cap : Nat) : (convert 22 9 (.slice A k cap)).run Tryd.prog w = .ok (.string (str l)) w := by
  rcases A with _ | a
  · have hl : l = [] := by
      rcases Nat.eq_zero_or_pos k with h0 | h0
      · exact List.eq_nil_of_length_eq_zero (by rw [h.1]; exact h0)
      · obtain ⟨_, e, _⟩ := h.2 h0; cases e
    subst hl
    rw [run_convert_bytes_nil (P := Tryd.prog) w 22 5 Tryd.underlying22 Tryd.underlying5 k cap 9 Tryd.underlying9]
    rfl
  · have hl : (loadCells a k).run Tryd.prog w = .ok ((l.map fun (x : Nat) => (x : Int)).map (Value.int .u8)).toArray w := by
      have := run_loadCells_list (P := Tryd.prog) w a (cn .u8 l) (fun j v hj => by
        have hjl := (List.getElem?_eq_some_iff.1 hj).1
        rw [cn_length] at hjl
        obtain ⟨x, hx⟩ := get_some hjl
        rw [cn_get hx] at hj
        injection hj with hj
        obtain ⟨ad, e, _, hc⟩ := h.2 (by rw [← h.1]; omega)
        injection e with e
        subst e
        rw [← hj]
        exact hc j x hx)
      rw [cn_length, h.1] at this
      rw [this]
      simp [cn, Function.comp_def]
    rw [run_convert_bytes_string w 22 9 5 _ k cap Tryd.underlying22 Tryd.underlying5 Tryd.underlying9, run_bytesToString w _ k cap (l.map fun (x : Nat) => (x : Int)) hl, foldl_push_bytes]
    simp [str, strOfNums, ByteArray.empty, ByteArray.emptyWithCapacity]
    rfl
theorem Rd.src {w : World} {A : Option Addr} {n : Nat} {l : List Nat} (h : Rd .u8 w A n l) (hn : 1 ≤ n) : ∃ ad, A = some ad ∧ ∀ j u, (cn .u8 l)[j]? = some u → w.cell? (ad.add j) = some u := by
  obtain ⟨ad, rfl, _, hc⟩ := h.2 (by omega)
  refine ⟨ad, rfl, fun j u hu => ?_⟩
  simp only [cn, List.getElem?_map] at hu
  cases hj : l[j]? with
  | none => rw [hj] at hu; cases hu
  | some x =>
    rw [hj] at hu
    injection hu with hu
    rw [← hu]
    exact hc j x hj
/-- What lies elsewhere than in the block that grew reads as it did. -/
theorem Rd.grownBy {q : IntKind} {w w' : World} {A : Option Addr} {n : Nat} {l : List Nat} {row : Option Nat} (h : Rd q w A n l) (hg : w.grownBy w' row) (hne : ∀ ad, A = some ad → some ad.block ≠ row) : Rd q w' A n l :=
  ⟨h.1, fun hn => by
    obtain ⟨ad, e, hlt, hc⟩ := h.2 hn
    exact ⟨ad, e, Nat.lt_of_lt_of_le hlt hg.size, fun j x hj => hg.cell (hc j x hj) (by rw [block_add]; exact hne ad e)⟩⟩
/-- A block of just these bytes, as a row of one's own. -/
theorem Blk.row {w : World} {g B : Nat} {l : List Nat} (h : Blk w g 5 (cn .u8 l)) (hB : B ≤ g) (m : Nat) (hm : l.length = m) (hm2 : m ≤ 1000000) : Row w B 5 (some ⟨g, 0, none⟩) m m (cn .u8 l) :=
  ⟨by rw [cn_length]; omega, .inr ⟨g, m, (cn .u8 l).toArray, rfl, hB, h, Nat.le_refl _, by unfold maxLen; omega, by simp [cn_length]; omega, by simp [cn_length, hm]; rw [List.take_of_length_le (by rw [cn_length]; omega)]⟩⟩
theorem Row.mono {w : World} {B B' : Nat} {e : TypeId} {A : Option Addr} {n cap : Nat} {xs : List Value} (h : Row w B e A n cap xs) (hb : B' ≤ B) : Row w B' e A n cap xs :=
  ⟨h.1, h.2.imp id fun ⟨g, cap, cur, h1, h2, h3⟩ => ⟨g, cap, cur, h1, Nat.le_trans hb h2, h3⟩⟩
/-- Bytes behind bytes. -/
theorem wpList_appBs {ops : Array Oper} {rest : List Oper} {o : Oper} {a : Act} {w : World} {Q : Exit → Act → World → Prop} (hgd : o.guard = none) (s x : Operand) (ho : o.op = .call { callee := .builtin .append, args := #[s, x], argTypes := #[22, 22] })
    {B : Nat} {w0 : World} (hbel : Below B w0 w) (hB : B ≤ w.heap.size) {A : Option Addr} {n cap : Nat} {l : List Nat} (hs : a.eval s = .slice A n cap) (hrow : Row w B 5 A n cap (cn .u8 l)) {A2 : Option Addr} {m c2 : Nat} {l2 : List Nat} (hx : a.eval x = .slice A2 m c2) (hr : Rd .u8 w A2 m l2) (hm : 1 ≤ m) (hnm : n + m ≤ 1000000) (N : Nat) (hN : n + m = N)
    (h : ∀ A' cap' w', Hid (Row w' B 5 A' N cap' (cn .u8 (l ++ l2))) → Below B w0 w' → B ≤ w'.heap.size → Hid (w.grownBy w' (A.map (·.block))) → wpList Tryd.prog ops Q rest (a.put o.dst (.slice A' N cap')) w') : wpList Tryd.prog ops Q (o :: rest) a w := by
  subst hN
  obtain ⟨i0, hi, hz0, hz1, hz2⟩ := info_parts byteInfo
  obtain ⟨ad, rfl, hc⟩ := hr.src hm
  obtain ⟨v', w', hrun, hown, hg, hnil, hat⟩ := run_append_own_at (P := Tryd.prog) w B 22 o.type 5 i0 _ 1 1 Tryd.underlying22 hi hz0 hz1 hz2 rfl (by omega) _ n _ hrow ad m c2 (cn .u8 l2) (by rw [cn_length, hr.1]; omega) hc (cn_one _ _) (by unfold maxLen; omega) (by omega) hB
  have hform : ∃ A' cap', v' = .slice A' (n + m) cap' := by
    rcases hown.2 with ⟨rfl, h0⟩ | ⟨g, cap', cur, rfl, _⟩
    · exact ⟨none, 0, by rw [h0]⟩
    · exact ⟨_, _, rfl⟩
  obtain ⟨A', cap', rfl⟩ := hform
  have hrowb : (Value.slice A n cap).ownBlock = A.map (·.block) := by cases A <;> rfl
  refine wpList_plain hgd fun K hK => ?_
  unfold Oper.wp
  simp [execOp, ho, resolve, invoke, builtin, hs, hx, hrun, Result.andThen]
  refine hK _ _ (h A' cap' w' ?_ (below_only hbel hg hB (fun j hj => (World.ownsRow.lt hrow j hj).1)) (Nat.le_trans hB hg.size) (by rw [← hrowb]; exact hg))
  show Row _ _ _ _ _ _ _
  rw [cn_append]
  exact hown
/-- A call's answer: bytes of its own. -/
def GivesBs (w : World) (n : Nat) (l : List Nat) (e : Ending) (w' : World) : Prop :=
  ∃ g c, e = .returned (.slice (some ⟨g, 0, none⟩) n c) ∧ w.heap.size ≤ g ∧ Row w' w.heap.size 5 (some ⟨g, 0, none⟩) n c (cn .u8 l) ∧ Below w.heap.size w w'
set_option maxHeartbeats 1000000 in
theorem Clone8_any (A : Option Addr) (n cap : Nat) (l : List Nat) (w : World) (h : Rd .u8 w A n l) (hn1 : 1 ≤ n) (hn : n ≤ 10000) :
    Calls Tryd.prog 41 #[.slice A n cap] w (GivesBs w n l) := by
  obtain ⟨ad, rfl, hlt, hcs⟩ := h.2 (by omega)
  have HR : Hid (Rd .u8 (w.alloc (.cells #[] 5)) (some ad) n l) := h.below ((Below.refl _ _).alloc (Nat.le_refl _) _)
  have HE : Hid (Row (w.alloc (.cells #[] 5)) w.heap.size 5 (some ⟨w.heap.size, 0, none⟩) 0 0 (cn .u8 [])) := own_empty w 5
  clear h hcs hlt
  have q23 : (binOp .eql 22 (.slice (some ad) n cap) (.slice none 0 0)).run Tryd.prog w = .ok (.bool false) w := Lib.run_eql_slice_nil w _ _ _ _ _ _ _ Tryd.underlying22
  go_enter Tryd.func41, Tryd.ntmps41
  go_wp2_with (first
    | ((with_reducible refine at_dst (some 7) ?_); refine wpList_appBs (o := ⟨some 7, _, _, _, _, _⟩) rfl (.tmp 5) (.tmp 6) rfl ((Below.refl w.heap.size w).alloc (Nat.le_refl _) _) (by simp) rfl HE.out rfl HR.out hn1 (by omega) n (by omega) ?_; intro A2 c2 w2 HRow hbe hB HG))
  go_ret
  obtain ⟨g, rfl, hg1, hg2, _⟩ := HRow.out.cells (by omega)
  exact ⟨g, c2, rfl, hg1, HRow.out, hbe⟩
theorem str_toList (l : List Nat) : (str l).toList = l.map UInt8.ofNat := by
  rw [ByteArray.toList_eq]
  show ((l.map fun (x : Nat) => (x : Int)).map fun n => UInt8.ofNat n.toNat) = _
  simp [Function.comp_def]
theorem u8_inj : ∀ {l l' : List Nat}, Fit 256 l → Fit 256 l' → l.map UInt8.ofNat = l'.map UInt8.ofNat → l = l'
  | [], [], _, _, _ => rfl
  | [], _ :: _, _, _, h => by simp at h
  | _ :: _, [], _, _, h => by simp at h
  | a :: l, b :: l', h, h', e => by
    simp only [List.map_cons, List.cons.injEq] at e
    have ha := h a (by simp)
    have hb := h' b (by simp)
    have e1 : a = b := by
      have := congrArg UInt8.toNat e.1
      simp only [UInt8.toNat_ofNat'] at this
      omega
    rw [e1, u8_inj h.cons.2 h'.cons.2 e.2]
theorem str_same {l l' : List Nat} (h : Fit 256 l) (h' : Fit 256 l') : ((str l).toList == (str l').toList) = decide (l = l') := by
  rw [str_toList, str_toList, Bool.eq_iff_iff]
  simp only [beq_iff_eq, decide_eq_true_eq]
  exact ⟨u8_inj h h', fun e => by rw [e]⟩
theorem Equal_any (A A' : Option Addr) (n cap n' cap' : Nat) (l l' : List Nat) (w : World) (h : Rd .u8 w A n l) (h' : Rd .u8 w A' n' l') (hf : Fit 256 l) (hf' : Fit 256 l') :
    Calls Tryd.prog 38 #[.slice A n cap, .slice A' n' cap'] w fun e w' => e = .returned (.bool (decide (l = l'))) ∧ w = w' := by
  have e := str_same hf hf'
  have hc := rd_str h cap
  have hc' := rd_str h' cap'
  clear h h' hf hf'
  generalize str l = S at *
  generalize str l' = S' at *
  generalize decide (l = l') = b at *
  go_enter Tryd.func38, Tryd.ntmps38
  go_wp2
  go_ret
  exact ⟨rfl, rfl⟩
theorem run_mid8 (A : Option Addr) (k cap lo hi : Nat) (h1 : lo ≤ hi) (h2 : hi ≤ cap) (L H : Int) (hL : L = (lo : Int)) (hH : H = (hi : Int)) (w : World) :
    (Instr.slice 22 (.slice A k cap) (some (.int .i64 L)) (some (.int .i64 H)) none).run Tryd.prog w = .ok (.slice (if cap = lo then A else A.map (·.add lo)) (hi - lo) (cap - lo)) w := by
  subst hL hH
  obtain ⟨i0, hi0, hz0, hz1, hz2⟩ := info_parts byteInfo
  simp [Instr.slice, run_underlying Tryd.underlying22, Instr.sliceBounds, run_sliceBound, sizeOf, typeInfo, hi0, hz1, h1, h2]
theorem Rd.mid {q : IntKind} {w : World} {A : Option Addr} {n : Nat} {l : List Nat} (h : Rd q w A n l) (k m cap : Nat) (hk : k + m ≤ n) (hc : n ≤ cap) : Rd q w (if cap = k then A else A.map (·.add k)) m ((l.drop k).take m) :=
  (h.drop k cap (by omega) hc).take m (by omega)
theorem Row.blk {w : World} {B : Nat} {g n cap : Nat} {xs : List Value} (h : Row w B 5 (some ⟨g, 0, none⟩) n cap xs) : B ≤ g ∧ ∃ cs, Blk w g 5 cs ∧ cs.length = cap ∧ cs.take n = xs := by
  rcases h.2 with ⟨e, _⟩ | ⟨g', cap', cur, e, hB, hg, h1, h2, h3, h4⟩
  · cases e
  · injection e with e1 e2 e3
    injection e1 with e1
    injection e1 with e1
    subst e1; subst e3
    refine ⟨hB, cur.toList, ?_, ?_, ?_⟩
    · unfold Blk; simpa using hg
    · simpa using h3
    · simpa using h4
theorem Row.fz {w : World} {B : Nat} {g n cap : Nat} {xs : List Value} (h : Row w B 5 (some ⟨g, 0, none⟩) n cap xs) (p : Nat) : w.frozen? ⟨g, p, none⟩ = false := by
  obtain ⟨_, cs, hb, _⟩ := h.blk
  exact hb.frozen p
theorem Row.put {w : World} {B g n cap : Nat} {l : List Nat} (h : Row w B 5 (some ⟨g, 0, none⟩) n cap (cn .u8 l)) (p y : Nat) : Row (w.setCell ⟨g, p, none⟩ (.int .u8 (y : Int))) B 5 (some ⟨g, 0, none⟩) n cap (cn .u8 (l.set p y)) := by
  obtain ⟨hB, cs, hb, hc, ht⟩ := h.blk
  have hl := h.length
  have hle := h.le
  have hb2 := hb.set_ p (.int .u8 (y : Int))
  refine ⟨by rw [cn_length, List.length_set, ← cn_length .u8 l]; simpa using hl, .inr ⟨g, cap, (cs.set p (.int .u8 (y : Int))).toArray, rfl, hB, hb2, hle.1, hle.2, by simp [hc], ?_⟩⟩
  rw [List.toList_toArray, Nat.mul_one, List.take_set, ht, cn_set]
theorem Row.at_ {w : World} {B g n cap : Nat} {l : List Nat} (h : Row w B 5 (some ⟨g, 0, none⟩) n cap (cn .u8 l)) {p x : Nat} (hp : p < n) (hx : l[p]? = some x) : w.cell? ⟨g, p, none⟩ = some (.int .u8 (x : Int)) := by
  obtain ⟨ad, y, e, hy, hc⟩ := h.rd.get hp
  injection e with e
  rw [hx] at hy
  injection hy with hy
  rw [← e, addr_add, Nat.zero_add, ← hy] at hc
  exact hc
/-- A row elsewhere. -/
theorem Rd.setFar {q : IntKind} {w : World} {A : Option Addr} {n : Nat} {l : List Nat} (h : Rd q w A n l) {p : Addr} (hne : ∀ ad, A = some ad → ad.block ≠ p.block) (u : Value) : Rd q (w.setCell p u) A n l :=
  ⟨h.1, fun hn => by
    obtain ⟨ad, e, hlt, hc⟩ := h.2 hn
    refine ⟨ad, e, by simpa [World.setCell] using hlt, fun j x hj => ?_⟩
    rw [World.cell?_of_block (Below.heap_setCell w p u _ (by rw [block_add]; exact hne ad e))]
    exact hc j x hj⟩
theorem Row.setFar {w : World} {B g n cap : Nat} {l : List Nat} (h : Row w B 5 (some ⟨g, 0, none⟩) n cap (cn .u8 l)) {p : Addr} (hne : g ≠ p.block) (u : Value) : Row (w.setCell p u) B 5 (some ⟨g, 0, none⟩) n cap (cn .u8 l) := by
  obtain ⟨hB, cs, hb, hc, ht⟩ := h.blk
  exact ⟨h.1, .inr ⟨g, cap, cs.toArray, rfl, hB, hb.far hne u, h.le.1, h.le.2, by simp [hc], by simpa using ht⟩⟩
theorem xor_ne {o y : Nat} (hy : y ≠ 0) : o ^^^ y ≠ o := by
  intro h
  have h1 : o ^^^ (o ^^^ y) = y := by rw [← Nat.xor_assoc, Nat.xor_self, Nat.zero_xor]
  rw [h, Nat.xor_self] at h1
  exact hy h1.symm
theorem set_ne {l : List Nat} {p o v : Nat} (ho : l[p]? = some o) (hv : v ≠ o) : l.set p v ≠ l := by
  intro h
  have hp := (List.getElem?_eq_some_iff.1 ho).1
  have : (l.set p v)[p]? = some v := by rw [List.getElem?_set_self hp]
  rw [h, ho] at this
  injection this with this
  exact hv this.symm
theorem cb_of {l : List Nat} (h : Fit 256 l) : YtfoenafjaaidmaaDoorSh.cb (l.map UInt8.ofNat) = cn .u8 l := by
  simp only [YtfoenafjaaidmaaDoorSh.cb, cn, List.map_map]
  apply List.map_congr_left
  intro x hx
  have := h x hx
  simp only [Function.comp_apply, YtfoenafjaaidmaaDoorSh.ub, UInt8.toNat_ofNat']
  congr 1
  omega
theorem cb_to (L : List UInt8) : YtfoenafjaaidmaaDoorSh.cb L = cn .u8 (L.map UInt8.toNat) := by
  simp [YtfoenafjaaidmaaDoorSh.cb, cn, YtfoenafjaaidmaaDoorSh.ub, Function.comp_def]
theorem Rd.seg8 {w : World} {A : Option Addr} {n : Nat} {l : List Nat} (h : Rd .u8 w A n l) (hf : Fit 256 l) : YtfoenafjaaidmaaDoorSh.Seg w A n (l.map UInt8.ofNat) :=
  ⟨by simp [h.1], fun hn => by
    obtain ⟨ad, e, hlt, hc⟩ := h.2 hn
    refine ⟨ad, e, hlt, fun j v hv => ?_⟩
    rw [cb_of hf] at hv
    have hj := (List.getElem?_eq_some_iff.1 hv).1
    rw [cn_length] at hj
    obtain ⟨x, hx⟩ := get_some hj
    rw [cn_get hx] at hv
    injection hv with hv
    rw [← hv]
    exact hc j x hx⟩
end Go.Proofs.YtfoenafjaaidmaaDoor
