/-
  The numbers in limbs and in digits, in memory; the document's sums, products, orders; the program's sums and products, and numbers read from bytes.
-/
import Derived.Test.YtlcoebenkhafcaaGreatDoorProg
import Derived.KernelRfl
import Derived.WalkKit
import Derived.WalkSpells
import Derived.WalkLawsBesides
import Derived.Lib.Hide
import Derived.Outline
import Derived.Deep.QuietTactic
import Derived.BigQuiet
import Derived.Laws.BitsAllLaws
import Derived.Laws.CopyOwn
import Derived.Laws.BytesArg
import Derived.Deep.MidRow
import Derived.Maps.AppendAt
import Derived.Deep.AppendLies
import Derived.OwnWalk
import Derived.WalkSmall
import Derived.Laws.AppendOwnNone
import Derived.StillTailTactics
import Derived.IntWalk
import Derived.Lib.Tables
import Derived.RegionTactic
import Derived.Deep.RegionHeld3
namespace Go.Proofs.YtlcoebenkhafcaaGreatDoor
set_option maxRecDepth 100000
set_option linter.unusedVariables false
def val (B : Nat) : List Nat → Nat
  | [] => 0
  | d :: r => d + B * val B r
def Fit (B : Nat) (l : List Nat) : Prop := ∀ d ∈ l, d < B
theorem val_append (B : Nat) (a b : List Nat) : val B (a ++ b) = val B a + B ^ a.length * val B b := by
  induction a with
  | nil => simp [val]
  | cons d r ih => simp only [List.cons_append, val, ih, List.length_cons, Nat.pow_succ]; rw [Nat.mul_add, Nat.add_assoc, Nat.mul_comm (B ^ r.length) B, Nat.mul_assoc]
theorem val_snoc (B : Nat) (a : List Nat) (d : Nat) : val B (a ++ [d]) = val B a + B ^ a.length * d := by
  rw [val_append]; simp [val]
theorem Fit.cons {B d : Nat} {r : List Nat} (h : Fit B (d :: r)) : d < B ∧ Fit B r := ⟨h d (by simp), fun x hx => h x (by simp [hx])⟩
theorem Fit.append {B : Nat} {a b : List Nat} (ha : Fit B a) (hb : Fit B b) : Fit B (a ++ b) := fun x hx => (List.mem_append.1 hx).elim (ha x) (hb x)
theorem Fit.right {B : Nat} {a b : List Nat} (h : Fit B (a ++ b)) : Fit B b := fun x hx => h x (by simp [hx])
theorem Fit.nil (B : Nat) : Fit B [] := fun x hx => by cases hx
theorem Fit.take {B : Nat} {a : List Nat} (h : Fit B a) (n : Nat) : Fit B (a.take n) := fun x hx => h x (List.mem_of_mem_take hx)
theorem Fit.one {B d : Nat} (h : d < B) : Fit B [d] := fun x hx => by rw [List.mem_singleton.1 hx]; exact h
theorem Fit.get {B : Nat} {a : List Nat} (h : Fit B a) {i d : Nat} (hi : a[i]? = some d) : d < B := h d (List.mem_of_getElem? hi)
theorem Fit.set {B : Nat} {a : List Nat} (h : Fit B a) (i d : Nat) (hd : d < B) : Fit B (a.set i d) := fun x hx => by
  rcases List.mem_or_eq_of_mem_set hx with h1 | h1
  · exact h x h1
  · rw [h1]; exact hd
theorem Fit.replicate (B n d : Nat) (hd : d < B) : Fit B (List.replicate n d) := fun x hx => by rw [List.eq_of_mem_replicate hx]; exact hd
theorem Fit.reverse {B : Nat} {a : List Nat} (h : Fit B a) : Fit B a.reverse := fun x hx => h x (List.mem_reverse.1 hx)
theorem val_replicate (B n : Nat) : val B (List.replicate n 0) = 0 := by
  induction n with
  | zero => rfl
  | succ n ih => rw [List.replicate_succ, val, ih]; simp
theorem val_lt {B : Nat} : ∀ {l : List Nat}, Fit B l → val B l < B ^ l.length
  | [], _ => by simp [val]
  | d :: r, h => by
    have h1 := val_lt h.cons.2
    have h2 := h.cons.1
    rw [val, List.length_cons, Nat.pow_succ]
    have : B * val B r + B ≤ B ^ r.length * B := by
      have : (val B r + 1) * B ≤ B ^ r.length * B := Nat.mul_le_mul_right B h1
      rw [Nat.add_mul, Nat.mul_comm (val B r)] at this
      omega
    omega
theorem val_inj {B : Nat} : ∀ {a b : List Nat}, Fit B a → Fit B b → a.length = b.length → val B a = val B b → a = b
  | [], [], _, _, _, _ => rfl
  | [], _ :: _, _, _, h, _ => by cases h
  | _ :: _, [], _, _, h, _ => by cases h
  | d :: r, e :: s, ha, hb, hl, hv => by
    have h1 := ha.cons.1
    have h2 := hb.cons.1
    simp only [val] at hv
    have e1 : (d + B * val B r) % B = d := by rw [Nat.add_mul_mod_self_left, Nat.mod_eq_of_lt h1]
    have e2 : (e + B * val B s) % B = e := by rw [Nat.add_mul_mod_self_left, Nat.mod_eq_of_lt h2]
    have hd : d = e := by rw [← e1, ← e2, hv]
    subst hd
    have hm : val B r = val B s := Nat.eq_of_mul_eq_mul_left (by omega : 0 < B) (by omega)
    rw [val_inj ha.cons.2 hb.cons.2 (by simpa using hl) hm]
def Tight (l : List Nat) : Prop := l = [] ∨ ∃ r d, l = r ++ [d] ∧ d ≠ 0
theorem tight_len {B : Nat} {l : List Nat} (hf : Fit B l) (ht : Tight l) (k : Nat) (hB : 2 ≤ B) : l.length ≤ k ↔ val B l < B ^ k := by
  constructor
  · intro h
    exact Nat.lt_of_lt_of_le (val_lt hf) (Nat.pow_le_pow_right (by omega) h)
  · intro h
    rcases ht with rfl | ⟨r, d, rfl, hd⟩
    · simp
    · rw [val_snoc] at h
      have h1 : B ^ r.length * 1 ≤ B ^ r.length * d := Nat.mul_le_mul_left _ (by omega)
      have h2 : B ^ r.length < B ^ k := by omega
      have := (Nat.pow_lt_pow_iff_right (by omega : 1 < B)).1 h2
      simp; omega
def nums (B : Nat) : Nat → Nat → List Nat
  | 0, _ => []
  | n + 1, x => x % B :: nums B n (x / B)
theorem nums_length (B : Nat) : ∀ n x, (nums B n x).length = n
  | 0, _ => rfl
  | n + 1, x => by rw [nums, List.length_cons, nums_length B n]
theorem nums_fit {B : Nat} (hB : 0 < B) : ∀ n x, Fit B (nums B n x)
  | 0, _ => Fit.nil _
  | n + 1, x => by
    intro d hd
    rw [nums] at hd
    rcases List.mem_cons.1 hd with rfl | hd
    · exact Nat.mod_lt _ hB
    · exact nums_fit hB n _ d hd
theorem nums_val (B : Nat) : ∀ n x, val B (nums B n x) = x % B ^ n
  | 0, x => by simp [nums, val, Nat.mod_one]
  | n + 1, x => by rw [nums, val, nums_val B n, Nat.pow_succ, Nat.mul_comm (B ^ n) B, Nat.mod_mul]
theorem nums_get (B : Nat) : ∀ n x i, i < n → (nums B n x)[i]? = some (x / B ^ i % B)
  | 0, _, i, h => by omega
  | n + 1, x, 0, _ => by simp [nums]
  | n + 1, x, i + 1, h => by
    rw [nums, List.getElem?_cons_succ, nums_get B n _ i (by omega), Nat.div_div_eq_div_mul, Nat.pow_succ, Nat.mul_comm]
theorem nums_of {B : Nat} {l : List Nat} (hB : 0 < B) (h : Fit B l) : l = nums B l.length (val B l) :=
  val_inj h (nums_fit hB _ _) (nums_length _ _ _).symm (by rw [nums_val, Nat.mod_eq_of_lt (val_lt h)])
def bitlen (x : Nat) : Nat := if x = 0 then 0 else x.log2 + 1
theorem bitlen_le (x k : Nat) : bitlen x ≤ k ↔ x < 2 ^ k := by
  unfold bitlen
  split
  · next h => subst h; simp [Nat.two_pow_pos]
  · next h => rw [Nat.add_one_le_iff, Nat.log2_lt h]
theorem bitlen_eq {x k : Nat} (h1 : x < 2 ^ k) (h2 : k = 0 ∨ 2 ^ (k - 1) ≤ x) : bitlen x = k := by
  have h3 := (bitlen_le x k).2 h1
  rcases h2 with rfl | h2
  · omega
  · rcases Nat.eq_zero_or_pos k with rfl | hk
    · omega
    · have h4 : ¬ bitlen x ≤ k - 1 := fun h => by have := (bitlen_le x (k - 1)).1 h; omega
      omega
theorem bitlen_top (s : Nat) {a : List Nat} {d : Nat} (ha : Fit (2 ^ s) a) (hd : d ≠ 0) : bitlen (val (2 ^ s) (a ++ [d])) = s * a.length + bitlen d := by
  have h1 := val_lt ha
  have h2 := (bitlen_le d (bitlen d)).1 (Nat.le_refl _)
  have h3 : 2 ^ (bitlen d - 1) ≤ d := Nat.not_lt.1 fun h => by
    have := (bitlen_le d (bitlen d - 1)).2 h
    have : 0 < bitlen d := by unfold bitlen; rw [if_neg hd]; omega
    omega
  have h0 : 0 < bitlen d := by unfold bitlen; rw [if_neg hd]; omega
  rw [val_snoc]
  rw [← Nat.pow_mul] at h1 ⊢
  refine bitlen_eq ?_ (.inr ?_)
  · rw [Nat.pow_add]
    have : 2 ^ (s * a.length) * (d + 1) ≤ 2 ^ (s * a.length) * 2 ^ bitlen d := Nat.mul_le_mul_left _ h2
    rw [Nat.mul_add, Nat.mul_one] at this
    omega
  · rw [show s * a.length + bitlen d - 1 = s * a.length + (bitlen d - 1) by omega, Nat.pow_add]
    have : 2 ^ (s * a.length) * 2 ^ (bitlen d - 1) ≤ 2 ^ (s * a.length) * d := Nat.mul_le_mul_left _ h3
    omega
def ord (x y : Nat) : Int := if x < y then -1 else if y < x then 1 else 0
theorem ord_self (x : Nat) : ord x x = 0 := by simp [ord]
theorem ord_lt (x y : Nat) : ord x y < 0 ↔ x < y := by unfold ord; split <;> (try split) <;> omega
theorem ord_ge (x y : Nat) : 0 ≤ ord x y ↔ y ≤ x := by unfold ord; split <;> (try split) <;> omega
end Go.Proofs.YtlcoebenkhafcaaGreatDoor
namespace Go.Proofs.YtlcoebenkhafcaaGreatDoor
set_option maxRecDepth 100000
open Go.RowKit
set_option linter.unusedVariables false
def cn (k : IntKind) (l : List Nat) : List Value := l.map fun (x : Nat) => Value.int k (x : Int)
theorem cn_length (k : IntKind) (l : List Nat) : (cn k l).length = l.length := by simp [cn]
theorem cn_one (k : IntKind) (l : List Nat) : ∀ v ∈ cn k l, v.oneCell' = true := by intro v hv; simp [cn] at hv; obtain ⟨x, _, rfl⟩ := hv; rfl
theorem cn_get {k : IntKind} {l : List Nat} {i x : Nat} (h : l[i]? = some x) : (cn k l)[i]? = some (.int k (x : Int)) := by simp [cn, h]
theorem cn_set (k : IntKind) (l : List Nat) (i x : Nat) : (cn k l).set i (.int k (x : Int)) = cn k (l.set i x) := by simp [cn, List.map_set]
theorem cn_append (k : IntKind) (a b : List Nat) : cn k (a ++ b) = cn k a ++ cn k b := by simp [cn]
theorem get_some {l : List Nat} {i : Nat} (h : i < l.length) : ∃ x, l[i]? = some x := ⟨_, List.getElem?_eq_getElem h⟩
def Blk (w : World) (g : Nat) (t : TypeId) (cs : List Value) : Prop := w.heap[g]? = some (.cells cs.toArray t (0, 0))
section
variable {w w' : World} {g : Nat} {t : TypeId} {cs : List Value}
theorem Blk.lt (h : Blk w g t cs) : g < w.heap.size := by
  rcases Nat.lt_or_ge g w.heap.size with hlt | hge
  · exact hlt
  · unfold Blk at h; rw [Array.getElem?_eq_none hge] at h; cases h
theorem Blk.cell (h : Blk w g t cs) (i : Nat) : w.cell? ⟨g, i, none⟩ = cs[i]? := by
  have := cell_of_row w g i cs.toArray t (0, 0) h
  simpa using this
theorem Blk.frozen (h : Blk w g t cs) (i : Nat) : w.frozen? ⟨g, i, none⟩ = false := frozen_of_row w g i _ t h
theorem Blk.new (w : World) (t : TypeId) (cs : List Value) : Blk (w.alloc (.cells cs.toArray t)) w.heap.size t cs := heap_alloc_new w _
theorem Blk.drewN (h : Blk w g t cs) (n : Nat) : Blk (w.drewN n) g t cs := h
theorem Blk.alloc (h : Blk w g t cs) (o : Obj) : Blk (w.alloc o) g t cs := (Below.heap_alloc w o g h.lt).trans h
theorem Blk.set_ (h : Blk w g t cs) (i : Nat) (u : Value) : Blk (w.setCell ⟨g, i, none⟩ u) g t (cs.set i u) := by
  have := heap_setCell_same w g i cs.toArray t u h
  unfold Blk
  rw [this]
  simp
theorem Blk.far (h : Blk w g t cs) {p : Addr} (hp : g ≠ p.block) (u : Value) : Blk (w.setCell p u) g t cs := (Below.heap_setCell w p u g hp).trans h
theorem Blk.below {B : Nat} (h : Blk w g t cs) (hb : Below B w w') (hg : g < B) : Blk w' g t cs := (hb.block g hg).trans h
theorem Blk.grown {row : Option Nat} (h : Blk w g t cs) (hb : w.grownBy w' row) (hg : some g ≠ row) : Blk w' g t cs := (hb.block g h.lt hg).trans h
end
section
variable {a w : World}
theorem only_drewN {row : Option Nat} (h : a.grownBy w row) (n : Nat) : a.grownBy (w.drewN n) row := ⟨h.os, h.tape, h.output, h.size, h.block⟩
theorem only_setCell {g : Nat} (h : a.grownBy w (some g)) {p : Addr} (hp : p.block = g ∨ a.heap.size ≤ p.block) (u : Value) : a.grownBy (w.setCell p u) (some g) :=
  ⟨h.os, h.tape, h.output, by simpa [World.setCell] using h.size, fun i hi hne => (Below.heap_setCell w p u i (by
    rintro rfl
    rcases hp with hp | hp
    · exact hne (by rw [hp])
    · omega)).trans (h.block i hi hne)⟩
theorem only_of_below (h : Below a.heap.size a w) (row : Option Nat) : a.grownBy w row := ⟨h.os, h.tape, h.output, h.size, fun i hi _ => h.block i hi⟩
theorem below_only {B : Nat} {w2 : World} {row : Option Nat} (h : Below B a w) (k : w.grownBy w2 row) (hB : B ≤ w.heap.size) (hr : ∀ j, row = some j → B ≤ j) : Below B a w2 :=
  ⟨k.os.trans h.os, k.tape.trans h.tape, k.output.trans h.output, Nat.le_trans h.size k.size, fun i hi =>
    (k.block i (by omega) (fun e => by have := hr i e.symm; omega)).trans (h.block i hi)⟩
theorem below_then {w2 : World} (h : Below a.heap.size a w) (k : Below w.heap.size w w2) : Below a.heap.size a w2 := h.trans (k.mono h.size)
theorem below_self : Below a.heap.size a a := Below.refl _ _
end
theorem block_add (a : Addr) (n : Nat) : (a.add n).block = a.block := by unfold Addr.add; split <;> rfl
theorem add_add (a : Addr) (i j : Nat) : (a.add i).add j = a.add (i + j) := by
  unfold Addr.add
  by_cases hi : i = 0 <;> by_cases hj : j = 0 <;> simp [hi, hj, Nat.add_assoc]
theorem addr_add (b off j : Nat) : (⟨b, off, none⟩ : Addr).add j = ⟨b, off + j, none⟩ := by unfold Addr.add; split <;> simp_all
def Rd (k : IntKind) (w : World) (A : Option Addr) (n : Nat) (l : List Nat) : Prop :=
  l.length = n ∧ (0 < n → ∃ ad, A = some ad ∧ ad.block < w.heap.size ∧ ∀ (j x : Nat), l[j]? = some x → w.cell? (ad.add j) = some (.int k (x : Int)))
section
variable {k : IntKind} {w w' : World} {A : Option Addr} {n : Nat} {l : List Nat}
theorem Rd.nil (k : IntKind) (w : World) (A : Option Addr) : Rd k w A 0 [] := ⟨rfl, fun h => absurd h (Nat.lt_irrefl _)⟩
theorem Rd.get (h : Rd k w A n l) {j : Nat} (hj : j < n) : ∃ ad x, A = some ad ∧ l[j]? = some x ∧ w.cell? (ad.add j) = some (.int k (x : Int)) := by
  obtain ⟨ad, e, _, hc⟩ := h.2 (by omega)
  obtain ⟨x, hx⟩ := get_some (l := l) (i := j) (by rw [h.1]; exact hj)
  exact ⟨ad, x, e, hx, hc j x hx⟩
theorem Rd.below (h : Rd k w A n l) (hb : Below w.heap.size w w') : Rd k w' A n l :=
  ⟨h.1, fun hn => by
    obtain ⟨ad, e, hlt, hc⟩ := h.2 hn
    exact ⟨ad, e, Nat.lt_of_lt_of_le hlt hb.size, fun j x hj => (hb.cell (p := ad.add j) (by rw [block_add]; exact hlt)).trans (hc j x hj)⟩⟩
theorem Rd.belowAt {B : Nat} (h : Rd k w A n l) (hb : Below B w w') (hlt : ∀ ad, A = some ad → ad.block < B) : Rd k w' A n l :=
  ⟨h.1, fun hn => by
    obtain ⟨ad, e, h1, hc⟩ := h.2 hn
    exact ⟨ad, e, Nat.lt_of_lt_of_le h1 hb.size, fun j x hj => (hb.cell (p := ad.add j) (by rw [block_add]; exact hlt ad e)).trans (hc j x hj)⟩⟩
theorem cell_grown {g : Nat} {ad : Addr} (hg : w.grownBy w' (some g)) (hlt : ad.block < w.heap.size) (hne : ad.block ≠ g) : w'.cell? ad = w.cell? ad := by
  have := hg.block ad.block hlt (fun e => hne (by injection e))
  simp only [World.cell?, this]
theorem Rd.grown {g : Nat} (h : Rd k w A n l) (hg : w.grownBy w' (some g)) (hne : ∀ ad, A = some ad → ad.block ≠ g) : Rd k w' A n l :=
  ⟨h.1, fun hn => by
    obtain ⟨ad, e, hlt, hc⟩ := h.2 hn
    exact ⟨ad, e, Nat.lt_of_lt_of_le hlt hg.size, fun j x hj => (cell_grown (ad := ad.add j) hg (by rw [block_add]; exact hlt) (by rw [block_add]; exact hne ad e)).trans (hc j x hj)⟩⟩
theorem Rd.drewN (h : Rd k w A n l) (m : Nat) : Rd k (w.drewN m) A n l := h
theorem Rd.lt (h : Rd k w A n l) (hn : 0 < n) : ∀ ad, A = some ad → ad.block < w.heap.size := by
  intro ad e
  obtain ⟨ad', e', hlt, _⟩ := h.2 hn
  rw [e] at e'
  injection e' with e'
  rw [e']; exact hlt
theorem Rd.take (h : Rd k w A n l) (m : Nat) (hm : m ≤ n) : Rd k w A m (l.take m) :=
  ⟨by rw [List.length_take, h.1]; omega, fun hp => by
    obtain ⟨ad, e, hlt, hc⟩ := h.2 (by omega)
    refine ⟨ad, e, hlt, fun j x hj => hc j x ?_⟩
    rw [List.getElem?_take] at hj
    split at hj
    · exact hj
    · cases hj⟩
theorem Rd.drop (h : Rd k w A n l) (m cap : Nat) (hm : m ≤ n) (hc : n ≤ cap) : Rd k w (if cap = m then A else A.map (·.add m)) (n - m) (l.drop m) := by
  refine ⟨by rw [List.length_drop, h.1], fun hp => ?_⟩
  obtain ⟨ad, rfl, hlt, hcell⟩ := h.2 (by omega)
  rw [if_neg (by omega)]
  refine ⟨ad.add m, rfl, by rw [block_add]; exact hlt, fun j x hj => ?_⟩
  rw [add_add]
  exact hcell _ _ (by rw [List.getElem?_drop] at hj; exact hj)
theorem Blk.rd {g : Nat} {t : TypeId} (h : Blk w g t (cn k l)) (m : Nat) (hm : l.length = m) : Rd k w (some ⟨g, 0, none⟩) m l :=
  ⟨hm, fun _ => ⟨_, rfl, h.lt, fun j x hj => by rw [addr_add, Nat.zero_add, h.cell]; exact cn_get hj⟩⟩
end
theorem at_dst {P : Program} {ops : Array Oper} {Q : Exit → Act → World → Prop} {rest : List Oper} {a : Act} {w : World} (d : Option Nat) {op : Op} {ty : TypeId} {pos : String} {aft : Array Edge} {gd : Option (Nat × Bool)}
    (h : wpList P ops Q (⟨d, op, ty, pos, aft, gd⟩ :: rest) a w) : wpList P ops Q (⟨d, op, ty, pos, aft, gd⟩ :: rest) a w := h
theorem byteInfo : (Tryz.prog.info? 5).map (fun i => (i.zero, i.size, i.bytes)) = some (some (.int .u8 0), 1, 1) := by kernel_rfl
theorem wordInfo : (Tryz.prog.info? 133).map (fun i => (i.zero, i.size, i.bytes)) = some (some (.int .u32 0), 1, 4) := by kernel_rfl
theorem intInfo : (Tryz.prog.info? 3).map (fun i => (i.zero, i.size, i.bytes)) = some (some (.int .i64 0), 1, 8) := by kernel_rfl
theorem wpList_makeNums {ops : Array Oper} {rest : List Oper} {o : Oper} {a : Act} {w : World} {Q : Exit → Act → World → Prop} (hgd : o.guard = none) (x y : Operand) (t e : TypeId) (ho : o.op = .makeSlice t x y) (q : IntKind) (bytes : Nat)
    (ht : Tryz.prog.underlying t = some (.slice e)) (hinf : (Tryz.prog.info? e).map (fun i => (i.zero, i.size, i.bytes)) = some (some (.int q 0), 1, bytes)) (hb8 : bytes ≤ 8)
    (k : IntKind) (z : Int) (hx : a.eval x = .int k z) (hy : a.eval y = .int k z) (L : Nat) (hz : z = L) (hL : L ≤ 100000)
    (h : ∀ w', Hid (Blk w' w.heap.size e (cn q (List.replicate L 0))) → Below w.heap.size w w' → w.heap.size < w'.heap.size → wpList Tryz.prog ops Q rest (a.put o.dst (.slice (some ⟨w.heap.size, 0, none⟩) L L)) w') :
    wpList Tryz.prog ops Q (o :: rest) a w := by
  obtain ⟨i0, hi, hz0, hz1, hz2⟩ := info_parts hinf
  subst hz
  have hm : madeCells (Value.int q 0).cells L = (cn q (List.replicate L 0)).toArray := by
    apply Array.ext
    · simp [size_madeCells, cn]
    · intro i h1 h2
      simp [madeCells, cn, Value.cells, Nat.mod_one]
  have hrun : (Instr.makeSlice t (.int k (L : Int)) (.int k (L : Int))).run Tryz.prog w = .ok (.slice (some ⟨w.heap.size, 0, none⟩) L L) (w.alloc (.cells (cn q (List.replicate L 0)).toArray e)) := by
    have hlb : L * bytes ≤ 100000 * 8 := Nat.mul_le_mul hL hb8
    have := run_make (P := Tryz.prog) w t e i0 _ ht hi hz0 k k (L : Int) (L : Int) (by omega) (by omega) (by rw [hz2, ← Int.natCast_mul, Nat.mul_comm]; omega) (by omega)
    rw [hz1, Nat.mul_one, Int.toNat_natCast, hm] at this
    exact this
  refine wpList_plain hgd fun K hK => ?_
  unfold Oper.wp
  simp [execOp, ho, hx, hy, hrun, Result.andThen]
  exact hK _ _ (h _ (heap_alloc_new _ _) ((Below.refl _ _).alloc (Nat.le_refl _) _) (by simp))
def Row (w : World) (B : Nat) (e : TypeId) (A : Option Addr) (n cap : Nat) (xs : List Value) : Prop := w.ownsRow B e 1 (.slice A n cap) n xs
section
variable {w w' : World} {B : Nat} {e : TypeId} {A : Option Addr} {n cap : Nat} {xs : List Value}
theorem Row.length (h : Row w B e A n cap xs) : xs.length = n := by
  have := h.1; omega
theorem Row.below (h : Row w B e A n cap xs) (hb : Below w.heap.size w w') : Row w' B e A n cap xs :=
  World.ownsRow.kept h (only_of_below hb none) (by cases hv : (Value.slice A n cap).ownBlock <;> simp)
theorem Row.lt (h : Row w B e A n cap xs) (ad : Addr) (ha : A = some ad) : B ≤ ad.block ∧ ad.block < w.heap.size :=
  World.ownsRow.lt h ad.block (by rw [ha]; rfl)
theorem Row.cells (h : Row w B e A n cap xs) (hn : 0 < n) : ∃ g, A = some ⟨g, 0, none⟩ ∧ B ≤ g ∧ g < w.heap.size ∧ ∀ j u, xs[j]? = some u → w.cell? ⟨g, j, none⟩ = some u := by
  obtain ⟨g, cap', hv, hb, hlt⟩ := World.ownsRow.form h hn
  have hA : A = some ⟨g, 0, none⟩ := by injection hv
  subst hA
  exact ⟨g, rfl, hb, hlt, fun j u hu => by have := World.ownsRow.cells h (g := g) rfl j u hu; rwa [addr_add, Nat.zero_add] at this⟩
theorem Row.le (h : Row w B e A n cap xs) : n ≤ cap ∧ cap ≤ maxLen := by
  rcases h.2 with ⟨hv, h0⟩ | ⟨g, cap', cur, hv, _, _, hnc, hm, _⟩
  · injection hv with _ h1 h2; omega
  · injection hv with _ h1 h2; omega
theorem Row.rd {k : IntKind} {l : List Nat} (h : Row w B e A n cap (cn k l)) : Rd k w A n l := by
  refine ⟨by have := h.length; rwa [cn_length] at this, fun hn => ?_⟩
  obtain ⟨g, rfl, _, hlt, hc⟩ := h.cells hn
  exact ⟨_, rfl, hlt, fun j v hv => by rw [addr_add, Nat.zero_add]; exact hc j _ (cn_get hv)⟩
theorem Row.nil (w : World) (B : Nat) (e : TypeId) : Row w B e none 0 0 [] := World.ownsRow_nil w B e 1
end
theorem run_app {t ty e : TypeId} {i : TypeInfo} {z : Value} {bytes : Nat} (ht : Tryz.prog.underlying t = some (.slice e)) (hi : Tryz.prog.info? e = some i) (hz : i.zero = some z) (hsize : i.size = 1) (hby : i.bytes = bytes) (hzs : z.cells.size = 1) (hb8 : bytes ≤ 8)
    {B : Nat} {w0 w : World} (hbel : Below B w0 w) (hB : B ≤ w.heap.size) {A : Option Addr} {n cap : Nat} {xs : List Value} (hrow : Row w B e A n cap xs) {A2 : Option Addr} {m c2 : Nat} {news : List Value} (hl : news.length = m)
    (hsrc : A2 = none ∧ c2 = 0 ∨ ∃ ad, A2 = some ad ∧ ∀ j u, news[j]? = some u → w.cell? (ad.add j) = some u) (h1 : ∀ u ∈ news, u.oneCell' = true) (hm0 : A2 = none → m = 0) (hnm : n + m ≤ 1000000) :
    ∃ A' cap' w', (Builtin.append_ #[t, t] ty #[.slice A n cap, .slice A2 m c2]).run Tryz.prog w = .ok (.slice A' (n + m) cap') w' ∧ Row w' B e A' (n + m) cap' (xs ++ news) ∧ Below B w0 w' ∧ w.heap.size ≤ w'.heap.size := by
  rcases hsrc with ⟨rfl, rfl⟩ | ⟨ad, rfl, hc⟩
  · obtain rfl := hm0 rfl
    obtain rfl : news = [] := List.eq_nil_of_length_eq_zero hl
    exact ⟨A, cap, w, run_append_owned_none (P := Tryz.prog) (w := w) B t ty e i 1 ht hi _ n xs hrow, by simpa using hrow, hbel, Nat.le_refl _⟩
  · obtain ⟨v', w', hrun, hown, hg, hnil, hat⟩ := run_append_own_at (P := Tryz.prog) w B t ty e i z 1 bytes ht hi hz hsize hby hzs (by omega) _ n xs hrow ad m c2 news (by omega) hc h1 (by unfold maxLen; omega) (by
      have : (n + m) * bytes ≤ 1000000 * 8 := Nat.mul_le_mul hnm hb8
      omega) hB
    have hform : ∃ A' cap', v' = .slice A' (n + m) cap' := by
      rcases hown.2 with ⟨rfl, h0⟩ | ⟨g, cap', cur, rfl, _⟩
      · exact ⟨none, 0, by rw [h0]⟩
      · exact ⟨_, _, rfl⟩
    obtain ⟨A', cap', rfl⟩ := hform
    refine ⟨A', cap', w', hrun, hown, below_only hbel hg hB (fun j hj => ?_), hg.size⟩
    exact (World.ownsRow.lt hrow j hj).1
theorem wpList_app {ops : Array Oper} {rest : List Oper} {o : Oper} {a : Act} {w : World} {Q : Exit → Act → World → Prop} (hgd : o.guard = none) (s x : Operand) (t e : TypeId) (ho : o.op = .call { callee := .builtin .append, args := #[s, x], argTypes := #[t, t] })
    {i : TypeInfo} {z : Value} {bytes : Nat} (ht : Tryz.prog.underlying t = some (.slice e)) (hi : Tryz.prog.info? e = some i) (hz : i.zero = some z) (hsize : i.size = 1) (hby : i.bytes = bytes) (hzs : z.cells.size = 1) (hb8 : bytes ≤ 8)
    {B : Nat} {w0 : World} (hbel : Below B w0 w) (hB : B ≤ w.heap.size) {A : Option Addr} {n cap : Nat} {xs : List Value} (hs : a.eval s = .slice A n cap) (hrow : Row w B e A n cap xs) {A2 : Option Addr} {m c2 : Nat} {news : List Value} (hx : a.eval x = .slice A2 m c2) (hl : news.length = m)
    (hsrc : A2 = none ∧ c2 = 0 ∨ ∃ ad, A2 = some ad ∧ ∀ j u, news[j]? = some u → w.cell? (ad.add j) = some u) (h1 : ∀ u ∈ news, u.oneCell' = true) (hm0 : A2 = none → m = 0) (hnm : n + m ≤ 1000000) (N : Nat) (hN : n + m = N)
    (h : ∀ A' cap' w', Hid (Row w' B e A' N cap' (xs ++ news)) → Below B w0 w' → B ≤ w'.heap.size → wpList Tryz.prog ops Q rest (a.put o.dst (.slice A' N cap')) w') : wpList Tryz.prog ops Q (o :: rest) a w := by
  subst hN
  obtain ⟨A', cap', w', hrun, hr, hb, hsz⟩ := run_app (ty := o.type) ht hi hz hsize hby hzs hb8 hbel hB hrow hl hsrc h1 hm0 hnm
  refine wpList_plain hgd fun K hK => ?_
  unfold Oper.wp
  simp [execOp, ho, resolve, invoke, builtin, hs, hx, hrun, Result.andThen]
  exact hK _ _ (h A' cap' w' hr hb (by omega))
theorem one_src (w : World) (x : Value) (t : TypeId) : (some (⟨w.heap.size, 0, none⟩ : Addr) = none ∧ 1 = 0) ∨ ∃ ad, some (⟨w.heap.size, 0, none⟩ : Addr) = some ad ∧ ∀ j u, [x][j]? = some u → (w.alloc (.cells #[x] t)).cell? (ad.add j) = some u :=
  .inr ⟨_, rfl, cell_one_new w x t⟩
end Go.Proofs.YtlcoebenkhafcaaGreatDoor
namespace Go.Proofs.YtlcoebenkhafcaaGreatDoor
set_option maxRecDepth 100000
open Go.RowKit
set_option linter.unusedVariables false
set_option linter.unusedSimpArgs false
theorem add_zero_ (a : Addr) : a.add 0 = a := by unfold Addr.add; simp
theorem run_upto (A : Option Addr) (k cap : Nat) (hi : Nat) (h2 : hi ≤ cap) (w : World) :
    (Instr.slice 109 (.slice A k cap) none (some (.int .i64 (hi : Int))) none).run Tryz.prog w = .ok (.slice A hi cap) w := by
  obtain ⟨i0, hi0, hz0, hz1, hz2⟩ := info_parts intInfo
  simp [Instr.slice, run_underlying Tryz.underlying109, Instr.sliceBounds, run_sliceBound, sizeOf, typeInfo, hi0, hz1, h2, add_zero_]
theorem take_trim {l : List Nat} {i x : Nat} (hx : l[i]? = some x) : l.take (i + 1) = l.take i ++ [x] := by
  have hi := (List.getElem?_eq_some_iff.1 hx).1
  have e := (List.getElem?_eq_some_iff.1 hx).2
  rw [List.take_succ_eq_append_getElem hi, e]
def vbe (l : List Nat) : Nat := val 256 l.reverse
theorem vbe_snoc (l : List Nat) (x : Nat) : vbe (l ++ [x]) = x + 256 * vbe l := by simp [vbe, val]
end Go.Proofs.YtlcoebenkhafcaaGreatDoor
namespace Go.Proofs.YtlcoebenkhafcaaGreatDoor
set_option maxRecDepth 100000
open Go.RowKit
set_option linter.unusedVariables false
set_option linter.unusedSimpArgs false
theorem split_at {l : List Nat} {j x : Nat} (hx : l[j]? = some x) : l = l.take j ++ x :: l.drop (j + 1) := by
  have hi := (List.getElem?_eq_some_iff.1 hx).1
  have e := (List.getElem?_eq_some_iff.1 hx).2
  have := List.take_append_drop j l
  rw [List.drop_eq_getElem_cons hi, e] at this
  exact this.symm
end Go.Proofs.YtlcoebenkhafcaaGreatDoor
namespace Go.Proofs.YtlcoebenkhafcaaGreatDoor
set_option maxRecDepth 100000
open Go.RowKit
set_option linter.unusedVariables false
set_option linter.unusedSimpArgs false
def dig (l : List Nat) (i : Nat) : Nat := l[i]?.getD 0
theorem dig_some {l : List Nat} {i x : Nat} (h : l[i]? = some x) : dig l i = x := by simp [dig, h]
theorem dig_none {l : List Nat} {i : Nat} (h : l.length ≤ i) : dig l i = 0 := by simp [dig, List.getElem?_eq_none h]
theorem val_take_succ (B : Nat) (l : List Nat) (i : Nat) : val B (l.take (i + 1)) = val B (l.take i) + B ^ i * dig l i := by
  rcases Nat.lt_or_ge i l.length with hi | hi
  · obtain ⟨x, hx⟩ := get_some hi
    rw [take_trim hx, val_snoc, dig_some hx, List.length_take, Nat.min_eq_left (by omega)]
  · rw [dig_none hi, List.take_of_length_le (by omega), List.take_of_length_le hi]; simp
theorem add_step {B : Nat} {la lb out : List Nat} {i c : Nat} (hl : out.length = i) (h : val B out + B ^ i * c = val B (la.take i) + val B (lb.take i)) (s : Nat) (hs : s = c + dig la i + dig lb i) :
    val B (out ++ [s % B]) + B ^ (i + 1) * (s / B) = val B (la.take (i + 1)) + val B (lb.take (i + 1)) := by
  rw [val_snoc, hl, val_take_succ, val_take_succ, Nat.pow_succ, Nat.mul_assoc, Nat.add_assoc, ← Nat.mul_add, Nat.mod_add_div, hs, Nat.mul_add, Nat.mul_add]
  omega
theorem sub_step {B : Nat} {la lb out : List Nat} {i c : Nat} (hl : out.length = i) (h : val B out + val B (lb.take i) = val B (la.take i) + B ^ i * c) (d c' : Nat) (hs : d + dig lb i + c = dig la i + B * c') :
    val B (out ++ [d]) + val B (lb.take (i + 1)) = val B (la.take (i + 1)) + B ^ (i + 1) * c' := by
  rw [val_snoc, hl, val_take_succ, val_take_succ, Nat.pow_succ, Nat.mul_assoc]
  have h1 : B ^ i * (d + dig lb i + c) = B ^ i * (dig la i + B * c') := by rw [hs]
  rw [Nat.mul_add, Nat.mul_add, Nat.mul_add] at h1
  omega
theorem set_end (ys : List Nat) (m d : Nat) : (ys ++ List.replicate (m + 1) 0).set ys.length d = (ys ++ [d]) ++ List.replicate m 0 := by
  rw [List.set_append, if_neg (by omega), Nat.sub_self, List.replicate_succ, List.set_cons_zero, List.append_assoc]; rfl
theorem get_end (ys : List Nat) (m : Nat) : (ys ++ List.replicate (m + 1) 0)[ys.length]? = some 0 := by
  rw [List.getElem?_append_right (Nat.le_refl _), Nat.sub_self, List.replicate_succ]; rfl
end Go.Proofs.YtlcoebenkhafcaaGreatDoor
namespace Go.Proofs.YtlcoebenkhafcaaGreatDoor
set_option maxRecDepth 100000
open Go.RowKit
set_option linter.unusedVariables false
set_option linter.unusedSimpArgs false
theorem placeOf_any (at_ size : Int) (u : Nat) (hu : size - 1 - at_ = (u : Int)) (h0 : 0 ≤ at_) (h1 : size ≤ 1000000) (w : World) :
    Calls Tryz.prog 136 #[.int .i64 at_, .int .i64 size] w fun e w' => e = .returned (.tuple #[.int .i64 ((u / 4 : Nat) : Int), .int .i64 ((8 * (u % 4) : Nat) : Int)]) ∧ w = w' := by
  have h2 : 0 ≤ size := by omega
  have h3 : (u : Int) ≤ 1000000 := by omega
  go_enter Tryz.func136, Tryz.ntmps136
  go_wp2
  go_ret2
  refine ⟨?_, rfl⟩
  have e1 : ((u / 4 : Nat) : Int) = (u : Int) / 4 := by omega
  have e2 : ((8 * (u % 4) : Nat) : Int) = 8 * ((u : Int) % 4) := by omega
  rw [e1, e2]
  rfl
theorem run_from (A : Option Addr) (k cap lo : Nat) (L : Int) (hL : L = lo) (h : lo ≤ k) (h2 : k ≤ cap) (w : World) :
    (Instr.slice 25 (.slice A k cap) (some (.int .i64 L)) none none).run Tryz.prog w = .ok (.slice (if cap = lo then A else A.map (·.add lo)) (k - lo) (cap - lo)) w := by
  obtain ⟨i0, hi0, hz0, hz1, hz2⟩ := info_parts byteInfo
  subst hL
  simp [Instr.slice, run_underlying Tryz.underlying25, Instr.sliceBounds, run_sliceBound, sizeOf, typeInfo, hi0, hz1, h, h2]
theorem run_tail (A : Option Addr) (k cap : Nat) (h : 1 ≤ k) (h2 : k ≤ cap) (w : World) :
    (Instr.slice 25 (.slice A k cap) (some (.int .i64 1)) none none).run Tryz.prog w = .ok (.slice (if cap = 1 then A else A.map (·.add 1)) (k - 1) (cap - 1)) w := run_from A k cap 1 1 rfl h h2 w
def strip : List Nat → List Nat
  | [] => []
  | d :: r => if d = 0 then strip r else d :: r
theorem vbe_cons (d : Nat) (r : List Nat) : vbe (d :: r) = vbe r + 256 ^ r.length * d := by
  rw [vbe, List.reverse_cons, val_snoc, List.length_reverse, vbe]
theorem vbe_strip : ∀ l : List Nat, vbe (strip l) = vbe l
  | [] => rfl
  | d :: r => by
    rw [strip]
    split
    · next h => rw [vbe_strip r, vbe_cons, h, Nat.mul_zero, Nat.add_zero]
    · rfl
theorem strip_tight : ∀ l : List Nat, Tight (strip l).reverse
  | [] => .inl rfl
  | d :: r => by
    rw [strip]
    split
    · exact strip_tight r
    · next h => exact .inr ⟨r.reverse, d, by simp, h⟩
theorem strip_fit {B : Nat} : ∀ {l : List Nat}, Fit B l → Fit B (strip l)
  | [], h => h
  | d :: r, h => by
    rw [strip]
    split
    · exact strip_fit h.cons.2
    · exact h
set_option maxHeartbeats 800000 in
theorem trimByte_any (A : Option Addr) (n cap : Nat) (l : List Nat) (w : World) (h : Rd .u8 w A n l) (hn : n ≤ cap) (hm : cap ≤ maxLen) :
    Calls Tryz.prog 162 #[.slice A n cap, .int .u8 0] w fun e w' => (∃ A' n' cap', e = .returned (.slice A' n' cap') ∧ Rd .u8 w A' n' (strip l)) ∧ w = w' := by
  unfold maxLen at hm
  go_enter Tryz.func162, Tryz.ntmps162
  go_wp2
  go_loop [0] (fun s => ∃ (A1 : Option Addr) (n1 c1 : Nat) (l1 : List Nat), s = .slice A1 n1 c1 ∧ n1 ≤ c1 ∧ c1 ≤ 9223372036854775807 ∧ Hid (Rd .u8 w A1 n1 l1) ∧ Hid (strip l = strip l1)) (fun s => match s with | .slice _ n _ => n | _ => 0)
  case atStart => exact ⟨A, n, cap, l, rfl, hn, hm, h, rfl⟩
  case round =>
    obtain ⟨A1, n1, c1, l1, rfl, hn1, hc1, HR, HS⟩ := hrel
    rcases n1 with _ | n1
    · go_wp2
      go_ret
      have : l1 = [] := List.eq_nil_of_length_eq_zero HR.out.1
      refine ⟨⟨none, 0, ⟨0, rfl⟩, ?_⟩, rfl⟩
      rw [HS.out, this]
      exact Rd.nil _ _ _
    · obtain ⟨ad, x, rfl, hx, hcell⟩ := HR.out.get (j := 0) (by omega)
      rw [add_zero_] at hcell
      obtain ⟨r, rfl⟩ : ∃ r, l1 = x :: r := by
        cases l1 with
        | nil => cases hx
        | cons d r => simp at hx; subst hx; exact ⟨r, rfl⟩
      clear hx
      rcases x with _ | x
      · have hsl := run_tail (some ad) (n1 + 1) c1 (by omega) hn1
        have hd := HR.out.drop 1 c1 (by omega) hn1
        generalize (if c1 = 1 then some ad else (some ad).map (·.add 1)) = B at hsl hd
        rw [Nat.add_sub_cancel] at hsl hd
        have HD := Lib.hid hd
        clear hd
        go_wp2
        go_round
        case rel => exact ⟨B, n1, c1 - 1, r, rfl, by omega, by omega, by simpa using HD, by show _ = _; rw [HS.out, strip, if_pos rfl]⟩
        case measure => simp
      · go_wp2
        go_ret
        refine ⟨⟨_, _, ⟨_, rfl⟩, ?_⟩, rfl⟩
        rw [HS.out, strip, if_neg (by omega)]
        exact HR.out
set_option maxRecDepth 4000 in
set_option maxHeartbeats 800000 in
theorem TrimLeft_any (A : Option Addr) (n cap : Nat) (l : List Nat) (w : World) (h : Rd .u8 w A n l) (hn : n ≤ cap) (hm : cap ≤ maxLen) :
    Calls Tryz.prog 135 #[.slice A n cap, .string ⟨#[0]⟩] w fun e w' => (∃ A' n' cap', e = .returned (.slice A' n' cap') ∧ Rd .u8 w A' n' (strip l)) ∧ w = w' := by
  rcases n with _ | n
  · go_enter Tryz.func135, Tryz.ntmps135
    go_wp2
    go_ret
    have : l = [] := List.eq_nil_of_length_eq_zero h.1
    subst this
    exact ⟨⟨none, 0, 0, rfl, Rd.nil _ _ _⟩, rfl⟩
  · have HR := Lib.hid h
    have HM := Lib.hid hm
    have hix : ∀ w : World, (Instr.index 9 (.string ⟨#[0]⟩) (.int .i64 0)).run Tryz.prog w = .ok (.int .u8 0) w := fun w => by kernel_rfl
    have hne : ((⟨#[0]⟩ : ByteArray) == ⟨#[]⟩) = false := by decide
    clear h hm
    go_enter Tryz.func135, Tryz.ntmps135
    go_wp2_with fail
    refine (trimByte_any A (n + 1) cap l w HR.out hn HM.out).mono ?_
    rintro e w1 ⟨⟨A', n', cap', rfl, hr⟩, rfl⟩
    go_wp2
    go_ret
    exact ⟨⟨A', n', cap', rfl, hr⟩, rfl⟩
end Go.Proofs.YtlcoebenkhafcaaGreatDoor
namespace Go.Proofs.YtlcoebenkhafcaaGreatDoor
set_option maxRecDepth 100000
open Go.RowKit
set_option linter.unusedVariables false
set_option linter.unusedSimpArgs false
def okW (n : Nat) : Bool := decide (1 ≤ n ∧ n ≤ 256)
def Lists (w : World) (A : Option Addr) (ps : List (Option Addr × Nat × Nat)) : Prop := ∃ ad, A = some ad ∧ ∀ (j : Nat) (p : Option Addr × Nat × Nat), ps[j]? = some p → w.cell? (ad.add j) = some (.slice p.1 p.2.1 p.2.2)
theorem Lists.new1 (w : World) (A : Option Addr) (n cap : Nat) : Lists (w.alloc (.cells #[.slice A n cap] 116)) (some ⟨w.heap.size, 0, none⟩) [(A, n, cap)] := by
  refine ⟨_, rfl, fun j p hj => ?_⟩
  rw [addr_add, Nat.zero_add, cell_of_row _ _ _ _ _ _ (heap_alloc_new w _)]
  rcases j with _ | j
  · simp at hj; subst hj; rfl
  · simp at hj
theorem Lists.new2 (w : World) (A : Option Addr) (n cap : Nat) (A' : Option Addr) (n' cap' : Nat) : Lists (w.alloc (.cells #[.slice A n cap, .slice A' n' cap'] 116)) (some ⟨w.heap.size, 0, none⟩) [(A, n, cap), (A', n', cap')] := by
  refine ⟨_, rfl, fun j p hj => ?_⟩
  rw [addr_add, Nat.zero_add, cell_of_row _ _ _ _ _ _ (heap_alloc_new w _)]
  rcases j with _ | _ | j
  · simp at hj; subst hj; rfl
  · simp at hj; subst hj; rfl
  · simp at hj
set_option maxHeartbeats 800000 in
theorem areNumbers_any (A : Option Addr) (m cap : Nat) (ps : List (Option Addr × Nat × Nat)) (w : World) (h : Lists w A ps) (hm : ps.length = m) (hm2 : m ≤ 1000) :
    Calls Tryz.prog 141 #[.slice A m cap] w fun e w' => e = .returned (.bool (ps.all fun p => okW p.2.1)) ∧ w = w' := by
  obtain ⟨ad, rfl, hc⟩ := h
  have HC := Lib.hid hc
  have HM := Lib.hid hm
  clear hc hm
  go_enter Tryz.func141, Tryz.ntmps141
  go_wp2
  go_loop [7] (fun i => ∃ k : Nat, k ≤ m ∧ i = .int .i64 (k : Int) ∧ Hid ((ps.take k).all (fun p => okW p.2.1) = true)) (fun i => m - (intOf i).toNat)
  case atStart => exact ⟨0, by omega, rfl, rfl⟩
  case round =>
    obtain ⟨k, hk, rfl, HK⟩ := hrel
    by_cases hkm : k < m
    · obtain ⟨p, hp⟩ : ∃ p, ps[k]? = some p := ⟨_, List.getElem?_eq_getElem (by rw [HM.out]; exact hkm)⟩
      have hcell := HC.out k p hp
      have HP := Lib.hid hp
      obtain ⟨A1, n1, c1⟩ := p
      simp only at hcell
      clear hp
      have no : okW n1 = false → (ps.all fun p => okW p.2.1) = false := fun h => by
        rw [List.all_eq_false]
        exact ⟨_, List.mem_of_getElem? HP.out, by simpa using h⟩
      have HNO := Lib.hid no
      clear no
      by_cases h1 : n1 < 1
      · obtain rfl : n1 = 0 := by omega
        go_wp2
        go_ret
        exact ⟨by rw [HNO.out (by decide)]; rfl, rfl⟩
      · by_cases h2 : 256 < n1
        · go_wp2
          go_ret
          exact ⟨by rw [HNO.out (by simp [okW]; omega)]; rfl, rfl⟩
        · go_wp2
          go_round
          case rel =>
            refine ⟨k + 1, by omega, by go_num, ?_⟩
            show _ = true
            have hi := (List.getElem?_eq_some_iff.1 HP.out).1
            rw [List.take_succ_eq_append_getElem hi, (List.getElem?_eq_some_iff.1 HP.out).2, List.all_append, HK.out]
            simp [okW]; omega
          case measure => simp [intOf]; omega
    · have : k = ps.length := by rw [HM.out]; omega
      have ha := HK.out
      rw [this, List.take_of_length_le (Nat.le_refl _)] at ha
      have HA := Lib.hid ha
      clear this ha
      go_wp2
      go_ret
      exact ⟨by rw [HA.out]; rfl, rfl⟩
theorem Add32_any (x y c : Nat) (hx : x < 4294967296) (hy : y < 4294967296) (hc : c ≤ 1) (w : World) :
    Calls Tryz.prog 189 #[.int .u32 (x : Int), .int .u32 (y : Int), .int .u32 (c : Int)] w fun e w' => e = .returned (.tuple #[.int .u32 (((x + y + c) % 4294967296 : Nat) : Int), .int .u32 (((x + y + c) / 4294967296 : Nat) : Int)]) ∧ w = w' := by
  go_enter Tryz.func189, Tryz.ntmps189
  go_wp2
  go_ret2
  refine ⟨?_, rfl⟩
  have e1 : (((x + y + c) % 4294967296 : Nat) : Int) = ((x : Int) + y + c) % 4294967296 := by omega
  have e2 : (((x + y + c) / 4294967296 : Nat) : Int) = ((x : Int) + y + c) / 4294967296 := by omega
  rw [e1, e2]
  rfl
def ui (x : BitVec 32) : Int := x.toNat
theorem ui_nat (x : BitVec 32) : x.toNat < 4294967296 := x.isLt
theorem ui_lo (x : BitVec 32) : 0 ≤ ui x := by unfold ui; omega
theorem ui_hi (x : BitVec 32) : ui x < 4294967296 := by unfold ui; have := x.isLt; omega
theorem ui_and (x y : BitVec 32) : bits .and .u32 (ui x) (ui y) = ui (x &&& y) := by
  unfold ui; rw [u32_and_nat _ _ (ui_nat x) (ui_nat y), BitVec.toNat_and]
theorem ui_or (x y : BitVec 32) : bits .or .u32 (ui x) (ui y) = ui (x ||| y) := by
  unfold ui; rw [u32_or_nat _ _ (ui_nat x) (ui_nat y), BitVec.toNat_or]
theorem ui_xor (x y : BitVec 32) : bits .xor .u32 (ui x) (ui y) = ui (x ^^^ y) := by
  unfold ui; rw [u32_xor_nat _ _ (ui_nat x) (ui_nat y), BitVec.toNat_xor]
theorem ui_not (x : BitVec 32) : bits .xor .u32 4294967295 (ui x) = ui (~~~x) := by
  have h : (4294967295 : Int) = ui (BitVec.allOnes 32) := rfl
  rw [h, ui_xor, BitVec.allOnes_xor]
theorem ui_not_if (x : BitVec 32) : bits .xor .u32 (if IntKind.u32.signed = true then -1 else IntKind.u32.max) (ui x) = ui (~~~x) := ui_not x
theorem ui_sub (x y : BitVec 32) : (ui x - ui y) % 4294967296 = ui (x - y) := by
  unfold ui; rw [BitVec.toNat_sub]; have := x.isLt; have := y.isLt; omega
theorem ui_subw (x y : BitVec 32) : IntKind.u32.wrap (ui x - ui y) = ui (x - y) := by
  rw [IntKind.wrap_u32']; exact ui_sub x y
theorem ui_top (x : BitVec 32) : ui x / 2147483648 = ui (x >>> 31) := by
  unfold ui
  rw [BitVec.toNat_ushiftRight, Nat.shiftRight_eq_div_pow]
  omega
theorem ui_of {x : Nat} (h : x < 4294967296) : (x : Int) = ui (BitVec.ofNat 32 x) := by
  unfold ui; rw [BitVec.toNat_ofNat, Nat.mod_eq_of_lt h]
theorem top_bit (z : BitVec 32) : (z >>> 31).toNat = if z.msb then 1 else 0 := by
  rw [BitVec.toNat_ushiftRight, Nat.shiftRight_eq_div_pow, BitVec.msb_eq_decide]
  have := z.isLt
  simp only [decide_eq_true_eq]
  split <;> omega
theorem sub_borrow (x y b : BitVec 32) (hb : b.toNat ≤ 1) : (((~~~x &&& y) ||| (~~~(x ^^^ y) &&& (x - y - b))) >>> 31).toNat = if x.toNat < y.toNat + b.toNat then 1 else 0 := by
  rw [top_bit, BitVec.msb_or, BitVec.msb_and, BitVec.msb_and, BitVec.msb_not, BitVec.msb_not, BitVec.msb_xor]
  simp only [BitVec.msb_eq_decide, BitVec.toNat_sub]
  have := x.isLt
  have := y.isLt
  by_cases h1 : 2 ^ (32 - 1) ≤ x.toNat <;> by_cases h2 : 2 ^ (32 - 1) ≤ y.toNat <;> simp [h1, h2] <;> simp at h1 h2 <;> (repeat' split) <;> omega
def under (x y b : Nat) : Nat := if x < y + b then 1 else 0
theorem Sub32_any (x y b : Nat) (hx : x < 4294967296) (hy : y < 4294967296) (hb : b ≤ 1) (w : World) :
    Calls Tryz.prog 207 #[.int .u32 (x : Int), .int .u32 (y : Int), .int .u32 (b : Int)] w fun e w' => e = .returned (.tuple #[.int .u32 ((x + 4294967296 * under x y b - y - b : Nat) : Int), .int .u32 ((under x y b : Nat) : Int)]) ∧ w = w' := by
  have e1 : ((under x y b : Nat) : Int) = ui (((~~~(BitVec.ofNat 32 x) &&& (BitVec.ofNat 32 y)) ||| (~~~((BitVec.ofNat 32 x) ^^^ (BitVec.ofNat 32 y)) &&& ((BitVec.ofNat 32 x) - (BitVec.ofNat 32 y) - (BitVec.ofNat 32 b)))) >>> 31) := by
    unfold ui under
    rw [sub_borrow _ _ _ (by rw [BitVec.toNat_ofNat]; omega), BitVec.toNat_ofNat, BitVec.toNat_ofNat, BitVec.toNat_ofNat, Nat.mod_eq_of_lt hx, Nat.mod_eq_of_lt hy, Nat.mod_eq_of_lt (by omega : b < 2 ^ 32)]
  have e2 : ((x + 4294967296 * under x y b - y - b : Nat) : Int) = ui ((BitVec.ofNat 32 x) - (BitVec.ofNat 32 y) - (BitVec.ofNat 32 b)) := by
    unfold ui under
    rw [BitVec.toNat_sub, BitVec.toNat_sub, BitVec.toNat_ofNat, BitVec.toNat_ofNat, BitVec.toNat_ofNat]
    split <;> omega
  rw [e1, e2, ui_of hx, ui_of hy, ui_of (by omega : b < 4294967296)]
  generalize BitVec.ofNat 32 x = X
  generalize BitVec.ofNat 32 y = Y
  generalize BitVec.ofNat 32 b = B
  clear e1 e2 hx hy hb
  have r1 := ui_sub
  have r2 := ui_subw
  have r3 := ui_and
  have r4 := ui_or
  have r5 := ui_xor
  have r6 := ui_not
  have r7 := ui_top
  have r8 := ui_not_if
  go_enter Tryz.func207, Tryz.ntmps207
  go_wp2
  go_ret2
  exact ⟨by rw [← ui_top]; rfl, rfl⟩
theorem isNaN_int (x : Int) (w : World) : Calls Tryz.prog 221 #[.int .i64 x] w fun e w' => e = .returned (.bool false) ∧ w = w' := by
  go_enter Tryz.func221, Tryz.ntmps221
  go_wp2
  go_ret
  exact ⟨rfl, rfl⟩
theorem isNaN_u32 (x : Int) (w : World) : Calls Tryz.prog 222 #[.int .u32 x] w fun e w' => e = .returned (.bool false) ∧ w = w' := by
  go_enter Tryz.func222, Tryz.ntmps222
  go_wp2
  go_ret
  exact ⟨rfl, rfl⟩
theorem cmpInt_any (x y : Nat) (w : World) : Calls Tryz.prog 205 #[.int .i64 (x : Int), .int .i64 (y : Int)] w fun e w' => e = .returned (.int .i64 (ord x y)) ∧ w = w' := by
  rcases Nat.lt_trichotomy x y with h | h | h
  · go_enter Tryz.func205, Tryz.ntmps205
    go_wp2_with (go_at_call 221; refine (isNaN_int _ _).mono ?_; rintro e w' ⟨rfl, rfl⟩)
    go_ret
    exact ⟨by rw [ord, if_pos h]; rfl, rfl⟩
  · subst h
    go_enter Tryz.func205, Tryz.ntmps205
    go_wp2_with (go_at_call 221; refine (isNaN_int _ _).mono ?_; rintro e w' ⟨rfl, rfl⟩)
    go_ret
    exact ⟨by rw [ord_self]; rfl, rfl⟩
  · go_enter Tryz.func205, Tryz.ntmps205
    go_wp2_with (go_at_call 221; refine (isNaN_int _ _).mono ?_; rintro e w' ⟨rfl, rfl⟩)
    go_ret
    exact ⟨by rw [ord, if_neg (by omega), if_pos h]; rfl, rfl⟩
theorem cmpU32_any (x y : Nat) (w : World) : Calls Tryz.prog 206 #[.int .u32 (x : Int), .int .u32 (y : Int)] w fun e w' => e = .returned (.int .i64 (ord x y)) ∧ w = w' := by
  rcases Nat.lt_trichotomy x y with h | h | h
  · go_enter Tryz.func206, Tryz.ntmps206
    go_wp2_with (go_at_call 222; refine (isNaN_u32 _ _).mono ?_; rintro e w' ⟨rfl, rfl⟩)
    go_ret
    exact ⟨by rw [ord, if_pos h]; rfl, rfl⟩
  · subst h
    go_enter Tryz.func206, Tryz.ntmps206
    go_wp2_with (go_at_call 222; refine (isNaN_u32 _ _).mono ?_; rintro e w' ⟨rfl, rfl⟩)
    go_ret
    exact ⟨by rw [ord_self]; rfl, rfl⟩
  · go_enter Tryz.func206, Tryz.ntmps206
    go_wp2_with (go_at_call 222; refine (isNaN_u32 _ _).mono ?_; rintro e w' ⟨rfl, rfl⟩)
    go_ret
    exact ⟨by rw [ord, if_neg (by omega), if_pos h]; rfl, rfl⟩
theorem len8_bits {v : Nat} (h : v < 256) : Lib.len8 (v : Int) = (bitlen v : Nat) := by
  have : ((List.range 256).all fun v => Lib.len8 (v : Int) == ((bitlen v : Nat) : Int)) = true := by decide +kernel
  have := List.all_eq_true.1 this v (List.mem_range.2 h)
  simpa using this
theorem run_len8 {v : Nat} (h : v < 256) (w : World) : (Instr.index 9 (.string Lib.len8tab) (.int .u8 (v : Int))).run Tryz.prog w = .ok (.int .u8 ((bitlen v : Nat) : Int)) w := by
  have hrun := Lib.run_index_len8tab (P := Tryz.prog) w 9 .u8 (v : Int) Tryz.underlying9 (by omega) (by omega)
  rwa [len8_bits h] at hrun
theorem bitlen_shift {x k : Nat} (h : 2 ^ k ≤ x) : bitlen x = k + bitlen (x / 2 ^ k) := by
  have hp : 0 < x / 2 ^ k := Nat.div_pos h (Nat.two_pow_pos k)
  have h1 := (bitlen_le (x / 2 ^ k) (bitlen (x / 2 ^ k))).1 (Nat.le_refl _)
  have h0 : 0 < bitlen (x / 2 ^ k) := by unfold bitlen; rw [if_neg (by omega)]; omega
  have h2 : ¬ x / 2 ^ k < 2 ^ (bitlen (x / 2 ^ k) - 1) := fun h => by have := (bitlen_le (x / 2 ^ k) (bitlen (x / 2 ^ k) - 1)).2 h; omega
  generalize bitlen (x / 2 ^ k) = b at *
  refine bitlen_eq ?_ (.inr ?_)
  · rw [Nat.pow_add, Nat.mul_comm]
    exact (Nat.div_lt_iff_lt_mul (Nat.two_pow_pos k)).1 h1
  · rw [show k + b - 1 = (b - 1) + k by omega, Nat.pow_add]
    exact (Nat.le_div_iff_mul_le (Nat.two_pow_pos k)).1 (by omega)
set_option maxHeartbeats 4000000 in
set_option maxRecDepth 100000 in
theorem Len32_int (x y z q r : Int) (h0 : 0 ≤ x) (h1 : x ≤ 4294967295) (hq0 : 0 ≤ q) (hq : q ≤ 8) (hz0 : 0 ≤ z) (hz : z ≤ 255) (hix : ∀ w : World, (Instr.index 9 (.string Lib.len8tab) (.int .u8 z)).run Tryz.prog w = .ok (.int .u8 q) w) (w : World)
    (h : (65536 ≤ x ∧ x / 65536 = y ∧ 256 ≤ y ∧ y ≤ 65535 ∧ y / 256 = z ∧ r = 24 + q) ∨ (65536 ≤ x ∧ x / 65536 = z ∧ r = 16 + q) ∨ (x ≤ 65535 ∧ 256 ≤ x ∧ x / 256 = z ∧ r = 8 + q) ∨ (x = z ∧ r = q)) :
    Calls Tryz.prog 167 #[.int .u32 x] w fun e w' => e = .returned (.int .i64 r) ∧ w = w' := by
  rcases h with ⟨a1, a2, a3, a4, a5, rfl⟩ | ⟨a1, a2, rfl⟩ | ⟨a1, a2, a3, rfl⟩ | ⟨rfl, rfl⟩
  all_goals
    go_enter Tryz.func167, Tryz.ntmps167
    go_wp2
    go_ret
    exact ⟨rfl, rfl⟩
theorem Len32_any (x : Nat) (hx : x < 4294967296) (w : World) : Calls Tryz.prog 167 #[.int .u32 (x : Int)] w fun e w' => e = .returned (.int .i64 ((bitlen x : Nat) : Int)) ∧ w = w' := by
  have main : ∀ (y : Nat), y < 256 → ((bitlen y : Nat) : Int) ≤ 8 := fun y hy => by have := (bitlen_le y 8).2 hy; omega
  by_cases h1 : 65536 ≤ x
  · have b1 := bitlen_shift (k := 16) (x := x) h1
    by_cases h2 : 256 ≤ x / 2 ^ 16
    · have b2 := bitlen_shift (k := 8) (x := x / 2 ^ 16) h2
      have hz : x / 2 ^ 16 / 2 ^ 8 < 256 := by omega
      exact Len32_int x ((x / 2 ^ 16 : Nat) : Int) ((x / 2 ^ 16 / 2 ^ 8 : Nat) : Int) _ _ (by omega) (by omega) (by omega) (main _ hz) (by omega) (by omega) (run_len8 hz) w (.inl ⟨by omega, by omega, by omega, by omega, by omega, by omega⟩)
    · have hz : x / 2 ^ 16 < 256 := by omega
      exact Len32_int x 0 ((x / 2 ^ 16 : Nat) : Int) _ _ (by omega) (by omega) (by omega) (main _ hz) (by omega) (by omega) (run_len8 hz) w (.inr (.inl ⟨by omega, by omega, by omega⟩))
  · by_cases h2 : 256 ≤ x
    · have b2 := bitlen_shift (k := 8) (x := x) h2
      have hz : x / 2 ^ 8 < 256 := by omega
      exact Len32_int x 0 ((x / 2 ^ 8 : Nat) : Int) _ _ (by omega) (by omega) (by omega) (main _ hz) (by omega) (by omega) (run_len8 hz) w (.inr (.inr (.inl ⟨by omega, by omega, by omega, by omega⟩)))
    · have hz : x < 256 := by omega
      exact Len32_int x 0 (x : Int) _ _ (by omega) (by omega) (by omega) (main _ hz) (by omega) (by omega) (run_len8 hz) w (.inr (.inr (.inr ⟨rfl, rfl⟩)))
end Go.Proofs.YtlcoebenkhafcaaGreatDoor
namespace Go.Proofs.YtlcoebenkhafcaaGreatDoor
set_option maxRecDepth 100000
open Go.RowKit
set_option linter.unusedVariables false
set_option linter.unusedSimpArgs false
def Limbs (w w' : World) (A : Option Addr) (n cap : Nat) (l : List Nat) : Prop := Rd .u32 w' A n l ∧ Fit 4294967296 l ∧ n ≤ cap ∧ cap ≤ maxLen ∧ Below w.heap.size w w'
theorem below_drew1 {B : Nat} {a w : World} (h : Below B a w) : Below B a w.drew := ⟨h.os, h.tape, h.output, h.size, h.block⟩
theorem blk_next {k : IntKind} {w U : World} {g i n d : Nat} {e : TypeId} {ys : List Nat} (h : Blk w g e (cn k (ys ++ List.replicate (n - i) 0))) (hl : ys.length = i) (hi : i < n) (hU : U.heap = w.heap) :
    Blk (U.setCell ⟨g, i, none⟩ (.int k (d : Int))) g e (cn k ((ys ++ [d]) ++ List.replicate (n - (i + 1)) 0)) := by
  obtain ⟨p, hp⟩ : ∃ p, n - i = p + 1 := ⟨n - i - 1, by omega⟩
  rw [hp] at h
  have hu : Blk U g e (cn k (ys ++ List.replicate (p + 1) 0)) := by unfold Blk; rw [hU]; exact h
  have := hu.set_ i (.int k (d : Int))
  have e2 := set_end ys p d
  rw [hl] at e2
  rwa [cn_set, e2, show p = n - (i + 1) by omega] at this
set_option maxHeartbeats 4000000 in
theorem Add_ok (A A' : Option Addr) (n cap cap' : Nat) (la lb : List Nat) (w : World) (h : Rd .u32 w A n la) (h' : Rd .u32 w A' n lb) (hf : Fit 4294967296 la) (hf' : Fit 4294967296 lb) (hn : 1 ≤ n) (hn2 : n ≤ 256) :
    Calls Tryz.prog 168 #[.slice A n cap, .slice A' n cap'] w fun e w' => ∃ A1 c zs, e = .returned (.tuple #[.slice A1 n n, .bool (c == 1), .int .i64 0]) ∧ c ≤ 1 ∧ Limbs w w' A1 n n zs ∧ val 4294967296 zs + 4294967296 ^ n * c = val 4294967296 la + val 4294967296 lb := by
  have HR := Lib.hid h
  have HR' := Lib.hid h'
  have hok : ([(A, n, cap), (A', n, cap')].all fun p => okW p.2.1) = true := by simp [okW, hn, hn2]
  have HOK := Lib.hid hok
  clear h h' hok
  go_enter Tryz.func168, Tryz.ntmps168
  go_wp2_with fail
  refine (areNumbers_any _ 2 2 _ _ (Lists.new2 w A n cap A' n cap') rfl (by omega)).mono ?_
  rintro e w1 ⟨rfl, rfl⟩
  rw [HOK.out]
  have hb0 : Below w.heap.size w (w.alloc (.cells #[.slice A n cap, .slice A' n cap'] 116)) := (Below.refl _ _).alloc (Nat.le_refl _) _
  have HS0 : Hid (w.heap.size ≤ (w.alloc (.cells #[.slice A n cap, .slice A' n cap'] 116)).heap.size) := hb0.size
  generalize (w.alloc (.cells #[.slice A n cap, .slice A' n cap'] 116)) = w0 at *
  go_wp2_with (first
    | ((with_reducible refine at_dst (some 23) ?_); refine wpList_makeNums (o := ⟨some 23, _, _, _, _, _⟩) rfl (.tmp 22) (.tmp 22) 116 133 rfl .u32 4 Tryz.underlying116 wordInfo (by omega) _ _ rfl rfl n rfl (by omega) ?_; intro w1 hb1 hbel1 hs1))
  go_loopw [7, 26] (fun cc i wr => ∃ (k c : Nat) (ys : List Nat), k ≤ n ∧ c ≤ 1 ∧ i = .int .i64 (k : Int) ∧ cc = .int .u32 (c : Int) ∧ Hid (ys.length = k ∧ Fit 4294967296 ys ∧ val 4294967296 ys + 4294967296 ^ k * c = val 4294967296 (la.take k) + val 4294967296 (lb.take k)) ∧ Hid (Blk wr w0.heap.size 133 (cn .u32 (ys ++ List.replicate (n - k) 0))) ∧ Below w0.heap.size w0 wr) (fun _ i _ => n - (intOf i).toNat)
  case atStart => exact ⟨0, 0, [], by omega, by omega, rfl, rfl, ⟨rfl, Fit.nil _, by simp [val]⟩, by simpa using hb1, hbel1⟩
  case round =>
    obtain ⟨k, c, ys, hk, hc, rfl, rfl, HI, HB, hbe⟩ := hrel
    by_cases hkn : k < n
    · have hR2 := (HR.out.below hb0).below hbe
      have hR2' := (HR'.out.below hb0).below hbe
      obtain ⟨ad, x, rfl, hx, hcell⟩ := hR2.get (j := k) (by omega)
      obtain ⟨ad', y, rfl, hy, hcell'⟩ := hR2'.get (j := k) (by omega)
      have hx1 := hf.get hx
      have hy1 := hf'.get hy
      obtain ⟨p, hp⟩ : ∃ p, n - k = p + 1 := ⟨n - k - 1, by omega⟩
      have hold := HB.out
      rw [hp] at hold
      have hoc := (hold.cell ys.length).trans (cn_get (get_end ys p))
      have hof := hold.frozen ys.length
      rw [HI.out.1] at hoc hof
      have HX := Lib.hid hx
      have HY := Lib.hid hy
      clear hR2 hR2' hold hp hx hy
      go_wp2
      go_region_law (first | (go_simp; go_at_call 189; refine (Add32_any x y c hx1 hy1 hc _).mono ?_; rintro e w' ⟨rfl, rfl⟩))
      all_goals
        have es : ((x : Int) + y + c) % 4294967296 = (((x + y + c) % 4294967296 : Nat) : Int) := by omega
        have ec : ((x : Int) + y + c) / 4294967296 = (((x + y + c) / 4294967296 : Nat) : Int) := by omega
        have ES := Lib.hid es
        have EC := Lib.hid ec
        clear es ec
        go_wp2
        go_roundw
        case rel =>
          refine ⟨k + 1, (x + y + c) / 4294967296, ys ++ [(x + y + c) % 4294967296], by omega, by omega, by go_num, by rw [EC.out], ⟨by simp [HI.out.1], HI.out.2.1.append (Fit.one (Nat.mod_lt _ (by omega))), add_step HI.out.1 HI.out.2.2 _ (by rw [dig_some HX.out, dig_some HY.out]; omega)⟩, ?_, ?_⟩
          · rw [ES.out]
            refine blk_next HB.out HI.out.1 (by omega) ?_
            rfl
          · exact (below_drew1 hbe).setCell (Nat.le_refl _) _
        case measure => simp [intOf]; omega
    · obtain rfl : k = n := by omega
      rcases Nat.lt_or_ge 0 c with hc1 | hc0
      · obtain rfl : c = 1 := by omega
        go_wp2
        go_ret3
        have hb2 := HB.out
        rw [Nat.sub_self, List.replicate_zero, List.append_nil] at hb2
        have hv := HI.out.2.2
        rw [List.take_of_length_le (l := la) (by rw [HR.out.1]; omega), List.take_of_length_le (l := lb) (by rw [HR'.out.1]; omega)] at hv
        exact ⟨_, 1, ys, rfl, by omega, ⟨hb2.rd _ HI.out.1, HI.out.2.1, Nat.le_refl _, by unfold maxLen; omega, below_then hb0 hbe⟩, hv⟩
      · obtain rfl : c = 0 := by omega
        go_wp2
        go_ret3
        have hb2 := HB.out
        rw [Nat.sub_self, List.replicate_zero, List.append_nil] at hb2
        have hv := HI.out.2.2
        rw [List.take_of_length_le (l := la) (by rw [HR.out.1]; omega), List.take_of_length_le (l := lb) (by rw [HR'.out.1]; omega)] at hv
        exact ⟨_, 0, ys, rfl, by omega, ⟨hb2.rd _ HI.out.1, HI.out.2.1, Nat.le_refl _, by unfold maxLen; omega, below_then hb0 hbe⟩, hv⟩
set_option maxHeartbeats 4000000 in
theorem Sub_ok (A A' : Option Addr) (n cap cap' : Nat) (la lb : List Nat) (w : World) (h : Rd .u32 w A n la) (h' : Rd .u32 w A' n lb) (hf : Fit 4294967296 la) (hf' : Fit 4294967296 lb) (hn : 1 ≤ n) (hn2 : n ≤ 256) :
    Calls Tryz.prog 191 #[.slice A n cap, .slice A' n cap'] w fun e w' => ∃ A1 c zs, e = .returned (.tuple #[.slice A1 n n, .bool (c == 1), .int .i64 0]) ∧ c ≤ 1 ∧ Limbs w w' A1 n n zs ∧ val 4294967296 zs + val 4294967296 lb = val 4294967296 la + 4294967296 ^ n * c := by
  have HR := Lib.hid h
  have HR' := Lib.hid h'
  have hok : ([(A, n, cap), (A', n, cap')].all fun p => okW p.2.1) = true := by simp [okW, hn, hn2]
  have HOK := Lib.hid hok
  clear h h' hok
  go_enter Tryz.func191, Tryz.ntmps191
  go_wp2_with fail
  refine (areNumbers_any _ 2 2 _ _ (Lists.new2 w A n cap A' n cap') rfl (by omega)).mono ?_
  rintro e w1 ⟨rfl, rfl⟩
  rw [HOK.out]
  have hb0 : Below w.heap.size w (w.alloc (.cells #[.slice A n cap, .slice A' n cap'] 116)) := (Below.refl _ _).alloc (Nat.le_refl _) _
  have HS0 : Hid (w.heap.size ≤ (w.alloc (.cells #[.slice A n cap, .slice A' n cap'] 116)).heap.size) := hb0.size
  generalize (w.alloc (.cells #[.slice A n cap, .slice A' n cap'] 116)) = w0 at *
  go_wp2_with (first
    | ((with_reducible refine at_dst (some 23) ?_); refine wpList_makeNums (o := ⟨some 23, _, _, _, _, _⟩) rfl (.tmp 22) (.tmp 22) 116 133 rfl .u32 4 Tryz.underlying116 wordInfo (by omega) _ _ rfl rfl n rfl (by omega) ?_; intro w1 hb1 hbel1 hs1))
  go_loopw [7, 26] (fun cc i wr => ∃ (k c : Nat) (ys : List Nat), k ≤ n ∧ c ≤ 1 ∧ i = .int .i64 (k : Int) ∧ cc = .int .u32 (c : Int) ∧ Hid (ys.length = k ∧ Fit 4294967296 ys ∧ val 4294967296 ys + val 4294967296 (lb.take k) = val 4294967296 (la.take k) + 4294967296 ^ k * c) ∧ Hid (Blk wr w0.heap.size 133 (cn .u32 (ys ++ List.replicate (n - k) 0))) ∧ Below w0.heap.size w0 wr) (fun _ i _ => n - (intOf i).toNat)
  case atStart => exact ⟨0, 0, [], by omega, by omega, rfl, rfl, ⟨rfl, Fit.nil _, by simp [val]⟩, by simpa using hb1, hbel1⟩
  case round =>
    obtain ⟨k, c, ys, hk, hc, rfl, rfl, HI, HB, hbe⟩ := hrel
    by_cases hkn : k < n
    · have hR2 := (HR.out.below hb0).below hbe
      have hR2' := (HR'.out.below hb0).below hbe
      obtain ⟨ad, x, rfl, hx, hcell⟩ := hR2.get (j := k) (by omega)
      obtain ⟨ad', y, rfl, hy, hcell'⟩ := hR2'.get (j := k) (by omega)
      have hx1 := hf.get hx
      have hy1 := hf'.get hy
      obtain ⟨p, hp⟩ : ∃ p, n - k = p + 1 := ⟨n - k - 1, by omega⟩
      have hold := HB.out
      rw [hp] at hold
      have hoc := (hold.cell ys.length).trans (cn_get (get_end ys p))
      have hof := hold.frozen ys.length
      rw [HI.out.1] at hoc hof
      have HX := Lib.hid hx
      have HY := Lib.hid hy
      clear hR2 hR2' hold hp hx hy
      obtain ⟨d, hd⟩ : ∃ d, d = x + 4294967296 * under x y c - y - c := ⟨_, rfl⟩
      obtain ⟨u, hu⟩ : ∃ u, u = under x y c := ⟨_, rfl⟩
      have r := Sub32_any x y c hx1 hy1 hc
      have hd1 : d < 4294967296 ∧ u ≤ 1 ∧ d + y + c = x + 4294967296 * u := by rw [hd, hu]; unfold under; split <;> omega
      rw [← hd, ← hu] at r
      have HD := Lib.hid hd1
      clear hd hu hd1
      go_wp2
      go_region_law (first | (go_simp; go_at_call 207; refine (r _).mono ?_; rintro e w' ⟨rfl, rfl⟩))
      all_goals
        clear r
        go_wp2
        go_roundw
        case rel =>
          refine ⟨k + 1, u, ys ++ [d], by omega, HD.out.2.1, by go_num, rfl, ⟨by simp [HI.out.1], HI.out.2.1.append (Fit.one HD.out.1), sub_step HI.out.1 HI.out.2.2 d u (by rw [dig_some HX.out, dig_some HY.out]; exact HD.out.2.2)⟩, blk_next HB.out HI.out.1 (by omega) rfl, (below_drew1 hbe).setCell (Nat.le_refl _) _⟩
        case measure => simp [intOf]; omega
    · obtain rfl : k = n := by omega
      rcases Nat.lt_or_ge 0 c with hc1 | hc0
      · obtain rfl : c = 1 := by omega
        go_wp2
        go_ret3
        have hb2 := HB.out
        rw [Nat.sub_self, List.replicate_zero, List.append_nil] at hb2
        have hv := HI.out.2.2
        rw [List.take_of_length_le (l := la) (by rw [HR.out.1]; omega), List.take_of_length_le (l := lb) (by rw [HR'.out.1]; omega)] at hv
        exact ⟨_, 1, ys, rfl, by omega, ⟨hb2.rd _ HI.out.1, HI.out.2.1, Nat.le_refl _, by unfold maxLen; omega, below_then hb0 hbe⟩, hv⟩
      · obtain rfl : c = 0 := by omega
        go_wp2
        go_ret3
        have hb2 := HB.out
        rw [Nat.sub_self, List.replicate_zero, List.append_nil] at hb2
        have hv := HI.out.2.2
        rw [List.take_of_length_le (l := la) (by rw [HR.out.1]; omega), List.take_of_length_le (l := lb) (by rw [HR'.out.1]; omega)] at hv
        exact ⟨_, 0, ys, rfl, by omega, ⟨hb2.rd _ HI.out.1, HI.out.2.1, Nat.le_refl _, by unfold maxLen; omega, below_then hb0 hbe⟩, hv⟩
end Go.Proofs.YtlcoebenkhafcaaGreatDoor
namespace Go.Proofs.YtlcoebenkhafcaaGreatDoor
set_option maxRecDepth 100000
open Go.RowKit
set_option linter.unusedVariables false
set_option linter.unusedSimpArgs false
theorem val_set (B : Nat) {l : List Nat} {j o : Nat} (h : l[j]? = some o) (d : Nat) : val B (l.set j d) + B ^ j * o = val B l + B ^ j * d := by
  have hi := (List.getElem?_eq_some_iff.1 h).1
  have e := split_at h
  have e2 : l.set j d = l.take j ++ d :: l.drop (j + 1) := by
    rw [List.set_eq_take_append_cons_drop, if_pos hi]
  have hl : (l.take j).length = j := by simp; omega
  rw [e2]
  have e3 : val B l = val B (l.take j ++ o :: l.drop (j + 1)) := by rw [← e]
  rw [e3, val_append, val_append, val, val, hl, Nat.mul_add, Nat.mul_add]
  omega
theorem mul_step {B V a i k c o : Nat} {lb O : List Nat} (h : val B O + B ^ (i + k) * c = V + B ^ i * (a * val B (lb.take k))) (ho : O[i + k]? = some o) (x : Nat) (hx : x = o + c + a * dig lb k) :
    val B (O.set (i + k) (x % B)) + B ^ (i + (k + 1)) * (x / B) = V + B ^ i * (a * val B (lb.take (k + 1))) := by
  have h1 := val_set B ho (x % B)
  have h2 : B ^ (i + k) * (x % B) + B ^ (i + k) * (B * (x / B)) = B ^ (i + k) * x := by rw [← Nat.mul_add, Nat.mod_add_div]
  rw [val_take_succ, Nat.mul_add, Nat.mul_add, ← Nat.add_assoc, ← Nat.add_assoc V]
  have h3 : B ^ (i + k + 1) * (x / B) = B ^ (i + k) * (B * (x / B)) := by rw [Nat.pow_succ, Nat.mul_assoc]
  have h4 : B ^ i * (a * (B ^ k * dig lb k)) = B ^ (i + k) * (a * dig lb k) := by rw [Nat.pow_add, Nat.mul_left_comm a, ← Nat.mul_assoc]
  rw [h3, h4]
  rw [hx, Nat.mul_add, Nat.mul_add] at h2
  rw [hx] at h1 ⊢
  omega
end Go.Proofs.YtlcoebenkhafcaaGreatDoor
namespace Go.Proofs.YtlcoebenkhafcaaGreatDoor
set_option maxRecDepth 100000
open Go.RowKit
set_option linter.unusedVariables false
set_option linter.unusedSimpArgs false
theorem high_zero {B : Nat} {l : List Nat} {j o : Nat} (h : l[j]? = some o) (hv : val B l < B ^ j) : o = 0 := by
  have e := split_at h
  have hi := (List.getElem?_eq_some_iff.1 h).1
  have hl : (l.take j).length = j := by simp; omega
  rw [e, val_append, val, hl, Nat.mul_add] at hv
  rcases Nat.eq_zero_or_pos o with h0 | h0
  · exact h0
  · have : B ^ j * 1 ≤ B ^ j * o := Nat.mul_le_mul_left _ h0
    omega
end Go.Proofs.YtlcoebenkhafcaaGreatDoor
namespace Go.Proofs.YtlcoebenkhafcaaGreatDoor
set_option maxRecDepth 100000
open Go.RowKit
set_option linter.unusedVariables false
set_option linter.unusedSimpArgs false
theorem pow256_32 (n : Nat) : 256 ^ (4 * n) = 4294967296 ^ n := by rw [Nat.pow_mul]
theorem strip_len (l : List Nat) (hf : Fit 256 l) (W : Nat) : (strip l).length ≤ 4 * W ↔ vbe l < 4294967296 ^ W := by
  have h := tight_len (l := (strip l).reverse) (strip_fit hf).reverse (strip_tight l) (4 * W) (by omega)
  rw [List.length_reverse, pow256_32] at h
  rw [h, show val 256 (strip l).reverse = vbe (strip l) from rfl, vbe_strip]
theorem from_step {l : List Nat} {k x : Nat} (hx : l[k]? = some x) (m : Nat) (hm : l.length = m) (u : Nat) (hu : m = k + u + 1) : vbe (l.take (k + 1)) * 256 ^ u = vbe (l.take k) * 256 ^ (u + 1) + 256 ^ u * x := by
  rw [take_trim hx, vbe_snoc, Nat.add_mul, Nat.pow_succ]
  have : 256 * vbe (l.take k) * 256 ^ u = vbe (l.take k) * (256 ^ u * 256) := by
    rw [Nat.mul_comm 256, Nat.mul_assoc, Nat.mul_comm 256]
  rw [this, Nat.mul_comm x]
  omega
theorem pow_limb (i r : Nat) : 256 ^ (4 * i + r) = 4294967296 ^ i * 256 ^ r := by rw [Nat.pow_add, pow256_32]
theorem get_val {B : Nat} {l : List Nat} (hB : 0 < B) (hf : Fit B l) {i x : Nat} (h : l[i]? = some x) : x = val B l / B ^ i % B := by
  have hi := (List.getElem?_eq_some_iff.1 h).1
  have e := nums_of hB hf
  rw [e, nums_get B _ _ i hi] at h
  injection h with h
  exact h.symm
theorem from_limb {N : List Nat} {Y i r o x : Nat} (hf : Fit 4294967296 N) (hv : val 4294967296 N = Y * 256 ^ (4 * i + r + 1)) (hr : r < 4) (ho : N[i]? = some o) (hx : x < 256) :
    ∃ q, o = 256 ^ (r + 1) * q ∧ o + 256 ^ r * x < 4294967296 ∧ val 4294967296 (N.set i (o + 256 ^ r * x)) = Y * 256 ^ (4 * i + r + 1) + 256 ^ (4 * i + r) * x := by
  have e := get_val (by omega) hf ho
  have hlt := hf.get ho
  rw [hv, Nat.add_assoc, pow_limb, Nat.mul_left_comm, Nat.mul_div_cancel_left _ (Nat.pow_pos (by omega : 0 < 4294967296))] at e
  have hs := val_set 4294967296 ho (o + 256 ^ r * x)
  have hs2 : val 4294967296 (N.set i (o + 256 ^ r * x)) = Y * 256 ^ (4 * i + r + 1) + 256 ^ (4 * i + r) * x := by
    rw [pow_limb i r, Nat.mul_assoc, ← hv]
    rw [Nat.mul_add] at hs
    omega
  rcases r with _ | _ | _ | _ | r
  · refine ⟨Y % 16777216, ?_, ?_, hs2⟩
    · rw [e]; omega
    · rw [e]; omega
  · refine ⟨Y % 65536, ?_, ?_, hs2⟩
    · rw [e]; omega
    · rw [e]; omega
  · refine ⟨Y % 256, ?_, ?_, hs2⟩
    · rw [e]; omega
    · rw [e]; omega
  · refine ⟨0, ?_, ?_, hs2⟩
    · rw [e]; omega
    · rw [e]; omega
  · omega
theorem or_add {o x r q : Nat} (ho : o = 256 ^ (r + 1) * q) (hx : x < 256) (h : o + 256 ^ r * x < 4294967296) : bits .or .u32 (o : Int) ((256 ^ r * x : Nat) : Int) = ((o + 256 ^ r * x : Nat) : Int) := by
  have h256 : ∀ k, 256 ^ k = 2 ^ (8 * k) := fun k => by rw [Nat.pow_mul]
  rw [u32_or_nat _ _ (by omega) (by omega)]
  congr 1
  have e := Nat.shiftLeft_add_eq_or_of_lt (a := q) (b := 256 ^ r * x) (i := 8 * (r + 1)) (by
    rw [← h256, Nat.pow_succ]
    exact Nat.mul_lt_mul_of_pos_left hx (Nat.pow_pos (by omega)))
  rw [Nat.shiftLeft_eq, ← h256, Nat.mul_comm q, ← ho] at e
  exact e.symm
end Go.Proofs.YtlcoebenkhafcaaGreatDoor
namespace Go.Proofs.YtlcoebenkhafcaaGreatDoor
set_option maxRecDepth 100000
open Go.RowKit
set_option linter.unusedVariables false
set_option linter.unusedSimpArgs false
set_option maxRecDepth 100000 in
set_option maxHeartbeats 1000000 in
theorem From_ok (A : Option Addr) (n cap : Nat) (l : List Nat) (W : Nat) (w : World) (h : Rd .u8 w A n l) (hf : Fit 256 l) (hn : n ≤ cap) (hm : cap ≤ maxLen) (hn2 : n ≤ 10000) (h1 : 1 ≤ W) (h2 : W ≤ 256) (hb : vbe l < 4294967296 ^ W) :
    Calls Tryz.prog 98 #[.slice A n cap, .int .i64 (W : Int)] w fun e w' => ∃ A1 zs, e = .returned (.tuple #[.slice A1 W W, .int .i64 0]) ∧ Limbs w w' A1 W W zs ∧ val 4294967296 zs = vbe l := by
  have HR := Lib.hid h
  have HM := Lib.hid hm
  have hlen := (strip_len l hf W).2 hb
  have HL := Lib.hid hlen
  have g1 : (1 : Int) ≤ W := by omega
  clear h hm hlen hb
  go_enter Tryz.func98, Tryz.ntmps98
  go_wp2_with fail
  refine (TrimLeft_any A n cap l w HR.out hn HM.out).mono ?_
  rintro e w1 ⟨⟨A1, m, c1, rfl, hr⟩, rfl⟩
  have hm1 : m ≤ 4 * W := by have := HL.out; rw [hr.1] at this; omega
  have hm2 : (m : Int) ≤ 4 * W := by omega
  have HR2 := Lib.hid hr
  have fb := strip_fit hf
  have HV := Lib.hid (vbe_strip l)
  generalize strip l = b at *
  clear hr
  go_wp2_with (first
    | ((with_reducible refine at_dst (some 25) ?_); refine wpList_makeNums (o := ⟨some 25, _, _, _, _, _⟩) rfl (.tmp 24) (.tmp 24) 116 133 rfl .u32 4 Tryz.underlying116 wordInfo (by omega) _ _ rfl rfl W rfl (by omega) ?_; intro w1 hb1 hbel1 hs1))
  go_loopw [28] (fun i wr => ∃ (k : Nat) (N : List Nat), k ≤ m ∧ i = .int .i64 (k : Int) ∧ Hid (N.length = W ∧ Fit 4294967296 N ∧ val 4294967296 N = vbe (b.take k) * 256 ^ (m - k)) ∧ Hid (Blk wr w.heap.size 133 (cn .u32 N)) ∧ Below w.heap.size w wr) (fun i _ => m - (intOf i).toNat)
  case atStart => exact ⟨0, _, by omega, rfl, ⟨List.length_replicate, Fit.replicate _ _ _ (by omega), by rw [val_replicate]; simp [vbe, val]⟩, hb1, hbel1⟩
  case round =>
    obtain ⟨k, N, hk, rfl, HI, HB, hbe⟩ := hrel
    by_cases hkm : k < m
    · obtain ⟨ad, x, rfl, hx, hcell⟩ := (HR2.out.below hbe).get (j := k) (by omega)
      have hx1 := fb.get hx
      obtain ⟨u, hu⟩ : ∃ u, m = k + u + 1 := ⟨m - k - 1, by omega⟩
      have hst := from_step hx m HR2.out.1 u hu
      obtain ⟨i, hi⟩ : ∃ i, i = u / 4 := ⟨_, rfl⟩
      obtain ⟨r, hr⟩ : ∃ r, r = u % 4 := ⟨_, rfl⟩
      have hur : u = 4 * i + r := by omega
      have hr4 : r < 4 := by omega
      have hiW : i < W := by omega
      obtain ⟨o, ho⟩ := get_some (l := N) (i := i) (by rw [HI.out.1]; exact hiW)
      have ho1 := HI.out.2.1.get ho
      have hv := HI.out.2.2
      rw [show m - k = u + 1 by omega, hur] at hv
      obtain ⟨q, hq1, hq2, hq3⟩ := from_limb HI.out.2.1 hv hr4 ho hx1
      have hor := or_add hq1 hx1 hq2
      have hoc := (HB.out.cell i).trans (cn_get ho)
      have hof := HB.out.frozen i
      have hpl := placeOf_any (k : Int) (m : Int) u (by omega) (by omega) (by omega)
      rw [← hi, ← hr] at hpl
      have FIN : Hid (val 4294967296 (N.set i (o + 256 ^ r * x)) = vbe (b.take (k + 1)) * 256 ^ (m - (k + 1)) ∧ o + 256 ^ r * x < 4294967296) := ⟨by rw [hq3, show m - (k + 1) = u by omega, hst, hur], hq2⟩
      have HHX := Lib.hid hx
      have HU := Lib.hid hur
      have HU2 := Lib.hid hu
      have HPL := Lib.hid hpl
      clear hst hi hr hv hq1 hq2 hq3 ho hx hur hu hpl
      rcases r with _ | _ | _ | _ | r
      · have HOR := Lib.hid hor
        clear hor
        go_wp2_with (first | (go_at_call 136; refine (HPL.out _).mono ?_; rintro e w' ⟨rfl, rfl⟩))
        have hw1 : IntKind.u32.wrap (x : Int) = x := by rw [IntKind.wrap_u32']; omega
        go_still_tail 10, (by kernel_rfl)
        clear hw1
        change wpList _ _ _ _ _ wr.drew
        go_wp2
        go_roundw
        case rel =>
          refine ⟨k + 1, N.set i (o + 256 ^ 0 * x), by omega, by go_num, ⟨by simp [HI.out.1], HI.out.2.1.set _ _ FIN.out.2, FIN.out.1⟩, ?_, (below_drew1 hbe).setCell (Nat.le_refl _) _⟩
          have ev : bits .or .u32 (o : Int) ((x : Int)) = ((o + 256 ^ 0 * x : Nat) : Int) := by
            rw [← HOR.out]
            congr 1
            omega
          have := HB.out.set_ i (.int .u32 ((o + 256 ^ 0 * x : Nat) : Int))
          rw [cn_set] at this
          rw [ev]
          exact this
        case measure => simp [intOf]; omega
      · have HOR := Lib.hid hor
        clear hor
        go_wp2_with (first | (go_at_call 136; refine (HPL.out _).mono ?_; rintro e w' ⟨rfl, rfl⟩))
        have hw1 : IntKind.u32.wrap (x : Int) = x := by rw [IntKind.wrap_u32']; omega
        go_still_tail 10, (by kernel_rfl)
        clear hw1
        change wpList _ _ _ _ _ wr.drew
        go_wp2
        go_roundw
        case rel =>
          refine ⟨k + 1, N.set i (o + 256 ^ 1 * x), by omega, by go_num, ⟨by simp [HI.out.1], HI.out.2.1.set _ _ FIN.out.2, FIN.out.1⟩, ?_, (below_drew1 hbe).setCell (Nat.le_refl _) _⟩
          have ev : bits .or .u32 (o : Int) ((x : Int) * 256) = ((o + 256 ^ 1 * x : Nat) : Int) := by
            rw [← HOR.out]
            congr 1
            omega
          have := HB.out.set_ i (.int .u32 ((o + 256 ^ 1 * x : Nat) : Int))
          rw [cn_set] at this
          rw [ev]
          exact this
        case measure => simp [intOf]; omega
      · have HOR := Lib.hid hor
        clear hor
        go_wp2_with (first | (go_at_call 136; refine (HPL.out _).mono ?_; rintro e w' ⟨rfl, rfl⟩))
        have hw1 : IntKind.u32.wrap (x : Int) = x := by rw [IntKind.wrap_u32']; omega
        go_still_tail 10, (by kernel_rfl)
        clear hw1
        change wpList _ _ _ _ _ wr.drew
        go_wp2
        go_roundw
        case rel =>
          refine ⟨k + 1, N.set i (o + 256 ^ 2 * x), by omega, by go_num, ⟨by simp [HI.out.1], HI.out.2.1.set _ _ FIN.out.2, FIN.out.1⟩, ?_, (below_drew1 hbe).setCell (Nat.le_refl _) _⟩
          have ev : bits .or .u32 (o : Int) ((x : Int) * 65536) = ((o + 256 ^ 2 * x : Nat) : Int) := by
            rw [← HOR.out]
            congr 1
            omega
          have := HB.out.set_ i (.int .u32 ((o + 256 ^ 2 * x : Nat) : Int))
          rw [cn_set] at this
          rw [ev]
          exact this
        case measure => simp [intOf]; omega
      · have HOR := Lib.hid hor
        clear hor
        go_wp2_with (first | (go_at_call 136; refine (HPL.out _).mono ?_; rintro e w' ⟨rfl, rfl⟩))
        have hw1 : IntKind.u32.wrap (x : Int) = x := by rw [IntKind.wrap_u32']; omega
        go_still_tail 10, (by kernel_rfl)
        clear hw1
        change wpList _ _ _ _ _ wr.drew
        go_wp2
        go_roundw
        case rel =>
          refine ⟨k + 1, N.set i (o + 256 ^ 3 * x), by omega, by go_num, ⟨by simp [HI.out.1], HI.out.2.1.set _ _ FIN.out.2, FIN.out.1⟩, ?_, (below_drew1 hbe).setCell (Nat.le_refl _) _⟩
          have ev : bits .or .u32 (o : Int) ((x : Int) * 16777216) = ((o + 256 ^ 3 * x : Nat) : Int) := by
            rw [← HOR.out]
            congr 1
            omega
          have := HB.out.set_ i (.int .u32 ((o + 256 ^ 3 * x : Nat) : Int))
          rw [cn_set] at this
          rw [ev]
          exact this
        case measure => simp [intOf]; omega
      · omega
    · obtain rfl : k = m := by omega
      go_wp2
      go_ret2
      have hv := HI.out.2.2
      rw [List.take_of_length_le (by rw [HR2.out.1]; exact Nat.le_refl _), Nat.sub_self, Nat.pow_zero, Nat.mul_one, HV.out] at hv
      exact ⟨_, N, rfl, ⟨HB.out.rd _ HI.out.1, HI.out.2.1, Nat.le_refl _, by unfold maxLen; omega, hbe⟩, hv⟩
end Go.Proofs.YtlcoebenkhafcaaGreatDoor
