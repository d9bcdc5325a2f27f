/-
  What a step may turn; slices of any cells. No condition. Descriptors with no program: their bytes, when they are right, and what bytes are read as. No condition. What the bytes of a right descriptor are read as: the descriptor itself. No condition. Descriptors in memory: a value of eleven parts, a slice of them. No condition. Bytes, maybe none, and a string behind bytes.
-/
import Derived.Test.YtlcoebenkhafcaaGreatDoorZ07
import Derived.Test.YtlcoebenkhafcaaGreatDoorZ01
import Derived.WalkKit
import Derived.KernelRfl
import Derived.ProofKit
import Derived.ShutString
import Derived.ChangeOld
import Derived.Below
import Derived.Deep.Slices
import Derived.Deep.Fields
import Derived.Deep.WholeRow
import Derived.ChangeSame
import Derived.Lib.SmallJoins
import Derived.OpenShut
import Derived.Test.YtlcoebenkhafcaaGreatDoorZ05
import Derived.Lib.AppendStr
namespace Go.Proofs.YtlcoebenkhafcaaGreatDoor
open Go.RowKit
set_option linter.unusedVariables false
set_option linter.unusedSimpArgs false
set_option maxRecDepth 100000
structure Touch (F : List Nat) (w w' : World) : Prop where
  os : w'.os = w.os
  tape : w'.tape = w.tape
  output : w'.output = w.output
  size : w.heap.size ≤ w'.heap.size
  block : ∀ k, k < w.heap.size → k ∉ F → w'.heap[k]? = w.heap[k]?
section
variable {F G : List Nat} {a b c w w' : World} {B : Nat}
theorem Touch.refl (F : List Nat) (w : World) : Touch F w w := ⟨rfl, rfl, rfl, Nat.le_refl _, fun _ _ _ => rfl⟩
theorem Touch.then (h : Touch F a b) (k : Touch G b c) (hG : ∀ x ∈ G, x ∈ F ∨ a.heap.size ≤ x) : Touch F a c :=
  ⟨k.os.trans h.os, k.tape.trans h.tape, k.output.trans h.output, Nat.le_trans h.size k.size, fun i hi hn => (k.block i (Nat.lt_of_lt_of_le hi h.size) (fun hg => by
    rcases hG i hg with h1 | h1
    · exact hn h1
    · omega)).trans (h.block i hi hn)⟩
theorem Touch.trans (h : Touch F a b) (k : Touch F b c) : Touch F a c := h.then k (fun x hx => .inl hx)
theorem Touch.of_below (F : List Nat) (h : Below w.heap.size w w') : Touch F w w' := ⟨h.os, h.tape, h.output, h.size, fun i hi _ => h.block i hi⟩
theorem Touch.then_below (h : Touch F a b) (k : Below b.heap.size b c) : Touch F a c := h.trans (Touch.of_below F k)
theorem Touch.below (h : Touch F w w') (hF : ∀ x ∈ F, B ≤ x) (hB : B ≤ w.heap.size) : Below B w w' :=
  ⟨h.os, h.tape, h.output, h.size, fun i hi => h.block i (by omega) (fun hf => by have := hF i hf; omega)⟩
theorem Touch.drewN (h : Touch F a w) (n : Nat) : Touch F a (w.drewN n) := ⟨h.os, h.tape, h.output, h.size, h.block⟩
theorem Touch.drew (h : Touch F a w) : Touch F a w.drew := ⟨h.os, h.tape, h.output, h.size, h.block⟩
theorem Touch.alloc (h : Touch F a w) (o : Obj) : Touch F a (w.alloc o) := h.trans (Touch.of_below F ((Below.refl _ _).alloc (Nat.le_refl _) o))
theorem Touch.setCell (h : Touch F a w) {p : Addr} (hp : p.block ∈ F ∨ a.heap.size ≤ p.block) (u : Value) : Touch F a (w.setCell p u) :=
  h.then (G := [p.block]) ⟨rfl, rfl, rfl, by simp [World.setCell], fun k _ hn => Below.heap_setCell _ _ _ _ (by simpa using hn)⟩ (fun x hx => by
    obtain rfl := List.mem_singleton.1 hx
    exact hp)
theorem Touch.grown {g : Nat} (h : Touch F a w) (hg : w.grownBy w' (some g)) (hp : g ∈ F ∨ a.heap.size ≤ g) : Touch F a w' :=
  h.then (G := [g]) ⟨hg.os, hg.tape, hg.output, hg.size, fun k hk hn => hg.block k hk (fun e => hn (by injection e with e; simp [e]))⟩ (fun x hx => by
    obtain rfl := List.mem_singleton.1 hx
    exact hp)
theorem Blk.touch {g : Nat} {t : TypeId} {cs : List Value} (h : Blk w g t cs) (k : Touch F w w') (hg : g ∉ F) : Blk w' g t cs := (k.block g h.lt hg).trans h
theorem Touch.cell (h : Touch F w w') {p : Addr} (hl : p.block < w.heap.size) (hp : p.block ∉ F) : w'.cell? p = w.cell? p := World.cell?_of_block (w := w) (h.block p.block hl hp)
theorem Touch.frozen (h : Touch F w w') {p : Addr} (hl : p.block < w.heap.size) (hp : p.block ∉ F) : w'.frozen? p = w.frozen? p := World.frozen?_of_block (w := w) (h.block p.block hl hp)
theorem Rd.touch {k : IntKind} {A : Option Addr} {n : Nat} {l : List Nat} (h : Rd k w A n l) (t : Touch F w w') (hF : ∀ ad, A = some ad → ad.block ∉ F) : Rd k w' A n l :=
  ⟨h.1, fun hn => by
    obtain ⟨ad, e, hlt, hc⟩ := h.2 hn
    exact ⟨ad, e, Nat.lt_of_lt_of_le hlt t.size, fun j x hj => (t.cell (p := ad.add j) (by rw [block_add]; exact hlt) (by rw [block_add]; exact hF ad e)).trans (hc j x hj)⟩⟩
end
theorem Rd.touch0 {F : List Nat} {w w' : World} {k : IntKind} {A : Option Addr} {n : Nat} {l : List Nat} (h : Rd k w A n l) (t : Touch F w w') (hF : 0 < n → ∀ ad, A = some ad → ad.block ∉ F) : Rd k w' A n l :=
  ⟨h.1, fun hn => by
    obtain ⟨ad, e, hlt, hc⟩ := h.2 hn
    exact ⟨ad, e, Nat.lt_of_lt_of_le hlt t.size, fun j x hj => (t.cell (p := ad.add j) (by rw [block_add]; exact hlt) (by rw [block_add]; exact hF hn ad e)).trans (hc j x hj)⟩⟩
def Rs (w : World) (A : Option Addr) (vs : List Value) : Prop := 0 < vs.length → ∃ ad, A = some ad ∧ ad.block < w.heap.size ∧ ∀ (j : Nat) u, vs[j]? = some u → w.cell? (ad.add j) = some u
section
variable {F : List Nat} {w w' : World} {A : Option Addr} {vs : List Value}
theorem Rs.nil (w : World) (A : Option Addr) : Rs w A [] := fun h => absurd h (by simp)
theorem Rs.touch (h : Rs w A vs) (t : Touch F w w') (hF : ∀ ad, A = some ad → ad.block ∉ F) : Rs w' A vs := fun hn => by
  obtain ⟨ad, e, hlt, hc⟩ := h hn
  exact ⟨ad, e, Nat.lt_of_lt_of_le hlt t.size, fun j x hj => (t.cell (p := ad.add j) (by rw [block_add]; exact hlt) (by rw [block_add]; exact hF ad e)).trans (hc j x hj)⟩
theorem Rs.touch0 (h : Rs w A vs) (t : Touch F w w') (hF : 0 < vs.length → ∀ ad, A = some ad → ad.block ∉ F) : Rs w' A vs := fun hn => by
  obtain ⟨ad, e, hlt, hc⟩ := h hn
  exact ⟨ad, e, Nat.lt_of_lt_of_le hlt t.size, fun j x hj => (t.cell (p := ad.add j) (by rw [block_add]; exact hlt) (by rw [block_add]; exact hF hn ad e)).trans (hc j x hj)⟩
theorem Rs.below (h : Rs w A vs) (hb : Below w.heap.size w w') : Rs w' A vs := h.touch (Touch.of_below [] hb) (fun _ _ => by simp)
theorem Rs.belowAt {B : Nat} (h : Rs w A vs) (hb : Below B w w') (hlt : ∀ ad, A = some ad → ad.block < B) : Rs w' A vs := fun hn => by
  obtain ⟨ad, e, h1, hc⟩ := h hn
  exact ⟨ad, e, Nat.lt_of_lt_of_le h1 hb.size, fun j x hj => (hb.cell (p := ad.add j) (by rw [block_add]; exact hlt ad e)).trans (hc j x hj)⟩
theorem Rs.drewN (h : Rs w A vs) (m : Nat) : Rs (w.drewN m) A vs := h
theorem Rs.lt (h : Rs w A vs) (hn : 0 < vs.length) : ∀ ad, A = some ad → ad.block < w.heap.size := by
  intro ad e
  obtain ⟨ad', e', hlt, _⟩ := h hn
  rw [e] at e'
  injection e' with e'
  rw [e']; exact hlt
theorem Rs.get (h : Rs w A vs) {j : Nat} {u : Value} (hj : vs[j]? = some u) : ∃ ad, A = some ad ∧ w.cell? (ad.add j) = some u := by
  obtain ⟨ad, e, _, hc⟩ := h (by have := (List.getElem?_eq_some_iff.1 hj).1; omega)
  exact ⟨ad, e, hc j u hj⟩
theorem Rs.take (h : Rs w A vs) (m : Nat) : Rs w A (vs.take m) := fun hp => by
  rw [List.length_take] at hp
  obtain ⟨ad, e, hlt, hc⟩ := h (by omega)
  refine ⟨ad, e, hlt, fun j x hj => hc j x ?_⟩
  rw [List.getElem?_take] at hj
  split at hj
  · exact hj
  · cases hj
theorem Rs.rd {k : IntKind} {n : Nat} {l : List Nat} (h : Rs w A (cn k l)) (hn : l.length = n) : Rd k w A n l := ⟨hn, fun hp => by
  obtain ⟨ad, e, hlt, hc⟩ := h (by rw [cn_length, hn]; exact hp)
  exact ⟨ad, e, hlt, fun j x hj => hc j _ (cn_get hj)⟩⟩
end
end Go.Proofs.YtlcoebenkhafcaaGreatDoor
namespace Go.Proofs.YtlcoebenkhafcaaGreatDoor
set_option linter.unusedVariables false
set_option linter.unusedSimpArgs false
theorem Fit.drop {B : Nat} {a : List Nat} (h : Fit B a) (n : Nat) : Fit B (a.drop n) := fun d hd => h d (List.mem_of_mem_drop hd)
theorem Fit.noughts (n : Nat) : Fit 256 (List.replicate n 0) := fun d hd => by rw [(List.mem_replicate.1 hd).2]; omega
def be : Nat → Nat → List Nat
  | 0, _ => []
  | s + 1, n => be s (n / 256) ++ [n % 256]
theorem be_length : ∀ (s n : Nat), (be s n).length = s
  | 0, _ => rfl
  | s + 1, n => by rw [be, List.length_append, be_length s, List.length_singleton]
theorem be_fit : ∀ (s n : Nat), Fit 256 (be s n)
  | 0, _ => Fit.nil _
  | s + 1, n => (be_fit s _).append (fun d hd => by rw [List.mem_singleton.1 hd]; exact Nat.mod_lt _ (by omega))
def num (l : List Nat) : Nat := l.foldl (fun n x => n * 256 + x) 0
theorem num_snoc (l : List Nat) (x : Nat) : num (l ++ [x]) = num l * 256 + x := by simp [num]
theorem num_be : ∀ (s n : Nat), n < 256 ^ s → num (be s n) = n
  | 0, n, h => by simp at h; subst h; rfl
  | s + 1, n, h => by
    rw [be, num_snoc, num_be s (n / 256) (by rw [Nat.pow_succ] at h; omega)]
    omega
theorem num_from : ∀ (l : List Nat), Fit 256 l → ∀ a : Nat, l.foldl (fun n x => n * 256 + x) a < (a + 1) * 256 ^ l.length
  | [], _, a => by simp
  | x :: l, h, a => by
    have h1 := num_from l (fun d hd => h d (by simp [hd])) (a * 256 + x)
    have h2 := h x (by simp)
    rw [List.foldl_cons, List.length_cons, Nat.pow_succ]
    refine Nat.lt_of_lt_of_le h1 ?_
    rw [show (a + 1) * (256 ^ l.length * 256) = ((a + 1) * 256) * 256 ^ l.length by rw [Nat.mul_comm (256 ^ l.length), Nat.mul_assoc]]
    exact Nat.mul_le_mul_right _ (by omega)
theorem num_lt (l : List Nat) (h : Fit 256 l) : num l < 256 ^ l.length := by
  have := num_from l h 0
  rw [Nat.zero_add, Nat.one_mul] at this
  exact this
structure De where
  kind : Int
  alg : Int
  size : Int
  block : Int
  off : Int
  loc : Int
  name : List Nat
  salt : List Nat
  digest : List Nat
  key : List Nat
  value : List Nat
deriving DecidableEq, Inhabited
def letter (c : Nat) : Bool := decide (97 ≤ c ∧ c ≤ 122 ∨ 48 ≤ c ∧ c ≤ 57 ∨ c = 95)
def Named (l : List Nat) : Prop := 1 ≤ l.length ∧ l.length ≤ 24 ∧ l.all letter = true
instance (l : List Nat) : Decidable (Named l) := by unfold Named; exact inferInstance
def szOf (a : Int) : Int := if a = 1 then 32 else if a = 2 then 64 else 0
theorem szOf_cases (a : Int) : (a = 1 ∧ szOf a = 32) ∨ (a = 2 ∧ szOf a = 64) ∨ (a ≠ 1 ∧ a ≠ 2 ∧ szOf a = 0) := by
  unfold szOf
  by_cases h1 : a = 1
  · rw [if_pos h1]; omega
  · rw [if_neg h1]
    by_cases h2 : a = 2
    · rw [if_pos h2]; omega
    · rw [if_neg h2]; omega
def Rgt (S B D : Int) : Prop := 1 ≤ S ∧ S ≤ 1099511627776 ∧ (D = 32 ∨ D = 64) ∧ 2 * D ≤ B ∧ (B = 64 ∨ B = 128 ∨ B = 256 ∨ B = 512 ∨ B = 1024 ∨ B = 2048 ∨ B = 4096)
instance (S B D : Int) : Decidable (Rgt S B D) := by unfold Rgt; exact inferInstance
def NoSum (d : De) : Prop := d.alg = 0 ∧ d.size = 0 ∧ d.salt.length = 0 ∧ d.digest.length = 0
def NoShape (d : De) : Prop := d.block = 0 ∧ d.off = 0
def NoChain (d : De) : Prop := d.loc = 0 ∧ d.key.length = 0
def Summed (d : De) : Prop := szOf d.alg ≠ 0 ∧ (d.digest.length : Int) = szOf d.alg ∧ d.salt.length ≤ 64
instance (d : De) : Decidable (NoSum d) := by unfold NoSum; exact inferInstance
instance (d : De) : Decidable (NoShape d) := by unfold NoShape; exact inferInstance
instance (d : De) : Decidable (NoChain d) := by unfold NoChain; exact inferInstance
instance (d : De) : Decidable (Summed d) := by unfold Summed; exact inferInstance
def Right (d : De) : Prop :=
  (d.kind = 0 ∧ NoSum d ∧ NoShape d ∧ NoChain d ∧ Named d.name ∧ d.value.length ≤ 256)
  ∨ (d.kind = 1 ∧ NoChain d ∧ d.value.length = 0 ∧ Named d.name ∧ Summed d ∧ Rgt d.size d.block (szOf d.alg) ∧ d.size ≤ d.off ∧ d.off ≤ 1099511627776)
  ∨ (d.kind = 2 ∧ NoShape d ∧ NoChain d ∧ d.value.length = 0 ∧ Named d.name ∧ Summed d ∧ 0 ≤ d.size ∧ d.size ≤ 1099511627776)
  ∨ (d.kind = 3 ∧ NoSum d ∧ NoShape d ∧ NoChain d ∧ d.name.length = 0 ∧ d.value.length ≤ 256)
  ∨ (d.kind = 4 ∧ NoSum d ∧ NoShape d ∧ d.value.length = 0 ∧ Named d.name ∧ 1 ≤ d.loc ∧ d.loc ≤ 31 ∧ 1 ≤ d.key.length ∧ d.key.length ≤ 1032)
instance (d : De) : Decidable (Right d) := by unfold Right; exact inferInstance
structure Bds (d : De) : Prop where
  kind : 0 ≤ d.kind ∧ d.kind ≤ 4
  alg : 0 ≤ d.alg ∧ d.alg ≤ 2
  size : 0 ≤ d.size ∧ d.size ≤ 1099511627776
  block : 0 ≤ d.block ∧ d.block ≤ 4096
  off : 0 ≤ d.off ∧ d.off ≤ 1099511627776
  loc : 0 ≤ d.loc ∧ d.loc ≤ 31
  name : d.name.length ≤ 24
  salt : d.salt.length ≤ 64
  digest : d.digest.length ≤ 64
  key : d.key.length ≤ 1032
  value : d.value.length ≤ 256
theorem Right.bds {d : De} (h : Right d) : Bds d := by
  have hs := szOf_cases d.alg
  unfold Right NoSum NoShape NoChain Named Summed Rgt at h
  constructor <;> omega
def texts (d : De) : List Nat := d.name ++ (d.salt ++ (d.digest ++ (d.key ++ d.value)))
def dnums (d : De) : List Nat := be 4 d.alg.toNat ++ (be 8 d.size.toNat ++ (be 4 d.block.toNat ++ (be 8 d.off.toNat ++ be 4 d.loc.toNat)))
def lens (d : De) : List Nat := be 4 d.name.length ++ (be 4 d.salt.length ++ (be 4 d.digest.length ++ (be 4 d.key.length ++ be 4 d.value.length)))
def raw (d : De) : List Nat := dnums d ++ (lens d ++ texts d)
def gapn (n to : Nat) : Nat := (to - n % to) % to
def body (d : De) : List Nat := raw d ++ List.replicate (gapn (raw d).length 8) 0
def enc (d : De) : List Nat := be 8 d.kind.toNat ++ (be 8 (body d).length ++ body d)
def dencs (l : List De) : List Nat := l.flatMap enc
structure Fits (d : De) : Prop where
  name : Fit 256 d.name
  salt : Fit 256 d.salt
  digest : Fit 256 d.digest
  key : Fit 256 d.key
  value : Fit 256 d.value
theorem dnums_length (d : De) : (dnums d).length = 28 := by simp [dnums, be_length]
theorem lens_length (d : De) : (lens d).length = 20 := by simp [lens, be_length]
def tlen (d : De) : Nat := d.name.length + d.salt.length + d.digest.length + d.key.length + d.value.length
theorem texts_length (d : De) : (texts d).length = tlen d := by simp [texts, tlen]; omega
theorem raw_length (d : De) : (raw d).length = 48 + tlen d := by simp [raw, dnums_length, lens_length, texts_length]; omega
theorem body_length (d : De) : (body d).length = 48 + (tlen d + 7) / 8 * 8 := by
  simp only [body, List.length_append, raw_length, List.length_replicate, gapn]
  omega
theorem enc_length (d : De) : (enc d).length = 16 + (body d).length := by simp [enc, be_length]; omega
theorem texts_fit {d : De} (h : Fits d) : Fit 256 (texts d) := h.name.append (h.salt.append (h.digest.append (h.key.append h.value)))
theorem dnums_fit (d : De) : Fit 256 (dnums d) := (be_fit _ _).append ((be_fit _ _).append ((be_fit _ _).append ((be_fit _ _).append (be_fit _ _))))
theorem lens_fit (d : De) : Fit 256 (lens d) := (be_fit _ _).append ((be_fit _ _).append ((be_fit _ _).append ((be_fit _ _).append (be_fit _ _))))
theorem body_fit {d : De} (h : Fits d) : Fit 256 (body d) := ((dnums_fit d).append ((lens_fit d).append (texts_fit h))).append (Fit.noughts _)
theorem enc_fit {d : De} (h : Fits d) : Fit 256 (enc d) := (be_fit _ _).append ((be_fit _ _).append (body_fit h))
theorem encs_fit {l : List De} (h : ∀ d ∈ l, Fits d) : Fit 256 (dencs l) := fun x hx => by
  obtain ⟨d, hd, hx⟩ := List.mem_flatMap.1 hx
  exact enc_fit (h d hd) x hx
theorem Right.tlen_le {d : De} (h : Right d) : tlen d ≤ 1440 := by
  have b := h.bds
  have := b.name; have := b.salt; have := b.digest; have := b.key; have := b.value
  unfold tlen; omega
def sl (b : List Nat) (o n : Nat) : List Nat := (b.drop o).take n
theorem sl_length {b : List Nat} {o n : Nat} (h : o + n ≤ b.length) : (sl b o n).length = n := by simp [sl]; omega
theorem sl_fit {b : List Nat} (h : Fit 256 b) (o n : Nat) : Fit 256 (sl b o n) := (h.drop o).take n
def ln (b : List Nat) (i : Nat) : Nat := num (sl b (28 + 4 * i) 4)
def en (b : List Nat) : Nat → Nat
  | 0 => 48
  | i + 1 => en b i + ln b i
def said (kind : Nat) (b : List Nat) : De where
  kind := kind
  alg := num (sl b 0 4)
  size := num (sl b 4 8)
  block := num (sl b 12 4)
  off := num (sl b 16 8)
  loc := num (sl b 24 4)
  name := sl b (en b 0) (ln b 0)
  salt := sl b (en b 1) (ln b 1)
  digest := sl b (en b 2) (ln b 2)
  key := sl b (en b 3) (ln b 3)
  value := sl b (en b 4) (ln b 4)
def dec (kind : Nat) (b : List Nat) : Option De := if 48 ≤ b.length ∧ en b 5 ≤ b.length ∧ Right (said kind b) ∧ body (said kind b) = b then some (said kind b) else none
end Go.Proofs.YtlcoebenkhafcaaGreatDoor
namespace Go.Proofs.YtlcoebenkhafcaaGreatDoor
set_option linter.unusedVariables false
set_option linter.unusedSimpArgs false
theorem sl_flat : ∀ (ss : List (List Nat)) (i : Nat) (s : List Nat), ss[i]? = some s → sl ss.flatten (ss.take i).flatten.length s.length = s
  | [], _, _, h => by simp at h
  | a :: r, 0, s, h => by
    simp at h
    subst h
    simp [sl]
  | a :: r, i + 1, s, h => by
    have := sl_flat r i s (by simpa using h)
    simp only [List.take_succ_cons, List.flatten_cons, List.length_append]
    have e : (a ++ r.flatten).drop (a.length + (r.take i).flatten.length) = r.flatten.drop (r.take i).flatten.length := by rw [← List.drop_drop, List.drop_left]
    unfold sl at this ⊢
    rw [e]
    exact this
def segs (d : De) : List (List Nat) := [be 4 d.alg.toNat, be 8 d.size.toNat, be 4 d.block.toNat, be 8 d.off.toNat, be 4 d.loc.toNat, be 4 d.name.length, be 4 d.salt.length, be 4 d.digest.length, be 4 d.key.length, be 4 d.value.length,
  d.name, d.salt, d.digest, d.key, d.value, List.replicate (gapn (raw d).length 8) 0]
theorem body_segs (d : De) : body d = (segs d).flatten := by
  simp [body, raw, dnums, lens, texts, segs]
theorem seg (d : De) (i o n : Nat) (s : List Nat) (h : (segs d)[i]? = some s) (hn : s.length = n) (ho : ((segs d).take i).flatten.length = o) : sl (body d) o n = s := by
  subst hn ho
  rw [body_segs]
  exact sl_flat _ _ _ h
theorem ln_body {d : De} (h : Right d) : ln (body d) 0 = d.name.length ∧ ln (body d) 1 = d.salt.length ∧ ln (body d) 2 = d.digest.length ∧ ln (body d) 3 = d.key.length ∧ ln (body d) 4 = d.value.length := by
  have b := h.bds
  have b0 := b.name
  have b1 := b.salt
  have b2 := b.digest
  have b3 := b.key
  have b4 := b.value
  refine ⟨?_, ?_, ?_, ?_, ?_⟩
  · rw [ln, seg d 5 _ 4 (be 4 d.name.length) rfl (be_length _ _) (by simp [segs, be_length])]; exact num_be 4 _ (by omega)
  · rw [ln, seg d 6 _ 4 (be 4 d.salt.length) rfl (be_length _ _) (by simp [segs, be_length])]; exact num_be 4 _ (by omega)
  · rw [ln, seg d 7 _ 4 (be 4 d.digest.length) rfl (be_length _ _) (by simp [segs, be_length])]; exact num_be 4 _ (by omega)
  · rw [ln, seg d 8 _ 4 (be 4 d.key.length) rfl (be_length _ _) (by simp [segs, be_length])]; exact num_be 4 _ (by omega)
  · rw [ln, seg d 9 _ 4 (be 4 d.value.length) rfl (be_length _ _) (by simp [segs, be_length])]; exact num_be 4 _ (by omega)
theorem en_body {d : De} (h : Right d) : en (body d) 0 = 48 ∧ en (body d) 1 = 48 + d.name.length ∧ en (body d) 2 = 48 + d.name.length + d.salt.length ∧ en (body d) 3 = 48 + d.name.length + d.salt.length + d.digest.length ∧ en (body d) 4 = 48 + d.name.length + d.salt.length + d.digest.length + d.key.length ∧ en (body d) 5 = 48 + tlen d := by
  obtain ⟨h0, h1, h2, h3, h4⟩ := ln_body h
  have e0 : en (body d) 0 = 48 := rfl
  have e1 : en (body d) 1 = en (body d) 0 + ln (body d) 0 := rfl
  have e2 : en (body d) 2 = en (body d) 1 + ln (body d) 1 := rfl
  have e3 : en (body d) 3 = en (body d) 2 + ln (body d) 2 := rfl
  have e4 : en (body d) 4 = en (body d) 3 + ln (body d) 3 := rfl
  have e5 : en (body d) 5 = en (body d) 4 + ln (body d) 4 := rfl
  unfold tlen
  omega
set_option maxHeartbeats 2000000 in
theorem said_body {d : De} (h : Right d) : said d.kind.toNat (body d) = d := by
  have b := h.bds
  obtain ⟨h0, h1, h2, h3, h4⟩ := ln_body h
  obtain ⟨e0, e1, e2, e3, e4, _⟩ := en_body h
  have f0 : sl (body d) 0 4 = be 4 d.alg.toNat := seg d 0 _ 4 _ rfl (be_length _ _) rfl
  have f1 : sl (body d) 4 8 = be 8 d.size.toNat := seg d 1 _ 8 _ rfl (be_length _ _) (by simp [segs, be_length])
  have f2 : sl (body d) 12 4 = be 4 d.block.toNat := seg d 2 _ 4 _ rfl (be_length _ _) (by simp [segs, be_length])
  have f3 : sl (body d) 16 8 = be 8 d.off.toNat := seg d 3 _ 8 _ rfl (be_length _ _) (by simp [segs, be_length])
  have f4 : sl (body d) 24 4 = be 4 d.loc.toNat := seg d 4 _ 4 _ rfl (be_length _ _) (by simp [segs, be_length])
  have g0 : sl (body d) (en (body d) 0) (ln (body d) 0) = d.name := by rw [e0, h0]; exact seg d 10 _ _ _ rfl rfl (by simp [segs, be_length])
  have g1 : sl (body d) (en (body d) 1) (ln (body d) 1) = d.salt := by rw [e1, h1]; exact seg d 11 _ _ _ rfl rfl (by simp [segs, be_length]; omega)
  have g2 : sl (body d) (en (body d) 2) (ln (body d) 2) = d.digest := by rw [e2, h2]; exact seg d 12 _ _ _ rfl rfl (by simp [segs, be_length]; omega)
  have g3 : sl (body d) (en (body d) 3) (ln (body d) 3) = d.key := by rw [e3, h3]; exact seg d 13 _ _ _ rfl rfl (by simp [segs, be_length]; omega)
  have g4 : sl (body d) (en (body d) 4) (ln (body d) 4) = d.value := by rw [e4, h4]; exact seg d 14 _ _ _ rfl rfl (by simp [segs, be_length]; omega)
  have b0 := b.kind
  have b1 := b.alg
  have b2 := b.size
  have b3 := b.block
  have b4 := b.off
  have b5 := b.loc
  have m0 : num (be 4 d.alg.toNat) = d.alg.toNat := num_be 4 _ (by omega)
  have m1 : num (be 8 d.size.toNat) = d.size.toNat := num_be 8 _ (by omega)
  have m2 : num (be 4 d.block.toNat) = d.block.toNat := num_be 4 _ (by omega)
  have m3 : num (be 8 d.off.toNat) = d.off.toNat := num_be 8 _ (by omega)
  have m4 : num (be 4 d.loc.toNat) = d.loc.toNat := num_be 4 _ (by omega)
  unfold said
  rw [f0, f1, f2, f3, f4, g0, g1, g2, g3, g4, m0, m1, m2, m3, m4,
    Int.toNat_of_nonneg b0.1, Int.toNat_of_nonneg b1.1, Int.toNat_of_nonneg b2.1, Int.toNat_of_nonneg b3.1, Int.toNat_of_nonneg b4.1, Int.toNat_of_nonneg b5.1]
theorem dec_body {d : De} (h : Right d) : dec d.kind.toNat (body d) = some d := by
  have hl := body_length d
  have he := (en_body h).2.2.2.2.2
  have q1 : 48 ≤ (body d).length := by rw [hl]; omega
  have q2 : en (body d) 5 ≤ (body d).length := by rw [he, hl]; omega
  have q3 := said_body h
  generalize hs : said d.kind.toNat (body d) = s at q3
  subst q3
  unfold dec
  rw [hs, if_pos ⟨q1, q2, h, rfl⟩]
theorem dec_some {k : Nat} {b : List Nat} {d : De} (h : dec k b = some d) : Right d ∧ body d = b ∧ d.kind = k := by
  unfold dec at h
  by_cases hc : 48 ≤ b.length ∧ en b 5 ≤ b.length ∧ Right (said k b) ∧ body (said k b) = b
  · rw [if_pos hc] at h
    injection h with h
    subst h
    exact ⟨hc.2.2.1, hc.2.2.2, rfl⟩
  · rw [if_neg hc] at h; cases h
def LikeD (d x : De) : Prop := d.kind ≠ 3 ∧ d.kind = x.kind ∧ d.name = x.name
instance (d x : De) : Decidable (LikeD d x) := by unfold LikeD; exact inferInstance
def dup (seen : List De) (d : De) : Bool := seen.any fun x => decide (LikeD d x)
def tw : List De → List De → Bool
  | _, [] => false
  | seen, d :: r => dup seen d || tw (seen ++ [d]) r
def step (seen : List De) (b : List Nat) : Except Nat (De × Nat) :=
  if b.length < 16 then .error 10
  else if 5 ≤ num (sl b 0 8) then .error 33
  else if b.length < 16 + num (sl b 8 8) then .error 10
  else match dec (num (sl b 0 8)) (sl b 16 (num (sl b 8 8))) with
    | none => .error 12
    | some d => if dup seen d then .error 35 else .ok (d, num (sl b 8 8))
def pgo : Nat → List De → List Nat → List De × Nat
  | 0, seen, b => if b.length = 0 then (seen, 0) else ([], 11)
  | f + 1, seen, b => if b.length = 0 then (seen, 0) else match step seen b with
    | .error e => ([], e)
    | .ok (d, n) => pgo f (seen ++ [d]) (b.drop (16 + n))
def parse (b : List Nat) : List De × Nat := pgo 32 [] b
def encode (l : List De) : List Nat × Nat :=
  if 32 < l.length then ([], 11) else if ∀ d ∈ l, Right d then (if tw [] l then ([], 35) else (dencs l, 0)) else ([], 12)
theorem sl_append {p q r : List Nat} {o n : Nat} (ho : p.length = o) (hn : q.length = n) : sl (p ++ (q ++ r)) o n = q := by
  subst ho hn; simp [sl]
theorem step_enc {seen : List De} {d : De} (h : Right d) (hd : dup seen d = false) (r : List Nat) : step seen (enc d ++ r) = .ok (d, (body d).length) := by
  have b := h.bds
  have bk := b.kind
  have hb := h.tlen_le
  have hl := body_length d
  have e : enc d ++ r = be 8 d.kind.toNat ++ (be 8 (body d).length ++ (body d ++ r)) := by simp [enc]
  have s0 : sl (enc d ++ r) 0 8 = be 8 d.kind.toNat := by rw [e]; exact sl_append (p := []) rfl (be_length _ _)
  have s1 : sl (enc d ++ r) 8 8 = be 8 (body d).length := by rw [e]; exact sl_append (be_length _ _) (be_length _ _)
  have n0 : num (sl (enc d ++ r) 0 8) = d.kind.toNat := by rw [s0]; exact num_be 8 _ (by omega)
  have n1 : num (sl (enc d ++ r) 8 8) = (body d).length := by rw [s1]; exact num_be 8 _ (by omega)
  have s2 : sl (enc d ++ r) 16 (body d).length = body d := by
    rw [e, ← List.append_assoc]
    exact sl_append (by simp [be_length]) rfl
  have hlen : (enc d ++ r).length = 16 + (body d).length + r.length := by rw [List.length_append, enc_length]
  unfold step
  rw [n0, n1, s2, if_neg (by omega), if_neg (by omega), if_neg (by omega), dec_body h]
  simp only []
  rw [hd]
  rfl
theorem tw_split : ∀ (a b seen : List De), tw seen (a ++ b) = (tw seen a || tw (seen ++ a) b)
  | [], b, seen => by simp [tw]
  | d :: a, b, seen => by
    simp only [List.cons_append, tw, tw_split a b, List.append_assoc, List.singleton_append, List.nil_append, Bool.or_assoc]
theorem pgo_encs : ∀ (l seen : List De) (f : Nat), (∀ d ∈ l, Right d) → tw seen l = false → l.length ≤ f → pgo f seen (dencs l) = (seen ++ l, 0)
  | [], seen, f, _, _, _ => by cases f <;> simp [pgo, dencs]
  | d :: l, seen, f, hr, ht, hf => by
    obtain ⟨f, rfl⟩ : ∃ k, f = k + 1 := ⟨f - 1, by simp at hf; omega⟩
    simp only [tw, Bool.or_eq_false_iff] at ht
    have e : dencs (d :: l) = enc d ++ dencs l := rfl
    have hl := enc_length d
    have h1 : ¬ (enc d ++ dencs l).length = 0 := by rw [List.length_append]; omega
    have hd : (enc d ++ dencs l).drop (16 + (body d).length) = dencs l := by rw [← hl]; simp
    rw [e, pgo, if_neg h1, step_enc (hr d (by simp)) ht.1]
    simp only []
    rw [hd, pgo_encs l (seen ++ [d]) f (fun x hx => hr x (by simp [hx])) ht.2 (by simpa using hf)]
    simp
theorem parse_encs {l : List De} (hr : ∀ d ∈ l, Right d) (ht : tw [] l = false) (hf : l.length ≤ 32) : parse (dencs l) = (l, 0) := by
  have := pgo_encs l [] 32 hr ht hf
  simpa [parse] using this
end Go.Proofs.YtlcoebenkhafcaaGreatDoor
namespace Go.Proofs.YtlcoebenkhafcaaGreatDoor
open Go.RowKit Go.ChangeShapes Go.WideShapes Go.ChangeAt
set_option linter.unusedVariables false
set_option linter.unusedSimpArgs false
set_option maxRecDepth 100000
def I64 (x : Int) : Prop := -9223372036854775808 ≤ x ∧ x ≤ 9223372036854775807
theorem i64_wf {x : Int} (h : (Lit.int .i64 x).wf = true) : I64 x := bounds_i64 h
structure Bs (w : World) (A : Option Addr) (n cap : Nat) (l : List Nat) : Prop where
  rd : Rd .u8 w A n l
  fit : Fit 256 l
  le : n ≤ cap
  max : cap ≤ 9223372036854775807
  nil : A = none → cap = 0
theorem Bs.below {w w' : World} {A : Option Addr} {n cap : Nat} {l : List Nat} (h : Bs w A n cap l) (hb : Below w.heap.size w w') : Bs w' A n cap l := { h with rd := h.rd.below hb }
theorem Bs.belowAt {B : Nat} {w w' : World} {A : Option Addr} {n cap : Nat} {l : List Nat} (h : Bs w A n cap l) (hb : Below B w w') (hlt : 0 < n → ∀ ad, A = some ad → ad.block < B) : Bs w' A n cap l :=
  { h with rd := ⟨h.rd.1, fun hn => by
      obtain ⟨ad, e, h1, hc⟩ := h.rd.2 hn
      exact ⟨ad, e, Nat.lt_of_lt_of_le h1 hb.size, fun j x hj => (hb.cell (p := ad.add j) (by rw [block_add]; exact hlt hn ad e)).trans (hc j x hj)⟩⟩ }
theorem Bs.touch {F : List Nat} {w w' : World} {A : Option Addr} {n cap : Nat} {l : List Nat} (h : Bs w A n cap l) (t : Touch F w w') (hF : 0 < n → ∀ ad, A = some ad → ad.block ∉ F) : Bs w' A n cap l := { h with rd := h.rd.touch0 t hF }
theorem Bs.none (w : World) : Bs w none 0 0 [] := ⟨Rd.nil _ _ _, Fit.nil _, Nat.le_refl _, by simp, fun _ => rfl⟩
theorem Bs.str {w : World} {A : Option Addr} {n cap : Nat} {l : List Nat} (h : Bs w A n cap l) : (convert 25 9 (.slice A n cap)).run Tryz.prog w = .ok (.string (str l)) w := rd_str h.rd cap
theorem str_size (l : List Nat) : (str l).size = l.length := by
  show ((l.map fun (x : Nat) => (x : Int)).map fun n => UInt8.ofNat n.toNat).toArray.size = _
  simp
theorem str_of (s : ByteArray) : ∃ l, Fit 256 l ∧ s = str l := by
  refine ⟨s.data.toList.map UInt8.toNat, fun d hd => ?_, ?_⟩
  · obtain ⟨b, _, rfl⟩ := List.mem_map.1 hd
    exact b.toNat_lt
  · obtain ⟨a⟩ := s
    simp [Go.Proofs.YtlcoebenkhafcaaGreatDoor.str, strOfNums, Function.comp_def]
structure Sl where
  A : Option Addr
  n : Nat
  cap : Nat
deriving Inhabited
def Sl.v (s : Sl) : Value := .slice s.A s.n s.cap
structure Dx where
  d : De
  s1 : Sl
  s2 : Sl
  s3 : Sl
  s4 : Sl
deriving Inhabited
def Dx.cells (x : Dx) : List Value := [.int .i64 x.d.kind, .int .i64 x.d.alg, .int .i64 x.d.size, .int .i64 x.d.block, .int .i64 x.d.off, .int .i64 x.d.loc, .string (str x.d.name), x.s1.v, x.s2.v, x.s3.v, x.s4.v]
def Dx.val (x : Dx) : Value := .agg x.cells.toArray
theorem Dx.cells_length (x : Dx) : x.cells.length = 11 := rfl
theorem Dx.one (x : Dx) : ∀ v ∈ x.cells, v.oneCell' = true := by
  intro v hv
  simp only [Dx.cells, List.mem_cons, List.not_mem_nil, or_false] at hv
  rcases hv with rfl | rfl | rfl | rfl | rfl | rfl | rfl | rfl | rfl | rfl | rfl <;> rfl
structure DxOk (w : World) (x : Dx) : Prop where
  kind : I64 x.d.kind
  alg : I64 x.d.alg
  size : I64 x.d.size
  block : I64 x.d.block
  off : I64 x.d.off
  loc : I64 x.d.loc
  name : Fit 256 x.d.name
  salt : Bs w x.s1.A x.s1.n x.s1.cap x.d.salt
  digest : Bs w x.s2.A x.s2.n x.s2.cap x.d.digest
  key : Bs w x.s3.A x.s3.n x.s3.cap x.d.key
  value : Bs w x.s4.A x.s4.n x.s4.cap x.d.value
theorem DxOk.below {w w' : World} {x : Dx} (h : DxOk w x) (hb : Below w.heap.size w w') : DxOk w' x :=
  { h with salt := h.salt.below hb, digest := h.digest.below hb, key := h.key.below hb, value := h.value.below hb }
theorem DxOk.drewN {w : World} {x : Dx} (h : DxOk w x) (n : Nat) : DxOk (w.drewN n) x := { h with salt := { h.salt with rd := h.salt.rd }, digest := { h.digest with rd := h.digest.rd }, key := { h.key with rd := h.key.rd }, value := { h.value with rd := h.value.rd } }
theorem DxOk.fits {w : World} {x : Dx} (h : DxOk w x) : Fits x.d := ⟨h.name, h.salt.fit, h.digest.fit, h.key.fit, h.value.fit⟩
structure Hds (x : Dx) : Prop where
  salt : x.d.salt.length = x.s1.n
  digest : x.d.digest.length = x.s2.n
  key : x.d.key.length = x.s3.n
  value : x.d.value.length = x.s4.n
theorem DxOk.hds {w : World} {x : Dx} (h : DxOk w x) : Hds x := ⟨h.salt.rd.1, h.digest.rd.1, h.key.rd.1, h.value.rd.1⟩
def At (w : World) (a : Addr) (cs : List Value) : Prop := ∀ (j : Nat) v, cs[j]? = some v → w.cell? (a.add j) = some v
theorem At.below {B : Nat} {w w' : World} {a : Addr} {cs : List Value} (h : At w a cs) (hb : Below B w w') (hlt : a.block < B) : At w' a cs := fun j v hj => (hb.cell (p := a.add j) (by rw [block_add]; exact hlt)).trans (h j v hj)
theorem At.touch {F : List Nat} {w w' : World} {a : Addr} {cs : List Value} (h : At w a cs) (t : Touch F w w') (hl : a.block < w.heap.size) (hF : a.block ∉ F) : At w' a cs := fun j v hj => (t.cell (p := a.add j) (by rw [block_add]; exact hl) (by rw [block_add]; exact hF)).trans (h j v hj)
theorem At.drewN {w : World} {a : Addr} {cs : List Value} (h : At w a cs) (n : Nat) : At (w.drewN n) a cs := h
theorem Blk.at {w : World} {g : Nat} {t : TypeId} {cs : List Value} (h : Blk w g t cs) : At w ⟨g, 0, none⟩ cs := fun j v hj => by rw [addr_add, Nat.zero_add, h.cell]; exact hj
theorem At.cell {w : World} {g o : Nat} {cs : List Value} (h : At w ⟨g, o, none⟩ cs) (j : Nat) {v : Value} (hj : cs[j]? = some v) : w.cell? ⟨g, o + j, none⟩ = some v := by rw [← addr_add]; exact h j v hj
structure DL (w : World) (A : Option Addr) (n : Nat) (xs : List Dx) : Prop where
  len : xs.length = n
  at_ : 0 < n → ∃ ad, A = some ad ∧ ad.block < w.heap.size ∧ ∀ (i : Nat) x, xs[i]? = some x → At w (ad.add (i * 11)) x.cells
  ok : ∀ x ∈ xs, DxOk w x
theorem DL.below {w w' : World} {A : Option Addr} {n : Nat} {xs : List Dx} (h : DL w A n xs) (hb : Below w.heap.size w w') : DL w' A n xs :=
  ⟨h.len, fun hn => by
    obtain ⟨ad, e, hlt, hc⟩ := h.at_ hn
    exact ⟨ad, e, Nat.lt_of_lt_of_le hlt hb.size, fun i x hx => (hc i x hx).below hb (by rw [block_add]; exact hlt)⟩, fun x hx => (h.ok x hx).below hb⟩
theorem DL.get {w : World} {A : Option Addr} {n : Nat} {xs : List Dx} (h : DL w A n xs) {i : Nat} (hi : i < n) : ∃ ad x, A = some ad ∧ ad.block < w.heap.size ∧ xs[i]? = some x ∧ x ∈ xs ∧ At w (ad.add (i * 11)) x.cells ∧ DxOk w x := by
  obtain ⟨ad, e, hlt, hc⟩ := h.at_ (by omega)
  have hl : i < xs.length := by rw [h.len]; exact hi
  have hg := List.getElem?_eq_getElem hl
  exact ⟨ad, xs[i], e, hlt, hg, List.getElem_mem hl, hc i _ hg, h.ok _ (List.getElem_mem hl)⟩
theorem DL.nil (w : World) (A : Option Addr) : DL w A 0 [] := ⟨rfl, fun h => absurd h (Nat.lt_irrefl _), fun x h => by cases h⟩
theorem DL.take {w : World} {A : Option Addr} {n : Nat} {xs : List Dx} (h : DL w A n xs) (k : Nat) (hk : k ≤ n) : DL w A k (xs.take k) :=
  ⟨by rw [List.length_take, h.len]; omega, fun hp => by
    obtain ⟨ad, e, hlt, hc⟩ := h.at_ (by omega)
    exact ⟨ad, e, hlt, fun i x hx => hc i x (by
      rw [List.getElem?_take] at hx
      by_cases hik : i < k
      · rwa [if_pos hik] at hx
      · rw [if_neg hik] at hx; cases hx)⟩, fun x hx => h.ok x (List.mem_of_mem_take hx)⟩
def des (xs : List Dx) : List De := xs.map (·.d)
section
variable {P : Program} {ops : Array Oper} {rest : List Oper} {op : Oper} {a : Act} {w : World} {Q : Exit → Act → World → Prop}
theorem run_loadVar_at (p : Addr) (ty : TypeId) (cs : List Value) (d : TypeDesc) (hc : At w p cs) (hu : P.underlying ty = some d) (hd : d.isRow = true) (hi : (P.info? ty).map (·.size) = some cs.length) : (loadVar ty p).run P w = .ok (.agg cs.toArray) w := by
  have hl : (loadCells p cs.length).run P w = .ok cs.toArray w := run_loadCells_list (P := P) w p cs (fun j v hv => hc j v hv)
  cases hq : P.info? ty with
  | none => simp [hq] at hi
  | some i =>
    have hs : i.size = cs.length := by simpa [hq] using hi
    have hagg : (isAgg ty).run P w = .ok true w := by
      unfold isAgg
      rw [Sem.run_bind, run_underlying hu w]
      cases d <;> simp_all
    simp [loadVar, Sem.run_bind, hagg, sizeOf, typeInfo, hq, hs, hl]
theorem wpList_loadAt (hgd : op.guard = none) (ty : TypeId) (x : Operand) (ho : op.op = .load ty x) (p : Addr) (hx : a.eval x = .pointer (some p)) (cs : List Value) (d : TypeDesc) (hc : At w p cs)
    (hu : P.underlying ty = some d) (hd : d.isRow = true) (hi : (P.info? ty).map (·.size) = some cs.length) (h : wpList P ops Q rest (a.put op.dst (.agg cs.toArray)) w) : wpList P ops Q (op :: rest) a w :=
  wpList_plain hgd fun _ hK => by
    unfold Oper.wp execOp
    simp only [ho, hx, Instr.loadAt, Instr.sureAddr, Sem.run_bind, Sem.run_pure, Result.andThen_ok, run_loadVar_at p ty cs d hc hu hd hi]
    exact hK _ _ h
theorem wpList_storeNew (hgd : op.guard = none) (ty : TypeId) (x y : Operand) (ho : op.op = .store ty x y) (old cs : List Value) (hx : a.eval x = .pointer (some ⟨w.heap.size, 0, none⟩)) (hy : a.eval y = .agg cs.toArray)
    (hs : old.length = cs.length) (hi : (P.info? ty).map (·.size) = some cs.length) (h1 : ∀ v ∈ cs, v.oneCell' = true)
    (h : wpList P ops Q rest (a.put op.dst undef) (w.alloc (.cells cs.toArray ty))) : wpList P ops Q (op :: rest) a (w.alloc (.cells old.toArray ty)) :=
  wpList_plain hgd fun _ hK => by
    unfold Oper.wp execOp
    have e := run_storeAt_new (P := P) w ty old.toArray cs.toArray (by simpa using hi) (by simpa using hs) (Array.all_eq_true_iff_forall_mem.2 (fun v hv => h1 v (by simpa using hv)))
    simp only [ho, hx, hy, Sem.run_bind, Sem.run_pure, Result.andThen_ok, e]
    exact hK _ _ h
end
theorem uD : ∃ d, Tryz.prog.underlying 71 = some d ∧ d.isRow = true := ⟨_, Tryz.underlying71, rfl⟩
theorem uR : ∃ d, Tryz.prog.underlying 73 = some d ∧ d.isRow = true := ⟨_, Tryz.underlying73, rfl⟩
theorem iD : (Tryz.prog.info? 71).map (·.size) = some 11 := by kernel_rfl
theorem iR : (Tryz.prog.info? 73).map (·.size) = some 11 := by kernel_rfl
def zeroD : List Value := [.int .i64 0, .int .i64 0, .int .i64 0, .int .i64 0, .int .i64 0, .int .i64 0, .string ⟨#[]⟩, .slice none 0 0, .slice none 0 0, .slice none 0 0, .slice none 0 0]
end Go.Proofs.YtlcoebenkhafcaaGreatDoor
namespace Go.Proofs.YtlcoebenkhafcaaGreatDoor
open Go.RowKit
set_option linter.unusedVariables false
set_option linter.unusedSimpArgs false
set_option maxRecDepth 100000
theorem strCells_str {l : List Nat} (hf : Fit 256 l) : Lib.strCells (str l) = cn .u8 l := by
  have hd : (str l).data.toList = l.map UInt8.ofNat := by
    show ((l.map fun (x : Nat) => (x : Int)).map fun n => UInt8.ofNat n.toNat) = _
    simp [Function.comp_def]
  simp only [Lib.strCells, hd, cn, List.map_map]
  apply List.map_congr_left
  intro x hx
  have := hf x hx
  simp only [Function.comp_apply, UInt8.toNat_ofNat']
  congr 1
  omega
end Go.Proofs.YtlcoebenkhafcaaGreatDoor
