/-
  The document's side: Right, the four bytes of a number, N0, a key's bytes, Open; rests of numbers.
-/
import Derived.Test.YtppoikamenbckaaDoorLimA
import Derived.Test.YtppoikamenbckaaDoorKeyA
import Derived.Test.YtppoikamenbckaaDoorHA
namespace Go.Proofs.YtppoikamenbckaaDoor
open Go.RowKit
set_option linter.unusedVariables false
set_option linter.unusedSimpArgs false
set_option maxRecDepth 100000

end Go.Proofs.YtppoikamenbckaaDoor

namespace Go.Proofs.YtppoikamenbckaaDoor
set_option maxRecDepth 100000
open Go.RowKit
set_option linter.unusedVariables false
set_option linter.unusedSimpArgs false

/-- One digit of a number times another. -/
theorem shift_step {B : Nat} {l ys : List Nat} {i c q : Nat} (hl : ys.length = i) (h : val B ys + B ^ i * c = val B (l.take i) * q) (s : Nat) (hs : s = c + dig l i * q) :
    val B (ys ++ [s % B]) + B ^ (i + 1) * (s / B) = val B (l.take (i + 1)) * q := by
  rw [val_snoc, hl, val_take_succ, Nat.pow_succ, Nat.mul_assoc, Nat.add_assoc, ← Nat.mul_add, Nat.mod_add_div, hs, Nat.mul_add, Nat.add_mul, Nat.mul_assoc]
  omega

theorem ord_ge_val {B : Nat} {la lb : List Nat} {j x y : Nat} (ha : Fit B la) (hb : Fit B lb) (hx : la[j]? = some x) (hy : lb[j]? = some y) (hd : la.drop (j + 1) = lb.drop (j + 1)) (hne : x ≠ y) : val B lb ≤ val B la ↔ y < x := by
  have := ord_split ha hb hx hy hd hne
  rw [← ord_ge, this]
  unfold ord
  split <;> (try split) <;> omega

theorem get_mid {ys l : List Nat} {j x : Nat} (hl : ys.length = j) (hx : l[j]? = some x) : (ys ++ l.drop j)[j]? = some x := by
  rw [List.getElem?_append_right (by omega), hl, Nat.sub_self, List.getElem?_drop]; simpa using hx
theorem set_mid {ys l : List Nat} {j x : Nat} (hl : ys.length = j) (hx : l[j]? = some x) (d : Nat) : (ys ++ l.drop j).set j d = (ys ++ [d]) ++ l.drop (j + 1) := by
  have hi := (List.getElem?_eq_some_iff.1 hx).1
  rw [List.set_append, if_neg (by omega), hl, Nat.sub_self, List.drop_eq_getElem_cons hi, List.set_cons_zero, List.append_assoc]; rfl

end Go.Proofs.YtppoikamenbckaaDoor

namespace Go.Proofs.YtppoikamenbckaaDoor
set_option maxRecDepth 100000
open Go.RowKit
set_option linter.unusedVariables false
set_option linter.unusedSimpArgs false

/-- The eight slices in the block gs: those laid so far, and nils. -/
def Laid (gl : List Nat) (N : Nat) : List Value := (gl.map fun (g : Nat) => Value.slice (some ⟨g, 0, none⟩) N N) ++ List.replicate (8 - gl.length) (Value.slice none 0 0)
theorem Laid.get {gl : List Nat} {N j g : Nat} (h : gl[j]? = some g) : (Laid gl N)[j]? = some (.slice (some ⟨g, 0, none⟩) N N) := by
  have hi := (List.getElem?_eq_some_iff.1 h).1
  rw [Laid, List.getElem?_append_left (by simpa using hi), List.getElem?_map, h]; rfl
theorem Laid.next (gl : List Nat) (N : Nat) (h : gl.length < 8) : (Laid gl N)[gl.length]? = some (.slice none 0 0) := by
  obtain ⟨p, hp⟩ : ∃ p, 8 - gl.length = p + 1 := ⟨8 - gl.length - 1, by omega⟩
  rw [Laid, List.getElem?_append_right (by simp), List.length_map, Nat.sub_self, hp, List.replicate_succ]
  rfl
theorem Laid.set (gl : List Nat) (N g : Nat) (h : gl.length < 8) : (Laid gl N).set gl.length (.slice (some ⟨g, 0, none⟩) N N) = Laid (gl ++ [g]) N := by
  obtain ⟨p, hp⟩ : ∃ p, 8 - gl.length = p + 1 := ⟨8 - gl.length - 1, by omega⟩
  rw [Laid, Laid, List.set_append, if_neg (by simp), List.length_map, Nat.sub_self, hp, List.replicate_succ, List.set_cons_zero]
  simp
  omega
theorem only_then {a w w2 : World} {g : Nat} {row : Option Nat} (h : a.grownBy w (some g)) (k : w.grownBy w2 row) (hr : ∀ j, row = some j → j = g) : a.grownBy w2 (some g) :=
  ⟨k.os.trans h.os, k.tape.trans h.tape, k.output.trans h.output, Nat.le_trans h.size k.size, fun i hi hne =>
    (k.block i (Nat.lt_of_lt_of_le hi h.size) (fun e => hne (by rw [hr i e.symm]))).trans (h.block i hi hne)⟩
theorem Laid.zero (N : Nat) : Laid [] N = List.replicate 8 (Value.slice none 0 0) := rfl
/-- The digits moved up by one place. -/
def moved (R : List Nat) (N j : Nat) : List Nat := R.take (j + 1) ++ (R.drop j).take (N - 1 - j)
theorem moved_length {R : List Nat} {N j : Nat} (h : R.length = N) (hj : j < N) : (moved R N j).length = N := by simp [moved]; omega
theorem moved_start {R : List Nat} {N : Nat} (h : R.length = N) (hN : 0 < N) : moved R N (N - 1) = R := by
  rw [moved, show N - 1 - (N - 1) = 0 by omega, List.take_zero, List.append_nil, List.take_of_length_le (by omega)]
theorem moved_get {R : List Nat} {N j y : Nat} (hy : R[j]? = some y) : (moved R N (j + 1))[j]? = some y := by
  have hi := (List.getElem?_eq_some_iff.1 hy).1
  rw [moved, List.getElem?_append_left (by simp; omega), List.getElem?_take, if_pos (by omega), hy]
theorem moved_step {R : List Nat} {N j y : Nat} (h : R.length = N) (hy : R[j]? = some y) (hj : j + 1 < N) : (moved R N (j + 1)).set (j + 1) y = moved R N j := by
  have hi := (List.getElem?_eq_some_iff.1 hy).1
  have e := (List.getElem?_eq_some_iff.1 hy).2
  have hl : (R.take (j + 1 + 1)).length = j + 1 + 1 := by simp; omega
  rw [moved, moved, List.set_append, if_pos (by omega), List.drop_eq_getElem_cons (l := R) (i := j) hi, e, show N - 1 - j = (N - 1 - (j + 1)) + 1 by omega, List.take_succ_cons]
  obtain ⟨z, hz⟩ := get_some (l := R) (i := j + 1) (by omega)
  rw [take_trim hz, List.set_append, if_neg (by simp; omega)]
  have hl2 : (R.take (j + 1)).length = j + 1 := by simp; omega
  rw [hl2, Nat.sub_self, List.set_cons_zero, List.append_assoc]
  rfl
theorem moved_end {R : List Nat} {N x : Nat} (h : R.length = N) (hN : 0 < N) : (moved R N 0).set 0 x = x :: R.take (N - 1) := by
  obtain ⟨y, hy⟩ := get_some (l := R) (i := 0) (by omega)
  rw [moved, take_trim hy, List.take_zero, List.nil_append, List.drop_zero, Nat.sub_zero]
  rfl
theorem moved_val {R : List Nat} {N x : Nat} (h : R.length = N) (hN : 0 < N) (hv : val 256 R < 256 ^ (N - 1)) : val 256 (x :: R.take (N - 1)) = x + 256 * val 256 R := by
  have e : val 256 (R.take (N - 1)) = val 256 R := by
    have h1 := val_take_succ 256 R (N - 1)
    rw [show N - 1 + 1 = N by omega, List.take_of_length_le (by omega)] at h1
    rcases Nat.eq_zero_or_pos (dig R (N - 1)) with h2 | h2
    · rw [h2, Nat.mul_zero] at h1; omega
    · have : 256 ^ (N - 1) * 1 ≤ 256 ^ (N - 1) * dig R (N - 1) := Nat.mul_le_mul_left _ h2
      omega
  rw [val, e]
/-- One digit more, and its rest. -/
theorem rest_step {x r M D : Nat} (hr : r = D % M) : (x + 256 * r) % M = (x + 256 * D) % M := by
  rw [hr, Nat.add_mod, Nat.mul_mod, Nat.mod_mod, ← Nat.mul_mod, ← Nat.add_mod]

end Go.Proofs.YtppoikamenbckaaDoor

namespace Go.Proofs.YtppoikamenbckaaDoor
open Go.RowKit
set_option linter.unusedVariables false
set_option linter.unusedSimpArgs false
set_option maxRecDepth 100000

theorem bytes4 (x : Nat) : bytesOf 4 x = [x / 256 / 256 / 256 % 256, x / 256 / 256 % 256, x / 256 % 256, x % 256] := rfl
theorem four_cells (x : Nat) (a b c d : Int) (ha : a = ((x / 256 / 256 / 256 % 256 : Nat) : Int)) (hb : b = ((x / 256 / 256 % 256 : Nat) : Int)) (hc : c = ((x / 256 % 256 : Nat) : Int)) (hd : d = ((x % 256 : Nat) : Int)) (w : World) : Blk (w.alloc (.cells #[.int .u8 a, .int .u8 b, .int .u8 c, .int .u8 d] 5)) w.heap.size 5 (cn .u8 (bytesOf 4 x)) := by
  subst ha; subst hb; subst hc; subst hd
  exact Blk.new w 5 _
theorem vbe_low {l : List Nat} {p : Nat} (hf : Fit 256 l) (hl : l.length = p + 4) : vbe (l.drop p) = vbe l % 4294967296 := by
  have e : vbe l = vbe (l.take p) * 4294967296 + vbe (l.drop p) := by
    conv => lhs; rw [← List.take_append_drop p l]
    simp only [vbe, List.reverse_append, val_append, List.length_reverse, List.length_drop]
    rw [show l.length - p = 4 by omega]
    show _ + 256 ^ 4 * _ = _
    omega
  have h2 : vbe (l.drop p) < 256 ^ (l.drop p).length := vbe_ltp (fun x hx => hf x (List.mem_of_mem_drop hx))
  rw [List.length_drop, show l.length - p = 4 by omega] at h2
  have h3 : vbe (l.drop p) < 4294967296 := h2
  omega
end Go.Proofs.YtppoikamenbckaaDoor

namespace Go.Proofs.YtppoikamenbckaaDoor
open Go.RowKit
set_option linter.unusedVariables false
set_option linter.unusedSimpArgs false
set_option maxRecDepth 100000

theorem high_bytes {x size : Nat} (h : (digs x).length ≤ size) : List.replicate (size - (digs x).length) 0 ++ (digs x).reverse = bytesOf size x := by
  refine bytesOf_eq (by simp; omega) ((Fit.replicate _ _ _ (by omega)).append (digs_fit x).reverse) ?_
  simp only [vbe, List.reverse_append, List.reverse_reverse, List.reverse_replicate, val_append, val_replicate, digs_val]
  simp
/-- t squares one behind the other. -/
def sqs (x N t : Nat) : Nat := x ^ (2 ^ t) % N
theorem sqs_zero {x N : Nat} (h : x < N) : sqs x N 0 = x := by simp [sqs, Nat.mod_eq_of_lt h]
theorem sqs_succ (x N t : Nat) : sqs x N t * sqs x N t % N = sqs x N (t + 1) := sq_step (j := t) rfl
theorem sqs_end (x N t e : Nat) (he : e = 2 ^ t + 1) : sqs x N t * x % N = x ^ e % N := by
  subst he
  exact sq_last (x := x) (n := N) (e := 2 ^ t) (y := sqs x N t) rfl
theorem sqs_last (x N : Nat) : sqs x N 16 * x % N = x ^ keyE % N := sqs_end x N 16 keyE (by decide)
theorem sqs_lt {x N t : Nat} (h : 0 < N) : sqs x N t < N := Nat.mod_lt _ h

end Go.Proofs.YtppoikamenbckaaDoor
