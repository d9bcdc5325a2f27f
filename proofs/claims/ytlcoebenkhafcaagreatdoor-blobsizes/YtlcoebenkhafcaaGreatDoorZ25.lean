/-
  The pure side of seals: the block of a digest, its number below any modulus of its length; a signature by a fixed key is the only one that opens to its block. No condition. The document's side: Right, the four bytes of a number, N0, a key's bytes, Open; rests of numbers.
-/
import Derived.Test.YtlcoebenkhafcaaGreatDoorZ09
import Derived.Test.YtlcoebenkhafcaaGreatDoorZ06
import Derived.Test.YtlcoebenkhafcaaGreatDoorZ01
import Derived.Test.YtlcoebenkhafcaaGreatDoorZ05
namespace Go.Proofs.YtlcoebenkhafcaaGreatDoor
set_option linter.unusedVariables false
set_option linter.unusedSimpArgs false
def headOf (alg : Nat) : List Nat := if alg = 1 then [48, 49, 48, 13, 6, 9, 96, 134, 72, 1, 101, 3, 4, 2, 1, 5, 0, 4, 32] else [48, 81, 48, 13, 6, 9, 96, 134, 72, 1, 101, 3, 4, 2, 3, 5, 0, 4, 64]
theorem headOf_length (alg : Nat) : (headOf alg).length = 19 := by unfold headOf; split <;> rfl
theorem headOf_fit (alg : Nat) : Fit 256 (headOf alg) := by
  unfold headOf Fit
  split <;> decide
def blockOf (alg : Nat) (d : List Nat) (size : Nat) : List Nat := [0, 1] ++ List.replicate (size - (22 + d.length)) 255 ++ [0] ++ headOf alg ++ d
theorem blockOf_length {alg size : Nat} {d : List Nat} (h : 22 + d.length ≤ size) : (blockOf alg d size).length = size := by
  simp [blockOf, headOf_length]; omega
theorem blockOf_fit {alg size : Nat} {d : List Nat} (hd : Fit 256 d) : Fit 256 (blockOf alg d size) :=
  ((((show Fit 256 [0, 1] from by unfold Fit; decide).append (Fit.replicate _ _ _ (by omega))).append (Fit.one (by omega))).append (headOf_fit alg)).append hd
theorem blockOf_inj {alg size : Nat} {d d' : List Nat} (hl : d.length = d'.length) (h : blockOf alg d size = blockOf alg d' size) : d = d' := by
  unfold blockOf at h
  rw [hl] at h
  exact List.append_cancel_left h
theorem blockOf_small {alg size : Nat} {d : List Nat} (hd : Fit 256 d) (h : 22 + d.length ≤ size) : vbe (blockOf alg d size) < 256 ^ (size - 1) := by
  have hl := blockOf_length (alg := alg) h
  have hf := blockOf_fit (alg := alg) (size := size) hd
  obtain ⟨r, hr⟩ : ∃ r, blockOf alg d size = 0 :: r := ⟨_, rfl⟩
  rw [hr] at hl hf ⊢
  rw [vbe_cons_, Nat.zero_mul, Nat.zero_add]
  have := vbe_ltp hf.cons.2
  rw [List.length_cons] at hl
  rwa [show r.length = size - 1 by omega] at this
theorem Modul.big {n : Nat} {l : List Nat} (h : Modul n l) (hl : l.length = n) : 256 ^ (n - 1) ≤ vbe l := by
  obtain ⟨h1, h2, h3, a, z, ha, hz, h4, h5⟩ := h
  obtain ⟨x, r, rfl⟩ : ∃ x r, l = x :: r := by
    cases l with
    | nil => simp at hl; omega
    | cons x r => exact ⟨x, r, rfl⟩
  simp only [List.getElem?_cons_zero, Option.some.injEq] at ha
  subst ha
  rw [List.length_cons] at hl
  rw [vbe_cons_, show r.length = n - 1 by omega]
  have : 1 * 256 ^ (n - 1) ≤ x * 256 ^ (n - 1) := Nat.mul_le_mul_right _ (by omega)
  omega
theorem block_below {alg n : Nat} {d l : List Nat} (hM : Modul n l) (hl : l.length = n) (hd : Fit 256 d) (h : 22 + d.length ≤ n) : vbe (blockOf alg d n) < vbe l :=
  Nat.lt_of_lt_of_le (blockOf_small hd h) (hM.big hl)
theorem key0_out (m : Nat) (hm : m < keyN0) : (m ^ keyE % keyN0) ^ keyD0 % keyN0 = m :=
  close_open (p := 112278977878014794934387468732230951909665353991314206570858853383570697513071) (q := 112289642932016304371756649481332778992551393574107444139052838912955283313407) (e := keyD0) (d := keyE) (a := 2604389833343720155446337849745291809563740746861061005639122019327628363529482061) (b := 2604142473413736146310715756040998583116823387797546050101214815951846972769389045) prk_x570697513071_256 prk_x955283313407_256 (by decide +kernel) (by decide +kernel) (by decide +kernel) (by decide +kernel) m hm
theorem key1_out (m : Nat) (hm : m < keyN1) : (m ^ keyE % keyN1) ^ keyD1 % keyN1 = m :=
  close_open (p := 95350817846681796337898091958903254439827423116154551737010290600988810741873) (q := 92279200474456872667267992849871381863045564664392769007913652786505232254317) (e := keyD1) (d := keyE) (a := 457404926951764103593480623558599972049651102650228857779975998449509809976580833) (b := 472630166361539993997876367317293706444614579530999074322425757936451287644774036) prk_x988810741873_256 prk_x505232254317_256 (by decide +kernel) (by decide +kernel) (by decide +kernel) (by decide +kernel) m hm
theorem keyz_out {z : Nat} (hz : z ≤ 1) (m : Nat) (hm : m < keyN z) : (m ^ keyE % keyN z) ^ keyD z % keyN z = m := by
  rcases (by omega : z = 0 ∨ z = 1) with rfl | rfl
  · exact key0_out m hm
  · exact key1_out m hm
theorem keyz_open {z : Nat} (hz : z ≤ 1) {s t : Nat} (hs : s < keyN z) (ht : t < keyN z) (h : s ^ keyE % keyN z = t ^ keyE % keyN z) : s = t := by
  rw [← keyz_out hz s hs, h, keyz_out hz t ht]
end Go.Proofs.YtlcoebenkhafcaaGreatDoor
namespace Go.Proofs.YtlcoebenkhafcaaGreatDoor
open Go.RowKit
set_option linter.unusedVariables false
set_option linter.unusedSimpArgs false
set_option maxRecDepth 100000
end Go.Proofs.YtlcoebenkhafcaaGreatDoor
namespace Go.Proofs.YtlcoebenkhafcaaGreatDoor
set_option maxRecDepth 100000
open Go.RowKit
set_option linter.unusedVariables false
set_option linter.unusedSimpArgs false
end Go.Proofs.YtlcoebenkhafcaaGreatDoor
namespace Go.Proofs.YtlcoebenkhafcaaGreatDoor
set_option maxRecDepth 100000
open Go.RowKit
set_option linter.unusedVariables false
set_option linter.unusedSimpArgs false
end Go.Proofs.YtlcoebenkhafcaaGreatDoor
namespace Go.Proofs.YtlcoebenkhafcaaGreatDoor
open Go.RowKit
set_option linter.unusedVariables false
set_option linter.unusedSimpArgs false
set_option maxRecDepth 100000
end Go.Proofs.YtlcoebenkhafcaaGreatDoor
namespace Go.Proofs.YtlcoebenkhafcaaGreatDoor
open Go.RowKit
set_option linter.unusedVariables false
set_option linter.unusedSimpArgs false
set_option maxRecDepth 100000
end Go.Proofs.YtlcoebenkhafcaaGreatDoor
