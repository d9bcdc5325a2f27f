/-
  How the walk's numbers are words and bytes: each law of 64 bits as an equation on words; no condition.
-/
import Derived.Test.YtidibhphnkiacaaDoorSha
import Derived.Laws.BitsAllLaws
namespace Go.Proofs.YtidibhphnkiacaaDoor
set_option linter.unusedVariables false

/-- A word as the walk's number; a byte likewise. -/
def ui (x : W64) : Int := x.toNat
def ub (b : UInt8) : Int := b.toNat
theorem ui_lo (x : W64) : 0 ≤ ui x := by unfold ui; omega
theorem ui_hi (x : W64) : ui x < 18446744073709551616 := by unfold ui; have := x.isLt; omega
theorem ub_lo (x : UInt8) : 0 ≤ ub x := by unfold ub; omega
theorem ub_hi (x : UInt8) : ub x ≤ 255 := by unfold ub; have := x.toNat_lt; omega
theorem ui_nat (x : W64) : x.toNat < 18446744073709551616 := x.isLt
theorem ui_inj {x y : W64} (h : ui x = ui y) : x = y := by
  unfold ui at h
  exact BitVec.eq_of_toNat_eq (by omega)
theorem ub_inj {x y : UInt8} (h : ub x = ub y) : x = y := by
  unfold ub at h
  exact UInt8.toNat_inj.1 (by omega)

theorem ui_and (x y : W64) : bits .and .u64 (ui x) (ui y) = ui (x &&& y) := by
  unfold ui; rw [u64_and_nat _ _ (ui_nat x) (ui_nat y), BitVec.toNat_and]
theorem ui_or (x y : W64) : bits .or .u64 (ui x) (ui y) = ui (x ||| y) := by
  unfold ui; rw [u64_or_nat _ _ (ui_nat x) (ui_nat y), BitVec.toNat_or]
theorem ui_xor (x y : W64) : bits .xor .u64 (ui x) (ui y) = ui (x ^^^ y) := by
  unfold ui; rw [u64_xor_nat _ _ (ui_nat x) (ui_nat y), BitVec.toNat_xor]
theorem ui_not (x : W64) : bits .xor .u64 18446744073709551615 (ui x) = ui (~~~x) := by
  have h : (18446744073709551615 : Int) = ui (BitVec.allOnes 64) := rfl
  rw [h, ui_xor, BitVec.allOnes_xor]
theorem ui_add (x y : W64) : (ui x + ui y) % 18446744073709551616 = ui (x + y) := by
  unfold ui; rw [BitVec.toNat_add]; omega
theorem ui_addw (x y : W64) : IntKind.u64.wrap (ui x + ui y) = ui (x + y) := by
  simp only [IntKind.wrap, IntKind.bits, IntKind.signed]; simpa using ui_add x y
theorem ui_shr (x : W64) (n : Nat) : ui x / 2 ^ n = ui (x >>> n) := by
  unfold ui
  rw [BitVec.toNat_ushiftRight, Nat.shiftRight_eq_div_pow]
  have : ((2 : Int) ^ n) = ((2 ^ n : Nat) : Int) := by simp
  rw [this]; omega
theorem ui_shl (x : W64) (n : Nat) : ui x * 2 ^ n % 18446744073709551616 = ui (x <<< n) := by
  unfold ui
  rw [BitVec.toNat_shiftLeft, Nat.shiftLeft_eq]
  have : ((2 : Int) ^ n) = ((2 ^ n : Nat) : Int) := by simp
  rw [this, ← Int.natCast_mul]; omega
theorem ui_shlw (x : W64) (n : Nat) : IntKind.u64.wrap (ui x * 2 ^ n) = ui (x <<< n) := by
  rw [← ui_shl]; simp [IntKind.wrap, IntKind.bits, IntKind.signed]
theorem ui_w8 (b : UInt8) : ub b = ui (w8 b) := by
  unfold ub ui w8
  rw [BitVec.toNat_ofNat, Nat.mod_eq_of_lt (by have := b.toNat_lt; omega)]
theorem ub_cut (x : W64) (n : Nat) : ui x / 2 ^ n % 256 = ub (UInt8.ofNat (x >>> n).toNat) := by
  rw [ui_shr]; unfold ui ub
  rw [UInt8.toNat_ofNat']; omega
theorem ub_nat (n k : Nat) : ((n : Int) / 2 ^ k) % 256 = ub (UInt8.ofNat (n / 2 ^ k)) := by
  unfold ub
  have : ((2 : Int) ^ k) = ((2 ^ k : Nat) : Int) := by simp
  rw [UInt8.toNat_ofNat', this]; omega
theorem rotr_prog (x : W64) (n : Nat) : x <<< (64 - n) ||| x >>> n = rotr x n := by unfold rotr; exact BitVec.or_comm _ _

theorem neg_and63 (i : Nat) (h1 : 1 ≤ i) (h2 : i ≤ 63) : bits .and .u64 (IntKind.u64.wrap (-(i : Int))) 63 = ((64 - i : Nat) : Int) := by
  have : ∀ j : Fin 64, 1 ≤ j.val → bits .and .u64 (IntKind.u64.wrap (-(j.val : Int))) 63 = ((64 - j.val : Nat) : Int) := by decide
  exact this ⟨i, by omega⟩ h1
end Go.Proofs.YtidibhphnkiacaaDoor
