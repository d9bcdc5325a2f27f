/-
  How the walk's numbers are words and bytes: each law of 32 bits as an equation on words; no condition.
-/
import Derived.Test.YtapkblfdjmbjdaaDoorSha
import Derived.Laws.BitsAllLaws
namespace Go.Proofs.YtapkblfdjmbjdaaDoor
set_option linter.unusedVariables false

/-- A word as the walk's number; a byte likewise. -/
def ui (x : W32) : Int := x.toNat
def ub (b : UInt8) : Int := b.toNat
theorem ui_lo (x : W32) : 0 ≤ ui x := by unfold ui; omega
theorem ui_hi (x : W32) : ui x < 4294967296 := by unfold ui; have := x.isLt; omega
theorem ub_lo (x : UInt8) : 0 ≤ ub x := by unfold ub; omega
theorem ub_hi (x : UInt8) : ub x ≤ 255 := by unfold ub; have := x.toNat_lt; omega
theorem ui_nat (x : W32) : x.toNat < 4294967296 := x.isLt
theorem ui_inj {x y : W32} (h : ui x = ui y) : x = y := by
  unfold ui at h
  exact BitVec.eq_of_toNat_eq (by omega)
theorem ub_inj {x y : UInt8} (h : ub x = ub y) : x = y := by
  unfold ub at h
  exact UInt8.toNat_inj.1 (by omega)

theorem ui_and (x y : W32) : bits .and .u32 (ui x) (ui y) = ui (x &&& y) := by
  unfold ui; rw [u32_and_nat _ _ (ui_nat x) (ui_nat y), BitVec.toNat_and]
theorem ui_or (x y : W32) : bits .or .u32 (ui x) (ui y) = ui (x ||| y) := by
  unfold ui; rw [u32_or_nat _ _ (ui_nat x) (ui_nat y), BitVec.toNat_or]
theorem ui_xor (x y : W32) : bits .xor .u32 (ui x) (ui y) = ui (x ^^^ y) := by
  unfold ui; rw [u32_xor_nat _ _ (ui_nat x) (ui_nat y), BitVec.toNat_xor]
theorem ui_not (x : W32) : bits .xor .u32 4294967295 (ui x) = ui (~~~x) := by
  have h : (4294967295 : Int) = ui (BitVec.allOnes 32) := rfl
  rw [h, ui_xor, BitVec.allOnes_xor]
theorem ui_add (x y : W32) : (ui x + ui y) % 4294967296 = ui (x + y) := by
  unfold ui; rw [BitVec.toNat_add]; omega
theorem ui_addw (x y : W32) : IntKind.u32.wrap (ui x + ui y) = ui (x + y) := by
  rw [IntKind.wrap_u32']; exact ui_add x y
theorem ui_shr (x : W32) (n : Nat) : ui x / 2 ^ n = ui (x >>> n) := by
  unfold ui
  rw [BitVec.toNat_ushiftRight, Nat.shiftRight_eq_div_pow]
  have : ((2 : Int) ^ n) = ((2 ^ n : Nat) : Int) := by simp
  rw [this]; omega
theorem ui_shl (x : W32) (n : Nat) : ui x * 2 ^ n % 4294967296 = ui (x <<< n) := by
  unfold ui
  rw [BitVec.toNat_shiftLeft, Nat.shiftLeft_eq]
  have : ((2 : Int) ^ n) = ((2 ^ n : Nat) : Int) := by simp
  rw [this, ← Int.natCast_mul]; omega
theorem ui_w8 (b : UInt8) : ub b = ui (w8 b) := by
  unfold ub ui w8
  rw [BitVec.toNat_ofNat, Nat.mod_eq_of_lt (by have := b.toNat_lt; omega)]
theorem ub_cut (x : W32) (n : Nat) : ui x / 2 ^ n % 256 = ub (UInt8.ofNat (x >>> n).toNat) := by
  rw [ui_shr]; unfold ui ub
  rw [UInt8.toNat_ofNat']; omega
theorem ub_nat (n k : Nat) : ((n : Int) / 2 ^ k) % 256 = ub (UInt8.ofNat (n / 2 ^ k)) := by
  unfold ub
  have : ((2 : Int) ^ k) = ((2 ^ k : Nat) : Int) := by simp
  rw [UInt8.toNat_ofNat', this]; omega
theorem rotr_prog (x : W32) (n : Nat) : x <<< (32 - n) ||| x >>> n = rotr x n := by unfold rotr; exact BitVec.or_comm _ _

theorem neg_and31 (i : Nat) (h1 : 1 ≤ i) (h2 : i ≤ 31) : bits .and .u64 (IntKind.u64.wrap (-(i : Int))) 31 = ((32 - i : Nat) : Int) := by
  have : ∀ j : Fin 32, 1 ≤ j.val → bits .and .u64 (IntKind.u64.wrap (-(j.val : Int))) 31 = ((32 - j.val : Nat) : Int) := by decide
  exact this ⟨i, by omega⟩ h1
end Go.Proofs.YtapkblfdjmbjdaaDoor
