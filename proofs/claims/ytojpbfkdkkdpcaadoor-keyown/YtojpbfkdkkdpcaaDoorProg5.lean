/-
  The program's From: what it answers of bytes in memory.
-/
import Derived.Test.YtojpbfkdkkdpcaaDoorProg4
namespace Go.Proofs.YtojpbfkdkkdpcaaDoor
set_option maxRecDepth 100000
open Go.RowKit
set_option linter.unusedVariables false
set_option linter.unusedSimpArgs false

theorem pow256_32 (n : Nat) : 256 ^ (4 * n) = 4294967296 ^ n := by rw [Nat.pow_mul]
theorem strip_len (l : List Nat) (hf : Fit 256 l) (W : Nat) : (strip l).length ≤ 4 * W ↔ vbe l < 4294967296 ^ W := by
  have h := tight_len (l := (strip l).reverse) (strip_fit hf).reverse (strip_tight l) (4 * W) (by omega)
  rw [List.length_reverse, pow256_32] at h
  rw [h, show val 256 (strip l).reverse = vbe (strip l) from rfl, vbe_strip]

theorem From_size (A : Option Addr) (n cap : Nat) (wd : Int) (w : World) (h : wd < 1 ∨ 256 < wd) :
    Calls Tryd.prog 27 #[.slice A n cap, .int .i64 wd] w fun e w' => e = .returned (.tuple #[.slice none 0 0, .int .i64 24]) ∧ w = w' := by
  rcases h with h | h
  · go_enter Tryd.func27, Tryd.ntmps27
    go_wp2
    go_ret2
    exact ⟨rfl, rfl⟩
  · have h1 : ¬ wd < 1 := by omega
    go_enter Tryd.func27, Tryd.ntmps27
    go_wp2
    go_ret2
    exact ⟨rfl, rfl⟩
theorem From_big (A : Option Addr) (n cap : Nat) (l : List Nat) (W : Nat) (w : World) (h : Rd .u8 w A n l) (hf : Fit 256 l) (hn : n ≤ cap) (hm : cap ≤ maxLen) (hn2 : n ≤ 10000) (h1 : 1 ≤ W) (h2 : W ≤ 256) (hb : 4294967296 ^ W ≤ vbe l) :
    Calls Tryd.prog 27 #[.slice A n cap, .int .i64 (W : Int)] w fun e w' => e = .returned (.tuple #[.slice none 0 0, .int .i64 11]) ∧ w = w' := by
  have HR := Lib.hid h
  have HM := Lib.hid hm
  have hlen : ¬ (strip l).length ≤ 4 * W := fun h => by have := (strip_len l hf W).1 h; omega
  have HL := Lib.hid hlen
  have g1 : (1 : Int) ≤ W := by omega
  have hsl := strip_le l
  have hl2 := h.1
  have HSL := Lib.hid hsl
  clear h hm hlen hb hsl
  go_enter Tryd.func27, Tryd.ntmps27
  go_wp2_with fail
  refine (TrimLeft_any A n cap l w HR.out hn HM.out).mono ?_
  rintro e w1 ⟨⟨A1, n1, c1, rfl, hr⟩, rfl⟩
  have hn1 : (4 : Int) * W < n1 := by have := HL.out; rw [hr.1] at this; omega
  have hn3 : n1 ≤ 10000 := by have := HSL.out; rw [hr.1] at this; omega
  clear hr
  go_wp2
  go_ret2
  exact ⟨rfl, rfl⟩

/-- One byte more of a number that is read. -/
theorem from_step {l : List Nat} {k x : Nat} (hx : l[k]? = some x) (m : Nat) (hm : l.length = m) (u : Nat) (hu : m = k + u + 1) : vbe (l.take (k + 1)) * 256 ^ u = vbe (l.take k) * 256 ^ (u + 1) + 256 ^ u * x := by
  rw [take_trim hx, vbe_snoc, Nat.add_mul, Nat.pow_succ]
  have : 256 * vbe (l.take k) * 256 ^ u = vbe (l.take k) * (256 ^ u * 256) := by
    rw [Nat.mul_comm 256, Nat.mul_assoc, Nat.mul_comm 256]
  rw [this, Nat.mul_comm x]
  omega
theorem pow_limb (i r : Nat) : 256 ^ (4 * i + r) = 4294967296 ^ i * 256 ^ r := by rw [Nat.pow_add, pow256_32]
theorem get_val {B : Nat} {l : List Nat} (hB : 0 < B) (hf : Fit B l) {i x : Nat} (h : l[i]? = some x) : x = val B l / B ^ i % B := by
  have hi := (List.getElem?_eq_some_iff.1 h).1
  have e := nums_of hB hf
  rw [e, nums_get B _ _ i hi] at h
  injection h with h
  exact h.symm
/-- The limb to which the next byte goes, and what becomes of it. -/
theorem from_limb {N : List Nat} {Y i r o x : Nat} (hf : Fit 4294967296 N) (hv : val 4294967296 N = Y * 256 ^ (4 * i + r + 1)) (hr : r < 4) (ho : N[i]? = some o) (hx : x < 256) :
    ∃ q, o = 256 ^ (r + 1) * q ∧ o + 256 ^ r * x < 4294967296 ∧ val 4294967296 (N.set i (o + 256 ^ r * x)) = Y * 256 ^ (4 * i + r + 1) + 256 ^ (4 * i + r) * x := by
  have e := get_val (by omega) hf ho
  have hlt := hf.get ho
  rw [hv, Nat.add_assoc, pow_limb, Nat.mul_left_comm, Nat.mul_div_cancel_left _ (Nat.pow_pos (by omega : 0 < 4294967296))] at e
  have hs := val_set 4294967296 ho (o + 256 ^ r * x)
  have hs2 : val 4294967296 (N.set i (o + 256 ^ r * x)) = Y * 256 ^ (4 * i + r + 1) + 256 ^ (4 * i + r) * x := by
    rw [pow_limb i r, Nat.mul_assoc, ← hv]
    rw [Nat.mul_add] at hs
    omega
  rcases r with _ | _ | _ | _ | r
  · refine ⟨Y % 16777216, ?_, ?_, hs2⟩
    · rw [e]; omega
    · rw [e]; omega
  · refine ⟨Y % 65536, ?_, ?_, hs2⟩
    · rw [e]; omega
    · rw [e]; omega
  · refine ⟨Y % 256, ?_, ?_, hs2⟩
    · rw [e]; omega
    · rw [e]; omega
  · refine ⟨0, ?_, ?_, hs2⟩
    · rw [e]; omega
    · rw [e]; omega
  · omega
theorem or_add {o x r q : Nat} (ho : o = 256 ^ (r + 1) * q) (hx : x < 256) (h : o + 256 ^ r * x < 4294967296) : bits .or .u32 (o : Int) ((256 ^ r * x : Nat) : Int) = ((o + 256 ^ r * x : Nat) : Int) := by
  have h256 : ∀ k, 256 ^ k = 2 ^ (8 * k) := fun k => by rw [Nat.pow_mul]
  rw [u32_or_nat _ _ (by omega) (by omega)]
  congr 1
  have e := Nat.shiftLeft_add_eq_or_of_lt (a := q) (b := 256 ^ r * x) (i := 8 * (r + 1)) (by
    rw [← h256, Nat.pow_succ]
    exact Nat.mul_lt_mul_of_pos_left hx (Nat.pow_pos (by omega)))
  rw [Nat.shiftLeft_eq, ← h256, Nat.mul_comm q, ← ho] at e
  exact e.symm

end Go.Proofs.YtojpbfkdkkdpcaaDoor
