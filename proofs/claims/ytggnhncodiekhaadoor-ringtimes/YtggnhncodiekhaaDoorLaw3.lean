/-
  The document's products, rests and orders of digits.
-/
import Derived.Test.YtggnhncodiekhaaDoorLaw2
namespace Go.Proofs.YtggnhncodiekhaaDoor
open Go.RowKit
set_option linter.unusedVariables false
set_option linter.unusedSimpArgs false

theorem Mul_digs (A A' : Option Addr) (n cap n' cap' x y : Nat) (w : World) (h : Rd .i64 w A n (digs x)) (h' : Rd .i64 w A' n' (digs y)) (hn : n ≤ 5000) (hn' : n' ≤ 5000) :
    Calls Tryd.prog 21 #[.slice A n cap, .slice A' n' cap'] w (GivesDigs w (x * y)) := by
  have := RefMul_any A A' n cap n' cap' _ _ w h h' (digs_fit _) (digs_fit _) (by omega) (by omega)
  rw [digs_val, digs_val] at this
  exact this
theorem Mod_digs (A A' : Option Addr) (n cap n' cap' x y : Nat) (w : World) (h : Rd .i64 w A n (digs x)) (h' : Rd .i64 w A' n' (digs y)) (hn : n ≤ 5000) (hn' : n' ≤ 5000) (hy : 0 < y) :
    Calls Tryd.prog 16 #[.slice A n cap, .slice A' n' cap'] w (GivesDigs w (x % y)) := by
  have := Mod_any A A' n cap n' cap' _ _ w h h' (digs_fit _) (digs_fit _) hn hn' (by rw [digs_val]; exact hy)
  rw [digs_val, digs_val] at this
  exact this
theorem Comp_digs (A A' : Option Addr) (n cap n' cap' x y : Nat) (w : World) (h : Rd .i64 w A n (digs x)) (h' : Rd .i64 w A' n' (digs y)) (hn : n ≤ 5000) (hn' : n' ≤ 5000) (hxy : x = y) :
    Calls Tryd.prog 22 #[.slice A n cap, .slice A' n' cap'] w fun e w' => e = .returned (.int .i64 0) ∧ Below w.heap.size w w' := by
  subst hxy
  have := RefCompare_any A A' n cap n' cap' _ _ w h h' (digs_fit _) (digs_fit _) (digs_tight _) (digs_tight _) (by omega) (by omega)
  rw [ord_self] at this
  exact this
theorem digs_one : digs 1 = [1] := by decide
theorem mul_lt_pow {x y n m : Nat} (hx : x < 4294967296 ^ n) (hy : y < 4294967296 ^ m) : x * y < 4294967296 ^ (n + m) := by
  rw [Nat.pow_add]; exact Nat.mul_lt_mul'' hx hy
theorem val_ltn {l : List Nat} {n : Nat} (hf : Fit 4294967296 l) (hl : l.length = n) : val 4294967296 l < 4294967296 ^ n := by
  rw [← hl]; exact val_lt hf
theorem mod_ltn {x N P : Nat} (hN : 0 < N) (h : N < P) : x % N < P := Nat.lt_trans (Nat.mod_lt _ hN) h
theorem pow_len (n : Nat) : 256 ^ (4 * n) < 4294967296 ^ (n + 1) := by
  rw [pow256_32, Nat.pow_succ]
  have : 0 < 4294967296 ^ n := Nat.pow_pos (by omega)
  omega
theorem pow_len2 (n : Nat) : 256 ^ (8 * n) < 4294967296 ^ (2 * n + 1) := by
  rw [show 8 * n = 4 * (2 * n) by omega]; exact pow_len _
theorem Bits_zero (A : Option Addr) (n cap : Nat) (l : List Nat) (w : World) (h : Rd .u32 w A n l) (hf : Fit 4294967296 l) (h1 : 1 ≤ n) (h2 : n ≤ 256) (hz : val 4294967296 l = 0) :
    Calls Tryd.prog 26 #[.slice A n cap] w fun e w' => e = .returned (.int .i64 0) ∧ Below w.heap.size w w' := by
  have := Bits_ok A n cap l w h hf h1 h2
  rw [hz] at this
  exact this
/-- Two numbers of k limbs just made, the one at o then 1. -/
theorem two_made (w : World) (k : Nat) : Below w.heap.size w ((w.alloc (.cells (cn .u32 (List.replicate k 0)).toArray 31)).alloc (.cells (cn .u32 (List.replicate k 0)).toArray 31)).drew ∧ Blk ((w.alloc (.cells (cn .u32 (List.replicate k 0)).toArray 31)).alloc (.cells (cn .u32 (List.replicate k 0)).toArray 31)).drew w.heap.size 31 (cn .u32 (List.replicate k 0)) ∧ Blk ((w.alloc (.cells (cn .u32 (List.replicate k 0)).toArray 31)).alloc (.cells (cn .u32 (List.replicate k 0)).toArray 31)).drew (w.heap.size + 1) 31 (cn .u32 (List.replicate k 0)) := by
  refine ⟨below_drew1 (((Below.refl _ _).alloc (Nat.le_refl _) _).alloc (by simp) _), (Blk.new w 31 _).alloc _, ?_⟩
  have := Blk.new (w.alloc (.cells (cn .u32 (List.replicate k 0)).toArray 31)) 31 (cn .u32 (List.replicate k 0))
  rw [World.size_alloc] at this
  exact this
/-- make of limbs, as a run. -/
theorem run_make32 (L : Nat) (hL : L ≤ 1000) (w : World) : (Instr.makeSlice 23 (.int .i64 (L : Int)) (.int .i64 (L : Int))).run Tryd.prog w = .ok (.slice (some ⟨w.heap.size, 0, none⟩) L L) (w.alloc (.cells (cn .u32 (List.replicate L 0)).toArray 31)) := by
  obtain ⟨i0, hi, hz0, hz1, hz2⟩ := info_parts wordInfo
  have hm : madeCells (Value.int .u32 0).cells L = (cn .u32 (List.replicate L 0)).toArray := by
    apply Array.ext
    · simp [size_madeCells, cn]
    · intro i h1 h2
      simp [madeCells, cn, Value.cells, Nat.mod_one]
  have := run_make (P := Tryd.prog) w 23 31 i0 _ Tryd.underlying23 hi hz0 .i64 .i64 (L : Int) (L : Int) (by omega) (by omega) (by rw [hz2]; omega) (by omega)
  rw [hz1, Nat.mul_one, Int.toNat_natCast, hm] at this
  exact this
end Go.Proofs.YtggnhncodiekhaaDoor
