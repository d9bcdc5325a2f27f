/-
  What the statements' walks share: a ring that is refused, numbers of a width that are just 1, bytes just laid.
-/
import Derived.Test.YtggnhncodiekhaaDoorAnchor
namespace Go.Proofs.YtggnhncodiekhaaDoor
open Go.RowKit
set_option linter.unusedVariables false
set_option linter.unusedSimpArgs false

/-- Of what a ring is made. -/
def OkN (n : Nat) (l : List Nat) : Prop := 1 ≤ n ∧ n ≤ 128 ∧ val 4294967296 l % 2 = 1 ∧ 1 < val 4294967296 l
def GivesErr (w : World) (e : Ending) (w' : World) : Prop := (e = .returned (.tuple #[.pointer none, .int .i64 24]) ∨ e = .returned (.tuple #[.pointer none, .int .i64 12])) ∧ Below w.heap.size w w'
theorem New_err (A : Option Addr) (n cap : Nat) (l : List Nat) (w : World) (h : Rd .u32 w A n l) (hf : Fit 4294967296 l) (hno : ¬ OkN n l) :
    Calls Tryd.prog 11 #[.slice A n cap] w (GivesErr w) := by
  by_cases h1 : n < 1 ∨ 128 < n
  · exact (New_size A n cap w h1).mono fun e w' ⟨he, hw⟩ => ⟨.inl he, by rw [hw]; exact below_self⟩
  · have h2 : val 4294967296 l % 2 = 0 ∨ val 4294967296 l = 1 := by
      by_cases h3 : val 4294967296 l % 2 = 0
      · exact .inl h3
      · refine .inr ?_
        have h4 : ¬ 1 < val 4294967296 l := fun h4 => hno ⟨by omega, by omega, by omega, h4⟩
        omega
    exact (New_form A n cap l w h hf (by omega) (by omega) h2).mono fun e w' ⟨he, hw⟩ => ⟨.inr he, hw⟩
theorem fit_one (k : Nat) : Fit 4294967296 ((List.replicate k 0).set 0 1) := (Fit.replicate _ _ _ (by omega)).set _ _ (by omega)
/-- A number of k limbs that is just 1. -/
theorem rd_one {w : World} {g k : Nat} (h : Blk w g 31 (cn .u32 (List.replicate k 0))) : Rd .u32 (w.setCell ⟨g, 0, none⟩ (.int .u32 1)) (some ⟨g, 0, none⟩) k ((List.replicate k 0).set 0 1) := by
  have hb := h.set_ 0 (.int .u32 ((1 : Nat) : Int))
  rw [cn_set] at hb
  exact hb.rd k (by simp)
/-- The short product there and back. -/
theorem back_again {N a x y k : Nat} (hn : N % 2 = 1) (ha : a < N) (hx : x < N) (hy : y < N) (h1 : x * 4294967296 ^ k % N = a * (4294967296 ^ (2 * k) % N) % N) (h2 : y * 4294967296 ^ k % N = x * 1 % N) : y = a := by
  have e := short_rr hn hx h1
  rw [e] at h2
  have e2 := short_plain hn hy h2
  rw [e2, Nat.mul_one, Nat.mod_eq_of_lt ha]
end Go.Proofs.YtggnhncodiekhaaDoor
