/-
  What the small functions on words answer: a word turned right, and turned by each of some numbers, joined; for turns of 1 to 63 places.
-/
import Derived.Test.YtidibhphnkiacaaDoorWords0
import Derived.Test.YtidibhphnkiacaaDoorRows
import Derived.WalkKit
import Derived.WalkSpells
import Derived.WalkLawsBesides
import Derived.Lib.Hide
import Derived.Outline
import Derived.Deep.QuietTactic
import Derived.BigQuiet
namespace Go.Proofs.YtidibhphnkiacaaDoor
open Go.RowKit
set_option linter.unusedVariables false

theorem ret_int {k : IntKind} {a b : Int} (h : a = b) : Ending.returned (.int k a) = .returned (.int k b) := by rw [h]

theorem rot_any (x : W64) (i : Nat) (w : World) (h1 : 1 ≤ i) (h2 : i ≤ 63) :
    Calls Tryd.prog 24 #[.int .u64 (ui x), .int .i64 (-(i : Int))] w fun e w' => e = .returned (.int .u64 (ui (rotr x i))) ∧ w = w' := by
  obtain ⟨j, hj⟩ : ∃ j : Nat, j = 64 - i := ⟨_, rfl⟩
  have hs : bits .and .u64 (IntKind.u64.wrap (-(i : Int))) 63 = (j : Int) := by rw [hj]; exact neg_and63 i h1 h2
  have HJ := Lib.hid hj
  have b1 : 1 ≤ j := by omega
  have b2 : j ≤ 63 := by omega
  have u0 := ui_lo x
  have u1 := ui_hi x
  clear hj
  go_enter Tryd.func24, Tryd.ntmps24
  go_wp2
  go_ret
  refine ⟨ret_int ?_, rfl⟩
  have e : 64 - j = i := by have := HJ.out; omega
  rw [e, ui_shr, ui_shlw, ui_or, HJ.out, rotr_prog]

/-- A word turned by each of some numbers, joined. -/
def xors (x : W64) (ns : List Nat) : W64 := ns.foldl (fun acc k => acc ^^^ rotr x k) 0
theorem xors_snoc (x : W64) (ns : List Nat) (i k : Nat) (h : ns[i]? = some k) : xors x (ns.take (i + 1)) = xors x (ns.take i) ^^^ rotr x k := by
  obtain ⟨hi, rfl⟩ := List.getElem?_eq_some_iff.1 h
  rw [List.take_succ_eq_append_getElem hi]
  rw [xors, List.foldl_append]
  rfl
theorem xors_bs1 (x : W64) : xors x [14, 18, 41] = bs1 x := by simp [xors, bs1]
theorem xors_bs0 (x : W64) : xors x [28, 34, 39] = bs0 x := by simp [xors, bs0]
theorem xors_ss0 (x : W64) : xors x [1, 8] ^^^ (x >>> 7) = ss0 x := by simp [xors, ss0]
theorem xors_ss1 (x : W64) : xors x [19, 61] ^^^ (x >>> 6) = ss1 x := by simp [xors, ss1]

theorem turned_any (x : W64) (ns : List Nat) (g n cap : Nat) (w : World) (hl : ns.length = n) (hn : n ≤ 100) (hc : ∀ (j k : Nat), ns[j]? = some k → w.cell? ⟨g, j, none⟩ = some (.int .i64 (k : Int))) (hb : ∀ k ∈ ns, 1 ≤ k ∧ k ≤ 63) :
    Calls Tryd.prog 20 #[.int .u64 (ui x), .slice (some ⟨g, 0, none⟩) n cap] w fun e w' => e = .returned (.int .u64 (ui (xors x ns))) ∧ w = w' := by
  have HL := Lib.hid hl
  have HC := Lib.hid hc
  have HB := Lib.hid hb
  clear hl hc hb
  go_enter Tryd.func20, Tryd.ntmps20
  go_wp2
  go_loop [9, 5] (fun i x' => ∃ j : Nat, j ≤ n ∧ i = .int .i64 j ∧ x' = .int .u64 (ui (xors x (ns.take j)))) (fun i _ => n - (intOf i).toNat)
  case atStart => exact ⟨0, by omega, rfl, rfl⟩
  case round =>
    obtain ⟨j, hj, rfl, rfl⟩ := hrel
    by_cases hjn : j < n
    · obtain ⟨k, hk⟩ : ∃ k, ns[j]? = some k := ⟨_, List.getElem?_eq_getElem (by rw [HL.out]; exact hjn)⟩
      have c := HC.out j k hk
      have hkb := HB.out k (List.mem_of_getElem? hk)
      obtain ⟨y, hy⟩ : ∃ y, y = xors x (ns.take j) := ⟨_, rfl⟩
      have e := xors_snoc x ns j k hk
      rw [← hy] at e
      rw [← hy]
      have HE := Lib.hid e
      have HKB := Lib.hid hkb
      have b1 : k ≤ 63 := hkb.2
      have r1 := ui_xor
      clear hy e hk hkb
      go_wp2_with (go_at_call 24; refine (rot_any x k _ HKB.out.1 HKB.out.2).mono ?_; rintro e w' ⟨rfl, rfl⟩)
      go_round
      case rel => exact ⟨j + 1, by omega, by go_num, by rw [HE.out]⟩
      case measure => simp [intOf]; omega
    · have ej : j = n := by omega
      have e : ns.take j = ns := by rw [ej]; exact List.take_of_length_le (by rw [HL.out]; omega)
      rw [e]
      clear e ej
      go_wp2
      go_ret
      exact ⟨rfl, rfl⟩

theorem right_any (x : W64) (i : Nat) (w : World) (h1 : 1 ≤ i) (h2 : i ≤ 63) :
    Calls Tryd.prog 23 #[.int .u64 (ui x), .int .i64 (i : Int)] w fun e w' => e = .returned (.int .u64 (ui (rotr x i))) ∧ ∃ n, w' = w.drewN n := by
  have u0 := ui_lo x
  have u1 := ui_hi x
  go_enter Tryd.func23, Tryd.ntmps23
  go_wp2
  go_quiet (fail)
  go_wp2
  go_ret
  refine ⟨ret_int ?_, _, rfl⟩
  rw [ui_shr, ui_shlw, ui_or]
  rfl

end Go.Proofs.YtidibhphnkiacaaDoor
