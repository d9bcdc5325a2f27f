/-
  The program's places: whole numbers of words, which block stands at a place, and the place above.
-/
import Derived.Test.YtfoenafjaaidmaaDoorCb
import Derived.Test.YtfoenafjaaidmaaDoorAn
import Derived.Laws.FloatArith
namespace Go.Proofs.YtfoenafjaaidmaaDoor
open Go.RowKit
set_option linter.unusedVariables false
set_option linter.unusedSimpArgs false
set_option maxRecDepth 100000

theorem run_int_of {x : Nat} {k : Int} (h : Is x k) (h1 : -9223372036854775808 ≤ k) (h2 : k ≤ 9223372036854775807) (w : World) : (convert 82 3 (.float .f64 x)).run Tryd.prog w = .ok (.int .i64 k) w :=
  run_convert_float_int w 82 3 .f64 .i64 x k (by rw [Tryd.underlying82]; rfl) Tryd.underlying3 (toInt_is h h1 h2)
theorem whole_yes (x k e : Nat) (w : World) (hx : Is x (k : Int)) (hk : k < e) (he : e ≤ 2199023255552) : Calls Tryd.prog 63 #[.float .f64 x, .int .i64 (e : Int)] w fun r w' => r = .returned (.tuple #[.int .i64 (k : Int), .bool true]) ∧ w = w' := by
  have o1 := geq_fin hx.1 is0
  have o2 := lss_fin hx.1 (is_ofInt (e : Int) (by omega) (by omega))
  have o3 := is_eq (is_ofInt (k : Int) (by omega) (by omega)) hx
  have p := one_int_pos
  rw [hx.2, decide_eq_true (by rw [Int.zero_mul]; exact Int.mul_nonneg (by omega) (by omega))] at o1
  rw [hx.2, decide_eq_true (Int.mul_lt_mul_of_pos_right (by omega) p)] at o2
  rw [decide_eq_true rfl] at o3
  have r1 : ∀ w : World, _ := fun w => run_int_of hx (by omega) (by omega) w
  clear p hx
  go_enter Tryd.func63, Tryd.ntmps63
  go_wp2
  go_ret2
  exact ⟨rfl, rfl⟩
theorem find_yes (A : Option Addr) (m c a n x y i l : Nat) (w : World) (h : Rd .i64 w A m (cs a n)) (hb : ∀ j, j < m → lev a n j ≤ 2199023255552) (hmc : m ≤ c) (hcm : c ≤ maxLen) (hl : l < m) (hi : i < lev a n l) (hx : Is x (i : Int)) (hy : Is y (l : Int)) (hm : m ≤ 41) : Calls Tryd.prog 49 #[.slice A m c, .complex .f64 x y] w fun r w' => r = .returned (.tuple #[.int .i64 (i : Int), .int .i64 (l : Int), .bool true]) ∧ w = w' := by
  have HW1 : Hid (∀ w : World, _) := fun w => whole_yes y l m w hy hl (by omega)
  have HW2 : Hid (∀ w : World, _) := fun w => whole_yes x i (lev a n l) w hx hi (hb l hl)
  obtain ⟨ad, q, rfl, hq, hc⟩ := h.get hl
  have hq2 : q = lev a n l := cnts_get _ _ _ _ _ hq
  obtain ⟨t, ht⟩ : ∃ t, lev a n l = t := ⟨_, rfl⟩
  rw [ht] at hq2 HW2
  subst hq2
  clear h hb hx hy hq hi ht
  go_enter Tryd.func49, Tryd.ntmps49
  go_wp2_with fail
  refine (HW1.out _).mono ?_
  rintro e w1 ⟨rfl, rfl⟩
  go_wp2_with fail
  refine (HW2.out _).mono ?_
  rintro e w1 ⟨rfl, rfl⟩
  go_wp2
  go_ret3
  exact ⟨rfl, rfl⟩
theorem Up_any (S B D a n x y i l : Nat) (w : World) (h : Shp S B D a n) (hx : Is x (i : Int)) (hy : Is y (l : Int)) (hi : i ≤ 1099511627776) (hl : l ≤ 100) : Calls Tryd.prog 48 #[.agg #[.int .i64 (S : Int), .int .i64 (B : Int), .int .i64 (D : Int)], .complex .f64 x y] w fun e w' => ∃ x' y', e = .returned (.complex .f64 x' y') ∧ Is x' ((i / a : Nat) : Int) ∧ Is y' ((l + 1 : Nat) : Int) ∧ Below w.heap.size w w' := by
  have HAR : Hid (∀ w : World, _) := fun w => arity_any S B D a n w h
  have ha := h.a2
  have HB1 : Hid (Below w.heap.size w (w.alloc (.cells #[.int .i64 (S : Int), .int .i64 (B : Int), .int .i64 (D : Int)] 44))) := (Below.refl _ _).alloc (Nat.le_refl _) _
  have r1 : ∀ w : World, _ := fun w => run_int_of hx (by omega) (by omega) w
  obtain ⟨y', hr, hy'⟩ := add_is hy is1 (by omega) (by omega) (by omega)
  have r2 : ∀ w : World, _ := fun w => run_float_arith (P := Tryd.prog) w .add 82 .f64 y 4607182418800017408 y' hr
  obtain ⟨q, hq⟩ : ∃ q, i / a = q := ⟨_, rfl⟩
  have q1 : (i : Int).tdiv (a : Int) = (q : Int) := by rw [Int.tdiv_eq_ediv_of_nonneg (by omega), ← hq, Int.natCast_ediv]
  have q3 : (i : Int) / (a : Int) = (q : Int) := by rw [← hq, Int.natCast_ediv]
  have hql : q ≤ i := by rw [← hq]; exact Nat.div_le_self _ _
  have wq : IntKind.i64.wrap (q : Int) = (q : Int) := by rw [IntKind.wrap_i64]; omega
  have az : ¬ (a : Int) = 0 := by omega
  have hy2 : Is y' ((l + 1 : Nat) : Int) := by rw [show ((l + 1 : Nat) : Int) = (l : Int) + 1 by omega]; exact hy'
  have HY := Lib.hid hy2
  have HX := Lib.hid (is_ofInt (q : Int) (by omega) (by omega))
  rw [hq]
  clear hq h hx hy hy' hy2 hr
  go_enter Tryd.func48, Tryd.ntmps48
  go_wp2_with fail
  generalize w.alloc (.cells #[.int .i64 (S : Int), .int .i64 (B : Int), .int .i64 (D : Int)] 44) = W at *
  refine (HAR.out _).mono ?_
  rintro e w1 ⟨rfl, hb1⟩
  have BEL := Lib.hid (below_then HB1.out hb1)
  clear hb1
  go_wp2
  go_ret
  exact ⟨_, _, rfl, HX.out, HY.out, BEL.out⟩
end Go.Proofs.YtfoenafjaaidmaaDoor
