/-
  For every two numbers in limbs LimbsSums returns true. No condition but that two tables of Go's library, which the call does not read, hold what their text lays there.
-/
import Derived.Test.YtbajckbjjepceaaDoorLaw2
import Derived.Test.YtbajckbjjepceaaDoorTie
import Derived.Test.YtbajckbjjepceaaDoorCards
namespace Go.Proofs.YtbajckbjjepceaaDoor.limbsSums
open Go.Proofs.YtbajckbjjepceaaDoor Go.ChangeShapes Go.WideShapes Go.ChangeAt Go.RowKit
set_option linter.unusedVariables false
set_option linter.unusedSimpArgs false

set_option maxHeartbeats 1000000 in
theorem walk_long (A : Option Addr) (n cap : Nat) (A' : Option Addr) (n' cap' : Nat) (w : World) (hl : 300 < n ∨ (n ≤ 300 ∧ 300 < n')) :
    Calls Tryd.prog 4 #[.slice A n cap, .slice A' n' cap'] w fun e w' => e = .returned (.bool true) ∧ Below w.heap.size w w' := by
  rcases hl with h | ⟨h1, h⟩
  all_goals
    have h2 := Int.ofNat_lt.2 h
    go_enter Tryd.func4, Tryd.ntmps4
    go_wp2_with fail
    refine (anchor_any _).mono ?_
    rintro e w1 ⟨rfl, hb1⟩
    go_wp2
    go_ret
    exact ⟨rfl, hb1⟩

set_option maxHeartbeats 1000000 in
theorem walk_no (A : Option Addr) (n cap : Nat) (A' : Option Addr) (n' cap' : Nat) (w : World) (h1 : n ≤ 300) (h2 : n' ≤ 300) (h : okW n = false ∨ (okW n = true ∧ okW n' = false) ∨ (okW n = true ∧ okW n' = true ∧ n ≠ n')) :
    Calls Tryd.prog 4 #[.slice A n cap, .slice A' n' cap'] w fun e w' => e = .returned (.bool true) ∧ Below w.heap.size w w' := by
  have hm : (okW n && okW n') = false ∨ n ≠ n' := by
    rcases h with h | ⟨h, h'⟩ | ⟨h, h', hs⟩
    · exact .inl (by rw [h]; rfl)
    · exact .inl (by rw [h, h']; rfl)
    · exact .inr hs
  have HM := Lib.hid hm
  clear hm
  rcases h with h | ⟨h, h'⟩ | ⟨h, h', hs⟩
  · go_enter Tryd.func4, Tryd.ntmps4
    go_wp2_with fail
    refine (anchor_any _).mono ?_
    rintro e w1 ⟨rfl, hb1⟩
    go_wp2_with fail
    refine (Add_no A A' n cap n' cap' w1 HM.out).mono ?_
    rintro e w2 ⟨rfl, hb2⟩
    go_wp2_with fail
    refine (Sub_no A A' n cap n' cap' w2 HM.out).mono ?_
    rintro e w3 ⟨rfl, hb3⟩
    go_wp2_with (first | (go_at_call 16; refine (right_any _ _ _ _).mono ?_; rintro e w' ⟨rfl, rfl⟩))
    go_ret
    exact ⟨rfl, below_then (below_then hb1 hb2) hb3⟩
  · go_enter Tryd.func4, Tryd.ntmps4
    go_wp2_with fail
    refine (anchor_any _).mono ?_
    rintro e w1 ⟨rfl, hb1⟩
    go_wp2_with fail
    refine (Add_no A A' n cap n' cap' w1 HM.out).mono ?_
    rintro e w2 ⟨rfl, hb2⟩
    go_wp2_with fail
    refine (Sub_no A A' n cap n' cap' w2 HM.out).mono ?_
    rintro e w3 ⟨rfl, hb3⟩
    go_wp2_with (first | (go_at_call 16; refine (right_any _ _ _ _).mono ?_; rintro e w' ⟨rfl, rfl⟩))
    go_ret
    exact ⟨rfl, below_then (below_then hb1 hb2) hb3⟩
  · have hs2 : ((n : Int) != (n' : Int)) = true := by simp; omega
    have hs3 : (n != n') = true := by simp; omega
    go_enter Tryd.func4, Tryd.ntmps4
    go_wp2_with fail
    refine (anchor_any _).mono ?_
    rintro e w1 ⟨rfl, hb1⟩
    go_wp2_with fail
    refine (Add_no A A' n cap n' cap' w1 HM.out).mono ?_
    rintro e w2 ⟨rfl, hb2⟩
    go_wp2_with fail
    refine (Sub_no A A' n cap n' cap' w2 HM.out).mono ?_
    rintro e w3 ⟨rfl, hb3⟩
    go_wp2_with (first | (go_at_call 16; refine (right_any _ _ _ _).mono ?_; rintro e w' ⟨rfl, rfl⟩))
    go_ret
    exact ⟨rfl, below_then (below_then hb1 hb2) hb3⟩

theorem add_over {X N z c : Nat} (h : z + N * c = X) (hz : z < N) (hc : c ≤ 1) : (N ≤ X → c = 1 ∧ z = X - N) ∧ (X < N → c = 0 ∧ z = X) := by
  rcases (by omega : c = 0 ∨ c = 1) with rfl | rfl
  · rw [Nat.mul_zero] at h; exact ⟨fun _ => by omega, fun _ => ⟨rfl, by omega⟩⟩
  · rw [Nat.mul_one] at h; exact ⟨fun _ => ⟨rfl, by omega⟩, fun _ => by omega⟩
theorem sub_under {x y N z u : Nat} (h : z + y = x + N * u) (hz : z < N) (hu : u ≤ 1) (hy : y < N) : (x < y → u = 1 ∧ z = x + N - y) ∧ (y ≤ x → u = 0 ∧ z = x - y) := by
  rcases (by omega : u = 0 ∨ u = 1) with rfl | rfl
  · rw [Nat.mul_zero] at h; exact ⟨fun _ => by omega, fun _ => ⟨rfl, by omega⟩⟩
  · rw [Nat.mul_one] at h; exact ⟨fun _ => ⟨rfl, by omega⟩, fun _ => by omega⟩
theorem digs_mono {a b : Nat} (h : a ≤ b) : (digs a).length ≤ (digs b).length := by
  rw [digs_len]
  have := (digs_len b (digs b).length).1 (Nat.le_refl _)
  omega
theorem digs_sum {x N m : Nat} (hN : N = 256 ^ m) (h : x < 2 * N) : (digs x).length ≤ m + 1 := by
  rw [digs_len, Nat.pow_succ]; omega

set_option maxHeartbeats 2000000 in
theorem walk_over_under (A : Option Addr) (n cap : Nat) (la : List Nat) (A' : Option Addr) (cap' : Nat) (lb : List Nat) (w : World) (g : Rd .u32 w A n la) (hf : Fit 4294967296 la) (g' : Rd .u32 w A' n lb) (hf' : Fit 4294967296 lb) (h1 : 1 ≤ n) (h2 : n ≤ 256) (hov : 4294967296 ^ n ≤ val 4294967296 la + val 4294967296 lb) (hun : val 4294967296 la < val 4294967296 lb) :
    Calls Tryd.prog 4 #[.slice A n cap, .slice A' n cap'] w fun e w' => e = .returned (.bool true) ∧ Below w.heap.size w w' := by
  have HR := Lib.hid g
  have HR' := Lib.hid g'
  have o1 : okW n = true := okW_yes h1 h2
  have b1 : n ≤ 300 := by omega
  have xlt : val 4294967296 la < 4294967296 ^ n := by rw [← g.1]; exact val_lt hf
  have ylt : val 4294967296 lb < 4294967296 ^ n := by rw [← g'.1]; exact val_lt hf'
  have HOV := Lib.hid hov
  have HUN := Lib.hid hun
  have HXY := Lib.hid (And.intro xlt ylt)
  clear g g' hov hun xlt ylt
  go_enter Tryd.func4, Tryd.ntmps4
  go_wp2_with fail
  refine (anchor_any _).mono ?_
  rintro e w1 ⟨rfl, hb1⟩
  go_wp2_with fail
  refine (Add_ok A A' n cap cap' la lb w1 (HR.out.below hb1) (HR'.out.below hb1) hf hf' h1 h2).mono ?_
  rintro e w2 ⟨A2, c, zs, rfl, hc, ⟨hr2, hf2, _, _, hb2⟩, hv2⟩
  have zlt : val 4294967296 zs < 4294967296 ^ n := by rw [← hr2.1]; exact val_lt hf2
  obtain ⟨rfl, hzs⟩ := (add_over hv2 zlt hc).1 HOV.out
  have B2 := below_then hb1 hb2
  have HR2 := Lib.hid hr2
  have HZS := Lib.hid hzs
  clear hr2 hv2 zlt hzs hb2
  go_wp2_with fail
  refine (Sub_ok A A' n cap cap' la lb w2 (HR.out.below B2) (HR'.out.below B2) hf hf' h1 h2).mono ?_
  rintro e w3 ⟨A3, u, ds, rfl, hu, ⟨hr3, hf3, _, _, hb3⟩, hv3⟩
  have dlt : val 4294967296 ds < 4294967296 ^ n := by rw [← hr3.1]; exact val_lt hf3
  obtain ⟨rfl, hds⟩ := (sub_under hv3 dlt hu HXY.out.2).1 HUN.out
  have B3 := below_then B2 hb3
  have HR3 := Lib.hid hr3
  have HDS := Lib.hid hds
  have HR23 := Lib.hid (HR2.out.below hb3)
  clear hr3 hv3 dlt hds hb3 B2
  go_wp2_with (first | (go_at_call 16; refine (right_any _ _ _ _).mono ?_; rintro e w' ⟨rfl, rfl⟩) | fail)
  refine (Digits_any A n cap la w3 (HR.out.below B3) hf (by omega)).mono ?_
  rintro e w4 ⟨A4, m4, c4, rfl, hr4, _, _, hb4⟩
  have HR4 := Lib.hid hr4
  have m4b : m4 ≤ 1200 := by rw [← hr4.1]; have := digs_le hf HR.out.1; omega
  clear hr4
  go_wp2_with fail
  refine (Digits_any A' n cap' lb w4 (HR'.out.below (below_then B3 hb4)) hf' (by omega)).mono ?_
  rintro e w5 ⟨A5, m5, c5, rfl, hr5, _, _, hb5⟩
  have HR5 := Lib.hid hr5
  have m5b : m5 ≤ 1200 := by rw [← hr5.1]; have := digs_le hf' HR'.out.1; omega
  have HR45 := Lib.hid (HR4.out.below hb5)
  have b35 := below_then hb4 hb5
  clear hr5 HR4 hb4 hb5
  go_wp2_with fail
  refine (Power_any _ (4 * n) (by omega) (by omega) w5).mono ?_
  rintro e w6 ⟨A6, m6, c6, rfl, hr6, _, _, hb6⟩
  rw [pow256_32] at hr6
  have HR6 := Lib.hid hr6
  have m6b : m6 ≤ 1200 := by
    rw [← hr6.1]
    have : (digs (4294967296 ^ n)).length ≤ 4 * n + 1 := digs_sum (pow256_32 n).symm (by have := HXY.out.1; omega)
    omega
  have HR46 := Lib.hid (HR45.out.below hb6)
  have HR56 := Lib.hid (HR5.out.below hb6)
  have b36 := below_then b35 hb6
  clear hr6 HR45 HR5 hb6 b35
  go_wp2_with fail
  refine (RefAdd_any A4 A5 m4 c4 m5 c5 _ _ w6 HR46.out HR56.out (digs_fit _) (digs_fit _) (by omega) (by omega)).mono ?_
  rintro e w7 ⟨A7, m7, c7, rfl, hr7, _, _, hb7⟩
  rw [digs_val, digs_val] at hr7
  have HR7 := Lib.hid hr7
  have m7b : m7 ≤ 1201 := by
    rw [← hr7.1]
    have := digs_sum (x := val 4294967296 la + val 4294967296 lb) (pow256_32 n).symm (by have := HXY.out; omega)
    omega
  have HR47 := Lib.hid (HR46.out.below hb7)
  have HR57 := Lib.hid (HR56.out.below hb7)
  have HR67 := Lib.hid (HR6.out.below hb7)
  have b37 := below_then b36 hb7
  clear hr7 HR46 HR56 HR6 hb7 b36
  go_wp2_with fail
  refine (RefCompare_any A7 A6 m7 c7 m6 c6 _ _ w7 HR7.out HR67.out (digs_fit _) (digs_fit _) (digs_tight _) (digs_tight _) (by omega) (by omega)).mono ?_
  rintro e w8 ⟨rfl, hb8⟩
  rw [digs_val, digs_val]
  have ho1 := (ord_ge (val 4294967296 la + val 4294967296 lb) (4294967296 ^ n)).2 HOV.out
  generalize ord (val 4294967296 la + val 4294967296 lb) (4294967296 ^ n) = q1 at ho1 ⊢
  have HR48 := Lib.hid (HR47.out.below hb8)
  have HR58 := Lib.hid (HR57.out.below hb8)
  have HR68 := Lib.hid (HR67.out.below hb8)
  have HR78 := Lib.hid (HR7.out.below hb8)
  have b38 := below_then b37 hb8
  clear HR47 HR57 HR67 HR7 hb8 b37
  go_wp2_with fail
  refine (RefSub_any A7 A6 m7 c7 m6 c6 _ _ w8 HR78.out HR68.out (digs_fit _) (digs_fit _) (by omega) (by rw [← HR78.out.1, ← HR68.out.1]; exact digs_mono HOV.out) (by rw [digs_val, digs_val]; exact HOV.out)).mono ?_
  rintro e w9 ⟨A9, m9, c9, rfl, hr9, _, _, hb9⟩
  rw [digs_val, digs_val, ← HZS.out] at hr9
  have HR9 := Lib.hid hr9
  have m9b : m9 ≤ 1200 := by rw [← hr9.1]; have := digs_le hf2 HR2.out.1; omega
  have HR49 := Lib.hid (HR48.out.below hb9)
  have HR59 := Lib.hid (HR58.out.below hb9)
  have HR69 := Lib.hid (HR68.out.below hb9)
  have b39 := below_then b38 hb9
  clear hr9 HR48 HR58 HR68 HR78 hb9 b38
  go_wp2_with fail
  refine (RefCompare_any A4 A5 m4 c4 m5 c5 _ _ w9 HR49.out HR59.out (digs_fit _) (digs_fit _) (digs_tight _) (digs_tight _) (by omega) (by omega)).mono ?_
  rintro e w10 ⟨rfl, hb10⟩
  rw [digs_val, digs_val]
  have ho2 := (ord_lt (val 4294967296 la) (val 4294967296 lb)).2 HUN.out
  generalize ord (val 4294967296 la) (val 4294967296 lb) = q2 at ho2 ⊢
  have HR4a := Lib.hid (HR49.out.below hb10)
  have HR5a := Lib.hid (HR59.out.below hb10)
  have HR6a := Lib.hid (HR69.out.below hb10)
  have HR9a := Lib.hid (HR9.out.below hb10)
  have b3a := below_then b39 hb10
  clear HR49 HR59 HR69 HR9 hb10 b39
  go_wp2_with fail
  refine (RefAdd_any A4 A6 m4 c4 m6 c6 _ _ w10 HR4a.out HR6a.out (digs_fit _) (digs_fit _) (by omega) (by omega)).mono ?_
  rintro e w11 ⟨A11, m11, c11, rfl, hr11, _, _, hb11⟩
  rw [digs_val, digs_val] at hr11
  have HR11 := Lib.hid hr11
  have m11b : m11 ≤ 1201 := by
    rw [← hr11.1]
    have := digs_sum (x := val 4294967296 la + 4294967296 ^ n) (pow256_32 n).symm (by have := HXY.out; omega)
    omega
  have HR5b := Lib.hid (HR5a.out.below hb11)
  have HR9b := Lib.hid (HR9a.out.below hb11)
  have b3b := below_then b3a hb11
  have hle : val 4294967296 lb ≤ val 4294967296 la + 4294967296 ^ n := by have := HXY.out.2; omega
  have HLE := Lib.hid hle
  clear hr11 HR5a HR9a hb11 b3a hle
  go_wp2_with fail
  refine (is_yes A2 A9 n n m9 c9 zs _ w11 rfl (HR23.out.below b3b) hf2 (by omega) HR9b.out (by omega)).mono ?_
  rintro e w12 ⟨rfl, hb12⟩
  have HR5c := Lib.hid (HR5b.out.below hb12)
  have HR11c := Lib.hid (HR11.out.below hb12)
  have b3c := below_then b3b hb12
  clear HR5b HR11 hb12 b3b
  go_wp2_with fail
  refine (RefSub_any A11 A5 m11 c11 m5 c5 _ _ w12 HR11c.out HR5c.out (digs_fit _) (digs_fit _) (by omega) (by rw [← HR11c.out.1, ← HR5c.out.1]; exact digs_mono HLE.out) (by rw [digs_val, digs_val]; exact HLE.out)).mono ?_
  rintro e w13 ⟨A13, m13, c13, rfl, hr13, _, _, hb13⟩
  rw [digs_val, digs_val, ← HDS.out] at hr13
  have m13b : m13 ≤ 1200 := by rw [← hr13.1]; have := digs_le hf3 HR3.out.1; omega
  have HR13 := Lib.hid hr13
  have b3d := below_then b3c hb13
  clear hr13 hb13 b3c
  go_wp2_with fail
  refine (is_yes A3 A13 n n m13 c13 ds _ w13 rfl (HR3.out.below b3d) hf3 (by omega) HR13.out (by omega)).mono ?_
  rintro e w14 ⟨rfl, hb14⟩
  go_wp2
  go_ret
  exact ⟨rfl, below_then (below_then B3 b3d) hb14⟩

set_option maxHeartbeats 2000000 in
theorem walk_over_above (A : Option Addr) (n cap : Nat) (la : List Nat) (A' : Option Addr) (cap' : Nat) (lb : List Nat) (w : World) (g : Rd .u32 w A n la) (hf : Fit 4294967296 la) (g' : Rd .u32 w A' n lb) (hf' : Fit 4294967296 lb) (h1 : 1 ≤ n) (h2 : n ≤ 256) (hov : 4294967296 ^ n ≤ val 4294967296 la + val 4294967296 lb) (hun : val 4294967296 lb ≤ val 4294967296 la) :
    Calls Tryd.prog 4 #[.slice A n cap, .slice A' n cap'] w fun e w' => e = .returned (.bool true) ∧ Below w.heap.size w w' := by
  have HR := Lib.hid g
  have HR' := Lib.hid g'
  have o1 : okW n = true := okW_yes h1 h2
  have b1 : n ≤ 300 := by omega
  have xlt : val 4294967296 la < 4294967296 ^ n := by rw [← g.1]; exact val_lt hf
  have ylt : val 4294967296 lb < 4294967296 ^ n := by rw [← g'.1]; exact val_lt hf'
  have HOV := Lib.hid hov
  have HUN := Lib.hid hun
  have HXY := Lib.hid (And.intro xlt ylt)
  clear g g' hov hun xlt ylt
  go_enter Tryd.func4, Tryd.ntmps4
  go_wp2_with fail
  refine (anchor_any _).mono ?_
  rintro e w1 ⟨rfl, hb1⟩
  go_wp2_with fail
  refine (Add_ok A A' n cap cap' la lb w1 (HR.out.below hb1) (HR'.out.below hb1) hf hf' h1 h2).mono ?_
  rintro e w2 ⟨A2, c, zs, rfl, hc, ⟨hr2, hf2, _, _, hb2⟩, hv2⟩
  have zlt : val 4294967296 zs < 4294967296 ^ n := by rw [← hr2.1]; exact val_lt hf2
  obtain ⟨rfl, hzs⟩ := (add_over hv2 zlt hc).1 HOV.out
  have B2 := below_then hb1 hb2
  have HR2 := Lib.hid hr2
  have HZS := Lib.hid hzs
  clear hr2 hv2 zlt hzs hb2
  go_wp2_with fail
  refine (Sub_ok A A' n cap cap' la lb w2 (HR.out.below B2) (HR'.out.below B2) hf hf' h1 h2).mono ?_
  rintro e w3 ⟨A3, u, ds, rfl, hu, ⟨hr3, hf3, _, _, hb3⟩, hv3⟩
  have dlt : val 4294967296 ds < 4294967296 ^ n := by rw [← hr3.1]; exact val_lt hf3
  obtain ⟨rfl, hds⟩ := (sub_under hv3 dlt hu HXY.out.2).2 HUN.out
  have B3 := below_then B2 hb3
  have HR3 := Lib.hid hr3
  have HDS := Lib.hid hds
  have HR23 := Lib.hid (HR2.out.below hb3)
  clear hr3 hv3 dlt hds hb3 B2
  go_wp2_with (first | (go_at_call 16; refine (right_any _ _ _ _).mono ?_; rintro e w' ⟨rfl, rfl⟩) | fail)
  refine (Digits_any A n cap la w3 (HR.out.below B3) hf (by omega)).mono ?_
  rintro e w4 ⟨A4, m4, c4, rfl, hr4, _, _, hb4⟩
  have HR4 := Lib.hid hr4
  have m4b : m4 ≤ 1200 := by rw [← hr4.1]; have := digs_le hf HR.out.1; omega
  clear hr4
  go_wp2_with fail
  refine (Digits_any A' n cap' lb w4 (HR'.out.below (below_then B3 hb4)) hf' (by omega)).mono ?_
  rintro e w5 ⟨A5, m5, c5, rfl, hr5, _, _, hb5⟩
  have HR5 := Lib.hid hr5
  have m5b : m5 ≤ 1200 := by rw [← hr5.1]; have := digs_le hf' HR'.out.1; omega
  have HR45 := Lib.hid (HR4.out.below hb5)
  have b35 := below_then hb4 hb5
  clear hr5 HR4 hb4 hb5
  go_wp2_with fail
  refine (Power_any _ (4 * n) (by omega) (by omega) w5).mono ?_
  rintro e w6 ⟨A6, m6, c6, rfl, hr6, _, _, hb6⟩
  rw [pow256_32] at hr6
  have HR6 := Lib.hid hr6
  have m6b : m6 ≤ 1200 := by
    rw [← hr6.1]
    have : (digs (4294967296 ^ n)).length ≤ 4 * n + 1 := digs_sum (pow256_32 n).symm (by have := HXY.out.1; omega)
    omega
  have HR46 := Lib.hid (HR45.out.below hb6)
  have HR56 := Lib.hid (HR5.out.below hb6)
  have b36 := below_then b35 hb6
  clear hr6 HR45 HR5 hb6 b35
  go_wp2_with fail
  refine (RefAdd_any A4 A5 m4 c4 m5 c5 _ _ w6 HR46.out HR56.out (digs_fit _) (digs_fit _) (by omega) (by omega)).mono ?_
  rintro e w7 ⟨A7, m7, c7, rfl, hr7, _, _, hb7⟩
  rw [digs_val, digs_val] at hr7
  have HR7 := Lib.hid hr7
  have m7b : m7 ≤ 1201 := by
    rw [← hr7.1]
    have := digs_sum (x := val 4294967296 la + val 4294967296 lb) (pow256_32 n).symm (by have := HXY.out; omega)
    omega
  have HR47 := Lib.hid (HR46.out.below hb7)
  have HR57 := Lib.hid (HR56.out.below hb7)
  have HR67 := Lib.hid (HR6.out.below hb7)
  have b37 := below_then b36 hb7
  clear hr7 HR46 HR56 HR6 hb7 b36
  go_wp2_with fail
  refine (RefCompare_any A7 A6 m7 c7 m6 c6 _ _ w7 HR7.out HR67.out (digs_fit _) (digs_fit _) (digs_tight _) (digs_tight _) (by omega) (by omega)).mono ?_
  rintro e w8 ⟨rfl, hb8⟩
  rw [digs_val, digs_val]
  have ho1 := (ord_ge (val 4294967296 la + val 4294967296 lb) (4294967296 ^ n)).2 HOV.out
  generalize ord (val 4294967296 la + val 4294967296 lb) (4294967296 ^ n) = q1 at ho1 ⊢
  have HR48 := Lib.hid (HR47.out.below hb8)
  have HR58 := Lib.hid (HR57.out.below hb8)
  have HR68 := Lib.hid (HR67.out.below hb8)
  have HR78 := Lib.hid (HR7.out.below hb8)
  have b38 := below_then b37 hb8
  clear HR47 HR57 HR67 HR7 hb8 b37
  go_wp2_with fail
  refine (RefSub_any A7 A6 m7 c7 m6 c6 _ _ w8 HR78.out HR68.out (digs_fit _) (digs_fit _) (by omega) (by rw [← HR78.out.1, ← HR68.out.1]; exact digs_mono HOV.out) (by rw [digs_val, digs_val]; exact HOV.out)).mono ?_
  rintro e w9 ⟨A9, m9, c9, rfl, hr9, _, _, hb9⟩
  rw [digs_val, digs_val, ← HZS.out] at hr9
  have HR9 := Lib.hid hr9
  have m9b : m9 ≤ 1200 := by rw [← hr9.1]; have := digs_le hf2 HR2.out.1; omega
  have HR49 := Lib.hid (HR48.out.below hb9)
  have HR59 := Lib.hid (HR58.out.below hb9)
  have HR69 := Lib.hid (HR68.out.below hb9)
  have b39 := below_then b38 hb9
  clear hr9 HR48 HR58 HR68 HR78 hb9 b38
  go_wp2_with fail
  refine (RefCompare_any A4 A5 m4 c4 m5 c5 _ _ w9 HR49.out HR59.out (digs_fit _) (digs_fit _) (digs_tight _) (digs_tight _) (by omega) (by omega)).mono ?_
  rintro e w10 ⟨rfl, hb10⟩
  rw [digs_val, digs_val]
  have ho2 := (ord_ge (val 4294967296 la) (val 4294967296 lb)).2 HUN.out
  generalize ord (val 4294967296 la) (val 4294967296 lb) = q2 at ho2 ⊢
  have hd2 : decide (q2 < 0) = false := decide_eq_false (by omega)
  have HR4a := Lib.hid (HR49.out.below hb10)
  have HR5a := Lib.hid (HR59.out.below hb10)
  have HR6a := Lib.hid (HR69.out.below hb10)
  have HR9a := Lib.hid (HR9.out.below hb10)
  have b3a := below_then b39 hb10
  clear HR49 HR59 HR69 HR9 hb10 b39
  go_wp2_with fail
  obtain ⟨A11, hA11⟩ : ∃ A11, A11 = A4 := ⟨_, rfl⟩
  obtain ⟨m11, hm11⟩ : ∃ m11, m11 = m4 := ⟨_, rfl⟩
  obtain ⟨c11, hc11⟩ : ∃ c11, c11 = c4 := ⟨_, rfl⟩
  obtain ⟨w11, hw11⟩ : ∃ w11, w11 = w10 := ⟨_, rfl⟩
  have hr11 := HR4a.out
  have hr5b := HR5a.out
  have hr9b := HR9a.out
  have b3b := b3a
  rw [← hA11, ← hm11, ← hw11] at hr11
  rw [← hw11] at hr5b hr9b b3b
  rw [← hA11, ← hm11, ← hc11, ← hw11]
  have m11b : m11 ≤ 1201 := by omega
  have HR11 := Lib.hid hr11
  have HR5b := Lib.hid hr5b
  have HR9b := Lib.hid hr9b
  have HLE := HUN
  clear hA11 hm11 hc11 hw11 hr11 hr5b hr9b HR4a HR5a HR9a b3a
  refine (is_yes A2 A9 n n m9 c9 zs _ w11 rfl (HR23.out.below b3b) hf2 (by omega) HR9b.out (by omega)).mono ?_
  rintro e w12 ⟨rfl, hb12⟩
  have HR5c := Lib.hid (HR5b.out.below hb12)
  have HR11c := Lib.hid (HR11.out.below hb12)
  have b3c := below_then b3b hb12
  clear HR5b HR11 hb12 b3b
  go_wp2_with fail
  refine (RefSub_any A11 A5 m11 c11 m5 c5 _ _ w12 HR11c.out HR5c.out (digs_fit _) (digs_fit _) (by omega) (by rw [← HR11c.out.1, ← HR5c.out.1]; exact digs_mono HLE.out) (by rw [digs_val, digs_val]; exact HLE.out)).mono ?_
  rintro e w13 ⟨A13, m13, c13, rfl, hr13, _, _, hb13⟩
  rw [digs_val, digs_val, ← HDS.out] at hr13
  have m13b : m13 ≤ 1200 := by rw [← hr13.1]; have := digs_le hf3 HR3.out.1; omega
  have HR13 := Lib.hid hr13
  have b3d := below_then b3c hb13
  clear hr13 hb13 b3c
  go_wp2_with fail
  refine (is_yes A3 A13 n n m13 c13 ds _ w13 rfl (HR3.out.below b3d) hf3 (by omega) HR13.out (by omega)).mono ?_
  rintro e w14 ⟨rfl, hb14⟩
  go_wp2
  go_ret
  exact ⟨rfl, below_then (below_then B3 b3d) hb14⟩

set_option maxHeartbeats 2000000 in
theorem walk_within_under (A : Option Addr) (n cap : Nat) (la : List Nat) (A' : Option Addr) (cap' : Nat) (lb : List Nat) (w : World) (g : Rd .u32 w A n la) (hf : Fit 4294967296 la) (g' : Rd .u32 w A' n lb) (hf' : Fit 4294967296 lb) (h1 : 1 ≤ n) (h2 : n ≤ 256) (hov : val 4294967296 la + val 4294967296 lb < 4294967296 ^ n) (hun : val 4294967296 la < val 4294967296 lb) :
    Calls Tryd.prog 4 #[.slice A n cap, .slice A' n cap'] w fun e w' => e = .returned (.bool true) ∧ Below w.heap.size w w' := by
  have HR := Lib.hid g
  have HR' := Lib.hid g'
  have o1 : okW n = true := okW_yes h1 h2
  have b1 : n ≤ 300 := by omega
  have xlt : val 4294967296 la < 4294967296 ^ n := by rw [← g.1]; exact val_lt hf
  have ylt : val 4294967296 lb < 4294967296 ^ n := by rw [← g'.1]; exact val_lt hf'
  have HOV := Lib.hid hov
  have HUN := Lib.hid hun
  have HXY := Lib.hid (And.intro xlt ylt)
  clear g g' hov hun xlt ylt
  go_enter Tryd.func4, Tryd.ntmps4
  go_wp2_with fail
  refine (anchor_any _).mono ?_
  rintro e w1 ⟨rfl, hb1⟩
  go_wp2_with fail
  refine (Add_ok A A' n cap cap' la lb w1 (HR.out.below hb1) (HR'.out.below hb1) hf hf' h1 h2).mono ?_
  rintro e w2 ⟨A2, c, zs, rfl, hc, ⟨hr2, hf2, _, _, hb2⟩, hv2⟩
  have zlt : val 4294967296 zs < 4294967296 ^ n := by rw [← hr2.1]; exact val_lt hf2
  obtain ⟨rfl, hzs⟩ := (add_over hv2 zlt hc).2 HOV.out
  have B2 := below_then hb1 hb2
  have HR2 := Lib.hid hr2
  have HZS := Lib.hid hzs
  clear hr2 hv2 zlt hzs hb2
  go_wp2_with fail
  refine (Sub_ok A A' n cap cap' la lb w2 (HR.out.below B2) (HR'.out.below B2) hf hf' h1 h2).mono ?_
  rintro e w3 ⟨A3, u, ds, rfl, hu, ⟨hr3, hf3, _, _, hb3⟩, hv3⟩
  have dlt : val 4294967296 ds < 4294967296 ^ n := by rw [← hr3.1]; exact val_lt hf3
  obtain ⟨rfl, hds⟩ := (sub_under hv3 dlt hu HXY.out.2).1 HUN.out
  have B3 := below_then B2 hb3
  have HR3 := Lib.hid hr3
  have HDS := Lib.hid hds
  have HR23 := Lib.hid (HR2.out.below hb3)
  clear hr3 hv3 dlt hds hb3 B2
  go_wp2_with (first | (go_at_call 16; refine (right_any _ _ _ _).mono ?_; rintro e w' ⟨rfl, rfl⟩) | fail)
  refine (Digits_any A n cap la w3 (HR.out.below B3) hf (by omega)).mono ?_
  rintro e w4 ⟨A4, m4, c4, rfl, hr4, _, _, hb4⟩
  have HR4 := Lib.hid hr4
  have m4b : m4 ≤ 1200 := by rw [← hr4.1]; have := digs_le hf HR.out.1; omega
  clear hr4
  go_wp2_with fail
  refine (Digits_any A' n cap' lb w4 (HR'.out.below (below_then B3 hb4)) hf' (by omega)).mono ?_
  rintro e w5 ⟨A5, m5, c5, rfl, hr5, _, _, hb5⟩
  have HR5 := Lib.hid hr5
  have m5b : m5 ≤ 1200 := by rw [← hr5.1]; have := digs_le hf' HR'.out.1; omega
  have HR45 := Lib.hid (HR4.out.below hb5)
  have b35 := below_then hb4 hb5
  clear hr5 HR4 hb4 hb5
  go_wp2_with fail
  refine (Power_any _ (4 * n) (by omega) (by omega) w5).mono ?_
  rintro e w6 ⟨A6, m6, c6, rfl, hr6, _, _, hb6⟩
  rw [pow256_32] at hr6
  have HR6 := Lib.hid hr6
  have m6b : m6 ≤ 1200 := by
    rw [← hr6.1]
    have : (digs (4294967296 ^ n)).length ≤ 4 * n + 1 := digs_sum (pow256_32 n).symm (by have := HXY.out.1; omega)
    omega
  have HR46 := Lib.hid (HR45.out.below hb6)
  have HR56 := Lib.hid (HR5.out.below hb6)
  have b36 := below_then b35 hb6
  clear hr6 HR45 HR5 hb6 b35
  go_wp2_with fail
  refine (RefAdd_any A4 A5 m4 c4 m5 c5 _ _ w6 HR46.out HR56.out (digs_fit _) (digs_fit _) (by omega) (by omega)).mono ?_
  rintro e w7 ⟨A7, m7, c7, rfl, hr7, _, _, hb7⟩
  rw [digs_val, digs_val] at hr7
  have HR7 := Lib.hid hr7
  have m7b : m7 ≤ 1201 := by
    rw [← hr7.1]
    have := digs_sum (x := val 4294967296 la + val 4294967296 lb) (pow256_32 n).symm (by have := HXY.out; omega)
    omega
  have HR47 := Lib.hid (HR46.out.below hb7)
  have HR57 := Lib.hid (HR56.out.below hb7)
  have HR67 := Lib.hid (HR6.out.below hb7)
  have b37 := below_then b36 hb7
  clear hr7 HR46 HR56 HR6 hb7 b36
  go_wp2_with fail
  refine (RefCompare_any A7 A6 m7 c7 m6 c6 _ _ w7 HR7.out HR67.out (digs_fit _) (digs_fit _) (digs_tight _) (digs_tight _) (by omega) (by omega)).mono ?_
  rintro e w8 ⟨rfl, hb8⟩
  rw [digs_val, digs_val]
  have ho1 := (ord_lt (val 4294967296 la + val 4294967296 lb) (4294967296 ^ n)).2 HOV.out
  generalize ord (val 4294967296 la + val 4294967296 lb) (4294967296 ^ n) = q1 at ho1 ⊢
  have hd1 : decide (0 ≤ q1) = false := decide_eq_false (by omega)
  have HR48 := Lib.hid (HR47.out.below hb8)
  have HR58 := Lib.hid (HR57.out.below hb8)
  have HR68 := Lib.hid (HR67.out.below hb8)
  have HR78 := Lib.hid (HR7.out.below hb8)
  have b38 := below_then b37 hb8
  clear HR47 HR57 HR67 HR7 hb8 b37
  go_wp2_with fail
  obtain ⟨A9, hA9⟩ : ∃ A9, A9 = A7 := ⟨_, rfl⟩
  obtain ⟨m9, hm9⟩ : ∃ m9, m9 = m7 := ⟨_, rfl⟩
  obtain ⟨c9, hc9⟩ : ∃ c9, c9 = c7 := ⟨_, rfl⟩
  obtain ⟨w9, hw9⟩ : ∃ w9, w9 = w8 := ⟨_, rfl⟩
  have hr9 := HR78.out
  have hb9 : Below w8.heap.size w8 w9 := by rw [hw9]; exact below_self
  rw [← hA9, ← hm9, ← hw9, ← HZS.out] at hr9
  rw [← hA9, ← hm9, ← hc9, ← hw9]
  clear hA9 hm9 hc9 hw9
  have HR9 := Lib.hid hr9
  have m9b : m9 ≤ 1200 := by rw [← hr9.1]; have := digs_le hf2 HR2.out.1; omega
  have HR49 := Lib.hid (HR48.out.below hb9)
  have HR59 := Lib.hid (HR58.out.below hb9)
  have HR69 := Lib.hid (HR68.out.below hb9)
  have b39 := below_then b38 hb9
  clear hr9 HR48 HR58 HR68 HR78 hb9 b38
  refine (RefCompare_any A4 A5 m4 c4 m5 c5 _ _ w9 HR49.out HR59.out (digs_fit _) (digs_fit _) (digs_tight _) (digs_tight _) (by omega) (by omega)).mono ?_
  rintro e w10 ⟨rfl, hb10⟩
  rw [digs_val, digs_val]
  have ho2 := (ord_lt (val 4294967296 la) (val 4294967296 lb)).2 HUN.out
  generalize ord (val 4294967296 la) (val 4294967296 lb) = q2 at ho2 ⊢
  have HR4a := Lib.hid (HR49.out.below hb10)
  have HR5a := Lib.hid (HR59.out.below hb10)
  have HR6a := Lib.hid (HR69.out.below hb10)
  have HR9a := Lib.hid (HR9.out.below hb10)
  have b3a := below_then b39 hb10
  clear HR49 HR59 HR69 HR9 hb10 b39
  go_wp2_with fail
  refine (RefAdd_any A4 A6 m4 c4 m6 c6 _ _ w10 HR4a.out HR6a.out (digs_fit _) (digs_fit _) (by omega) (by omega)).mono ?_
  rintro e w11 ⟨A11, m11, c11, rfl, hr11, _, _, hb11⟩
  rw [digs_val, digs_val] at hr11
  have HR11 := Lib.hid hr11
  have m11b : m11 ≤ 1201 := by
    rw [← hr11.1]
    have := digs_sum (x := val 4294967296 la + 4294967296 ^ n) (pow256_32 n).symm (by have := HXY.out; omega)
    omega
  have HR5b := Lib.hid (HR5a.out.below hb11)
  have HR9b := Lib.hid (HR9a.out.below hb11)
  have b3b := below_then b3a hb11
  have hle : val 4294967296 lb ≤ val 4294967296 la + 4294967296 ^ n := by have := HXY.out.2; omega
  have HLE := Lib.hid hle
  clear hr11 HR5a HR9a hb11 b3a hle
  go_wp2_with fail
  refine (is_yes A2 A9 n n m9 c9 zs _ w11 rfl (HR23.out.below b3b) hf2 (by omega) HR9b.out (by omega)).mono ?_
  rintro e w12 ⟨rfl, hb12⟩
  have HR5c := Lib.hid (HR5b.out.below hb12)
  have HR11c := Lib.hid (HR11.out.below hb12)
  have b3c := below_then b3b hb12
  clear HR5b HR11 hb12 b3b
  go_wp2_with fail
  refine (RefSub_any A11 A5 m11 c11 m5 c5 _ _ w12 HR11c.out HR5c.out (digs_fit _) (digs_fit _) (by omega) (by rw [← HR11c.out.1, ← HR5c.out.1]; exact digs_mono HLE.out) (by rw [digs_val, digs_val]; exact HLE.out)).mono ?_
  rintro e w13 ⟨A13, m13, c13, rfl, hr13, _, _, hb13⟩
  rw [digs_val, digs_val, ← HDS.out] at hr13
  have m13b : m13 ≤ 1200 := by rw [← hr13.1]; have := digs_le hf3 HR3.out.1; omega
  have HR13 := Lib.hid hr13
  have b3d := below_then b3c hb13
  clear hr13 hb13 b3c
  go_wp2_with fail
  refine (is_yes A3 A13 n n m13 c13 ds _ w13 rfl (HR3.out.below b3d) hf3 (by omega) HR13.out (by omega)).mono ?_
  rintro e w14 ⟨rfl, hb14⟩
  go_wp2
  go_ret
  exact ⟨rfl, below_then (below_then B3 b3d) hb14⟩

set_option maxHeartbeats 2000000 in
theorem walk_within_above (A : Option Addr) (n cap : Nat) (la : List Nat) (A' : Option Addr) (cap' : Nat) (lb : List Nat) (w : World) (g : Rd .u32 w A n la) (hf : Fit 4294967296 la) (g' : Rd .u32 w A' n lb) (hf' : Fit 4294967296 lb) (h1 : 1 ≤ n) (h2 : n ≤ 256) (hov : val 4294967296 la + val 4294967296 lb < 4294967296 ^ n) (hun : val 4294967296 lb ≤ val 4294967296 la) :
    Calls Tryd.prog 4 #[.slice A n cap, .slice A' n cap'] w fun e w' => e = .returned (.bool true) ∧ Below w.heap.size w w' := by
  have HR := Lib.hid g
  have HR' := Lib.hid g'
  have o1 : okW n = true := okW_yes h1 h2
  have b1 : n ≤ 300 := by omega
  have xlt : val 4294967296 la < 4294967296 ^ n := by rw [← g.1]; exact val_lt hf
  have ylt : val 4294967296 lb < 4294967296 ^ n := by rw [← g'.1]; exact val_lt hf'
  have HOV := Lib.hid hov
  have HUN := Lib.hid hun
  have HXY := Lib.hid (And.intro xlt ylt)
  clear g g' hov hun xlt ylt
  go_enter Tryd.func4, Tryd.ntmps4
  go_wp2_with fail
  refine (anchor_any _).mono ?_
  rintro e w1 ⟨rfl, hb1⟩
  go_wp2_with fail
  refine (Add_ok A A' n cap cap' la lb w1 (HR.out.below hb1) (HR'.out.below hb1) hf hf' h1 h2).mono ?_
  rintro e w2 ⟨A2, c, zs, rfl, hc, ⟨hr2, hf2, _, _, hb2⟩, hv2⟩
  have zlt : val 4294967296 zs < 4294967296 ^ n := by rw [← hr2.1]; exact val_lt hf2
  obtain ⟨rfl, hzs⟩ := (add_over hv2 zlt hc).2 HOV.out
  have B2 := below_then hb1 hb2
  have HR2 := Lib.hid hr2
  have HZS := Lib.hid hzs
  clear hr2 hv2 zlt hzs hb2
  go_wp2_with fail
  refine (Sub_ok A A' n cap cap' la lb w2 (HR.out.below B2) (HR'.out.below B2) hf hf' h1 h2).mono ?_
  rintro e w3 ⟨A3, u, ds, rfl, hu, ⟨hr3, hf3, _, _, hb3⟩, hv3⟩
  have dlt : val 4294967296 ds < 4294967296 ^ n := by rw [← hr3.1]; exact val_lt hf3
  obtain ⟨rfl, hds⟩ := (sub_under hv3 dlt hu HXY.out.2).2 HUN.out
  have B3 := below_then B2 hb3
  have HR3 := Lib.hid hr3
  have HDS := Lib.hid hds
  have HR23 := Lib.hid (HR2.out.below hb3)
  clear hr3 hv3 dlt hds hb3 B2
  go_wp2_with (first | (go_at_call 16; refine (right_any _ _ _ _).mono ?_; rintro e w' ⟨rfl, rfl⟩) | fail)
  refine (Digits_any A n cap la w3 (HR.out.below B3) hf (by omega)).mono ?_
  rintro e w4 ⟨A4, m4, c4, rfl, hr4, _, _, hb4⟩
  have HR4 := Lib.hid hr4
  have m4b : m4 ≤ 1200 := by rw [← hr4.1]; have := digs_le hf HR.out.1; omega
  clear hr4
  go_wp2_with fail
  refine (Digits_any A' n cap' lb w4 (HR'.out.below (below_then B3 hb4)) hf' (by omega)).mono ?_
  rintro e w5 ⟨A5, m5, c5, rfl, hr5, _, _, hb5⟩
  have HR5 := Lib.hid hr5
  have m5b : m5 ≤ 1200 := by rw [← hr5.1]; have := digs_le hf' HR'.out.1; omega
  have HR45 := Lib.hid (HR4.out.below hb5)
  have b35 := below_then hb4 hb5
  clear hr5 HR4 hb4 hb5
  go_wp2_with fail
  refine (Power_any _ (4 * n) (by omega) (by omega) w5).mono ?_
  rintro e w6 ⟨A6, m6, c6, rfl, hr6, _, _, hb6⟩
  rw [pow256_32] at hr6
  have HR6 := Lib.hid hr6
  have m6b : m6 ≤ 1200 := by
    rw [← hr6.1]
    have : (digs (4294967296 ^ n)).length ≤ 4 * n + 1 := digs_sum (pow256_32 n).symm (by have := HXY.out.1; omega)
    omega
  have HR46 := Lib.hid (HR45.out.below hb6)
  have HR56 := Lib.hid (HR5.out.below hb6)
  have b36 := below_then b35 hb6
  clear hr6 HR45 HR5 hb6 b35
  go_wp2_with fail
  refine (RefAdd_any A4 A5 m4 c4 m5 c5 _ _ w6 HR46.out HR56.out (digs_fit _) (digs_fit _) (by omega) (by omega)).mono ?_
  rintro e w7 ⟨A7, m7, c7, rfl, hr7, _, _, hb7⟩
  rw [digs_val, digs_val] at hr7
  have HR7 := Lib.hid hr7
  have m7b : m7 ≤ 1201 := by
    rw [← hr7.1]
    have := digs_sum (x := val 4294967296 la + val 4294967296 lb) (pow256_32 n).symm (by have := HXY.out; omega)
    omega
  have HR47 := Lib.hid (HR46.out.below hb7)
  have HR57 := Lib.hid (HR56.out.below hb7)
  have HR67 := Lib.hid (HR6.out.below hb7)
  have b37 := below_then b36 hb7
  clear hr7 HR46 HR56 HR6 hb7 b36
  go_wp2_with fail
  refine (RefCompare_any A7 A6 m7 c7 m6 c6 _ _ w7 HR7.out HR67.out (digs_fit _) (digs_fit _) (digs_tight _) (digs_tight _) (by omega) (by omega)).mono ?_
  rintro e w8 ⟨rfl, hb8⟩
  rw [digs_val, digs_val]
  have ho1 := (ord_lt (val 4294967296 la + val 4294967296 lb) (4294967296 ^ n)).2 HOV.out
  generalize ord (val 4294967296 la + val 4294967296 lb) (4294967296 ^ n) = q1 at ho1 ⊢
  have hd1 : decide (0 ≤ q1) = false := decide_eq_false (by omega)
  have HR48 := Lib.hid (HR47.out.below hb8)
  have HR58 := Lib.hid (HR57.out.below hb8)
  have HR68 := Lib.hid (HR67.out.below hb8)
  have HR78 := Lib.hid (HR7.out.below hb8)
  have b38 := below_then b37 hb8
  clear HR47 HR57 HR67 HR7 hb8 b37
  go_wp2_with fail
  obtain ⟨A9, hA9⟩ : ∃ A9, A9 = A7 := ⟨_, rfl⟩
  obtain ⟨m9, hm9⟩ : ∃ m9, m9 = m7 := ⟨_, rfl⟩
  obtain ⟨c9, hc9⟩ : ∃ c9, c9 = c7 := ⟨_, rfl⟩
  obtain ⟨w9, hw9⟩ : ∃ w9, w9 = w8 := ⟨_, rfl⟩
  have hr9 := HR78.out
  have hb9 : Below w8.heap.size w8 w9 := by rw [hw9]; exact below_self
  rw [← hA9, ← hm9, ← hw9, ← HZS.out] at hr9
  rw [← hA9, ← hm9, ← hc9, ← hw9]
  clear hA9 hm9 hc9 hw9
  have HR9 := Lib.hid hr9
  have m9b : m9 ≤ 1200 := by rw [← hr9.1]; have := digs_le hf2 HR2.out.1; omega
  have HR49 := Lib.hid (HR48.out.below hb9)
  have HR59 := Lib.hid (HR58.out.below hb9)
  have HR69 := Lib.hid (HR68.out.below hb9)
  have b39 := below_then b38 hb9
  clear hr9 HR48 HR58 HR68 HR78 hb9 b38
  refine (RefCompare_any A4 A5 m4 c4 m5 c5 _ _ w9 HR49.out HR59.out (digs_fit _) (digs_fit _) (digs_tight _) (digs_tight _) (by omega) (by omega)).mono ?_
  rintro e w10 ⟨rfl, hb10⟩
  rw [digs_val, digs_val]
  have ho2 := (ord_ge (val 4294967296 la) (val 4294967296 lb)).2 HUN.out
  generalize ord (val 4294967296 la) (val 4294967296 lb) = q2 at ho2 ⊢
  have hd2 : decide (q2 < 0) = false := decide_eq_false (by omega)
  have HR4a := Lib.hid (HR49.out.below hb10)
  have HR5a := Lib.hid (HR59.out.below hb10)
  have HR6a := Lib.hid (HR69.out.below hb10)
  have HR9a := Lib.hid (HR9.out.below hb10)
  have b3a := below_then b39 hb10
  clear HR49 HR59 HR69 HR9 hb10 b39
  go_wp2_with fail
  obtain ⟨A11, hA11⟩ : ∃ A11, A11 = A4 := ⟨_, rfl⟩
  obtain ⟨m11, hm11⟩ : ∃ m11, m11 = m4 := ⟨_, rfl⟩
  obtain ⟨c11, hc11⟩ : ∃ c11, c11 = c4 := ⟨_, rfl⟩
  obtain ⟨w11, hw11⟩ : ∃ w11, w11 = w10 := ⟨_, rfl⟩
  have hr11 := HR4a.out
  have hr5b := HR5a.out
  have hr9b := HR9a.out
  have b3b := b3a
  rw [← hA11, ← hm11, ← hw11] at hr11
  rw [← hw11] at hr5b hr9b b3b
  rw [← hA11, ← hm11, ← hc11, ← hw11]
  have m11b : m11 ≤ 1201 := by omega
  have HR11 := Lib.hid hr11
  have HR5b := Lib.hid hr5b
  have HR9b := Lib.hid hr9b
  have HLE := HUN
  clear hA11 hm11 hc11 hw11 hr11 hr5b hr9b HR4a HR5a HR9a b3a
  refine (is_yes A2 A9 n n m9 c9 zs _ w11 rfl (HR23.out.below b3b) hf2 (by omega) HR9b.out (by omega)).mono ?_
  rintro e w12 ⟨rfl, hb12⟩
  have HR5c := Lib.hid (HR5b.out.below hb12)
  have HR11c := Lib.hid (HR11.out.below hb12)
  have b3c := below_then b3b hb12
  clear HR5b HR11 hb12 b3b
  go_wp2_with fail
  refine (RefSub_any A11 A5 m11 c11 m5 c5 _ _ w12 HR11c.out HR5c.out (digs_fit _) (digs_fit _) (by omega) (by rw [← HR11c.out.1, ← HR5c.out.1]; exact digs_mono HLE.out) (by rw [digs_val, digs_val]; exact HLE.out)).mono ?_
  rintro e w13 ⟨A13, m13, c13, rfl, hr13, _, _, hb13⟩
  rw [digs_val, digs_val, ← HDS.out] at hr13
  have m13b : m13 ≤ 1200 := by rw [← hr13.1]; have := digs_le hf3 HR3.out.1; omega
  have HR13 := Lib.hid hr13
  have b3d := below_then b3c hb13
  clear hr13 hb13 b3c
  go_wp2_with fail
  refine (is_yes A3 A13 n n m13 c13 ds _ w13 rfl (HR3.out.below b3d) hf3 (by omega) HR13.out (by omega)).mono ?_
  rintro e w14 ⟨rfl, hb14⟩
  go_wp2
  go_ret
  exact ⟨rfl, below_then (below_then B3 b3d) hb14⟩

theorem walk (A : Option Addr) (n cap : Nat) (la : List Nat) (A' : Option Addr) (n' cap' : Nat) (lb : List Nat) (w : World) (g : Rd .u32 w A n la) (hf : Fit 4294967296 la) (hc : n ≤ cap) (hm : cap ≤ maxLen) (g' : Rd .u32 w A' n' lb) (hf' : Fit 4294967296 lb) (hc' : n' ≤ cap') (hm' : cap' ≤ maxLen) :
    Calls Tryd.prog 4 #[.slice A n cap, .slice A' n' cap'] w fun e w' => e = .returned (.bool true) ∧ Below w.heap.size w w' := by
  by_cases h1 : 300 < n
  · exact walk_long A n cap A' n' cap' w (.inl h1)
  · by_cases h2 : 300 < n'
    · exact walk_long A n cap A' n' cap' w (.inr ⟨by omega, h2⟩)
    · cases q1 : okW n with
      | false => exact walk_no A n cap A' n' cap' w (by omega) (by omega) (.inl q1)
      | true =>
        cases q2 : okW n' with
        | false => exact walk_no A n cap A' n' cap' w (by omega) (by omega) (.inr (.inl ⟨q1, q2⟩))
        | true =>
          by_cases hs : n = n'
          · subst hs
            rcases Nat.lt_or_ge (val 4294967296 la + val 4294967296 lb) (4294967296 ^ n) with ho | ho
            · rcases Nat.lt_or_ge (val 4294967296 la) (val 4294967296 lb) with hu | hu
              · exact walk_within_under A n cap la A' cap' lb w g hf g' hf' (okW_of q1).1 (okW_of q1).2 ho hu
              · exact walk_within_above A n cap la A' cap' lb w g hf g' hf' (okW_of q1).1 (okW_of q1).2 ho hu
            · rcases Nat.lt_or_ge (val 4294967296 la) (val 4294967296 lb) with hu | hu
              · exact walk_over_under A n cap la A' cap' lb w g hf g' hf' (okW_of q1).1 (okW_of q1).2 ho hu
              · exact walk_over_above A n cap la A' cap' lb w g hf g' hf' (okW_of q1).1 (okW_of q1).2 ho hu
          · exact walk_no A n cap A' n' cap' w (by omega) (by omega) (.inr (.inr ⟨q1, q2, hs⟩))


-- THE ROW's STEP
set_option maxRecDepth 100000 in
theorem lifted (os : Os) (started : os.Started) (H : Type) (enc : TypeId × Value → H) :
    ReturnsInHanded {} Tryd.checked os 4 .any (fun w args => (Rows.limbsSumsSpec.pre enc Tryd.prog Tryd.f4 [] false w args ∧ laidMetH Tryd.prog listed w) ∧ sizedMet enc Tryd.prog Tryd.f4 (OpenSpec.ofChange Rows.limbsSumsSpec) false w args)
      (Rows.limbsSumsSpec.post enc Tryd.prog Tryd.f4 false true false false) := by
  refine returnsInHanded_of_change_and (C := Tryd.checked) (X := fun w _ => laidMetH Tryd.prog listed w) (fun _ _ _ hh h => h.of_heap hh) own started (by kernel_rfl) Tryd.func4
    (ChangeSpec.witness_shaped (enc := enc) (C := Tryd.checked) (os := os) (X := fun w _ => laidMetH Tryd.prog listed w) false (World.laidAll Tryd.prog os listed) #[.slice none 0 0, .slice none 0 0] 8 (World.laidAll_os _ _ _)
      (World.shaped_of_ZipB (by kernel_rfl) (by kernel_rfl)) (by kernel_rfl) (by kernel_rfl) (by kernel_rfl)
      (by rw [MakeChecks.laidMetH_plain _ _ _ (by kernel_rfl)]; exact laidMet_laidAll _ (by kernel_rfl) (by kernel_rfl))) ?_
  intro W base args ds gs before hval0 hW _ _ hL _
  have hval : ∀ (j : Nat) t v, Tryd.f4.params[j]? = some t → args[j]? = some v → Value.okWide Tryd.prog W .any base t v := hval0
  have hW' := hW
  obtain ⟨p, q, hA0, hV, rfl, hfz, hnd⟩ := hW
  have hA : DataW.TrodAll enc Tryd.prog W 0 (fun _ => true) true Tryd.f4.params.toList args.toList ds p := hA0
  rw [Tryd.params4] at hA hval
  obtain ⟨v0, vs0, d0, ds0, p0, q0, hargs, rfl, rfl, h0, r0⟩ := trodAll_cons hA
  obtain ⟨v1, vs1, d1, ds1, p1, q1, rfl, rfl, rfl, h1, r1⟩ := trodAll_cons r0
  obtain ⟨rfl, rfl, rfl⟩ := trodAll_nil r1
  obtain rfl : args = #[v0, v1] := by cases args; simp_all
  obtain ⟨rfl, rfl⟩ := trodVars_none hV
  have k0 := h0
  have lt0 : ∀ x ∈ p0, x.block < W.heap.size := by obtain ⟨m, hm⟩ := k0; exact DataW.trod_lt m _ _ _ hm
  obtain ⟨fuel0, hf0⟩ := h0
  obtain ⟨a0, len0, cap0, l0, e0, g0, hlc0, hcm0, hnil0⟩ := limbs_of_trod hf0
  obtain ⟨b0, lb0, cb0, hv0⟩ := okWide_slice Tryd.underlying24 (hval 0 24 v0 rfl rfl)
  have ev0 : v0 = .slice a0 len0 cap0 := by rw [hv0] at e0 ⊢; simpa [Value.cells] using e0
  subst ev0
  have k1 := h1
  have lt1 : ∀ x ∈ p1, x.block < W.heap.size := by obtain ⟨m, hm⟩ := k1; exact DataW.trod_lt m _ _ _ hm
  obtain ⟨fuel1, hf1⟩ := h1
  obtain ⟨a1, len1, cap1, l1, e1, g1, hlc1, hcm1, hnil1⟩ := limbs_of_trod hf1
  obtain ⟨b1, lb1, cb1, hv1⟩ := okWide_slice Tryd.underlying24 (hval 1 24 v1 rfl rfl)
  have ev1 : v1 = .slice a1 len1 cap1 := by rw [hv1] at e1 ⊢; simpa [Value.cells] using e1
  subst ev1
  clear hA0 hval0
  refine (walk a0 len0 cap0 l0 a1 len1 cap1 l1 W g0.1 g0.2 hlc0 hcm0 g1.1 g1.2 hlc1 hcm1).mono fun e W' ⟨he, bel⟩ => ?_
  subst he
  exact ⟨_, rfl, _, _, _, [], _, [], hW', trodAll_mk1 (shut_bool Tryd.underlying4 _), (trodAll_cons_mk (Below.trod laidOut (by kernel_rfl) (of_decide_eq_true (by kernel_rfl)) k0 bel lt0) (trodAll_cons_mk (Below.trod laidOut (by kernel_rfl) (of_decide_eq_true (by kernel_rfl)) k1 bel lt1) trodAll_mk0)), rfl, bel.frame _, fun h => by cases h⟩

theorem row_holds : Rows.LimbsSumsSaid :=
  OpenClaim.holds_of_wide 4 Tryd.f4 rfl rfl rfl rfl rfl rfl rfl ⟨rfl, rfl, rfl, rfl, rfl⟩ rfl rfl rfl rfl rfl (by kernel_rfl) Tryd.func4 (by kernel_rfl)
    (of_decide_eq_true (by kernel_rfl)) (by unfold Func.isWrapper; first | (rw [if_pos (by decide +kernel)]; kernel_rfl) | (rw [if_neg (by decide +kernel)]; exact ⟨rfl, rfl⟩))
    (fun os started H enc _ => lifted os started H enc)

theorem proved : Rows.LimbsSumsCardSaid :=
  Claim7.holds_tied_plain_at .later [] [.data, .pinned] true Rows.limbsSumsCard.stood.harness false
    row_holds (fun _ h => by cases h) (by kernel_rfl) (fun _ h => by cases h) limbsSums_row_tie rfl ⟨rfl, rfl⟩ (by kernel_rfl) rfl
    (fun f fn hf hfn => by
      obtain rfl : f = 4 := Option.some.inj ((show Tryd.prog.funcNamed Tryd.f4.name = some 4 by kernel_rfl).symm.trans hf) |>.symm
      obtain rfl : fn = Tryd.f4 := (Option.some.inj (Tryd.func4.symm.trans hfn)).symm
      exact ⟨by kernel_rfl, fun j t ht => by
        rw [Tryd.params4] at ht
        have hm : t ∈ [24, 24] := by simpa using Array.mem_of_getElem? ht
        have hall : ([24, 24].all fun u => !Tryd.prog.wantsStandIn u) = true := by kernel_rfl
        exact (show Tryd.prog.wantsStandIn t = false by simpa using List.all_eq_true.1 hall t hm)⟩)
    (by kernel_rfl)
end Go.Proofs.YtbajckbjjepceaaDoor.limbsSums
