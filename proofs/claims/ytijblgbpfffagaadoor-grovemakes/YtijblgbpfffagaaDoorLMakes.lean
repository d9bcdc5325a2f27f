/-
  GroveMakes returns true for every seed: its walk, by the answers of the program's functions.
-/
import Derived.Test.YtijblgbpfffagaaDoorGx
namespace Go.Proofs.YtijblgbpfffagaaDoor
open Go.RowKit
set_option linter.unusedVariables false
set_option linter.unusedSimpArgs false
set_option maxRecDepth 100000

set_option maxHeartbeats 2000000 in
theorem makes_big (CC : Code9) (HA0 : ∀ w : World, Both w → Calls Tryd.prog 11 #[] w fun e w' => e = .returned (.bool true) ∧ Below w.heap.size w w') (z b : Int) (A : Option Addr) (nA cA : Nat) (Ad : Option Addr) (nd cd : Nat) (salt data : List Nat) (w : World) (hz : I64 z) (hb : I64 b) (hs : Bs w A nA cA salt) (hd : Bs w Ad nd cd data) (ht : Both w) (hsm : ¬ (nA ≤ 100 ∧ nd ≤ 1500)) : Calls Tryd.prog 3 #[.agg #[.int .i64 z, .int .i64 b, .slice A nA cA, .slice Ad nd cd]] w fun e w' => e = .returned (.bool true) ∧ Below w.heap.size w w' := by
  have C := Lib.hid CC
  have HA := Lib.hid HA0
  have HZ := Lib.hid hz
  have HIB := Lib.hid hb
  have HB1 : Hid (Below w.heap.size w (w.alloc (.cells #[.int .i64 z, .int .i64 b, .slice A nA cA, .slice Ad nd cd] 24))) := (Below.refl _ _).alloc (Nat.le_refl _) _
  have HK := Lib.hid (Blk.new w 24 [.int .i64 z, .int .i64 b, .slice A nA cA, .slice Ad nd cd])
  have HS0 := Lib.hid hs
  have HD0 := Lib.hid hd
  have HTB := Lib.hid ht
  clear CC HA0 hz hb hs hd ht
  go_enter Tryd.func3, Tryd.ntmps3
  go_wp2_with fail
  generalize w.alloc (.cells #[.int .i64 z, .int .i64 b, .slice A nA cA, .slice Ad nd cd] 24) = W at *
  refine (HA.out W (HTB.out.below HB1.out)).mono ?_
  rintro e w1 ⟨rfl, hb1⟩
  have BK1 := Lib.hid (HK.out.below hb1 HK.out.lt)
  have BEL1 := Lib.hid (below_then HB1.out hb1)
  have HS1 := Lib.hid (HS0.out.below BEL1.out)
  have HD1 := Lib.hid (HD0.out.below BEL1.out)
  have HT1 := Lib.hid (HTB.out.below BEL1.out)
  have c10 : w1.cell? ⟨w.heap.size, 0, none⟩ = some (.int .i64 z) := BK1.out.cell 0
  have c11 : w1.cell? ⟨w.heap.size, 1, none⟩ = some (.int .i64 b) := BK1.out.cell 1
  have c12 : w1.cell? ⟨w.heap.size, 2, none⟩ = some (.slice A nA cA) := BK1.out.cell 2
  have c13 : w1.cell? ⟨w.heap.size, 3, none⟩ = some (.slice Ad nd cd) := BK1.out.cell 3
  clear hb1
  go_wp2_with fail
  refine (small_any z b A nA cA Ad nd cd w1).mono ?_
  rw [decide_eq_false hsm]
  rintro e w2 ⟨rfl, hb2⟩
  have BEL2 := Lib.hid (below_then BEL1.out hb2)
  clear hb2
  go_wp2
  go_ret
  exact ⟨rfl, BEL2.out⟩
set_option maxHeartbeats 2000000 in
theorem makes_alg (CC : Code9) (HA0 : ∀ w : World, Both w → Calls Tryd.prog 11 #[] w fun e w' => e = .returned (.bool true) ∧ Below w.heap.size w w') (z b : Int) (A : Option Addr) (nA cA : Nat) (Ad : Option Addr) (nd cd : Nat) (salt data : List Nat) (w : World) (hz : I64 z) (hb : I64 b) (hs : Bs w A nA cA salt) (hd : Bs w Ad nd cd data) (ht : Both w) (hsm : nA ≤ 100 ∧ nd ≤ 1500) (D : Nat) (hDD : sizeOfAlg z = D) (h0 : D = 0) : Calls Tryd.prog 3 #[.agg #[.int .i64 z, .int .i64 b, .slice A nA cA, .slice Ad nd cd]] w fun e w' => e = .returned (.bool true) ∧ Below w.heap.size w w' := by
  have HRF : Hid (Refused z b nA nd 20) := (.inl ⟨hDD.trans h0, rfl⟩)
  have HDD := Lib.hid hDD
  have d1 : ((D : Int) == 0) = true := by simp; omega
  clear h0
  clear hDD
  have C := Lib.hid CC
  have HA := Lib.hid HA0
  have HZ := Lib.hid hz
  have HIB := Lib.hid hb
  have HB1 : Hid (Below w.heap.size w (w.alloc (.cells #[.int .i64 z, .int .i64 b, .slice A nA cA, .slice Ad nd cd] 24))) := (Below.refl _ _).alloc (Nat.le_refl _) _
  have HK := Lib.hid (Blk.new w 24 [.int .i64 z, .int .i64 b, .slice A nA cA, .slice Ad nd cd])
  have HS0 := Lib.hid hs
  have HD0 := Lib.hid hd
  have HTB := Lib.hid ht
  clear CC HA0 hz hb hs hd ht
  go_enter Tryd.func3, Tryd.ntmps3
  go_wp2_with fail
  generalize w.alloc (.cells #[.int .i64 z, .int .i64 b, .slice A nA cA, .slice Ad nd cd] 24) = W at *
  refine (HA.out W (HTB.out.below HB1.out)).mono ?_
  rintro e w1 ⟨rfl, hb1⟩
  have BK1 := Lib.hid (HK.out.below hb1 HK.out.lt)
  have BEL1 := Lib.hid (below_then HB1.out hb1)
  have HS1 := Lib.hid (HS0.out.below BEL1.out)
  have HD1 := Lib.hid (HD0.out.below BEL1.out)
  have HT1 := Lib.hid (HTB.out.below BEL1.out)
  have c10 : w1.cell? ⟨w.heap.size, 0, none⟩ = some (.int .i64 z) := BK1.out.cell 0
  have c11 : w1.cell? ⟨w.heap.size, 1, none⟩ = some (.int .i64 b) := BK1.out.cell 1
  have c12 : w1.cell? ⟨w.heap.size, 2, none⟩ = some (.slice A nA cA) := BK1.out.cell 2
  have c13 : w1.cell? ⟨w.heap.size, 3, none⟩ = some (.slice Ad nd cd) := BK1.out.cell 3
  clear hb1
  go_wp2_with fail
  refine (small_any z b A nA cA Ad nd cd w1).mono ?_
  rw [decide_eq_true hsm]
  rintro e w2 ⟨rfl, hb2⟩
  have BK2 := Lib.hid (BK1.out.below hb2 BK1.out.lt)
  have BEL2 := Lib.hid (below_then BEL1.out hb2)
  have HS2 := Lib.hid (HS1.out.below hb2)
  have HD2 := Lib.hid (HD1.out.below hb2)
  have HT2 := Lib.hid (HT1.out.below hb2)
  have c20 : w2.cell? ⟨w.heap.size, 0, none⟩ = some (.int .i64 z) := BK2.out.cell 0
  have c21 : w2.cell? ⟨w.heap.size, 1, none⟩ = some (.int .i64 b) := BK2.out.cell 1
  have c22 : w2.cell? ⟨w.heap.size, 2, none⟩ = some (.slice A nA cA) := BK2.out.cell 2
  have c23 : w2.cell? ⟨w.heap.size, 3, none⟩ = some (.slice Ad nd cd) := BK2.out.cell 3
  clear c10 c11 c12 c13
  clear hb2
  go_wp2_with fail
  refine (C.out.makeNo z b A nA cA Ad nd cd salt data 20 w2 HZ.out HIB.out HS2.out HD2.out (by omega) HT2.out HRF.out).mono ?_
  rintro e w3 ⟨At, ct, Ar, cr, rfl, hb3⟩
  have BK3 := Lib.hid (BK2.out.below hb3 BK2.out.lt)
  have BEL3 := Lib.hid (below_then BEL2.out hb3)
  have HS3 := Lib.hid (HS2.out.below hb3)
  have HD3 := Lib.hid (HD2.out.below hb3)
  have HT3 := Lib.hid (HT2.out.below hb3)
  have c30 : w3.cell? ⟨w.heap.size, 0, none⟩ = some (.int .i64 z) := BK3.out.cell 0
  have c31 : w3.cell? ⟨w.heap.size, 1, none⟩ = some (.int .i64 b) := BK3.out.cell 1
  have c32 : w3.cell? ⟨w.heap.size, 2, none⟩ = some (.slice A nA cA) := BK3.out.cell 2
  have c33 : w3.cell? ⟨w.heap.size, 3, none⟩ = some (.slice Ad nd cd) := BK3.out.cell 3
  clear c20 c21 c22 c23
  clear hb3
  go_wp2_with fail
  refine (C.out.rootNo z b A nA cA Ad nd cd salt data 20 w3 HZ.out HIB.out HS3.out HD3.out (by omega) HT3.out HRF.out).mono ?_
  rintro e w4 ⟨Aq, cq, rfl, hb4⟩
  have BK4 := Lib.hid (BK3.out.below hb4 BK3.out.lt)
  have BEL4 := Lib.hid (below_then BEL3.out hb4)
  have HS4 := Lib.hid (HS3.out.below hb4)
  have HD4 := Lib.hid (HD3.out.below hb4)
  have HT4 := Lib.hid (HT3.out.below hb4)
  have c40 : w4.cell? ⟨w.heap.size, 0, none⟩ = some (.int .i64 z) := BK4.out.cell 0
  have c41 : w4.cell? ⟨w.heap.size, 1, none⟩ = some (.int .i64 b) := BK4.out.cell 1
  have c42 : w4.cell? ⟨w.heap.size, 2, none⟩ = some (.slice A nA cA) := BK4.out.cell 2
  have c43 : w4.cell? ⟨w.heap.size, 3, none⟩ = some (.slice Ad nd cd) := BK4.out.cell 3
  clear c30 c31 c32 c33
  clear hb4
  go_wp2_with fail
  refine (shape9_any z b A nA cA Ad nd cd D HDD.out w4).mono ?_
  obtain ⟨ok, hok⟩ : ∃ ok, decide (Rgt nd b D ∧ nA ≤ 64) = ok := ⟨_, rfl⟩
  rw [hok]
  have HOK := Lib.hid hok
  clear hok
  rintro e w5 ⟨rfl, hb5⟩
  have BK5 := Lib.hid (BK4.out.below hb5 BK4.out.lt)
  have BEL5 := Lib.hid (below_then BEL4.out hb5)
  have HS5 := Lib.hid (HS4.out.below hb5)
  have HD5 := Lib.hid (HD4.out.below hb5)
  have HT5 := Lib.hid (HT4.out.below hb5)
  have c50 : w5.cell? ⟨w.heap.size, 0, none⟩ = some (.int .i64 z) := BK5.out.cell 0
  have c51 : w5.cell? ⟨w.heap.size, 1, none⟩ = some (.int .i64 b) := BK5.out.cell 1
  have c52 : w5.cell? ⟨w.heap.size, 2, none⟩ = some (.slice A nA cA) := BK5.out.cell 2
  have c53 : w5.cell? ⟨w.heap.size, 3, none⟩ = some (.slice Ad nd cd) := BK5.out.cell 3
  clear c40 c41 c42 c43
  clear hb5
  have e0 : (w5.alloc (.cells #[.int .i64 (nd : Int), .int .i64 b, .int .i64 (D : Int)] 32)).cell? ⟨w.heap.size, 0, none⟩ = some (.int .i64 z) := (BK5.out.alloc _).cell 0
  have e2 : (w5.alloc (.cells #[.int .i64 (nd : Int), .int .i64 b, .int .i64 (D : Int)] 32)).cell? ⟨w.heap.size, 2, none⟩ = some (.slice A nA cA) := (BK5.out.alloc _).cell 2
  have e3 : (w5.alloc (.cells #[.int .i64 (nd : Int), .int .i64 b, .int .i64 (D : Int)] 32)).cell? ⟨w.heap.size, 3, none⟩ = some (.slice Ad nd cd) := (BK5.out.alloc _).cell 3
  have HB6 : Hid (Below w5.heap.size w5 (w5.alloc (.cells #[.int .i64 (nd : Int), .int .i64 b, .int .i64 (D : Int)] 32))) := (Below.refl _ _).alloc (Nat.le_refl _) _
  clear c50 c51 c52 c53
  go_wp2_with fail
  refine (RefSize_any z _).mono ?_
  rw [HDD.out]
  rintro e w7 ⟨rfl, rfl⟩
  go_wp2
  go_ret
  exact ⟨rfl, below_then BEL5.out HB6.out⟩
set_option maxHeartbeats 2000000 in
theorem makes_salt (CC : Code9) (HA0 : ∀ w : World, Both w → Calls Tryd.prog 11 #[] w fun e w' => e = .returned (.bool true) ∧ Below w.heap.size w w') (z b : Int) (A : Option Addr) (nA cA : Nat) (Ad : Option Addr) (nd cd : Nat) (salt data : List Nat) (w : World) (hz : I64 z) (hb : I64 b) (hs : Bs w A nA cA salt) (hd : Bs w Ad nd cd data) (ht : Both w) (hsm : nA ≤ 100 ∧ nd ≤ 1500) (D : Nat) (hDD : sizeOfAlg z = D) (h0 : D ≠ 0) (h64 : 64 < nA) : Calls Tryd.prog 3 #[.agg #[.int .i64 z, .int .i64 b, .slice A nA cA, .slice Ad nd cd]] w fun e w' => e = .returned (.bool true) ∧ Below w.heap.size w w' := by
  have HRF : Hid (Refused z b nA nd 11) := (.inr (.inl ⟨by omega, h64, rfl⟩))
  have HDD := Lib.hid hDD
  have d1 : ((D : Int) == 0) = false := by simp; omega
  have d2 : (64 : Int) < nA := by omega
  clear hDD
  have C := Lib.hid CC
  have HA := Lib.hid HA0
  have HZ := Lib.hid hz
  have HIB := Lib.hid hb
  have HB1 : Hid (Below w.heap.size w (w.alloc (.cells #[.int .i64 z, .int .i64 b, .slice A nA cA, .slice Ad nd cd] 24))) := (Below.refl _ _).alloc (Nat.le_refl _) _
  have HK := Lib.hid (Blk.new w 24 [.int .i64 z, .int .i64 b, .slice A nA cA, .slice Ad nd cd])
  have HS0 := Lib.hid hs
  have HD0 := Lib.hid hd
  have HTB := Lib.hid ht
  clear CC HA0 hz hb hs hd ht
  go_enter Tryd.func3, Tryd.ntmps3
  go_wp2_with fail
  generalize w.alloc (.cells #[.int .i64 z, .int .i64 b, .slice A nA cA, .slice Ad nd cd] 24) = W at *
  refine (HA.out W (HTB.out.below HB1.out)).mono ?_
  rintro e w1 ⟨rfl, hb1⟩
  have BK1 := Lib.hid (HK.out.below hb1 HK.out.lt)
  have BEL1 := Lib.hid (below_then HB1.out hb1)
  have HS1 := Lib.hid (HS0.out.below BEL1.out)
  have HD1 := Lib.hid (HD0.out.below BEL1.out)
  have HT1 := Lib.hid (HTB.out.below BEL1.out)
  have c10 : w1.cell? ⟨w.heap.size, 0, none⟩ = some (.int .i64 z) := BK1.out.cell 0
  have c11 : w1.cell? ⟨w.heap.size, 1, none⟩ = some (.int .i64 b) := BK1.out.cell 1
  have c12 : w1.cell? ⟨w.heap.size, 2, none⟩ = some (.slice A nA cA) := BK1.out.cell 2
  have c13 : w1.cell? ⟨w.heap.size, 3, none⟩ = some (.slice Ad nd cd) := BK1.out.cell 3
  clear hb1
  go_wp2_with fail
  refine (small_any z b A nA cA Ad nd cd w1).mono ?_
  rw [decide_eq_true hsm]
  rintro e w2 ⟨rfl, hb2⟩
  have BK2 := Lib.hid (BK1.out.below hb2 BK1.out.lt)
  have BEL2 := Lib.hid (below_then BEL1.out hb2)
  have HS2 := Lib.hid (HS1.out.below hb2)
  have HD2 := Lib.hid (HD1.out.below hb2)
  have HT2 := Lib.hid (HT1.out.below hb2)
  have c20 : w2.cell? ⟨w.heap.size, 0, none⟩ = some (.int .i64 z) := BK2.out.cell 0
  have c21 : w2.cell? ⟨w.heap.size, 1, none⟩ = some (.int .i64 b) := BK2.out.cell 1
  have c22 : w2.cell? ⟨w.heap.size, 2, none⟩ = some (.slice A nA cA) := BK2.out.cell 2
  have c23 : w2.cell? ⟨w.heap.size, 3, none⟩ = some (.slice Ad nd cd) := BK2.out.cell 3
  clear c10 c11 c12 c13
  clear hb2
  go_wp2_with fail
  refine (C.out.makeNo z b A nA cA Ad nd cd salt data 11 w2 HZ.out HIB.out HS2.out HD2.out (by omega) HT2.out HRF.out).mono ?_
  rintro e w3 ⟨At, ct, Ar, cr, rfl, hb3⟩
  have BK3 := Lib.hid (BK2.out.below hb3 BK2.out.lt)
  have BEL3 := Lib.hid (below_then BEL2.out hb3)
  have HS3 := Lib.hid (HS2.out.below hb3)
  have HD3 := Lib.hid (HD2.out.below hb3)
  have HT3 := Lib.hid (HT2.out.below hb3)
  have c30 : w3.cell? ⟨w.heap.size, 0, none⟩ = some (.int .i64 z) := BK3.out.cell 0
  have c31 : w3.cell? ⟨w.heap.size, 1, none⟩ = some (.int .i64 b) := BK3.out.cell 1
  have c32 : w3.cell? ⟨w.heap.size, 2, none⟩ = some (.slice A nA cA) := BK3.out.cell 2
  have c33 : w3.cell? ⟨w.heap.size, 3, none⟩ = some (.slice Ad nd cd) := BK3.out.cell 3
  clear c20 c21 c22 c23
  clear hb3
  go_wp2_with fail
  refine (C.out.rootNo z b A nA cA Ad nd cd salt data 11 w3 HZ.out HIB.out HS3.out HD3.out (by omega) HT3.out HRF.out).mono ?_
  rintro e w4 ⟨Aq, cq, rfl, hb4⟩
  have BK4 := Lib.hid (BK3.out.below hb4 BK3.out.lt)
  have BEL4 := Lib.hid (below_then BEL3.out hb4)
  have HS4 := Lib.hid (HS3.out.below hb4)
  have HD4 := Lib.hid (HD3.out.below hb4)
  have HT4 := Lib.hid (HT3.out.below hb4)
  have c40 : w4.cell? ⟨w.heap.size, 0, none⟩ = some (.int .i64 z) := BK4.out.cell 0
  have c41 : w4.cell? ⟨w.heap.size, 1, none⟩ = some (.int .i64 b) := BK4.out.cell 1
  have c42 : w4.cell? ⟨w.heap.size, 2, none⟩ = some (.slice A nA cA) := BK4.out.cell 2
  have c43 : w4.cell? ⟨w.heap.size, 3, none⟩ = some (.slice Ad nd cd) := BK4.out.cell 3
  clear c30 c31 c32 c33
  clear hb4
  go_wp2_with fail
  refine (shape9_any z b A nA cA Ad nd cd D HDD.out w4).mono ?_
  obtain ⟨ok, hok⟩ : ∃ ok, decide (Rgt nd b D ∧ nA ≤ 64) = ok := ⟨_, rfl⟩
  rw [hok]
  have HOK := Lib.hid hok
  clear hok
  rintro e w5 ⟨rfl, hb5⟩
  have BK5 := Lib.hid (BK4.out.below hb5 BK4.out.lt)
  have BEL5 := Lib.hid (below_then BEL4.out hb5)
  have HS5 := Lib.hid (HS4.out.below hb5)
  have HD5 := Lib.hid (HD4.out.below hb5)
  have HT5 := Lib.hid (HT4.out.below hb5)
  have c50 : w5.cell? ⟨w.heap.size, 0, none⟩ = some (.int .i64 z) := BK5.out.cell 0
  have c51 : w5.cell? ⟨w.heap.size, 1, none⟩ = some (.int .i64 b) := BK5.out.cell 1
  have c52 : w5.cell? ⟨w.heap.size, 2, none⟩ = some (.slice A nA cA) := BK5.out.cell 2
  have c53 : w5.cell? ⟨w.heap.size, 3, none⟩ = some (.slice Ad nd cd) := BK5.out.cell 3
  clear c40 c41 c42 c43
  clear hb5
  have e0 : (w5.alloc (.cells #[.int .i64 (nd : Int), .int .i64 b, .int .i64 (D : Int)] 32)).cell? ⟨w.heap.size, 0, none⟩ = some (.int .i64 z) := (BK5.out.alloc _).cell 0
  have e2 : (w5.alloc (.cells #[.int .i64 (nd : Int), .int .i64 b, .int .i64 (D : Int)] 32)).cell? ⟨w.heap.size, 2, none⟩ = some (.slice A nA cA) := (BK5.out.alloc _).cell 2
  have e3 : (w5.alloc (.cells #[.int .i64 (nd : Int), .int .i64 b, .int .i64 (D : Int)] 32)).cell? ⟨w.heap.size, 3, none⟩ = some (.slice Ad nd cd) := (BK5.out.alloc _).cell 3
  have HB6 : Hid (Below w5.heap.size w5 (w5.alloc (.cells #[.int .i64 (nd : Int), .int .i64 b, .int .i64 (D : Int)] 32))) := (Below.refl _ _).alloc (Nat.le_refl _) _
  clear c50 c51 c52 c53
  go_wp2_with fail
  refine (RefSize_any z _).mono ?_
  rw [HDD.out]
  rintro e w7 ⟨rfl, rfl⟩
  go_wp2
  go_ret
  exact ⟨rfl, below_then BEL5.out HB6.out⟩
set_option maxHeartbeats 2000000 in
theorem makes_size (CC : Code9) (HA0 : ∀ w : World, Both w → Calls Tryd.prog 11 #[] w fun e w' => e = .returned (.bool true) ∧ Below w.heap.size w w') (z b : Int) (A : Option Addr) (nA cA : Nat) (Ad : Option Addr) (nd cd : Nat) (salt data : List Nat) (w : World) (hz : I64 z) (hb : I64 b) (hs : Bs w A nA cA salt) (hd : Bs w Ad nd cd data) (ht : Both w) (hsm : nA ≤ 100 ∧ nd ≤ 1500) (D : Nat) (hDD : sizeOfAlg z = D) (h0 : D ≠ 0) (h64 : nA ≤ 64) (hR : ¬ Rgt nd b D) : Calls Tryd.prog 3 #[.agg #[.int .i64 z, .int .i64 b, .slice A nA cA, .slice Ad nd cd]] w fun e w' => e = .returned (.bool true) ∧ Below w.heap.size w w' := by
  have HRF : Hid (Refused z b nA nd 24) := (.inr (.inr ⟨by omega, h64, by rw [hDD]; exact hR, rfl⟩))
  have HDD := Lib.hid hDD
  have d1 : ((D : Int) == 0) = false := by simp; omega
  have d2 : ¬ (64 : Int) < nA := by omega
  clear hDD
  have C := Lib.hid CC
  have HA := Lib.hid HA0
  have HZ := Lib.hid hz
  have HIB := Lib.hid hb
  have HB1 : Hid (Below w.heap.size w (w.alloc (.cells #[.int .i64 z, .int .i64 b, .slice A nA cA, .slice Ad nd cd] 24))) := (Below.refl _ _).alloc (Nat.le_refl _) _
  have HK := Lib.hid (Blk.new w 24 [.int .i64 z, .int .i64 b, .slice A nA cA, .slice Ad nd cd])
  have HS0 := Lib.hid hs
  have HD0 := Lib.hid hd
  have HTB := Lib.hid ht
  clear CC HA0 hz hb hs hd ht
  go_enter Tryd.func3, Tryd.ntmps3
  go_wp2_with fail
  generalize w.alloc (.cells #[.int .i64 z, .int .i64 b, .slice A nA cA, .slice Ad nd cd] 24) = W at *
  refine (HA.out W (HTB.out.below HB1.out)).mono ?_
  rintro e w1 ⟨rfl, hb1⟩
  have BK1 := Lib.hid (HK.out.below hb1 HK.out.lt)
  have BEL1 := Lib.hid (below_then HB1.out hb1)
  have HS1 := Lib.hid (HS0.out.below BEL1.out)
  have HD1 := Lib.hid (HD0.out.below BEL1.out)
  have HT1 := Lib.hid (HTB.out.below BEL1.out)
  have c10 : w1.cell? ⟨w.heap.size, 0, none⟩ = some (.int .i64 z) := BK1.out.cell 0
  have c11 : w1.cell? ⟨w.heap.size, 1, none⟩ = some (.int .i64 b) := BK1.out.cell 1
  have c12 : w1.cell? ⟨w.heap.size, 2, none⟩ = some (.slice A nA cA) := BK1.out.cell 2
  have c13 : w1.cell? ⟨w.heap.size, 3, none⟩ = some (.slice Ad nd cd) := BK1.out.cell 3
  clear hb1
  go_wp2_with fail
  refine (small_any z b A nA cA Ad nd cd w1).mono ?_
  rw [decide_eq_true hsm]
  rintro e w2 ⟨rfl, hb2⟩
  have BK2 := Lib.hid (BK1.out.below hb2 BK1.out.lt)
  have BEL2 := Lib.hid (below_then BEL1.out hb2)
  have HS2 := Lib.hid (HS1.out.below hb2)
  have HD2 := Lib.hid (HD1.out.below hb2)
  have HT2 := Lib.hid (HT1.out.below hb2)
  have c20 : w2.cell? ⟨w.heap.size, 0, none⟩ = some (.int .i64 z) := BK2.out.cell 0
  have c21 : w2.cell? ⟨w.heap.size, 1, none⟩ = some (.int .i64 b) := BK2.out.cell 1
  have c22 : w2.cell? ⟨w.heap.size, 2, none⟩ = some (.slice A nA cA) := BK2.out.cell 2
  have c23 : w2.cell? ⟨w.heap.size, 3, none⟩ = some (.slice Ad nd cd) := BK2.out.cell 3
  clear c10 c11 c12 c13
  clear hb2
  go_wp2_with fail
  refine (C.out.makeNo z b A nA cA Ad nd cd salt data 24 w2 HZ.out HIB.out HS2.out HD2.out (by omega) HT2.out HRF.out).mono ?_
  rintro e w3 ⟨At, ct, Ar, cr, rfl, hb3⟩
  have BK3 := Lib.hid (BK2.out.below hb3 BK2.out.lt)
  have BEL3 := Lib.hid (below_then BEL2.out hb3)
  have HS3 := Lib.hid (HS2.out.below hb3)
  have HD3 := Lib.hid (HD2.out.below hb3)
  have HT3 := Lib.hid (HT2.out.below hb3)
  have c30 : w3.cell? ⟨w.heap.size, 0, none⟩ = some (.int .i64 z) := BK3.out.cell 0
  have c31 : w3.cell? ⟨w.heap.size, 1, none⟩ = some (.int .i64 b) := BK3.out.cell 1
  have c32 : w3.cell? ⟨w.heap.size, 2, none⟩ = some (.slice A nA cA) := BK3.out.cell 2
  have c33 : w3.cell? ⟨w.heap.size, 3, none⟩ = some (.slice Ad nd cd) := BK3.out.cell 3
  clear c20 c21 c22 c23
  clear hb3
  go_wp2_with fail
  refine (C.out.rootNo z b A nA cA Ad nd cd salt data 24 w3 HZ.out HIB.out HS3.out HD3.out (by omega) HT3.out HRF.out).mono ?_
  rintro e w4 ⟨Aq, cq, rfl, hb4⟩
  have BK4 := Lib.hid (BK3.out.below hb4 BK3.out.lt)
  have BEL4 := Lib.hid (below_then BEL3.out hb4)
  have HS4 := Lib.hid (HS3.out.below hb4)
  have HD4 := Lib.hid (HD3.out.below hb4)
  have HT4 := Lib.hid (HT3.out.below hb4)
  have c40 : w4.cell? ⟨w.heap.size, 0, none⟩ = some (.int .i64 z) := BK4.out.cell 0
  have c41 : w4.cell? ⟨w.heap.size, 1, none⟩ = some (.int .i64 b) := BK4.out.cell 1
  have c42 : w4.cell? ⟨w.heap.size, 2, none⟩ = some (.slice A nA cA) := BK4.out.cell 2
  have c43 : w4.cell? ⟨w.heap.size, 3, none⟩ = some (.slice Ad nd cd) := BK4.out.cell 3
  clear c30 c31 c32 c33
  clear hb4
  go_wp2_with fail
  refine (shape9_any z b A nA cA Ad nd cd D HDD.out w4).mono ?_
  obtain ⟨ok, hok⟩ : ∃ ok, decide (Rgt nd b D ∧ nA ≤ 64) = ok := ⟨_, rfl⟩
  rw [hok]
  have HOK := Lib.hid hok
  clear hok
  rintro e w5 ⟨rfl, hb5⟩
  have BK5 := Lib.hid (BK4.out.below hb5 BK4.out.lt)
  have BEL5 := Lib.hid (below_then BEL4.out hb5)
  have HS5 := Lib.hid (HS4.out.below hb5)
  have HD5 := Lib.hid (HD4.out.below hb5)
  have HT5 := Lib.hid (HT4.out.below hb5)
  have c50 : w5.cell? ⟨w.heap.size, 0, none⟩ = some (.int .i64 z) := BK5.out.cell 0
  have c51 : w5.cell? ⟨w.heap.size, 1, none⟩ = some (.int .i64 b) := BK5.out.cell 1
  have c52 : w5.cell? ⟨w.heap.size, 2, none⟩ = some (.slice A nA cA) := BK5.out.cell 2
  have c53 : w5.cell? ⟨w.heap.size, 3, none⟩ = some (.slice Ad nd cd) := BK5.out.cell 3
  clear c40 c41 c42 c43
  clear hb5
  have e0 : (w5.alloc (.cells #[.int .i64 (nd : Int), .int .i64 b, .int .i64 (D : Int)] 32)).cell? ⟨w.heap.size, 0, none⟩ = some (.int .i64 z) := (BK5.out.alloc _).cell 0
  have e2 : (w5.alloc (.cells #[.int .i64 (nd : Int), .int .i64 b, .int .i64 (D : Int)] 32)).cell? ⟨w.heap.size, 2, none⟩ = some (.slice A nA cA) := (BK5.out.alloc _).cell 2
  have e3 : (w5.alloc (.cells #[.int .i64 (nd : Int), .int .i64 b, .int .i64 (D : Int)] 32)).cell? ⟨w.heap.size, 3, none⟩ = some (.slice Ad nd cd) := (BK5.out.alloc _).cell 3
  have HB6 : Hid (Below w5.heap.size w5 (w5.alloc (.cells #[.int .i64 (nd : Int), .int .i64 b, .int .i64 (D : Int)] 32))) := (Below.refl _ _).alloc (Nat.le_refl _) _
  clear c50 c51 c52 c53
  have hokf : ok = false := by rw [← HOK.out]; exact decide_eq_false (fun h => hR h.1)
  subst hokf
  go_wp2_with fail
  refine (RefSize_any z _).mono ?_
  rw [HDD.out]
  rintro e w7 ⟨rfl, rfl⟩
  go_wp2
  go_ret
  exact ⟨rfl, below_then BEL5.out HB6.out⟩
set_option maxHeartbeats 4000000 in
theorem makes_ok (CC : Code9) (HA0 : ∀ w : World, Both w → Calls Tryd.prog 11 #[] w fun e w' => e = .returned (.bool true) ∧ Below w.heap.size w w') (z b : Int) (A : Option Addr) (nA cA : Nat) (Ad : Option Addr) (nd cd : Nat) (salt data : List Nat) (w : World) (hz : I64 z) (hb : I64 b) (hs : Bs w A nA cA salt) (hd : Bs w Ad nd cd data) (ht : Both w) (hsm : nA ≤ 100 ∧ nd ≤ 1500) (D : Nat) (hDD : sizeOfAlg z = D) (h64 : nA ≤ 64) (hR : Rgt nd b D) : Calls Tryd.prog 3 #[.agg #[.int .i64 z, .int .i64 b, .slice A nA cA, .slice Ad nd cd]] w fun e w' => e = .returned (.bool true) ∧ Below w.heap.size w w' := by
  have HDD := Lib.hid hDD
  have h0 : D ≠ 0 := by obtain ⟨_, _, h, _⟩ := hR; omega
  have d1 : ((D : Int) == 0) = false := by simp; omega
  have d2 : ¬ (64 : Int) < nA := by omega
  obtain ⟨s, es, hs12⟩ : ∃ s : Nat, z = s ∧ (s = 1 ∨ s = 2) := by
    unfold sizeOfAlg at hDD
    by_cases h1 : z = 1
    · exact ⟨1, h1, .inl rfl⟩
    · by_cases h2 : z = 2
      · exact ⟨2, h2, .inr rfl⟩
      · rw [if_neg h1, if_neg h2] at hDD
        omega
  subst es
  obtain ⟨S, B, D', a, n, eS, eB, eD, hShp⟩ := hR.shp
  obtain rfl : nd = S := by omega
  obtain rfl : D = D' := by omega
  subst eB
  obtain ⟨m, hm⟩ : ∃ m, (cs a n).length = m := ⟨_, rfl⟩
  have HOV : Hid (∀ u : World, Bs u A nA cA salt → Bs u Ad nd cd data → Over u s nd B D a n A nA cA Ad cd salt data) := fun u h1 h2 => ⟨hShp, hs12, hDD, h1.rd, h1.fit, h1.nil, by omega, h2.rd, h2.fit, h2.le⟩
  have HM := Lib.hid hm
  have HFT : Hid (Fit 256 (hsh s salt (blk (hsh s salt) B a n data (m - 1) 0))) := hsh_fit _ _ _
  have HOKT : Hid (Rgt nd B D ∧ nA ≤ 64) := ⟨hR, h64⟩
  clear hDD hm hShp eS eD hR
  have C := Lib.hid CC
  have HA := Lib.hid HA0
  have HZ := Lib.hid hz
  have HIB := Lib.hid hb
  have HB1 : Hid (Below w.heap.size w (w.alloc (.cells #[.int .i64 (s : Int), .int .i64 (B : Int), .slice A nA cA, .slice Ad nd cd] 24))) := (Below.refl _ _).alloc (Nat.le_refl _) _
  have HK := Lib.hid (Blk.new w 24 [.int .i64 (s : Int), .int .i64 (B : Int), .slice A nA cA, .slice Ad nd cd])
  have HS0 := Lib.hid hs
  have HD0 := Lib.hid hd
  have HTB := Lib.hid ht
  clear CC HA0 hz hb hs hd ht
  go_enter Tryd.func3, Tryd.ntmps3
  go_wp2_with fail
  generalize w.alloc (.cells #[.int .i64 (s : Int), .int .i64 (B : Int), .slice A nA cA, .slice Ad nd cd] 24) = W at *
  refine (HA.out W (HTB.out.below HB1.out)).mono ?_
  rintro e w1 ⟨rfl, hb1⟩
  have BK1 := Lib.hid (HK.out.below hb1 HK.out.lt)
  have BEL1 := Lib.hid (below_then HB1.out hb1)
  have HS1 := Lib.hid (HS0.out.below BEL1.out)
  have HD1 := Lib.hid (HD0.out.below BEL1.out)
  have HT1 := Lib.hid (HTB.out.below BEL1.out)
  have c10 : w1.cell? ⟨w.heap.size, 0, none⟩ = some (.int .i64 (s : Int)) := BK1.out.cell 0
  have c11 : w1.cell? ⟨w.heap.size, 1, none⟩ = some (.int .i64 (B : Int)) := BK1.out.cell 1
  have c12 : w1.cell? ⟨w.heap.size, 2, none⟩ = some (.slice A nA cA) := BK1.out.cell 2
  have c13 : w1.cell? ⟨w.heap.size, 3, none⟩ = some (.slice Ad nd cd) := BK1.out.cell 3
  clear hb1
  go_wp2_with fail
  refine (small_any (s : Int) (B : Int) A nA cA Ad nd cd w1).mono ?_
  rw [decide_eq_true hsm]
  rintro e w2 ⟨rfl, hb2⟩
  have BK2 := Lib.hid (BK1.out.below hb2 BK1.out.lt)
  have BEL2 := Lib.hid (below_then BEL1.out hb2)
  have HS2 := Lib.hid (HS1.out.below hb2)
  have HD2 := Lib.hid (HD1.out.below hb2)
  have HT2 := Lib.hid (HT1.out.below hb2)
  have c20 : w2.cell? ⟨w.heap.size, 0, none⟩ = some (.int .i64 (s : Int)) := BK2.out.cell 0
  have c21 : w2.cell? ⟨w.heap.size, 1, none⟩ = some (.int .i64 (B : Int)) := BK2.out.cell 1
  have c22 : w2.cell? ⟨w.heap.size, 2, none⟩ = some (.slice A nA cA) := BK2.out.cell 2
  have c23 : w2.cell? ⟨w.heap.size, 3, none⟩ = some (.slice Ad nd cd) := BK2.out.cell 3
  clear c10 c11 c12 c13
  clear hb2
  go_wp2_with fail
  refine (C.out.makeOk s nd B D a n A nA cA Ad cd salt data w2 m (HOV.out w2 HS2.out HD2.out) HS2.out HD2.out h64 (by omega) HT2.out HM.out).mono ?_
  obtain ⟨TT, hTT⟩ : ∃ TT, tree (hsh s salt) B a n data m = TT := ⟨_, rfl⟩
  obtain ⟨RT, hRT⟩ : ∃ RT, hsh s salt (blk (hsh s salt) B a n data (m - 1) 0) = RT := ⟨_, rfl⟩
  rw [hTT, hRT]
  have HTT := Lib.hid hTT
  have HRT := Lib.hid hRT
  clear hTT hRT
  rintro e w3 ⟨At, nt, ct, Ar, cr, rfl, ht3, hr3, hb3⟩
  have BK3 := Lib.hid (BK2.out.below hb3 BK2.out.lt)
  have BEL3 := Lib.hid (below_then BEL2.out hb3)
  have HS3 := Lib.hid (HS2.out.below hb3)
  have HD3 := Lib.hid (HD2.out.below hb3)
  have HT3 := Lib.hid (HT2.out.below hb3)
  have c30 : w3.cell? ⟨w.heap.size, 0, none⟩ = some (.int .i64 (s : Int)) := BK3.out.cell 0
  have c31 : w3.cell? ⟨w.heap.size, 1, none⟩ = some (.int .i64 (B : Int)) := BK3.out.cell 1
  have c32 : w3.cell? ⟨w.heap.size, 2, none⟩ = some (.slice A nA cA) := BK3.out.cell 2
  have c33 : w3.cell? ⟨w.heap.size, 3, none⟩ = some (.slice Ad nd cd) := BK3.out.cell 3
  clear c20 c21 c22 c23
  have HX3 := Lib.hid ht3
  have HY3 := Lib.hid hr3
  clear hb3 ht3 hr3
  go_wp2_with fail
  refine (C.out.rootOk s nd B D a n A nA cA Ad cd salt data w3 m (HOV.out w3 HS3.out HD3.out) HS3.out HD3.out h64 (by omega) HT3.out HM.out).mono ?_
  rw [HRT.out]
  rintro e w4 ⟨Aq, cq, rfl, hq4, hb4⟩
  have BK4 := Lib.hid (BK3.out.below hb4 BK3.out.lt)
  have BEL4 := Lib.hid (below_then BEL3.out hb4)
  have HS4 := Lib.hid (HS3.out.below hb4)
  have HD4 := Lib.hid (HD3.out.below hb4)
  have HT4 := Lib.hid (HT3.out.below hb4)
  have c40 : w4.cell? ⟨w.heap.size, 0, none⟩ = some (.int .i64 (s : Int)) := BK4.out.cell 0
  have c41 : w4.cell? ⟨w.heap.size, 1, none⟩ = some (.int .i64 (B : Int)) := BK4.out.cell 1
  have c42 : w4.cell? ⟨w.heap.size, 2, none⟩ = some (.slice A nA cA) := BK4.out.cell 2
  have c43 : w4.cell? ⟨w.heap.size, 3, none⟩ = some (.slice Ad nd cd) := BK4.out.cell 3
  clear c30 c31 c32 c33
  have HX4 := Lib.hid (HX3.out.below hb4)
  have HY4 := Lib.hid (HY3.out.below hb4)
  have HQ4 := Lib.hid hq4
  clear hb4 hq4
  go_wp2_with fail
  refine (shape9_any (s : Int) B A nA cA Ad nd cd D HDD.out w4).mono ?_
  rw [decide_eq_true HOKT.out]
  rintro e w5 ⟨rfl, hb5⟩
  have BK5 := Lib.hid (BK4.out.below hb5 BK4.out.lt)
  have BEL5 := Lib.hid (below_then BEL4.out hb5)
  have HS5 := Lib.hid (HS4.out.below hb5)
  have HD5 := Lib.hid (HD4.out.below hb5)
  have HT5 := Lib.hid (HT4.out.below hb5)
  have c50 : w5.cell? ⟨w.heap.size, 0, none⟩ = some (.int .i64 (s : Int)) := BK5.out.cell 0
  have c51 : w5.cell? ⟨w.heap.size, 1, none⟩ = some (.int .i64 (B : Int)) := BK5.out.cell 1
  have c52 : w5.cell? ⟨w.heap.size, 2, none⟩ = some (.slice A nA cA) := BK5.out.cell 2
  have c53 : w5.cell? ⟨w.heap.size, 3, none⟩ = some (.slice Ad nd cd) := BK5.out.cell 3
  clear c40 c41 c42 c43
  have HX5 := Lib.hid (HX4.out.below hb5)
  have HY5 := Lib.hid (HY4.out.below hb5)
  have HQ5 := Lib.hid (HQ4.out.below hb5)
  clear hb5
  have e0 : (w5.alloc (.cells #[.int .i64 (nd : Int), .int .i64 (B : Int), .int .i64 (D : Int)] 32)).cell? ⟨w.heap.size, 0, none⟩ = some (.int .i64 (s : Int)) := (BK5.out.alloc _).cell 0
  have e2 : (w5.alloc (.cells #[.int .i64 (nd : Int), .int .i64 (B : Int), .int .i64 (D : Int)] 32)).cell? ⟨w.heap.size, 2, none⟩ = some (.slice A nA cA) := (BK5.out.alloc _).cell 2
  have e3 : (w5.alloc (.cells #[.int .i64 (nd : Int), .int .i64 (B : Int), .int .i64 (D : Int)] 32)).cell? ⟨w.heap.size, 3, none⟩ = some (.slice Ad nd cd) := (BK5.out.alloc _).cell 3
  have HB6 : Hid (Below w5.heap.size w5 (w5.alloc (.cells #[.int .i64 (nd : Int), .int .i64 (B : Int), .int .i64 (D : Int)] 32))) := (Below.refl _ _).alloc (Nat.le_refl _) _
  clear c50 c51 c52 c53
  have k0 : (w5.alloc (.cells #[.int .i64 (nd : Int), .int .i64 (B : Int), .int .i64 (D : Int)] 32)).cell? ⟨w5.heap.size, 0, none⟩ = some (.int .i64 (nd : Int)) := (Blk.new w5 32 [.int .i64 (nd : Int), .int .i64 (B : Int), .int .i64 (D : Int)]).cell 0
  have k1 : (w5.alloc (.cells #[.int .i64 (nd : Int), .int .i64 (B : Int), .int .i64 (D : Int)] 32)).cell? ⟨w5.heap.size, 1, none⟩ = some (.int .i64 (B : Int)) := (Blk.new w5 32 [.int .i64 (nd : Int), .int .i64 (B : Int), .int .i64 (D : Int)]).cell 1
  have k2 : (w5.alloc (.cells #[.int .i64 (nd : Int), .int .i64 (B : Int), .int .i64 (D : Int)] 32)).cell? ⟨w5.heap.size, 2, none⟩ = some (.int .i64 (D : Int)) := (Blk.new w5 32 [.int .i64 (nd : Int), .int .i64 (B : Int), .int .i64 (D : Int)]).cell 2
  go_wp2_with fail
  refine (RefSize_any (s : Int) _).mono ?_
  rw [HDD.out]
  rintro e w7 ⟨rfl, rfl⟩
  have BEL6 := Lib.hid (below_then BEL5.out HB6.out)
  have HS6 := Lib.hid (HS5.out.below HB6.out)
  have HD6 := Lib.hid (HD5.out.below HB6.out)
  have HX6 := Lib.hid (HX5.out.below HB6.out)
  have HY6 := Lib.hid (HY5.out.below HB6.out)
  have HQ6 := Lib.hid (HQ5.out.below HB6.out)
  go_wp2_with fail
  generalize (w5.alloc (.cells #[.int .i64 (nd : Int), .int .i64 (B : Int), .int .i64 (D : Int)] 32)) = w6 at *
  refine (RTree_any w6 (HOV.out w6 HS6.out HD6.out) (by omega) m HM.out).mono ?_
  rw [HTT.out, HRT.out]
  rintro e w8 ⟨B1, m1, b1, B2, b2, rfl, hx8, hy8, hb8⟩
  have q1 : (convert 22 9 (.slice At nt ct)).run Tryd.prog w8 = .ok (.string (str TT)) w8 := rd_str (HX6.out.rd.below hb8) ct
  have q2 : (convert 22 9 (.slice Ar D cr)).run Tryd.prog w8 = .ok (.string (str RT)) w8 := rd_str (HY6.out.rd.below hb8) cr
  have q3 : (convert 22 9 (.slice Aq D cq)).run Tryd.prog w8 = .ok (.string (str RT)) w8 := rd_str (HQ6.out.rd.below hb8) cq
  have q4 : (convert 22 9 (.slice B1 m1 b1)).run Tryd.prog w8 = .ok (.string (str TT)) w8 := rd_str hx8 b1
  have q5 : (convert 22 9 (.slice B2 D b2)).run Tryd.prog w8 = .ok (.string (str RT)) w8 := rd_str hy8 b2
  have BEL8 := Lib.hid (below_then BEL6.out hb8)
  clear hx8 hy8 hb8 e0 e2 e3 k0 k1 k2
  go_wp2
  go_ret
  exact ⟨rfl, BEL8.out⟩
theorem makes_walk (CC : Code9) (HA0 : ∀ w : World, Both w → Calls Tryd.prog 11 #[] w fun e w' => e = .returned (.bool true) ∧ Below w.heap.size w w') (z b : Int) (A : Option Addr) (nA cA : Nat) (Ad : Option Addr) (nd cd : Nat) (salt data : List Nat) (w : World) (hz : I64 z) (hb : I64 b) (hs : Bs w A nA cA salt) (hd : Bs w Ad nd cd data) (ht : Both w) : Calls Tryd.prog 3 #[.agg #[.int .i64 z, .int .i64 b, .slice A nA cA, .slice Ad nd cd]] w fun e w' => e = .returned (.bool true) ∧ Below w.heap.size w w' := by
  by_cases hsm : nA ≤ 100 ∧ nd ≤ 1500
  · by_cases h0 : sizeOfAlg z = 0
    · exact makes_alg CC HA0 z b A nA cA Ad nd cd salt data w hz hb hs hd ht hsm _ rfl h0
    · by_cases h64 : nA ≤ 64
      · by_cases hR : Rgt nd b (sizeOfAlg z : Nat)
        · exact makes_ok CC HA0 z b A nA cA Ad nd cd salt data w hz hb hs hd ht hsm _ rfl h64 hR
        · exact makes_size CC HA0 z b A nA cA Ad nd cd salt data w hz hb hs hd ht hsm _ rfl h0 h64 hR
      · exact makes_salt CC HA0 z b A nA cA Ad nd cd salt data w hz hb hs hd ht hsm _ rfl h0 (by omega)
  · exact makes_big CC HA0 z b A nA cA Ad nd cd salt data w hz hb hs hd ht hsm
end Go.Proofs.YtijblgbpfffagaaDoor
