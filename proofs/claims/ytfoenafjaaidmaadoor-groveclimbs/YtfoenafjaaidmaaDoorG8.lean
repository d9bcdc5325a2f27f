/-
  What allOf of package grove answers, and Climb to what has a wrong form.
-/
import Derived.Test.YtfoenafjaaidmaaDoorG7
import Derived.Test.YtfoenafjaaidmaaDoorG2
import Derived.Test.YtfoenafjaaidmaaDoorLDiffers
namespace Go.Proofs.YtfoenafjaaidmaaDoor
open Go.RowKit
set_option linter.unusedVariables false
set_option linter.unusedSimpArgs false
set_option maxRecDepth 100000

set_option maxHeartbeats 1000000 in
theorem allOf_any (A : Option Addr) (n cap : Nat) (ps : List Bt) (B : Nat) (w : World) (h : Ls w A n cap ps) : Calls Tryd.prog 36 #[.slice A n cap, .int .i64 (B : Int)] w fun e w' => e = .returned (.bool (decide (∀ p ∈ ps, p.n = B))) ∧ w = w' := by
  have HP := Lib.hid h
  have hlen := h.1.1
  have hnc := h.2.1
  have hcm := h.2.2.1
  unfold maxLen at hcm
  clear h
  go_enter Tryd.func36, Tryd.ntmps36
  go_wp2
  go_loopw [9] (fun v wr => ∃ k : Nat, k ≤ n ∧ v = .int .i64 (k : Int) ∧ Hid (∀ j p, j < k → ps[j]? = some p → p.n = B) ∧ w = wr) (fun v _ => n - (intOf v).toNat)
  case atStart => exact ⟨0, Nat.zero_le _, rfl, fun j p hj => absurd hj (Nat.not_lt_zero _), rfl⟩
  case round =>
    obtain ⟨k, hkM, rfl, HB, rfl⟩ := hrel
    by_cases hk : k < n
    · have zk : (k : Int) < n := by omega
      obtain ⟨ad, p, rfl, hp, hcp, hrp, hfp⟩ := HP.out.get hk
      have HPk := Lib.hid hp
      clear hp hrp hfp
      by_cases hB : p.n = B
      · have e1 : ((p.n : Int) != (B : Int)) = false := by simp [hB]
        go_wp2
        go_roundw
        case rel =>
          refine ⟨k + 1, by omega, by go_num, fun j q hj hq => ?_, trivial⟩
          rcases Nat.lt_or_ge j k with h1 | h1
          · exact HB.out j q h1 hq
          · obtain rfl : j = k := by omega
            rw [HPk.out] at hq
            injection hq with hq
            rw [← hq]; exact hB
        case measure => simp [intOf]; omega
      · have e1 : ((p.n : Int) != (B : Int)) = true := by simp; omega
        have hno : decide (∀ p ∈ ps, p.n = B) = false := decide_eq_false (fun h => hB (h p (List.mem_of_getElem? HPk.out)))
        have HNO := Lib.hid hno
        clear hno
        go_wp2
        go_ret
        exact ⟨by rw [HNO.out]; rfl, rfl⟩
    · have zk : ¬ (k : Int) < n := by omega
      have hyes : decide (∀ p ∈ ps, p.n = B) = true := decide_eq_true (fun p hp => by
        obtain ⟨j, hj⟩ := List.mem_iff_getElem?.1 hp
        have := (List.getElem?_eq_some_iff.1 hj).1
        exact HB.out j p (by omega) hj)
      have HYES := Lib.hid hyes
      clear hyes
      go_wp2
      go_ret
      exact ⟨by rw [HYES.out]; rfl, rfl⟩
/-- What lies in the box of a shape. -/
theorem shape_box (w : World) (S B D : Int) : Blk (w.alloc (.cells #[.int .i64 S, .int .i64 B, .int .i64 D] 44)) w.heap.size 44 [.int .i64 S, .int .i64 B, .int .i64 D] := Blk.new w 44 [.int .i64 S, .int .i64 B, .int .i64 D]
set_option maxHeartbeats 2000000 in
theorem Climb_fault (z S B D i : Int) (A : Option Addr) (nA cA : Nat) (Al : Option Addr) (nl cl : Nat) (Ar : Option Addr) (nr cr : Nat) (er : Int) (w : World) (he : faultEr z nA = er) (h0 : er ≠ 0) : Calls Tryd.prog 20 #[.int .i64 z, .slice A nA cA, .agg #[.int .i64 S, .int .i64 B, .int .i64 D], .int .i64 i, .slice Al nl cl, .slice Ar nr cr] w fun e w' => e = .returned (.int .i64 er) ∧ Below w.heap.size w w' := by
  have HE := Lib.hid he
  have d0 : (er != 0) = true := by simpa using h0
  have HB1 : Hid (Below w.heap.size w (w.alloc (.cells #[.int .i64 S, .int .i64 B, .int .i64 D] 44))) := (Below.refl _ _).alloc (Nat.le_refl _) _
  clear he h0
  go_enter Tryd.func20, Tryd.ntmps20
  go_wp2_with fail
  refine (fault_any z A nA cA _).mono ?_
  rintro e w1 ⟨rfl, rfl⟩
  rw [HE.out]
  go_wp2
  go_ret
  exact ⟨rfl, HB1.out⟩
set_option maxHeartbeats 4000000 in
theorem Climb_digest (z S B D i : Int) (A : Option Addr) (nA cA : Nat) (Al : Option Addr) (nl cl : Nat) (Ar : Option Addr) (nr cr : Nat) (w : World) (he : faultEr z nA = 0) (s : Nat) (hs : sizeOfAlg z = s) (hD : D ≠ (s : Int)) : Calls Tryd.prog 20 #[.int .i64 z, .slice A nA cA, .agg #[.int .i64 S, .int .i64 B, .int .i64 D], .int .i64 i, .slice Al nl cl, .slice Ar nr cr] w fun e w' => e = .returned (.int .i64 24) ∧ Below w.heap.size w w' := by
  have HE := Lib.hid he
  have HS := Lib.hid hs
  have d0 : (D != (s : Int)) = true := by simpa using hD
  have HB1 : Hid (Below w.heap.size w (w.alloc (.cells #[.int .i64 S, .int .i64 B, .int .i64 D] 44))) := (Below.refl _ _).alloc (Nat.le_refl _) _
  have hbx := shape_box w S B D
  clear he hD hs
  go_enter Tryd.func20, Tryd.ntmps20
  go_wp2_with fail
  refine (fault_any z A nA cA _).mono ?_
  rintro e w1 ⟨rfl, rfl⟩
  rw [HE.out]
  generalize w.alloc (.cells #[.int .i64 S, .int .i64 B, .int .i64 D] 44) = W at *
  have c0 : W.cell? ⟨w.heap.size, 0, none⟩ = some (.int .i64 S) := hbx.cell 0
  have c1 : W.cell? ⟨w.heap.size, 1, none⟩ = some (.int .i64 B) := hbx.cell 1
  have c2 : W.cell? ⟨w.heap.size, 2, none⟩ = some (.int .i64 D) := hbx.cell 2
  have HSZ : Hid (∀ u : World, Calls Tryd.prog 34 #[.int .i64 z] u fun e u' => e = .returned (.int .i64 (s : Int)) ∧ u = u') := fun u => by
    have := Size7_any z u
    rw [HS.out] at this
    exact this
  go_wp2
  go_region_law (first | (go_simp; go_at_call 34; refine (HSZ.out _).mono ?_; rintro e u ⟨rfl, rfl⟩))
  all_goals (go_wp2; go_ret; exact ⟨rfl, below_drew1 HB1.out⟩)
end Go.Proofs.YtfoenafjaaidmaaDoor
