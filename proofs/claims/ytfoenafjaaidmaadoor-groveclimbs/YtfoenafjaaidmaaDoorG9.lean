/-
  What Climb of package grove answers.
-/
import Derived.Test.YtfoenafjaaidmaaDoorG8
import Derived.Test.YtfoenafjaaidmaaDoorCg
namespace Go.Proofs.YtfoenafjaaidmaaDoor
open Go.RowKit
set_option linter.unusedVariables false
set_option linter.unusedSimpArgs false
set_option maxRecDepth 100000

set_option maxHeartbeats 4000000 in
theorem Climb_shape (z S B i : Int) (D : Nat) (A : Option Addr) (nA cA : Nat) (Al : Option Addr) (nl cl : Nat) (Ar : Option Addr) (nr cr : Nat) (w : World) (hS : I64 S) (hB : I64 B) (hi : I64 i) (he : faultEr z nA = 0) (hs : sizeOfAlg z = D) (hR : ¬ Rgt S B D) : Calls Tryd.prog 20 #[.int .i64 z, .slice A nA cA, .agg #[.int .i64 S, .int .i64 B, .int .i64 (D : Int)], .int .i64 i, .slice Al nl cl, .slice Ar nr cr] w fun e w' => e = .returned (.int .i64 24) ∧ Below w.heap.size w w' := by
  have HE := Lib.hid he
  have HDD := Lib.hid hs
  have HR := Lib.hid hR
  have HI := Lib.hid hi
  have HIS := Lib.hid hS
  have HIB := Lib.hid hB
  have HID : Hid (I64 (D : Int)) := by have := sizeAlg64 z; show I64 _; unfold I64; omega
  have d0 : ((D : Int) != (D : Int)) = false := by simp
  clear he hs hR hS hB hi
  have HB1 : Hid (Below w.heap.size w (w.alloc (.cells #[.int .i64 S, .int .i64 B, .int .i64 (D : Int)] 44))) := (Below.refl _ _).alloc (Nat.le_refl _) _
  have hbx := shape_box w S B (D : Int)
  have HSZ : Hid (∀ u : World, Calls Tryd.prog 34 #[.int .i64 z] u fun e u' => e = .returned (.int .i64 (D : Int)) ∧ u' = u) := fun u => by
    have := Size7_any z u
    rw [HDD.out] at this
    exact this.mono fun e u' h => ⟨h.1, h.2.symm⟩
  go_enter Tryd.func20, Tryd.ntmps20
  go_wp2_with fail
  refine (fault_any z A nA cA _).mono ?_
  rintro e w1 ⟨rfl, rfl⟩
  rw [HE.out]
  generalize (w.alloc (.cells #[.int .i64 S, .int .i64 B, .int .i64 (D : Int)] 44)) = W at *
  have c0 : W.cell? ⟨w.heap.size, 0, none⟩ = some (.int .i64 S) := hbx.cell 0
  have c1 : W.cell? ⟨w.heap.size, 1, none⟩ = some (.int .i64 B) := hbx.cell 1
  have c2 : W.cell? ⟨w.heap.size, 2, none⟩ = some (.int .i64 (D : Int)) := hbx.cell 2
  go_wp2
  go_quiet ((go_at_call 34; exact Calls.quiet_of_same (HSZ.out _)))
  have HWd : Hid (∀ j u, Below (W.drewN j).heap.size (W.drewN j) u → Below w.heap.size w u) := fun j u h => below_then (below_drewN HB1.out j) h
  go_wp2_with fail
  refine (Path_bad S B (D : Int) i _ HIS.out HIB.out HID.out HI.out HR.out).mono ?_
  rintro e w2 ⟨A2, c2', rfl, _, hb2⟩
  have BEL2 := Lib.hid (HWd.out _ w2 hb2)
  clear hb2
  go_wp2
  go_ret
  exact ⟨rfl, BEL2.out⟩
set_option maxHeartbeats 4000000 in
theorem Climb_range (z : Int) (S B D a n : Nat) (i : Int) (A : Option Addr) (nA cA : Nat) (Al : Option Addr) (nl cl : Nat) (Ar : Option Addr) (nr cr : Nat) (w : World) (h : Shp S B D a n) (hi : I64 i) (he : faultEr z nA = 0) (hs : sizeOfAlg z = D) (hr : i < 0 ∨ (n : Int) ≤ i) : Calls Tryd.prog 20 #[.int .i64 z, .slice A nA cA, .agg #[.int .i64 (S : Int), .int .i64 (B : Int), .int .i64 (D : Int)], .int .i64 i, .slice Al nl cl, .slice Ar nr cr] w fun e w' => e = .returned (.int .i64 13) ∧ Below w.heap.size w w' := by
  have HE := Lib.hid he
  have HDD := Lib.hid hs
  have HSH := Lib.hid h
  have HI := Lib.hid hi
  have HR := Lib.hid hr
  have d0 : ((D : Int) != (D : Int)) = false := by simp
  clear he hs h hr hi
  have HB1 : Hid (Below w.heap.size w (w.alloc (.cells #[.int .i64 (S : Int), .int .i64 (B : Int), .int .i64 (D : Int)] 44))) := (Below.refl _ _).alloc (Nat.le_refl _) _
  have hbx := shape_box w (S : Int) (B : Int) (D : Int)
  have HSZ : Hid (∀ u : World, Calls Tryd.prog 34 #[.int .i64 z] u fun e u' => e = .returned (.int .i64 (D : Int)) ∧ u' = u) := fun u => by
    have := Size7_any z u
    rw [HDD.out] at this
    exact this.mono fun e u' h => ⟨h.1, h.2.symm⟩
  go_enter Tryd.func20, Tryd.ntmps20
  go_wp2_with fail
  refine (fault_any z A nA cA _).mono ?_
  rintro e w1 ⟨rfl, rfl⟩
  rw [HE.out]
  generalize (w.alloc (.cells #[.int .i64 (S : Int), .int .i64 (B : Int), .int .i64 (D : Int)] 44)) = W at *
  have c0 : W.cell? ⟨w.heap.size, 0, none⟩ = some (.int .i64 (S : Int)) := hbx.cell 0
  have c1 : W.cell? ⟨w.heap.size, 1, none⟩ = some (.int .i64 (B : Int)) := hbx.cell 1
  have c2 : W.cell? ⟨w.heap.size, 2, none⟩ = some (.int .i64 (D : Int)) := hbx.cell 2
  go_wp2
  go_quiet ((go_at_call 34; exact Calls.quiet_of_same (HSZ.out _)))
  have HWd : Hid (∀ j u, Below (W.drewN j).heap.size (W.drewN j) u → Below w.heap.size w u) := fun j u h => below_then (below_drewN HB1.out j) h
  go_wp2_with fail
  refine (Path_range S B D a n i _ HSH.out HI.out HR.out).mono ?_
  rintro e w2 ⟨A2, c2', rfl, _, hb2⟩
  have BEL2 := Lib.hid (HWd.out _ w2 hb2)
  clear hb2
  go_wp2
  go_ret
  exact ⟨rfl, BEL2.out⟩
set_option maxHeartbeats 4000000 in
theorem Climb_many (z : Int) (S B D a n i : Nat) (A : Option Addr) (nA cA : Nat) (Al : Option Addr) (nl cl : Nat) (ps : List Bt) (Ar : Option Addr) (nr cr : Nat) (w : World) (h : Shp S B D a n) (hi : i < n) (he : faultEr z nA = 0) (hs : sizeOfAlg z = D) (hls : Ls w Al nl cl ps) (hnl : nl ≠ (cs a n).length) : Calls Tryd.prog 20 #[.int .i64 z, .slice A nA cA, .agg #[.int .i64 (S : Int), .int .i64 (B : Int), .int .i64 (D : Int)], .int .i64 (i : Int), .slice Al nl cl, .slice Ar nr cr] w fun e w' => e = .returned (.int .i64 12) ∧ Below w.heap.size w w' := by
  have HE := Lib.hid he
  have HDD := Lib.hid hs
  have HSH := Lib.hid h
  have HLS := Lib.hid hls
  have HIN := Lib.hid hi
  have HNL := Lib.hid hnl
  have d0 : ((D : Int) != (D : Int)) = false := by simp
  clear he hs h hi hls hnl
  have HB1 : Hid (Below w.heap.size w (w.alloc (.cells #[.int .i64 (S : Int), .int .i64 (B : Int), .int .i64 (D : Int)] 44))) := (Below.refl _ _).alloc (Nat.le_refl _) _
  have hbx := shape_box w (S : Int) (B : Int) (D : Int)
  have HSZ : Hid (∀ u : World, Calls Tryd.prog 34 #[.int .i64 z] u fun e u' => e = .returned (.int .i64 (D : Int)) ∧ u' = u) := fun u => by
    have := Size7_any z u
    rw [HDD.out] at this
    exact this.mono fun e u' h => ⟨h.1, h.2.symm⟩
  go_enter Tryd.func20, Tryd.ntmps20
  go_wp2_with fail
  refine (fault_any z A nA cA _).mono ?_
  rintro e w1 ⟨rfl, rfl⟩
  rw [HE.out]
  generalize (w.alloc (.cells #[.int .i64 (S : Int), .int .i64 (B : Int), .int .i64 (D : Int)] 44)) = W at *
  have c0 : W.cell? ⟨w.heap.size, 0, none⟩ = some (.int .i64 (S : Int)) := hbx.cell 0
  have c1 : W.cell? ⟨w.heap.size, 1, none⟩ = some (.int .i64 (B : Int)) := hbx.cell 1
  have c2 : W.cell? ⟨w.heap.size, 2, none⟩ = some (.int .i64 (D : Int)) := hbx.cell 2
  go_wp2
  go_quiet ((go_at_call 34; exact Calls.quiet_of_same (HSZ.out _)))
  have HWd : Hid (∀ j u, Below (W.drewN j).heap.size (W.drewN j) u → Below w.heap.size w u) := fun j u h => below_then (below_drewN HB1.out j) h
  go_wp2_with fail
  refine (Path_ok S B D a n i _ HSH.out HIN.out).mono ?_
  rintro e w2 ⟨A2, m, c2', rfl, hm, hpth, hmc, hcm, hb2⟩
  have BEL2 := Lib.hid (HWd.out _ w2 hb2)
  have HPT := Lib.hid hpth
  have HM := Lib.hid hm
  have k1 : w2.cell? ⟨w.heap.size, 1, none⟩ = some (.int .i64 (B : Int)) := (hb2.cell (p := ⟨w.heap.size, 1, none⟩) hbx.lt).trans (show _ = _ from c1)
  have HK0 : Hid (Blk w2 w.heap.size 44 [.int .i64 (S : Int), .int .i64 (B : Int), .int .i64 (D : Int)]) := (hb2.block w.heap.size hbx.lt).trans hbx
  have HLS2 := Lib.hid (HLS.out.below BEL2.out)
  have d1 : ((nl : Int) != (m : Int)) = true := by have hnl := HNL.out; rw [hm] at hnl; simp; omega
  clear hb2 hpth hm c0 c1 c2 hbx
  go_wp2
  go_ret
  exact ⟨rfl, BEL2.out⟩
set_option maxHeartbeats 4000000 in
theorem Climb_form (z : Int) (S B D a n i : Nat) (A : Option Addr) (nA cA : Nat) (Al : Option Addr) (nl cl : Nat) (ps : List Bt) (Ar : Option Addr) (nr cr : Nat) (w : World) (h : Shp S B D a n) (hi : i < n) (he : faultEr z nA = 0) (hs : sizeOfAlg z = D) (hls : Ls w Al nl cl ps) (hnl : nl = (cs a n).length) (hf : ¬ ∀ p ∈ ps, p.n = B) : Calls Tryd.prog 20 #[.int .i64 z, .slice A nA cA, .agg #[.int .i64 (S : Int), .int .i64 (B : Int), .int .i64 (D : Int)], .int .i64 (i : Int), .slice Al nl cl, .slice Ar nr cr] w fun e w' => e = .returned (.int .i64 12) ∧ Below w.heap.size w w' := by
  have HF := Lib.hid (decide_eq_false hf)
  have HE := Lib.hid he
  have HDD := Lib.hid hs
  have HSH := Lib.hid h
  have HLS := Lib.hid hls
  have HIN := Lib.hid hi
  have HNL := Lib.hid hnl
  have d0 : ((D : Int) != (D : Int)) = false := by simp
  clear he hs h hi hls hnl
  have HB1 : Hid (Below w.heap.size w (w.alloc (.cells #[.int .i64 (S : Int), .int .i64 (B : Int), .int .i64 (D : Int)] 44))) := (Below.refl _ _).alloc (Nat.le_refl _) _
  have hbx := shape_box w (S : Int) (B : Int) (D : Int)
  have HSZ : Hid (∀ u : World, Calls Tryd.prog 34 #[.int .i64 z] u fun e u' => e = .returned (.int .i64 (D : Int)) ∧ u' = u) := fun u => by
    have := Size7_any z u
    rw [HDD.out] at this
    exact this.mono fun e u' h => ⟨h.1, h.2.symm⟩
  go_enter Tryd.func20, Tryd.ntmps20
  go_wp2_with fail
  refine (fault_any z A nA cA _).mono ?_
  rintro e w1 ⟨rfl, rfl⟩
  rw [HE.out]
  generalize (w.alloc (.cells #[.int .i64 (S : Int), .int .i64 (B : Int), .int .i64 (D : Int)] 44)) = W at *
  have c0 : W.cell? ⟨w.heap.size, 0, none⟩ = some (.int .i64 (S : Int)) := hbx.cell 0
  have c1 : W.cell? ⟨w.heap.size, 1, none⟩ = some (.int .i64 (B : Int)) := hbx.cell 1
  have c2 : W.cell? ⟨w.heap.size, 2, none⟩ = some (.int .i64 (D : Int)) := hbx.cell 2
  go_wp2
  go_quiet ((go_at_call 34; exact Calls.quiet_of_same (HSZ.out _)))
  have HWd : Hid (∀ j u, Below (W.drewN j).heap.size (W.drewN j) u → Below w.heap.size w u) := fun j u h => below_then (below_drewN HB1.out j) h
  go_wp2_with fail
  refine (Path_ok S B D a n i _ HSH.out HIN.out).mono ?_
  rintro e w2 ⟨A2, m, c2', rfl, hm, hpth, hmc, hcm, hb2⟩
  have BEL2 := Lib.hid (HWd.out _ w2 hb2)
  have HPT := Lib.hid hpth
  have HM := Lib.hid hm
  have k1 : w2.cell? ⟨w.heap.size, 1, none⟩ = some (.int .i64 (B : Int)) := (hb2.cell (p := ⟨w.heap.size, 1, none⟩) hbx.lt).trans (show _ = _ from c1)
  have HK0 : Hid (Blk w2 w.heap.size 44 [.int .i64 (S : Int), .int .i64 (B : Int), .int .i64 (D : Int)]) := (hb2.block w.heap.size hbx.lt).trans hbx
  have HLS2 := Lib.hid (HLS.out.below BEL2.out)
  have hnm : nl = m := by have hnl := HNL.out; rw [hm] at hnl; exact hnl
  subst hnm
  have d1 : ((nl : Int) != (nl : Int)) = false := by simp
  clear hb2 hpth hm c0 c1 c2 hbx
  go_wp2_with fail
  refine (allOf_any Al nl cl ps B w2 HLS2.out).mono ?_
  rw [HF.out]
  rintro e w3 ⟨rfl, rfl⟩
  go_wp2
  go_ret
  exact ⟨rfl, BEL2.out⟩
set_option maxHeartbeats 8000000 in
theorem Climb_main (z S B D a n i : Nat) (A : Option Addr) (nA cA : Nat) (salt : List Nat) (Al : Option Addr) (nl cl : Nat) (ps : List Bt) (Ar : Option Addr) (nr cr : Nat) (root : List Nat) (er : Int) (w : World) (h : Shp S B D a n) (hz : z = 1 ∨ z = 2) (hs : sizeOfAlg (z : Int) = D) (hsl : Bs w A nA cA salt) (h64 : nA ≤ 64) (hls : Ls w Al nl cl ps) (hrt : Bs w Ar nr cr root) (hi : i < n) (hnl : nl = (cs a n).length) (hf : ∀ p ∈ ps, p.n = B) (hT : Both w) (hcl : climbEr (hsh z salt) D a i nl (ps.map (·.l)) root er) : Calls Tryd.prog 20 #[.int .i64 (z : Int), .slice A nA cA, .agg #[.int .i64 (S : Int), .int .i64 (B : Int), .int .i64 (D : Int)], .int .i64 (i : Int), .slice Al nl cl, .slice Ar nr cr] w fun e w' => e = .returned (.int .i64 er) ∧ Below w.heap.size w w' := by
  have HF := Lib.hid (decide_eq_true hf)
  have HFF := Lib.hid hf
  have HCL := Lib.hid hcl
  have HSL := Lib.hid hsl
  have HRT := Lib.hid hrt
  have HT := Lib.hid hT
  have HZ := Lib.hid hz
  have hb := h.b
  have ha := h.a2
  have haD := h.aD
  have HAD := Lib.hid haD
  have he : faultEr (z : Int) nA = 0 := faultEr_ok (by have := h.b; intro e; omega) h64
  have HE := Lib.hid he
  have HDD := Lib.hid hs
  have HSH := Lib.hid h
  have HLS := Lib.hid hls
  have HIN := Lib.hid hi
  have HNL := Lib.hid hnl
  have d0 : ((D : Int) != (D : Int)) = false := by simp
  clear he hs h hi hls hnl
  have HB1 : Hid (Below w.heap.size w (w.alloc (.cells #[.int .i64 (S : Int), .int .i64 (B : Int), .int .i64 (D : Int)] 44))) := (Below.refl _ _).alloc (Nat.le_refl _) _
  have hbx := shape_box w (S : Int) (B : Int) (D : Int)
  have HSZ : Hid (∀ u : World, Calls Tryd.prog 34 #[.int .i64 (z : Int)] u fun e u' => e = .returned (.int .i64 (D : Int)) ∧ u' = u) := fun u => by
    have := Size7_any (z : Int) u
    rw [HDD.out] at this
    exact this.mono fun e u' h => ⟨h.1, h.2.symm⟩
  go_enter Tryd.func20, Tryd.ntmps20
  go_wp2_with fail
  refine (fault_any (z : Int) A nA cA _).mono ?_
  rintro e w1 ⟨rfl, rfl⟩
  rw [HE.out]
  generalize (w.alloc (.cells #[.int .i64 (S : Int), .int .i64 (B : Int), .int .i64 (D : Int)] 44)) = W at *
  have c0 : W.cell? ⟨w.heap.size, 0, none⟩ = some (.int .i64 (S : Int)) := hbx.cell 0
  have c1 : W.cell? ⟨w.heap.size, 1, none⟩ = some (.int .i64 (B : Int)) := hbx.cell 1
  have c2 : W.cell? ⟨w.heap.size, 2, none⟩ = some (.int .i64 (D : Int)) := hbx.cell 2
  go_wp2
  go_quiet ((go_at_call 34; exact Calls.quiet_of_same (HSZ.out _)))
  have HWd : Hid (∀ j u, Below (W.drewN j).heap.size (W.drewN j) u → Below w.heap.size w u) := fun j u h => below_then (below_drewN HB1.out j) h
  go_wp2_with fail
  refine (Path_ok S B D a n i _ HSH.out HIN.out).mono ?_
  rintro e w2 ⟨A2, m, c2', rfl, hm, hpth, hmc, hcm, hb2⟩
  have BEL2 := Lib.hid (HWd.out _ w2 hb2)
  have HPT := Lib.hid hpth
  have HM := Lib.hid hm
  have k1 : w2.cell? ⟨w.heap.size, 1, none⟩ = some (.int .i64 (B : Int)) := (hb2.cell (p := ⟨w.heap.size, 1, none⟩) hbx.lt).trans (show _ = _ from c1)
  have HK0 : Hid (Blk w2 w.heap.size 44 [.int .i64 (S : Int), .int .i64 (B : Int), .int .i64 (D : Int)]) := (hb2.block w.heap.size hbx.lt).trans hbx
  have HLS2 := Lib.hid (HLS.out.below BEL2.out)
  have hnm : nl = m := by have hnl := HNL.out; rw [hm] at hnl; exact hnl
  have h41 : m ≤ 41 := by rw [← hm]; exact cnts_len _ _ _
  have hpos : 1 ≤ m := by rw [← hm]; exact List.length_pos_iff.2 (cnts_ne a 40 n)
  subst hnm
  have d1 : ((nl : Int) != (nl : Int)) = false := by simp
  clear hb2 hpth hm c0 c1 c2 hbx hf hcl hsl hrt hT hz haD
  go_wp2_with fail
  refine (allOf_any Al nl cl ps B w2 HLS2.out).mono ?_
  rw [HF.out]
  rintro e w3 ⟨rfl, rfl⟩
  obtain ⟨t, ht⟩ : ∃ t, nl = t + 1 := ⟨nl - 1, by omega⟩
  have xt : (nl : Int) - 1 = (t : Int) := by omega
  have htc : t ≤ c2' := by omega
  have htn : t < nl := by omega
  have HTT := Lib.hid ht
  unfold maxLen at hcm
  obtain ⟨H, hH⟩ : ∃ H, hsh z salt = H := ⟨_, rfl⟩
  have HH := Lib.hid hH
  rw [hH] at HCL
  obtain ⟨LL, hLL⟩ : ∃ LL, ps.map (·.l) = LL := ⟨_, rfl⟩
  have HLL := Lib.hid hLL
  rw [hLL] at HCL
  have HK2 := Lib.hid k1
  clear ht hH hLL k1
  go_wp2
  go_loopw [61] (fun v wr => ∃ k : Nat, k ≤ t ∧ v = .int .i64 (k : Int) ∧ Hid (∀ j x y, j < k → LL[j]? = some x → LL[j + 1]? = some y → (y.drop (i / a ^ j % a * D)).take D = H x) ∧ Hid (Below w2.heap.size w2 wr)) (fun v _ => t - (intOf v).toNat)
  case atStart => exact ⟨0, Nat.zero_le _, rfl, fun j x y hj => absurd hj (Nat.not_lt_zero _), below_self⟩
  case round =>
    obtain ⟨k, hkM, rfl, HLK, HBW⟩ := hrel
    have BELr := Lib.hid (below_then BEL2.out HBW.out)
    by_cases hk : k < t
    · have zk : (k : Int) < t := by omega
      obtain ⟨q, hq⟩ : ∃ q, k + 1 = q := ⟨_, rfl⟩
      have xq : (k : Int) + 1 = (q : Int) := by omega
      have hqn : q < nl := by omega
      have hkn : k < nl := by omega
      obtain ⟨adp, x, y, rfl, hcz, hix, hiy⟩ := (HPT.out.below HBW.out) k hkn
      obtain ⟨ad, p0, rfl, hp0, hcp0, hrp0, hfp0⟩ := (HLS2.out.below HBW.out).get hkn
      obtain ⟨ad', p1, e', hp1, hcp1, hrp1, hfp1⟩ := (HLS2.out.below HBW.out).get hqn
      injection e' with e'
      subst e'
      have hm0 := HLS2.out.2.2.2.2 p0 (List.mem_of_getElem? hp0)
      have hm1 := HLS2.out.2.2.2.2 p1 (List.mem_of_getElem? hp1)
      have hn0 := HFF.out p0 (List.mem_of_getElem? hp0)
      have hn1 := HFF.out p1 (List.mem_of_getElem? hp1)
      have hc0' := (HLS2.out.1.2.2 p0 (List.mem_of_getElem? hp0)).2.2
      have hc1' := (HLS2.out.1.2.2 p1 (List.mem_of_getElem? hp1)).2.2
      have HL0 : Hid (LL[k]? = some p0.l) := by show _ = _; rw [← HLL.out, List.getElem?_map, hp0]; rfl
      have HL1 : Hid (LL[q]? = some p1.l) := by show _ = _; rw [← HLL.out, List.getElem?_map, hp1]; rfl
      obtain ⟨pA, pn, pc, pl⟩ := p0
      obtain ⟨qA, qn, qc, ql⟩ := p1
      simp only at hcp0 hrp0 hfp0 hcp1 hrp1 hfp1 hm0 hm1 hn0 hn1 hc0' hc1' HL0 HL1
      have HB0 : Hid (Bs wr pA pn pc pl) := ⟨hrp0, hfp0, hc0', hm0.1, hm0.2⟩
      have HB1' : Hid (Bs wr qA qn qc ql) := ⟨hrp1, hfp1, hc1', hm1.1, hm1.2⟩
      obtain ⟨o, ho⟩ : ∃ o, i / a ^ k % a * D = o := ⟨_, rfl⟩
      have HO := Lib.hid ho
      have hoB : o + D ≤ B := by
        have h1 : i / a ^ k % a < a := Nat.mod_lt _ (by omega)
        have h2 : (i / a ^ k % a + 1) * D ≤ a * D := Nat.mul_le_mul_right _ h1
        rw [Nat.add_mul, Nat.one_mul, ho, HAD.out] at h2
        exact h2
      have HAB : Hid (∀ u : World, _) := fun u => Above_ok S B D a n (i / a ^ k) k x y u HSH.out (by rw [HM.out]; have := HTT.out; omega) (above_lt (by omega) HIN.out k) hix hiy
      rw [ho] at HAB
      have hbk := HK0.out.below HBW.out HK0.out.lt
      have c0 : wr.cell? ⟨w.heap.size, 0, none⟩ = some (.int .i64 (S : Int)) := hbk.cell 0
      have c1 : wr.cell? ⟨w.heap.size, 1, none⟩ = some (.int .i64 (B : Int)) := hbk.cell 1
      have c2 : wr.cell? ⟨w.heap.size, 2, none⟩ = some (.int .i64 (D : Int)) := hbk.cell 2
      have HC0 := Lib.hid hcp0
      have HC1 := Lib.hid hcp1
      have HQ := Lib.hid hq
      have hlt0 : (ad.add k).block < wr.heap.size := cell_lt hcp0
      have hlt1 : (ad.add q).block < wr.heap.size := cell_lt hcp1
      have HN0 : Hid (pn = B) := hn0
      have HN1 : Hid (qn = B) := hn1
      clear hp0 hp1 hrp0 hfp0 hrp1 hfp1 hm0 hm1 hn0 hn1 hc0' hc1' ho hix hiy hbk hcp0 hcp1 hq
      go_wp2_with fail
      refine (HAB.out wr).mono ?_
      rintro e w4 ⟨x', y', rfl, _, _, hb4⟩
      have hcp0 : w4.cell? (ad.add k) = some (.slice pA pn pc) := (hb4.cell (p := ad.add k) hlt0).trans HC0.out
      have hcp1 : w4.cell? (ad.add q) = some (.slice qA qn qc) := (hb4.cell (p := ad.add q) hlt1).trans HC1.out
      have HBW4 := Lib.hid (below_then HBW.out hb4)
      have BEL4 := Lib.hid (below_then BELr.out hb4)
      have HB04 := Lib.hid (HB0.out.below hb4)
      have HB14 := Lib.hid (HB1'.out.below hb4)
      obtain ⟨r, hr⟩ : ∃ r : Bool, (r = true ↔ (ql.drop o).take D = H pl) := ⟨decide ((ql.drop o).take D = H pl), by simp⟩
      have HR := Lib.hid hr
      have HCK : Hid (∀ u, Below w4.heap.size w4 u → Calls Tryd.prog 26 #[.int .i64 (z : Int), .slice A nA cA, .slice qA qn qc, .int .i64 (o : Int), .slice pA pn pc] u fun e u' => e = .returned (.bool r) ∧ Below u.heap.size u u') := fun u hu => by
        refine Check_any (z : Int) A nA cA qA qn qc (o : Int) pA pn pc salt ql pl r u (by rcases HZ.out with rfl | rfl <;> (unfold I64; omega)) (by unfold I64; omega) ((HSL.out.below BEL4.out).below hu) (HB14.out.below hu) (HB04.out.below hu) (by have := HN1.out; omega) (by have := HN0.out; omega) ((HT.out.below BEL4.out).below hu) ?_
        rw [HR.out]
        have hqll : ql.length = B := by have := HB14.out.rd.1; have := HN1.out; omega
        constructor
        · intro e
          exact ⟨z, o, rfl, rfl, HZ.out, h64, by rw [HDD.out, hqll]; exact hoB, by rw [HDD.out, HH.out]; exact e⟩
        · rintro ⟨s', k', e1, e2, _, _, _, e6⟩
          obtain rfl : z = s' := by omega
          obtain rfl : o = k' := by omega
          rw [HDD.out, HH.out] at e6
          exact e6
      clear hb4 hr hlt0 hlt1 c0 c1 c2 hcz
      have hdr : Below w4.heap.size w4 w4.drew := below_drew1 below_self
      have hwq : IntKind.i64.wrap (q : Int) = (q : Int) := by rw [IntKind.wrap_i64]; omega
      cases r
      · have her : er = 54 := by
          have hno : ¬ Linked H D a i LL := fun h => by
            have := h k pl ql HL0.out (by rw [HQ.out]; exact HL1.out)
            rw [HO.out] at this
            have h2 := HR.out.2 this
            cases h2
          rcases HCL.out with ⟨_, h⟩ | ⟨h, _⟩ | ⟨h, _⟩
          · exact h
          · exact absurd h hno
          · exact absurd h hno
        subst her
        go_wp2
        go_region_law (first | (go_simp; go_at_call 26; refine (HCK.out _ hdr).mono ?_; rintro e w5 ⟨rfl, hb5⟩))
        all_goals (go_wp2; go_ret; exact ⟨rfl, below_then BEL4.out (below_then hdr hb5)⟩)
      · have HLN : Hid (∀ j x y, j < q → LL[j]? = some x → LL[j + 1]? = some y → (y.drop (i / a ^ j % a * D)).take D = H x) := fun j x y hj hx hy => by
          rcases Nat.lt_or_ge j k with h1 | h1
          · exact HLK.out j x y h1 hx hy
          · obtain rfl : j = k := by have := HQ.out; omega
            rw [HL0.out] at hx
            rw [HQ.out, HL1.out] at hy
            injection hx with hx
            injection hy with hy
            rw [HO.out, ← hx, ← hy]
            exact HR.out.1 rfl
        go_wp2
        go_region_law (first | (go_simp; go_at_call 26; refine (HCK.out _ hdr).mono ?_; rintro e w5 ⟨rfl, hb5⟩))
        all_goals go_wp2
        all_goals go_roundw
        all_goals first
          | exact ⟨q, by omega, by go_num, HLN, below_then HBW4.out (below_then hdr hb5)⟩
          | (simp [intOf]; omega)
    · obtain rfl : k = t := by omega
      have zk : ¬ (k : Int) < k := by omega
      obtain ⟨ad, p0, rfl, hp0, hcp0, hrp0, hfp0⟩ := (HLS2.out.below HBW.out).get htn
      have hn0 := HFF.out p0 (List.mem_of_getElem? hp0)
      have hc0' := (HLS2.out.1.2.2 p0 (List.mem_of_getElem? hp0)).2.2
      have HL0 : Hid (LL[k]? = some p0.l) := by show _ = _; rw [← HLL.out, List.getElem?_map, hp0]; rfl
      obtain ⟨pA, pn, pc, pl⟩ := p0
      simp only at hcp0 hrp0 hfp0 hn0 hc0' HL0
      have HR0 := Lib.hid hrp0
      have HF0 := Lib.hid hfp0
      have HN0 := Lib.hid hn0
      have hlk : Linked H D a i LL := fun j x y hx hy => by
        have := (List.getElem?_eq_some_iff.1 hy).1
        rw [← HLL.out, List.length_map, HLS2.out.1.1] at this
        exact HLK.out j x y (by have := HTT.out; omega) hx hy
      have hnk : nl - 1 = k := by have := HTT.out; omega
      have her : (H pl = root ∧ er = 0) ∨ (H pl ≠ root ∧ er = 51) := by
        rcases HCL.out with ⟨h, _⟩ | ⟨_, ⟨x, hx, hne⟩, h⟩ | ⟨_, hx, h⟩
        · exact absurd hlk h
        · rw [hnk, HL0.out] at hx
          injection hx with hx
          exact .inr ⟨by rw [hx]; exact hne, h⟩
        · exact .inl ⟨hx pl (by rw [hnk]; exact HL0.out), h⟩
      have HER := Lib.hid her
      have HB40 : Hid (pn ≤ pc) := hc0'
      clear hp0 hrp0 hfp0 hn0 hc0' hlk hnk her hcm hmc htc
      go_wp2_with fail
      refine (digest_any z D HZ.out HDD.out A nA cA salt pA pn pc pl wr (HSL.out.below BELr.out).rd HSL.out.fit HSL.out.le h64 HR0.out HF0.out HB40.out (by have := HN0.out; omega) (HT.out.below BELr.out)).mono ?_
      rw [HH.out]
      rintro e w5 ⟨g5, rfl, hg5, hB5, hb5⟩
      have BEL5 := Lib.hid (below_then BELr.out hb5)
      have HB5 := Lib.hid hB5
      have HHL : Hid ((H pl).length = D) := by show _ = _; rw [← HH.out]; exact hsh_length HZ.out HDD.out salt pl
      have HHF : Hid (Fit 256 (H pl)) := by show Fit 256 _; rw [← HH.out]; exact hsh_fit _ _ _
      clear hB5 hb5 hg5
      go_wp2_with fail
      refine (Equal_any _ _ D D nr cr (H pl) root w5 (HB5.out.rd D HHL.out) (HRT.out.below BEL5.out).rd HHF.out HRT.out.fit).mono ?_
      rcases HER.out with ⟨h1, rfl⟩ | ⟨h1, rfl⟩
      · rw [decide_eq_true h1]
        rintro e w6 ⟨rfl, rfl⟩
        go_wp2
        go_ret
        exact ⟨rfl, BEL5.out⟩
      · rw [decide_eq_false h1]
        rintro e w6 ⟨rfl, rfl⟩
        go_wp2
        go_ret
        exact ⟨rfl, BEL5.out⟩
theorem Climb_ok : ClimbOk := fun z S B D a n A nA cA salt i Al nl cl ps Ar nr cr root er w h hz hs hsl h64 hls hrt hi hnl hf hT hcl => Climb_main z S B D a n i A nA cA salt Al nl cl ps Ar nr cr root er w h hz hs hsl h64 hls hrt hi hnl hf hT hcl
theorem Climb_no : ClimbNo := by
  intro z S B D i A nA cA salt Al nl cl ps Ar nr cr root er w hz hS hB hD hi hsl hls hrt hnl hT hc
  rcases hc with ⟨h, rfl⟩ | ⟨h, h2, rfl⟩ | ⟨h, h2, h3, rfl⟩ | ⟨h, h2, h3, s, b, d, a, n, rfl, rfl, rfl, hsh, hc⟩
  · exact Climb_fault z S B D i A nA cA Al nl cl Ar nr cr 20 w (by rw [faultEr, if_pos h]) (by omega)
  · exact Climb_fault z S B D i A nA cA Al nl cl Ar nr cr 11 w (by rw [faultEr, if_neg h, if_pos h2]) (by omega)
  · by_cases hd : D = (sizeOfAlg z : Nat)
    · rcases h3 with h3 | h3
      · subst hd
        exact Climb_shape z S B i _ A nA cA Al nl cl Ar nr cr w hS hB hi (faultEr_ok h h2) rfl h3
      · exact absurd hd h3
    · exact Climb_digest z S B D i A nA cA Al nl cl Ar nr cr w (faultEr_ok h h2) _ rfl hd
  · have hd : sizeOfAlg z = d := by omega
    rcases hc with ⟨hr, rfl⟩ | ⟨h0, h1, hf, rfl⟩
    · exact Climb_range z s b d a n i A nA cA Al nl cl Ar nr cr w hsh hi (faultEr_ok h h2) hd hr
    · obtain ⟨k, rfl⟩ : ∃ k : Nat, i = k := ⟨i.toNat, by omega⟩
      have hk : k < n := by omega
      by_cases hl : nl = (cs a n).length
      · rcases hf with hf | ⟨p, hp, hne⟩
        · exact absurd hl hf
        · exact Climb_form z s b d a n k A nA cA Al nl cl ps Ar nr cr w hsh hk (faultEr_ok h h2) hd hls hl (fun hall => hne (by have := hall p hp; omega))
      · exact Climb_many z s b d a n k A nA cA Al nl cl ps Ar nr cr w hsh hk (faultEr_ok h h2) hd hls hl
theorem codeC : CodeC := ⟨Climb_ok, Climb_no⟩
end Go.Proofs.YtfoenafjaaidmaaDoor
