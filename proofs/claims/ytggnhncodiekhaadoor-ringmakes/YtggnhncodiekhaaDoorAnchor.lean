/-
  The document's examples hold of the program.
-/
import Derived.Test.YtggnhncodiekhaaDoorLaw
namespace Go.Proofs.YtggnhncodiekhaaDoor
open Go.RowKit
set_option linter.unusedVariables false
set_option linter.unusedSimpArgs false

theorem fit1 {x : Nat} (h : x < 4294967296) : Fit 4294967296 [x] := Fit.one h
theorem val1 (x : Nat) : val 4294967296 [x] = x := by simp [val]
theorem Compare_same_ (A A' : Option Addr) (n cap n' cap' : Nat) (la lb : List Nat) (w : World) (h : Rd .u32 w A n la) (h' : Rd .u32 w A' n' lb) (hf : Fit 4294967296 la) (hf' : Fit 4294967296 lb) (h1 : 1 ≤ n) (h2 : n ≤ 256) (h3 : 1 ≤ n') (h4 : n' ≤ 256) (he : val 4294967296 la = val 4294967296 lb) :
    Calls Tryd.prog 25 #[.slice A n cap, .slice A' n' cap'] w fun e w' => e = .returned (.int .i64 0) ∧ Below w.heap.size w w' := by
  have := Compare_ok A A' n cap n' cap' la lb w h h' hf hf' h1 h2 h3 h4
  rw [he, ord_self] at this
  exact this
theorem Whole.ringed {w : World} {g k N : Nat} (h : Whole w g k N) : ∃ n0 A c R ln, Ringed w g k N n0 A c R ln := by
  obtain ⟨n0, A, c, ln, A', c', lr, h1, h2, h3, h4⟩ := h
  exact ⟨n0, A, c, _, ln, h1⟩

set_option maxRecDepth 100000 in
set_option maxHeartbeats 4000000 in
theorem anchor_any (w : World) : Calls Tryd.prog 10 #[] w fun e w' => e = .returned (.bool true) ∧ Below w.heap.size w w' := by
  go_enter Tryd.func10, Tryd.ntmps10
  go_wp2_with fail
  have hb0 : Below w.heap.size w (w.alloc (.cells #[.int .u32 7] 31)) := (Below.refl _ _).alloc (Nat.le_refl _) _
  have hr0 : Rd .u32 (w.alloc (.cells #[.int .u32 7] 31)) (some ⟨w.heap.size, 0, none⟩) 1 [7] := rd_new w .u32 31 [7] _ rfl
  generalize (w.alloc (.cells #[.int .u32 7] 31)) = w0 at *
  refine (New_ok _ 1 1 [7] w0 hr0 (fit1 (by omega)) (by omega) (by omega) (by rw [val1]) (by rw [val1]; omega)).mono ?_
  rintro e w1 ⟨g, rfl, hW, hb1⟩
  rw [val1] at hW
  have bel1 := below_then hb0 hb1
  have HW := Lib.hid hW
  clear hW hb0 hb1 hr0
  go_wp2_with fail
  have hb2 : Below w1.heap.size w1 ((w1.alloc (.cells #[.int .u32 5] 31)).alloc (.cells #[.int .u32 6] 31)) := ((Below.refl _ _).alloc (Nat.le_refl _) _).alloc (by simp) _
  have hr2 : Rd .u32 ((w1.alloc (.cells #[.int .u32 5] 31)).alloc (.cells #[.int .u32 6] 31)) (some ⟨w1.heap.size, 0, none⟩) 1 [5] := (rd_new w1 .u32 31 [5] _ rfl).below ((Below.refl _ _).alloc (Nat.le_refl _) _)
  have hr3 : Rd .u32 ((w1.alloc (.cells #[.int .u32 5] 31)).alloc (.cells #[.int .u32 6] 31)) (some ⟨w1.heap.size + 1, 0, none⟩) 1 [6] := rd_new (w1.alloc (.cells #[.int .u32 5] 31)) .u32 31 [6] _ (World.size_alloc _ _)
  generalize ((w1.alloc (.cells #[.int .u32 5] 31)).alloc (.cells #[.int .u32 6] 31)) = w2 at *
  refine (Times_yes g 1 7 _ 1 [5] _ 1 [6] w2 (HW.out.below hb2) hr2 (fit1 (by omega)) (by rw [val1]; omega) hr3 (fit1 (by omega)) (by rw [val1]; omega)).mono ?_
  rintro e w3 ⟨A3, c3, l3, rfl, hr4, hf3, hv3, hb3⟩
  rw [val1, val1] at hv3
  have bel3 := below_then (below_then bel1 hb2) hb3
  have HW3 := Lib.hid ((HW.out.below hb2).below hb3)
  have HR3 := Lib.hid hr4
  have HV3 : Hid (val 4294967296 l3 = 2) := hv3
  clear hr2 hr3 hb2 hb3 hr4 hv3 bel1 HW
  go_wp2_with fail
  have hb4 : Below w3.heap.size w3 ((w3.alloc (.cells #[.int .u32 3] 31)).alloc (.cells #[.int .u8 5] 5)) := ((Below.refl _ _).alloc (Nat.le_refl _) _).alloc (by simp) _
  have hr4 : Rd .u32 ((w3.alloc (.cells #[.int .u32 3] 31)).alloc (.cells #[.int .u8 5] 5)) (some ⟨w3.heap.size, 0, none⟩) 1 [3] := (rd_new w3 .u32 31 [3] _ rfl).below ((Below.refl _ _).alloc (Nat.le_refl _) _)
  have hr5 : Rd .u8 ((w3.alloc (.cells #[.int .u32 3] 31)).alloc (.cells #[.int .u8 5] 5)) (some ⟨w3.heap.size + 1, 0, none⟩) 1 [5] := rd_new (w3.alloc (.cells #[.int .u32 3] 31)) .u8 5 [5] _ (World.size_alloc _ _)
  generalize ((w3.alloc (.cells #[.int .u32 3] 31)).alloc (.cells #[.int .u8 5] 5)) = w4 at *
  refine (Power_yes g 1 7 _ 1 [3] _ 1 1 [5] w4 (HW3.out.below hb4) hr4 (fit1 (by omega)) (by rw [val1]; omega) hr5 (Fit.one (by omega)) (Nat.le_refl _) (by unfold maxLen; omega) (by omega)).mono ?_
  rintro e w5 ⟨A5, c5, l5, rfl, hr6, hf5, hv5, hb5⟩
  rw [val1] at hv5
  have bel5 := below_then (below_then bel3 hb4) hb5
  have HW5 := Lib.hid ((HW3.out.below hb4).below hb5)
  have HR5 := Lib.hid hr6
  have HV5 : Hid (val 4294967296 l5 = 5) := hv5
  have HR35 : Hid (Rd .u32 w5 A3 1 l3) := (HR3.out.below hb4).below hb5
  clear hr4 hr5 hb4 hb5 hr6 hv5 bel3 HW3 HR3
  obtain ⟨n0, Ag, cg, Rg, lg, hRg⟩ := Whole.ringed HW5.out
  have hinv := hRg.inv
  have hn1 := hRg.n1
  obtain rfl : n0 = 1227133513 := by omega
  clear hinv hn1
  have HRG := Lib.hid hRg
  clear hRg
  go_wp2_with fail
  refine (N0_any g 1 7 1227133513 Ag cg Rg lg w5 HRG.out).mono ?_
  rintro e w6 ⟨rfl, rfl⟩
  go_wp2_with fail
  refine (RR_any g 1 7 w5 HW5.out).mono ?_
  rintro e w6 ⟨A6, c6, l6, rfl, hr6, hf6, hv6, hb6⟩
  have HV6 : Hid (val 4294967296 l6 = 2) := hv6
  have HR6 := Lib.hid hr6
  have bel6 := below_then bel5 hb6
  clear hv6 hr6
  go_wp2_with fail
  have hb7 : Below w6.heap.size w6 (w6.alloc (.cells #[.int .u32 2] 31)) := (Below.refl _ _).alloc (Nat.le_refl _) _
  have hr7 : Rd .u32 (w6.alloc (.cells #[.int .u32 2] 31)) (some ⟨w6.heap.size, 0, none⟩) 1 [2] := rd_new w6 .u32 31 [2] _ rfl
  generalize (w6.alloc (.cells #[.int .u32 2] 31)) = w7 at *
  refine (Compare_same_ A6 _ 1 c6 1 1 l6 [2] w7 (HR6.out.below hb7) hr7 hf6 (fit1 (by omega)) (by omega) (by omega) (by omega) (by omega) (by rw [HV6.out, val1])).mono ?_
  rintro e w8 ⟨rfl, hb8⟩
  have bel8 := below_then (below_then bel6 hb7) hb8
  have HR38 : Hid (Rd .u32 w8 A3 1 l3) := ((HR35.out.below hb6).below hb7).below hb8
  have HR58 : Hid (Rd .u32 w8 A5 1 l5) := ((HR5.out.below hb6).below hb7).below hb8
  clear hr7 hb7 hb8 bel6 hb6 HR6 HV6 HRG HW5 HR5 HR35 bel5
  go_wp2_with fail
  have hb9 : Below w8.heap.size w8 (w8.alloc (.cells #[.int .u32 2] 31)) := (Below.refl _ _).alloc (Nat.le_refl _) _
  have hr9 : Rd .u32 (w8.alloc (.cells #[.int .u32 2] 31)) (some ⟨w8.heap.size, 0, none⟩) 1 [2] := rd_new w8 .u32 31 [2] _ rfl
  generalize (w8.alloc (.cells #[.int .u32 2] 31)) = w9 at *
  refine (Compare_same_ A3 _ 1 c3 1 1 l3 [2] w9 (HR38.out.below hb9) hr9 hf3 (fit1 (by omega)) (by omega) (by omega) (by omega) (by omega) (by rw [HV3.out, val1])).mono ?_
  rintro e w10 ⟨rfl, hb10⟩
  have bel10 := below_then (below_then bel8 hb9) hb10
  have HR510 : Hid (Rd .u32 w10 A5 1 l5) := (HR58.out.below hb9).below hb10
  clear hr9 hb9 hb10 bel8 HR38 HR58
  go_wp2_with fail
  have hb11 : Below w10.heap.size w10 (w10.alloc (.cells #[.int .u32 5] 31)) := (Below.refl _ _).alloc (Nat.le_refl _) _
  have hr11 : Rd .u32 (w10.alloc (.cells #[.int .u32 5] 31)) (some ⟨w10.heap.size, 0, none⟩) 1 [5] := rd_new w10 .u32 31 [5] _ rfl
  generalize (w10.alloc (.cells #[.int .u32 5] 31)) = w11 at *
  refine (Compare_same_ A5 _ 1 c5 1 1 l5 [5] w11 (HR510.out.below hb11) hr11 hf5 (fit1 (by omega)) (by omega) (by omega) (by omega) (by omega) (by rw [HV5.out, val1])).mono ?_
  rintro e w12 ⟨rfl, hb12⟩
  have bel12 := below_then (below_then bel10 hb11) hb12
  clear hr11 hb11 hb12 bel10
  go_wp2
  go_ret
  exact ⟨rfl, bel12⟩
end Go.Proofs.YtggnhncodiekhaaDoor
