/-
  For every two numbers in limbs and every exponent RingPowers returns true. No condition but that two tables of Go's library, which the call does not read, hold what their text lays there.
-/
import Derived.Test.YtggnhncodiekhaaDoorLaw3
import Derived.Test.YtggnhncodiekhaaDoorTie
import Derived.Test.YtggnhncodiekhaaDoorCards
namespace Go.Proofs.YtggnhncodiekhaaDoor.ringPowers
open Go.Proofs.YtggnhncodiekhaaDoor Go.ChangeShapes Go.WideShapes Go.ChangeAt Go.RowKit
set_option linter.unusedVariables false
set_option linter.unusedSimpArgs false

set_option maxRecDepth 100000 in
set_option maxHeartbeats 1000000 in
theorem walk_guard (A : Option Addr) (n cap : Nat) (Aa : Option Addr) (na ca : Nat) (x : Int) (w : World) (h : (6 : Int) < n ∨ (20 : Int) < na ∨ x < 0 ∨ (40 : Int) < x) :
    Calls Tryd.prog 5 #[.slice A n cap, .slice Aa na ca, .int .i64 x] w fun e w' => e = .returned (.bool true) ∧ Below w.heap.size w w' := by
  by_cases q0 : (6 : Int) < n
  · clear h
    go_enter Tryd.func5, Tryd.ntmps5
    go_wp2_with fail
    refine (anchor_any w).mono ?_
    rintro e w1 ⟨rfl, hb1⟩
    go_wp2
    go_ret
    exact ⟨rfl, hb1⟩
  · replace h := h.resolve_left q0
    by_cases q1 : (20 : Int) < na
    · clear h
      go_enter Tryd.func5, Tryd.ntmps5
      go_wp2_with fail
      refine (anchor_any w).mono ?_
      rintro e w1 ⟨rfl, hb1⟩
      go_wp2
      go_ret
      exact ⟨rfl, hb1⟩
    · replace h := h.resolve_left q1
      by_cases q2 : x < 0
      · clear h
        go_enter Tryd.func5, Tryd.ntmps5
        go_wp2_with fail
        refine (anchor_any w).mono ?_
        rintro e w1 ⟨rfl, hb1⟩
        go_wp2
        go_ret
        exact ⟨rfl, hb1⟩
      · replace h := h.resolve_left q2
        go_enter Tryd.func5, Tryd.ntmps5
        go_wp2_with fail
        refine (anchor_any w).mono ?_
        rintro e w1 ⟨rfl, hb1⟩
        go_wp2
        go_ret
        exact ⟨rfl, hb1⟩

theorem fit_two {E : Nat} (h : E ≤ 40) : Fit 256 [0, E] := by intro d hd; simp at hd; omega
theorem vbe_two (E : Nat) : vbe [0, E] = E := by simp [vbe, val]
theorem pow_next (a j N : Nat) : a ^ j % N * a % N = a ^ (j + 1) % N := by
  rw [Nat.mul_mod, Nat.mod_mod, ← Nat.mul_mod, Nat.pow_succ]
set_option maxRecDepth 100000 in
set_option maxHeartbeats 1000000 in
theorem walk_bad (A : Option Addr) (n cap : Nat) (l : List Nat) (Aa : Option Addr) (na ca : Nat) (la : List Nat) (E : Nat) (w : World) (h : Rd .u32 w A n l) (hf : Fit 4294967296 l) (ha : Rd .u32 w Aa na la) (hfa : Fit 4294967296 la) (q0 : ¬ (6 : Int) < n) (q1 : ¬ (20 : Int) < na) (q2 : E ≤ 40) (hno : ¬ OkN n l) :
    Calls Tryd.prog 5 #[.slice A n cap, .slice Aa na ca, .int .i64 (E : Int)] w fun e w' => e = .returned (.bool true) ∧ Below w.heap.size w w' := by
  have HRn := Lib.hid h
  have HNO := Lib.hid hno
  clear h ha hno
  go_enter Tryd.func5, Tryd.ntmps5
  go_wp2_with fail
  refine (anchor_any w).mono ?_
  rintro e w1 ⟨rfl, hb1⟩
  have bel1 := hb1
  go_wp2_with fail
  refine (New_err A n cap l w1 (HRn.out.below bel1) hf HNO.out).mono ?_
  rintro e w2 ⟨rfl | rfl, hb2⟩
  · go_wp2
    go_ret
    exact ⟨rfl, below_then bel1 hb2⟩
  · go_wp2
    go_ret
    exact ⟨rfl, below_then bel1 hb2⟩

set_option maxRecDepth 100000 in
set_option maxHeartbeats 1000000 in
theorem walk_not (A : Option Addr) (n cap : Nat) (l : List Nat) (Aa : Option Addr) (na ca : Nat) (la : List Nat) (E : Nat) (w : World) (h : Rd .u32 w A n l) (hf : Fit 4294967296 l) (ha : Rd .u32 w Aa na la) (hfa : Fit 4294967296 la) (q0 : ¬ (6 : Int) < n) (q1 : ¬ (20 : Int) < na) (q2 : E ≤ 40) (hok : OkN n l) (hno : ¬ (na = n ∧ val 4294967296 la < val 4294967296 l)) :
    Calls Tryd.prog 5 #[.slice A n cap, .slice Aa na ca, .int .i64 (E : Int)] w fun e w' => e = .returned (.bool true) ∧ Below w.heap.size w w' := by
  have HRn := Lib.hid h
  have HRa := Lib.hid ha
  have OK := Lib.hid hok
  have HNO := Lib.hid hno
  clear h ha hno hok
  go_enter Tryd.func5, Tryd.ntmps5
  go_wp2_with fail
  refine (anchor_any w).mono ?_
  rintro e w1 ⟨rfl, hb1⟩
  have bel1 := hb1
  go_wp2_with fail
  refine (New_ok A n cap l w1 (HRn.out.below bel1) hf OK.out.1 OK.out.2.1 OK.out.2.2.1 OK.out.2.2.2).mono ?_
  rintro e w2 ⟨g, rfl, hW, hb2⟩
  have bel2 := below_then bel1 hb2
  have HW := Lib.hid hW
  clear hW
  go_wp2_with fail
  have hb3 : Below w2.heap.size w2 (w2.alloc (.cells #[.int .u8 0, .int .u8 (E : Int)] 5)) := (Below.refl _ _).alloc (Nat.le_refl _) _
  have HRe : Hid (Rd .u8 (w2.alloc (.cells #[.int .u8 0, .int .u8 (E : Int)] 5)) (some ⟨w2.heap.size, 0, none⟩) 2 [0, E]) := rd_new w2 .u8 5 [0, E] _ rfl
  generalize (w2.alloc (.cells #[.int .u8 0, .int .u8 (E : Int)] 5)) = w3 at *
  have bel3 := below_then bel2 hb3
  refine (Power_no g n (val 4294967296 l) Aa na ca la _ 2 2 w3 (Whole.below HW.out hb3) (HRa.out.below bel3) hfa HNO.out).mono ?_
  rintro e w4 ⟨rfl, hb4⟩
  have bel4 := below_then bel3 hb4
  go_wp2_with fail
  refine (element_no Aa A na ca n cap la l w4 (HRa.out.below bel4) hfa (HRn.out.below bel4) hf (by omega) HNO.out).mono ?_
  rintro e w5 ⟨rfl, hb5⟩
  have bel5 := below_then bel4 hb5
  go_wp2
  go_ret
  exact ⟨rfl, bel5⟩

set_option maxRecDepth 100000 in
set_option maxHeartbeats 4000000 in
theorem walk_main (A : Option Addr) (n cap : Nat) (l : List Nat) (Aa : Option Addr) (ca : Nat) (la : List Nat) (E : Nat) (w : World) (h : Rd .u32 w A n l) (hf : Fit 4294967296 l) (ha : Rd .u32 w Aa n la) (hfa : Fit 4294967296 la) (q0 : ¬ (6 : Int) < n) (q1 : ¬ (20 : Int) < n) (q2 : E ≤ 40) (hok : OkN n l) (hlt : val 4294967296 la < val 4294967296 l) :
    Calls Tryd.prog 5 #[.slice A n cap, .slice Aa n ca, .int .i64 (E : Int)] w fun e w' => e = .returned (.bool true) ∧ Below w.heap.size w w' := by
  have HRn := Lib.hid h
  have HRa := Lib.hid ha
  have OK := Lib.hid hok
  have HLT := Lib.hid hlt
  have HN : Hid (0 < val 4294967296 l) := by show _ < _; have := hok.2.2.2; omega
  have HNP : Hid (val 4294967296 l < 4294967296 ^ n) := val_ltn hf h.1
  have HAP : Hid (val 4294967296 la < 4294967296 ^ n) := val_ltn hfa ha.1
  have n1 : 1 ≤ n := hok.1
  clear h ha hlt hok
  go_enter Tryd.func5, Tryd.ntmps5
  go_wp2_with fail
  refine (anchor_any w).mono ?_
  rintro e w1 ⟨rfl, hb1⟩
  have bel1 := hb1
  go_wp2_with fail
  refine (New_ok A n cap l w1 (HRn.out.below bel1) hf OK.out.1 OK.out.2.1 OK.out.2.2.1 OK.out.2.2.2).mono ?_
  rintro e w2 ⟨g, rfl, hW, hb2⟩
  have bel2 := below_then bel1 hb2
  have HW := Lib.hid hW
  clear hW
  go_wp2_with fail
  have hb3 : Below w2.heap.size w2 (w2.alloc (.cells #[.int .u8 0, .int .u8 (E : Int)] 5)) := (Below.refl _ _).alloc (Nat.le_refl _) _
  have HRe : Hid (Rd .u8 (w2.alloc (.cells #[.int .u8 0, .int .u8 (E : Int)] 5)) (some ⟨w2.heap.size, 0, none⟩) 2 [0, E]) := rd_new w2 .u8 5 [0, E] _ rfl
  generalize (w2.alloc (.cells #[.int .u8 0, .int .u8 (E : Int)] 5)) = w3 at *
  have bel3 := below_then bel2 hb3
  refine (Power_yes g n (val 4294967296 l) Aa ca la _ 2 2 [0, E] w3 (Whole.below HW.out hb3) (HRa.out.below bel3) hfa HLT.out HRe.out (fit_two q2) (Nat.le_refl _) (by unfold maxLen; omega) (by omega)).mono ?_
  rintro e w4 ⟨Ap, cp, lp, rfl, hrp, hfp, hvp, hb4⟩
  have bel4 := below_then bel3 hb4
  have HRp := Lib.hid hrp
  have HVp : Hid (val 4294967296 lp = val 4294967296 la ^ E % val 4294967296 l) := by rw [vbe_two] at hvp; exact hvp
  clear hrp hvp
  go_wp2_with fail
  refine (element_yes Aa A n ca cap la l w4 (HRa.out.below bel4) hfa (HRn.out.below bel4) hf (by omega) HLT.out).mono ?_
  rintro e w5 ⟨rfl, hb5⟩
  have bel5 := below_then bel4 hb5
  go_wp2_with fail
  refine (Digits_any A n cap l w5 (HRn.out.below bel5) hf (by omega)).mono ?_
  rintro e w6 ⟨Am, mm, cm, rfl, hrm, hcm, hmm, hb6⟩
  have bel6 := below_then bel5 hb6
  have HRm := Lib.hid hrm
  clear hrm hcm hmm
  have HMm : Hid (mm ≤ 4 * n) := by show _ ≤ _; rw [← HRm.out.1]; exact digs_le_of HNP.out
  go_wp2_with fail
  have hb7 : Below w6.heap.size w6 (w6.alloc (.cells #[.int .i64 1] 3)) := (Below.refl _ _).alloc (Nat.le_refl _) _
  have HRi : Hid (Rd .i64 (w6.alloc (.cells #[.int .i64 1] 3)) (some ⟨w6.heap.size, 0, none⟩) 1 (digs 1)) := rd_new w6 .i64 3 [1] _ rfl
  generalize (w6.alloc (.cells #[.int .i64 1] 3)) = w7 at *
  have bel7 := below_then bel6 hb7
  refine (Mod_digs _ Am 1 1 mm cm 1 _ w7 HRi.out (HRm.out.below hb7) (by omega) (by have := HMm.out; omega) HN.out).mono ?_
  rintro e w8 ⟨At, mt, ct, rfl, hrt, hct, hmt, hb8⟩
  have bel8 := below_then bel7 hb8
  have HRt : Hid (Rd .i64 w8 At mt (digs (val 4294967296 la ^ 0 % val 4294967296 l))) := by rw [Nat.pow_zero]; exact hrt
  have HMt : Hid (mt ≤ 4 * n) := by show _ ≤ _; rw [← hrt.1]; exact digs_le_of (mod_ltn HN.out HNP.out)
  clear hrt hct hmt
  go_wp2
  go_loopw [12, 66] (fun tt ii wr => ∃ (j m1 c1 : Nat) (A1 : Option Addr), j ≤ E ∧ ii = .int .i64 (j : Int) ∧ tt = .slice A1 m1 c1 ∧ Hid (Rd .i64 wr A1 m1 (digs (val 4294967296 la ^ j % val 4294967296 l))) ∧ Hid (m1 ≤ 4 * n) ∧ Below w8.heap.size w8 wr) (fun _ ii _ => E - (intOf ii).toNat)
  case atStart => exact ⟨0, mt, ct, At, by omega, rfl, rfl, HRt, HMt, below_self⟩
  case round =>
    obtain ⟨j, m1, c1, A1, hj, rfl, rfl, HR1, HM1, hbe⟩ := hrel
    by_cases hjE : j < E
    · go_wp2_with fail
      refine (Digits_any Aa n ca la wr ((HRa.out.below bel8).below hbe) hfa (by omega)).mono ?_
      rintro e wa ⟨Ax, mx, cx, rfl, hrx, hcx, hmx, hba⟩
      have HRx := Lib.hid hrx
      have HMx : Hid (mx ≤ 4 * n) := by show _ ≤ _; rw [← hrx.1]; exact digs_le_of HAP.out
      clear hrx hcx hmx
      go_wp2_with fail
      refine (Mul_digs A1 Ax m1 c1 mx cx _ _ wa (HR1.out.below hba) HRx.out (by have := HM1.out; omega) (by have := HMx.out; omega)).mono ?_
      rintro e wb ⟨Az, mz, cz, rfl, hrz, hcz, hmz, hbb⟩
      have HRz := Lib.hid hrz
      have HMz : Hid (mz ≤ 4 * (n + n)) := by show _ ≤ _; rw [← hrz.1]; exact digs_le_of (mul_lt_pow (mod_ltn HN.out HNP.out) HAP.out)
      clear hrz hcz hmz
      have hrb := below_then (below_then hbe hba) hbb
      go_wp2_with fail
      refine (Mod_digs Az Am mz cz mm cm _ _ wb HRz.out (((HRm.out.below hb7).below hb8).below hrb) (by have := HMz.out; omega) (by have := HMm.out; omega) HN.out).mono ?_
      rintro e wc ⟨As, ms, cs, rfl, hrs, hcs, hms, hbc⟩
      have HRs : Hid (Rd .i64 wc As ms (digs (val 4294967296 la ^ (j + 1) % val 4294967296 l))) := by rw [pow_next] at hrs; exact hrs
      have HMs : Hid (ms ≤ 4 * n) := by show _ ≤ _; rw [← hrs.1]; exact digs_le_of (mod_ltn HN.out HNP.out)
      clear hrs hcs hms
      have hrc := below_then hrb hbc
      go_wp2
      go_roundw
      case rel => exact ⟨j + 1, ms, cs, As, by omega, by go_num, rfl, HRs, HMs, hrc⟩
      case measure => simp [intOf]; omega
    · obtain rfl : E = j := by omega
      go_wp2_with (first
        | ((with_reducible refine at_dst (some 78) ?_); refine wpList_makeNums (o := ⟨some 78, _, _, _, _, _⟩) rfl (.const (.int .i64 1025)) (.const (.int .i64 1025)) 44 5 rfl .u8 1 Tryd.underlying44 byteInfo (by omega) _ _ rfl rfl 1025 rfl (by omega) ?_; intro wm hbm hbelm hsm)
        | (go_at_call 23; fail))
      have hrm := below_then hbe hbelm
      refine (Power_big g n (val 4294967296 l) Aa ca la _ 1025 1025 wm ((Whole.below (Whole.below (Whole.below (Whole.below (Whole.below (Whole.below HW.out hb3) hb4) hb5) hb6) hb7) hb8).below hrm) ((HRa.out.below bel8).below hrm) hfa HLT.out (by omega)).mono ?_
      rintro e wn ⟨rfl, hbn⟩
      have hrn := below_then hrm hbn
      go_wp2_with fail
      refine (is_yes Ap A1 n cp m1 c1 lp _ _ wn rfl (((((HRp.out.below hb5).below hb6).below hb7).below hb8).below hrn) hfp (by omega) (HR1.out.below (below_then hbelm hbn)) HVp.out).mono ?_
      rintro e wo ⟨rfl, hbo⟩
      go_wp2
      go_ret
      exact ⟨rfl, below_then (below_then bel8 hrn) hbo⟩

theorem walk (A : Option Addr) (n cap : Nat) (l : List Nat) (Aa : Option Addr) (na ca : Nat) (la : List Nat) (x : Int) (w : World) (h : Rd .u32 w A n l) (hf : Fit 4294967296 l) (hcn : n ≤ cap) (hmn : cap ≤ maxLen) (ha : Rd .u32 w Aa na la) (hfa : Fit 4294967296 la) (hca : na ≤ ca) (hma : ca ≤ maxLen) (hx : (Lit.int .i64 x).wf = true) :
    Calls Tryd.prog 5 #[.slice A n cap, .slice Aa na ca, .int .i64 x] w fun e w' => e = .returned (.bool true) ∧ Below w.heap.size w w' := by
  by_cases q : (6 : Int) < n ∨ (20 : Int) < na ∨ x < 0 ∨ (40 : Int) < x
  · exact walk_guard A n cap Aa na ca x w q
  · have q0 : ¬ (6 : Int) < n := fun h => q (.inl h)
    have q1 : ¬ (20 : Int) < na := fun h => q (.inr (.inl h))
    have q2 : ¬ x < 0 := fun h => q (.inr (.inr (.inl h)))
    have q3 : ¬ (40 : Int) < x := fun h => q (.inr (.inr (.inr h)))
    obtain ⟨E, rfl⟩ : ∃ E : Nat, x = (E : Int) := ⟨x.toNat, by omega⟩
    have q4 : E ≤ 40 := by omega
    by_cases hok : OkN n l
    · by_cases hel : na = n ∧ val 4294967296 la < val 4294967296 l
      · obtain ⟨rfl, hlt⟩ := hel
        exact walk_main A na cap l Aa ca la E w h hf ha hfa q0 q1 q4 hok hlt
      · exact walk_not A n cap l Aa na ca la E w h hf ha hfa q0 q1 q4 hok hel
    · exact walk_bad A n cap l Aa na ca la E w h hf ha hfa q0 q1 q4 hok

-- THE ROW's STEP
set_option maxRecDepth 100000 in
theorem lifted (os : Os) (started : os.Started) (H : Type) (enc : TypeId × Value → H) :
    ReturnsInHanded {} Tryd.checked os 5 .any (fun w args => (Rows.ringPowersSpec.pre enc Tryd.prog Tryd.f5 [] false w args ∧ laidMetH Tryd.prog listed w) ∧ sizedMet enc Tryd.prog Tryd.f5 (OpenSpec.ofChange Rows.ringPowersSpec) false w args)
      (Rows.ringPowersSpec.post enc Tryd.prog Tryd.f5 false true false false) := by
  refine returnsInHanded_of_change_and (C := Tryd.checked) (X := fun w _ => laidMetH Tryd.prog listed w) (fun _ _ _ hh h => h.of_heap hh) own started (by kernel_rfl) Tryd.func5
    (ChangeSpec.witness_shaped (enc := enc) (C := Tryd.checked) (os := os) (X := fun w _ => laidMetH Tryd.prog listed w) false (World.laidAll Tryd.prog os listed) #[.slice none 0 0, .slice none 0 0, .int .i64 0] 8 (World.laidAll_os _ _ _)
      (World.shaped_of_ZipB (by kernel_rfl) (by kernel_rfl)) (by kernel_rfl) (by kernel_rfl) (by kernel_rfl)
      (by rw [MakeChecks.laidMetH_plain _ _ _ (by kernel_rfl)]; exact laidMet_laidAll _ (by kernel_rfl) (by kernel_rfl))) ?_
  intro W base args ds gs before hval0 hW _ _ hL _
  have hval : ∀ (j : Nat) t v, Tryd.f5.params[j]? = some t → args[j]? = some v → Value.okWide Tryd.prog W .any base t v := hval0
  have hW' := hW
  obtain ⟨p, q, hA0, hV, rfl, hfz, hnd⟩ := hW
  have hA : DataW.TrodAll enc Tryd.prog W 0 (fun _ => true) true Tryd.f5.params.toList args.toList ds p := hA0
  rw [Tryd.params5] at hA hval
  obtain ⟨v0, vs0, d0, ds0, p0, q0, hargs, rfl, rfl, h0, r0⟩ := trodAll_cons hA
  obtain ⟨v1, vs1, d1, ds1, p1, q1, rfl, rfl, rfl, h1, r1⟩ := trodAll_cons r0
  obtain ⟨v2, vs2, d2, ds2, p2, q2, rfl, rfl, rfl, h2, r2⟩ := trodAll_cons r1
  obtain ⟨rfl, rfl, rfl⟩ := trodAll_nil r2
  obtain rfl : args = #[v0, v1, v2] := by cases args; simp_all
  obtain ⟨rfl, rfl⟩ := trodVars_none hV
  have k0 := h0
  have lt0 : ∀ x ∈ p0, x.block < W.heap.size := by obtain ⟨m, hm⟩ := k0; exact DataW.trod_lt m _ _ _ hm
  obtain ⟨fuel0, hf0⟩ := h0
  obtain ⟨a0, len0, cap0, l0, e0, g0, hlc0, hcm0, hnil0⟩ := limbs_of_trod hf0
  obtain ⟨b0, lb0, cb0, hv0⟩ := okWide_slice Tryd.underlying23 (hval 0 23 v0 rfl rfl)
  have ev0 : v0 = .slice a0 len0 cap0 := by rw [hv0] at e0 ⊢; simpa [Value.cells] using e0
  subst ev0
  have k1 := h1
  have lt1 : ∀ x ∈ p1, x.block < W.heap.size := by obtain ⟨m, hm⟩ := k1; exact DataW.trod_lt m _ _ _ hm
  obtain ⟨fuel1, hf1⟩ := h1
  obtain ⟨a1, len1, cap1, l1, e1, g1, hlc1, hcm1, hnil1⟩ := limbs_of_trod hf1
  obtain ⟨b1, lb1, cb1, hv1⟩ := okWide_slice Tryd.underlying23 (hval 1 23 v1 rfl rfl)
  have ev1 : v1 = .slice a1 len1 cap1 := by rw [hv1] at e1 ⊢; simpa [Value.cells] using e1
  subst ev1
  obtain ⟨a2, rfl, rfl, rfl, w2⟩ := open_int Tryd.underlying3 (hval 2 3 v2 rfl rfl) h2
  clear hA0 hval0
  refine (walk a0 len0 cap0 l0 a1 len1 cap1 l1 a2 W g0.1 g0.2 hlc0 hcm0 g1.1 g1.2 hlc1 hcm1 w2).mono fun e W' ⟨he, bel⟩ => ?_
  subst he
  exact ⟨_, rfl, _, _, _, [], _, [], hW', trodAll_mk1 (shut_bool Tryd.underlying4 _), (trodAll_cons_mk (Below.trod laidOut (by kernel_rfl) (of_decide_eq_true (by kernel_rfl)) k0 bel lt0) (trodAll_cons_mk (Below.trod laidOut (by kernel_rfl) (of_decide_eq_true (by kernel_rfl)) k1 bel lt1) (trodAll_cons_mk (shut_int Tryd.underlying3 w2) trodAll_mk0))), rfl, bel.frame _, fun h => by cases h⟩

theorem row_holds : Rows.RingPowersSaid :=
  OpenClaim.holds_of_wide 5 Tryd.f5 rfl rfl rfl rfl rfl rfl rfl ⟨rfl, rfl, rfl, rfl, rfl⟩ rfl rfl rfl rfl rfl (by kernel_rfl) Tryd.func5 (by kernel_rfl)
    (of_decide_eq_true (by kernel_rfl)) (by unfold Func.isWrapper; first | (rw [if_pos (by decide +kernel)]; kernel_rfl) | (rw [if_neg (by decide +kernel)]; exact ⟨rfl, rfl⟩))
    (fun os started H enc _ => lifted os started H enc)

theorem proved : Rows.RingPowersCardSaid :=
  Claim7.holds_tied_plain_at .later [] [.data, .pinned] true Rows.ringPowersCard.stood.harness false
    row_holds (fun _ h => by cases h) (by kernel_rfl) (fun _ h => by cases h) ringPowers_row_tie rfl ⟨rfl, rfl⟩ (by kernel_rfl) rfl
    (fun f fn hf hfn => by
      obtain rfl : f = 5 := Option.some.inj ((show Tryd.prog.funcNamed Tryd.f5.name = some 5 by kernel_rfl).symm.trans hf) |>.symm
      obtain rfl : fn = Tryd.f5 := (Option.some.inj (Tryd.func5.symm.trans hfn)).symm
      exact ⟨by kernel_rfl, fun j t ht => by
        rw [Tryd.params5] at ht
        have hm : t ∈ [23, 23, 3] := by simpa using Array.mem_of_getElem? ht
        have hall : ([23, 23, 3].all fun u => !Tryd.prog.wantsStandIn u) = true := by kernel_rfl
        exact (show Tryd.prog.wantsStandIn t = false by simpa using List.all_eq_true.1 hall t hm)⟩)
    (by kernel_rfl)
end Go.Proofs.YtggnhncodiekhaaDoor.ringPowers
