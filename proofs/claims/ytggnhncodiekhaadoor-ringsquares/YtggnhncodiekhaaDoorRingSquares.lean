/-
  For every two numbers in limbs and every number of noughts RingSquares returns true. No condition but that two tables of Go's library, which the call does not read, hold what their text lays there.
-/
import Derived.Test.YtggnhncodiekhaaDoorLaw3
import Derived.Test.YtggnhncodiekhaaDoorTie
import Derived.Test.YtggnhncodiekhaaDoorCards
namespace Go.Proofs.YtggnhncodiekhaaDoor.ringSquares
open Go.Proofs.YtggnhncodiekhaaDoor Go.ChangeShapes Go.WideShapes Go.ChangeAt Go.RowKit
set_option linter.unusedVariables false
set_option linter.unusedSimpArgs false

theorem zeros_vbe (Z k : Nat) : vbe (List.replicate Z 0 ++ [k]) = k := by
  rw [vbe_snoc]
  have : vbe (List.replicate Z 0) = 0 := by rw [vbe, List.reverse_replicate, val_replicate]
  rw [this, Nat.mul_zero, Nat.add_zero]
theorem zeros_fit {Z k : Nat} (h : k < 256) : Fit 256 (List.replicate Z 0 ++ [k]) := (Fit.replicate _ _ _ (by omega)).append (Fit.one h)
theorem pow_next (a j N : Nat) : a ^ j % N * a % N = a ^ (j + 1) % N := by
  rw [Nat.mul_mod, Nat.mod_mod, ← Nat.mul_mod, Nat.pow_succ]
/-- A row of bytes just made. -/
theorem row_made {w : World} {B g Z : Nat} (h : Blk w g 5 (cn .u8 (List.replicate Z 0))) (hB : B ≤ g) (hZ : Z ≤ 1000) : Row w B 5 (some ⟨g, 0, none⟩) Z Z (cn .u8 (List.replicate Z 0)) :=
  ⟨by simp [cn_length], .inr ⟨g, Z, _, rfl, hB, h, Nat.le_refl _, by unfold maxLen; omega, by simp [cn_length], by simp [cn_length, List.take_of_length_le]⟩⟩
/-- One byte behind noughts just made. -/
theorem wpList_appByte {ops : Array Oper} {rest : List Oper} {o : Oper} {a : Act} {w : World} {Q : Exit → Act → World → Prop} (hgd : o.guard = none) (s x : Operand) (ho : o.op = .call { callee := .builtin .append, args := #[s, x], argTypes := #[44, 44] })
    {B : Nat} {w0 : World} (hbel : Below B w0 w) (hB : B ≤ w.heap.size) {A : Option Addr} {n cap : Nat} {l : List Nat} (d : Nat) (hs : a.eval s = .slice A n cap) (hrow : Row w B 5 A n cap (cn .u8 l)) (hx : a.eval x = .slice (some ⟨w.heap.size, 0, none⟩) 1 1) (hn : n < 1000000) (N : Nat) (hN : n + 1 = N)
    (h : ∀ A' cap' w', Hid (Row w' B 5 A' N cap' (cn .u8 (l ++ [d]))) → Below B w0 w' → B ≤ w'.heap.size → wpList Tryd.prog ops Q rest (a.put o.dst (.slice A' N cap')) w') : wpList Tryd.prog ops Q (o :: rest) a (w.alloc (.cells #[.int .u8 (d : Int)] 5)) := by
  obtain ⟨i0, hi, hz0, hz1, hz2⟩ := info_parts byteInfo
  refine wpList_app hgd s x 44 5 ho Tryd.underlying44 hi hz0 hz1 hz2 rfl (by omega) (hbel.alloc hB _) (by simp; omega) hs (World.ownsRow.alloc hrow _) hx (news := [.int .u8 (d : Int)]) rfl (one_src w _ _) (by intro u hu; rw [List.mem_singleton.1 hu]; rfl) (fun e => by cases e) (by omega) N hN ?_
  intro A' cap' w' hr hb hB'
  refine h A' cap' w' ?_ hb hB'
  have := hr.out
  show Row _ _ _ _ _ _ _
  simpa [cn] using this

set_option maxRecDepth 100000 in
set_option maxHeartbeats 1000000 in
theorem walk_guard (A : Option Addr) (n cap : Nat) (Aa : Option Addr) (na ca : Nat) (x : Int) (w : World) (h : (16 : Int) < n ∨ (20 : Int) < na ∨ x < 0 ∨ (50 : Int) < x) :
    Calls Tryd.prog 9 #[.slice A n cap, .slice Aa na ca, .int .i64 x] w fun e w' => e = .returned (.bool true) ∧ Below w.heap.size w w' := by
  by_cases q0 : (16 : Int) < n
  · clear h
    go_enter Tryd.func9, Tryd.ntmps9
    go_wp2_with fail
    refine (anchor_any w).mono ?_
    rintro e w1 ⟨rfl, hb1⟩
    go_wp2
    go_ret
    exact ⟨rfl, hb1⟩
  · replace h := h.resolve_left q0
    by_cases q1 : (20 : Int) < na
    · clear h
      go_enter Tryd.func9, Tryd.ntmps9
      go_wp2_with fail
      refine (anchor_any w).mono ?_
      rintro e w1 ⟨rfl, hb1⟩
      go_wp2
      go_ret
      exact ⟨rfl, hb1⟩
    · replace h := h.resolve_left q1
      by_cases q2 : x < 0
      · clear h
        go_enter Tryd.func9, Tryd.ntmps9
        go_wp2_with fail
        refine (anchor_any w).mono ?_
        rintro e w1 ⟨rfl, hb1⟩
        go_wp2
        go_ret
        exact ⟨rfl, hb1⟩
      · replace h := h.resolve_left q2
        go_enter Tryd.func9, Tryd.ntmps9
        go_wp2_with fail
        refine (anchor_any w).mono ?_
        rintro e w1 ⟨rfl, hb1⟩
        go_wp2
        go_ret
        exact ⟨rfl, hb1⟩

set_option maxRecDepth 100000 in
set_option maxHeartbeats 1000000 in
theorem walk_bad (A : Option Addr) (n cap : Nat) (l : List Nat) (Aa : Option Addr) (na ca : Nat) (la : List Nat) (Z : Nat) (w : World) (h : Rd .u32 w A n l) (hf : Fit 4294967296 l) (ha : Rd .u32 w Aa na la) (hfa : Fit 4294967296 la) (q0 : ¬ (16 : Int) < n) (q1 : ¬ (20 : Int) < na) (q2 : Z ≤ 50) (hno : ¬ OkN n l) :
    Calls Tryd.prog 9 #[.slice A n cap, .slice Aa na ca, .int .i64 (Z : Int)] w fun e w' => e = .returned (.bool true) ∧ Below w.heap.size w w' := by
  have HRn := Lib.hid h
  have HNO := Lib.hid hno
  clear h ha hno
  go_enter Tryd.func9, Tryd.ntmps9
  go_wp2_with fail
  refine (anchor_any w).mono ?_
  rintro e w1 ⟨rfl, hb1⟩
  have bel1 := hb1
  go_wp2_with fail
  refine (New_err A n cap l w1 (HRn.out.below bel1) hf HNO.out).mono ?_
  rintro e w2 ⟨rfl | rfl, hb2⟩
  · go_wp2
    go_ret
    exact ⟨rfl, below_then bel1 hb2⟩
  · go_wp2
    go_ret
    exact ⟨rfl, below_then bel1 hb2⟩

set_option maxRecDepth 100000 in
set_option maxHeartbeats 1000000 in
theorem walk_not (A : Option Addr) (n cap : Nat) (l : List Nat) (Aa : Option Addr) (na ca : Nat) (la : List Nat) (Z : Nat) (w : World) (h : Rd .u32 w A n l) (hf : Fit 4294967296 l) (ha : Rd .u32 w Aa na la) (hfa : Fit 4294967296 la) (q0 : ¬ (16 : Int) < n) (q1 : ¬ (20 : Int) < na) (q2 : Z ≤ 50) (hok : OkN n l) (hno : ¬ (na = n ∧ val 4294967296 la < val 4294967296 l)) :
    Calls Tryd.prog 9 #[.slice A n cap, .slice Aa na ca, .int .i64 (Z : Int)] w fun e w' => e = .returned (.bool true) ∧ Below w.heap.size w w' := by
  have HRn := Lib.hid h
  have HRa := Lib.hid ha
  have OK := Lib.hid hok
  have HNO := Lib.hid hno
  clear h ha hno hok
  go_enter Tryd.func9, Tryd.ntmps9
  go_wp2_with fail
  refine (anchor_any w).mono ?_
  rintro e w1 ⟨rfl, hb1⟩
  have bel1 := hb1
  go_wp2_with fail
  refine (New_ok A n cap l w1 (HRn.out.below bel1) hf OK.out.1 OK.out.2.1 OK.out.2.2.1 OK.out.2.2.2).mono ?_
  rintro e w2 ⟨g, rfl, hW, hb2⟩
  have bel2 := below_then bel1 hb2
  have HW := Lib.hid hW
  clear hW
  go_wp2_with fail
  refine (element_no Aa A na ca n cap la l w2 (HRa.out.below bel2) hfa (HRn.out.below bel2) hf (by omega) HNO.out).mono ?_
  rintro e w3 ⟨rfl, hb3⟩
  have bel3 := below_then bel2 hb3
  go_wp2
  go_ret
  exact ⟨rfl, bel3⟩

set_option maxRecDepth 100000 in
set_option maxHeartbeats 4000000 in
theorem walk_main (A : Option Addr) (n cap : Nat) (l : List Nat) (Aa : Option Addr) (ca : Nat) (la : List Nat) (Z : Nat) (w : World) (h : Rd .u32 w A n l) (hf : Fit 4294967296 l) (ha : Rd .u32 w Aa n la) (hfa : Fit 4294967296 la) (q0 : ¬ (16 : Int) < n) (q1 : ¬ (20 : Int) < n) (q2 : Z ≤ 50) (hok : OkN n l) (hlt : val 4294967296 la < val 4294967296 l) :
    Calls Tryd.prog 9 #[.slice A n cap, .slice Aa n ca, .int .i64 (Z : Int)] w fun e w' => e = .returned (.bool true) ∧ Below w.heap.size w w' := by
  have HRn := Lib.hid h
  have HRa := Lib.hid ha
  have OK := Lib.hid hok
  have HLT := Lib.hid hlt
  have HN : Hid (0 < val 4294967296 l) := by show _ < _; have := hok.2.2.2; omega
  have n1 : 1 ≤ n := hok.1
  have n0 : 0 < n := hok.1
  obtain ⟨Z1, hZ1⟩ : ∃ Z1, Z + 1 = Z1 := ⟨_, rfl⟩
  have hZb : Z1 ≤ 51 := by omega
  have HZ1 := Lib.hid hZ1
  clear h ha hlt hok hZ1
  go_enter Tryd.func9, Tryd.ntmps9
  go_wp2_with fail
  refine (anchor_any w).mono ?_
  rintro e w1 ⟨rfl, hb1⟩
  have bel1 := hb1
  go_wp2_with fail
  refine (New_ok A n cap l w1 (HRn.out.below bel1) hf OK.out.1 OK.out.2.1 OK.out.2.2.1 OK.out.2.2.2).mono ?_
  rintro e w2 ⟨g, rfl, hW, hb2⟩
  have bel2 := below_then bel1 hb2
  have HW := Lib.hid hW
  clear hW
  go_wp2_with fail
  refine (element_yes Aa A n ca cap la l w2 (HRa.out.below bel2) hfa (HRn.out.below bel2) hf (by omega) HLT.out).mono ?_
  rintro e w3 ⟨rfl, hb3⟩
  have bel3 := below_then bel2 hb3
  go_wp2_with (first
    | ((with_reducible refine at_dst (some 48) ?_); refine wpList_makeNums (o := ⟨some 48, _, _, _, _, _⟩) rfl (.tmp 47) (.tmp 47) 23 31 rfl .u32 4 Tryd.underlying23 wordInfo (by omega) _ _ rfl rfl n rfl (by omega) ?_; intro wm hbm hbelm hsm; have hoc := first_zero hbm.out n1; have hof := hbm.out.frozen 0))
  have hb4 : Below w3.heap.size w3 (wm.setCell ⟨w3.heap.size, 0, none⟩ (.int .u32 1)) := hbelm.setCell (Nat.le_refl _) _
  have HRo := Lib.hid (rd_one hbm.out)
  clear hbm hbelm hsm hoc hof
  generalize (wm.setCell ⟨w3.heap.size, 0, none⟩ (.int .u32 1)) = w4 at *
  have bel4 := below_then bel3 hb4
  go_loopw [9, 51] (fun tt ii wr => ∃ (j c1 : Nat) (A1 : Option Addr) (l1 : List Nat), j ≤ 4 ∧ ii = .int .i64 (j : Int) ∧ tt = .slice A1 n c1 ∧ Hid (Rd .u32 wr A1 n l1 ∧ Fit 4294967296 l1 ∧ val 4294967296 l1 = val 4294967296 la ^ j % val 4294967296 l) ∧ Below w4.heap.size w4 wr) (fun _ ii _ => 4 - (intOf ii).toNat)
  case atStart => exact ⟨0, n, _, _, by omega, rfl, rfl, ⟨HRo.out, fit_one n, by rw [val_one n n1, Nat.pow_zero, Nat.mod_eq_of_lt OK.out.2.2.2]⟩, below_self⟩
  case round =>
    obtain ⟨j, c1, A1, l1, hj, rfl, rfl, HI, hbe⟩ := hrel
    by_cases hj4 : j < 4
    · have hlt1 : val 4294967296 l1 < val 4294967296 l := by rw [HI.out.2.2]; exact Nat.mod_lt _ HN.out
      have HLT1 := Lib.hid hlt1
      clear hlt1
      have hB : wr.heap.size ≤ wr.heap.size := Nat.le_refl _
      go_wp2_with (first
        | ((with_reducible refine at_dst (some 58) ?_); refine wpList_makeNums (o := ⟨some 58, _, _, _, _, _⟩) rfl (.tmp 57) (.tmp 57) 44 5 rfl .u8 1 Tryd.underlying44 byteInfo (by omega) _ _ rfl rfl Z rfl (by omega) ?_; intro wm hbm hbelm hsm)
        | ((with_reducible refine at_dst (some 62) ?_); refine wpList_appByte (o := ⟨some 62, _, _, _, _, _⟩) rfl (.tmp 58) (.tmp 61) rfl hbelm (Nat.le_of_lt hsm) j rfl (row_made hbm.out (Nat.le_refl _) (by omega)) rfl (by omega) Z1 HZ1.out ?_; intro A2 c2 w2x HRow hbe2 hB2))
      have hr2 := below_then hbe hbe2
      refine (Power_yes g n (val 4294967296 l) Aa ca la A2 Z1 c2 (List.replicate Z 0 ++ [j]) w2x (Whole.below (Whole.below (Whole.below HW.out hb3) hb4) hr2) ((HRa.out.below bel4).below hr2) hfa HLT.out HRow.out.rd (zeros_fit (by omega)) HRow.out.le.1 HRow.out.le.2 (by omega)).mono ?_
      rintro e w3x ⟨Ap, cp, lp, rfl, hrp, hfp, hvp, hb3x⟩
      have HRp := Lib.hid hrp
      have HVp : Hid (val 4294967296 lp = val 4294967296 la ^ j % val 4294967296 l) := by rw [zeros_vbe] at hvp; exact hvp
      clear hrp hvp
      have hr3 := below_then hr2 hb3x
      have HR13 := Lib.hid ((HI.out.1.below hbe2).below hb3x)
      go_wp2_with fail
      refine (Compare_same_ Ap A1 n cp n c1 lp l1 w3x HRp.out HR13.out hfp HI.out.2.1 n1 (by omega) n1 (by omega) (by rw [HVp.out, HI.out.2.2])).mono ?_
      rintro e w4x ⟨rfl, hb4x⟩
      have hr4 := below_then hr3 hb4x
      go_wp2_with fail
      refine (Times_yes g n (val 4294967296 l) A1 c1 l1 Aa ca la w4x (Whole.below (Whole.below (Whole.below HW.out hb3) hb4) hr4) (HR13.out.below hb4x) HI.out.2.1 HLT1.out ((HRa.out.below bel4).below hr4) hfa HLT.out).mono ?_
      rintro e w5x ⟨At, ct, lt, rfl, hrt, hft, hvt, hb5x⟩
      have HT : Hid (Rd .u32 w5x At n lt ∧ Fit 4294967296 lt ∧ val 4294967296 lt = val 4294967296 la ^ (j + 1) % val 4294967296 l) := ⟨hrt, hft, by rw [hvt, HI.out.2.2, pow_next]⟩
      have hr5 := below_then hr4 hb5x
      clear hrt hft hvt
      go_wp2
      go_roundw
      case rel => exact ⟨j + 1, ct, At, lt, by omega, by go_num, rfl, HT, hr5⟩
      case measure => simp [intOf]; omega
    · go_wp2
      go_ret
      exact ⟨rfl, below_then bel4 hbe⟩

theorem walk (A : Option Addr) (n cap : Nat) (l : List Nat) (Aa : Option Addr) (na ca : Nat) (la : List Nat) (x : Int) (w : World) (h : Rd .u32 w A n l) (hf : Fit 4294967296 l) (hcn : n ≤ cap) (hmn : cap ≤ maxLen) (ha : Rd .u32 w Aa na la) (hfa : Fit 4294967296 la) (hca : na ≤ ca) (hma : ca ≤ maxLen) (hx : (Lit.int .i64 x).wf = true) :
    Calls Tryd.prog 9 #[.slice A n cap, .slice Aa na ca, .int .i64 x] w fun e w' => e = .returned (.bool true) ∧ Below w.heap.size w w' := by
  by_cases q : (16 : Int) < n ∨ (20 : Int) < na ∨ x < 0 ∨ (50 : Int) < x
  · exact walk_guard A n cap Aa na ca x w q
  · have q0 : ¬ (16 : Int) < n := fun h => q (.inl h)
    have q1 : ¬ (20 : Int) < na := fun h => q (.inr (.inl h))
    have q2 : ¬ x < 0 := fun h => q (.inr (.inr (.inl h)))
    have q3 : ¬ (50 : Int) < x := fun h => q (.inr (.inr (.inr h)))
    obtain ⟨Z, rfl⟩ : ∃ Z : Nat, x = (Z : Int) := ⟨x.toNat, by omega⟩
    have q4 : Z ≤ 50 := by omega
    by_cases hok : OkN n l
    · by_cases hel : na = n ∧ val 4294967296 la < val 4294967296 l
      · obtain ⟨rfl, hlt⟩ := hel
        exact walk_main A na cap l Aa ca la Z w h hf ha hfa q0 q1 q4 hok hlt
      · exact walk_not A n cap l Aa na ca la Z w h hf ha hfa q0 q1 q4 hok hel
    · exact walk_bad A n cap l Aa na ca la Z w h hf ha hfa q0 q1 q4 hok

-- THE ROW's STEP
set_option maxRecDepth 100000 in
theorem lifted (os : Os) (started : os.Started) (H : Type) (enc : TypeId × Value → H) :
    ReturnsInHanded {} Tryd.checked os 9 .any (fun w args => (Rows.ringSquaresSpec.pre enc Tryd.prog Tryd.f9 [] false w args ∧ laidMetH Tryd.prog listed w) ∧ sizedMet enc Tryd.prog Tryd.f9 (OpenSpec.ofChange Rows.ringSquaresSpec) false w args)
      (Rows.ringSquaresSpec.post enc Tryd.prog Tryd.f9 false true false false) := by
  refine returnsInHanded_of_change_and (C := Tryd.checked) (X := fun w _ => laidMetH Tryd.prog listed w) (fun _ _ _ hh h => h.of_heap hh) own started (by kernel_rfl) Tryd.func9
    (ChangeSpec.witness_shaped (enc := enc) (C := Tryd.checked) (os := os) (X := fun w _ => laidMetH Tryd.prog listed w) false (World.laidAll Tryd.prog os listed) #[.slice none 0 0, .slice none 0 0, .int .i64 0] 8 (World.laidAll_os _ _ _)
      (World.shaped_of_ZipB (by kernel_rfl) (by kernel_rfl)) (by kernel_rfl) (by kernel_rfl) (by kernel_rfl)
      (by rw [MakeChecks.laidMetH_plain _ _ _ (by kernel_rfl)]; exact laidMet_laidAll _ (by kernel_rfl) (by kernel_rfl))) ?_
  intro W base args ds gs before hval0 hW _ _ hL _
  have hval : ∀ (j : Nat) t v, Tryd.f9.params[j]? = some t → args[j]? = some v → Value.okWide Tryd.prog W .any base t v := hval0
  have hW' := hW
  obtain ⟨p, q, hA0, hV, rfl, hfz, hnd⟩ := hW
  have hA : DataW.TrodAll enc Tryd.prog W 0 (fun _ => true) true Tryd.f9.params.toList args.toList ds p := hA0
  rw [Tryd.params9] at hA hval
  obtain ⟨v0, vs0, d0, ds0, p0, q0, hargs, rfl, rfl, h0, r0⟩ := trodAll_cons hA
  obtain ⟨v1, vs1, d1, ds1, p1, q1, rfl, rfl, rfl, h1, r1⟩ := trodAll_cons r0
  obtain ⟨v2, vs2, d2, ds2, p2, q2, rfl, rfl, rfl, h2, r2⟩ := trodAll_cons r1
  obtain ⟨rfl, rfl, rfl⟩ := trodAll_nil r2
  obtain rfl : args = #[v0, v1, v2] := by cases args; simp_all
  obtain ⟨rfl, rfl⟩ := trodVars_none hV
  have k0 := h0
  have lt0 : ∀ x ∈ p0, x.block < W.heap.size := by obtain ⟨m, hm⟩ := k0; exact DataW.trod_lt m _ _ _ hm
  obtain ⟨fuel0, hf0⟩ := h0
  obtain ⟨a0, len0, cap0, l0, e0, g0, hlc0, hcm0, hnil0⟩ := limbs_of_trod hf0
  obtain ⟨b0, lb0, cb0, hv0⟩ := okWide_slice Tryd.underlying23 (hval 0 23 v0 rfl rfl)
  have ev0 : v0 = .slice a0 len0 cap0 := by rw [hv0] at e0 ⊢; simpa [Value.cells] using e0
  subst ev0
  have k1 := h1
  have lt1 : ∀ x ∈ p1, x.block < W.heap.size := by obtain ⟨m, hm⟩ := k1; exact DataW.trod_lt m _ _ _ hm
  obtain ⟨fuel1, hf1⟩ := h1
  obtain ⟨a1, len1, cap1, l1, e1, g1, hlc1, hcm1, hnil1⟩ := limbs_of_trod hf1
  obtain ⟨b1, lb1, cb1, hv1⟩ := okWide_slice Tryd.underlying23 (hval 1 23 v1 rfl rfl)
  have ev1 : v1 = .slice a1 len1 cap1 := by rw [hv1] at e1 ⊢; simpa [Value.cells] using e1
  subst ev1
  obtain ⟨a2, rfl, rfl, rfl, w2⟩ := open_int Tryd.underlying3 (hval 2 3 v2 rfl rfl) h2
  clear hA0 hval0
  refine (walk a0 len0 cap0 l0 a1 len1 cap1 l1 a2 W g0.1 g0.2 hlc0 hcm0 g1.1 g1.2 hlc1 hcm1 w2).mono fun e W' ⟨he, bel⟩ => ?_
  subst he
  exact ⟨_, rfl, _, _, _, [], _, [], hW', trodAll_mk1 (shut_bool Tryd.underlying4 _), (trodAll_cons_mk (Below.trod laidOut (by kernel_rfl) (of_decide_eq_true (by kernel_rfl)) k0 bel lt0) (trodAll_cons_mk (Below.trod laidOut (by kernel_rfl) (of_decide_eq_true (by kernel_rfl)) k1 bel lt1) (trodAll_cons_mk (shut_int Tryd.underlying3 w2) trodAll_mk0))), rfl, bel.frame _, fun h => by cases h⟩

theorem row_holds : Rows.RingSquaresSaid :=
  OpenClaim.holds_of_wide 9 Tryd.f9 rfl rfl rfl rfl rfl rfl rfl ⟨rfl, rfl, rfl, rfl, rfl⟩ rfl rfl rfl rfl rfl (by kernel_rfl) Tryd.func9 (by kernel_rfl)
    (of_decide_eq_true (by kernel_rfl)) (by unfold Func.isWrapper; first | (rw [if_pos (by decide +kernel)]; kernel_rfl) | (rw [if_neg (by decide +kernel)]; exact ⟨rfl, rfl⟩))
    (fun os started H enc _ => lifted os started H enc)

theorem proved : Rows.RingSquaresCardSaid :=
  Claim7.holds_tied_plain_at .later [] [.data, .pinned] true Rows.ringSquaresCard.stood.harness false
    row_holds (fun _ h => by cases h) (by kernel_rfl) (fun _ h => by cases h) ringSquares_row_tie rfl ⟨rfl, rfl⟩ (by kernel_rfl) rfl
    (fun f fn hf hfn => by
      obtain rfl : f = 9 := Option.some.inj ((show Tryd.prog.funcNamed Tryd.f9.name = some 9 by kernel_rfl).symm.trans hf) |>.symm
      obtain rfl : fn = Tryd.f9 := (Option.some.inj (Tryd.func9.symm.trans hfn)).symm
      exact ⟨by kernel_rfl, fun j t ht => by
        rw [Tryd.params9] at ht
        have hm : t ∈ [23, 23, 3] := by simpa using Array.mem_of_getElem? ht
        have hall : ([23, 23, 3].all fun u => !Tryd.prog.wantsStandIn u) = true := by kernel_rfl
        exact (show Tryd.prog.wantsStandIn t = false by simpa using List.all_eq_true.1 hall t hm)⟩)
    (by kernel_rfl)
end Go.Proofs.YtggnhncodiekhaaDoor.ringSquares
