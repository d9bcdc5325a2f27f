/-
  For every number in limbs LimbsOnes returns true. No condition but that two tables of Go's library, which the call does not read, hold what their text lays there.
-/
import Derived.Test.YtbajckbjjepceaaDoorLaw2
import Derived.Test.YtbajckbjjepceaaDoorTie
import Derived.Test.YtbajckbjjepceaaDoorCards
namespace Go.Proofs.YtbajckbjjepceaaDoor.limbsOnes
open Go.Proofs.YtbajckbjjepceaaDoor Go.ChangeShapes Go.WideShapes Go.ChangeAt Go.RowKit
set_option linter.unusedVariables false
set_option linter.unusedSimpArgs false

set_option maxHeartbeats 1000000 in
theorem walk_no (A : Option Addr) (n cap : Nat) (w : World) (h : okW n = false ∨ (okW n = true ∧ 255 < n)) :
    Calls Tryd.prog 9 #[.slice A n cap] w fun e w' => e = .returned (.bool true) ∧ Below w.heap.size w w' := by
  rcases h with h | ⟨h, hs⟩
  · go_enter Tryd.func9, Tryd.ntmps9
    go_wp2_with fail
    refine (anchor_any _).mono ?_
    rintro e w1 ⟨rfl, hb1⟩
    go_wp2_with (first | (go_at_call 16; refine (right_any _ _ _ _).mono ?_; rintro e w' ⟨rfl, rfl⟩))
    go_ret
    exact ⟨rfl, hb1⟩
  · have hs2 : (255 : Int) < n := by omega
    go_enter Tryd.func9, Tryd.ntmps9
    go_wp2_with fail
    refine (anchor_any _).mono ?_
    rintro e w1 ⟨rfl, hb1⟩
    go_wp2_with (first | (go_at_call 16; refine (right_any _ _ _ _).mono ?_; rintro e w' ⟨rfl, rfl⟩))
    go_ret
    exact ⟨rfl, hb1⟩

theorem run_upto24 (A : Option Addr) (k cap : Nat) (hi : Nat) (h2 : hi ≤ cap) (w : World) :
    (Instr.slice 24 (.slice A k cap) none (some (.int .i64 (hi : Int))) none).run Tryd.prog w = .ok (.slice A hi cap) w := by
  obtain ⟨i0, hi0, hz0, hz1, hz2⟩ := info_parts wordInfo
  simp [Instr.slice, run_underlying Tryd.underlying24, Instr.sliceBounds, run_sliceBound, sizeOf, typeInfo, hi0, hz1, h2, add_zero_]
/-- Twice a number: the limbs below, and the one above. -/
theorem twice {la zs ss : List Nat} {n c : Nat} (hl : la.length = n) (hz : zs.length = n + 1) (hs : ss.length = n) (fz : Fit 4294967296 zs) (fs : Fit 4294967296 ss) (hv : val 4294967296 zs = val 4294967296 la * 2) (hw : val 4294967296 ss + 4294967296 ^ n * c = val 4294967296 la + val 4294967296 la) (hc : c ≤ 1) :
    val 4294967296 (zs.take n) = val 4294967296 ss ∧ zs[n]? = some c := by
  obtain ⟨t, ht⟩ := get_some (l := zs) (i := n) (by omega)
  have e := take_trim ht
  rw [List.take_of_length_le (by omega)] at e
  have hl2 : (zs.take n).length = n := by simp; omega
  have v1 : val 4294967296 zs = val 4294967296 (zs.take n) + 4294967296 ^ n * t := by
    have := val_snoc 4294967296 (zs.take n) t
    rw [hl2] at this
    rw [← this, ← e]
  have a1 : val 4294967296 (zs.take n) < 4294967296 ^ n := by have := val_lt (fz.take n); rwa [hl2] at this
  have a2 : val 4294967296 ss < 4294967296 ^ n := by rw [← hs]; exact val_lt fs
  have hsum : val 4294967296 (zs.take n) + 4294967296 ^ n * t = val 4294967296 ss + 4294967296 ^ n * c := by omega
  generalize 4294967296 ^ n = P at *
  have htc : t = c := by
    rcases Nat.lt_trichotomy t c with h | h | h
    · have : P * (t + 1) ≤ P * c := Nat.mul_le_mul_left _ h
      rw [Nat.mul_add, Nat.mul_one] at this
      omega
    · exact h
    · have : P * (c + 1) ≤ P * t := Nat.mul_le_mul_left _ h
      rw [Nat.mul_add, Nat.mul_one] at this
      omega
  subst htc
  exact ⟨by omega, ht⟩

set_option maxHeartbeats 4000000 in
theorem walk_yes (A : Option Addr) (n cap : Nat) (la : List Nat) (w : World) (g : Rd .u32 w A n la) (hf : Fit 4294967296 la) (h : okW n = true) (hs : n ≤ 255) :
    Calls Tryd.prog 9 #[.slice A n cap] w fun e w' => e = .returned (.bool true) ∧ Below w.heap.size w w' := by
  have HR := Lib.hid g
  have OK := Lib.hid (okW_of h)
  have ok1 := (okW_of h).1
  have hd0 : decide (255 < (n : Int)) = false := decide_eq_false (by omega)
  clear g
  have f1 : Fit 4294967296 [1] := Fit.one (by omega)
  have f0 : Fit 4294967296 [0] := Fit.one (by omega)
  have f2 : Fit 4294967296 [2] := Fit.one (by omega)
  go_enter Tryd.func9, Tryd.ntmps9
  go_wp2_with fail
  refine (anchor_any _).mono ?_
  rintro e w1 ⟨rfl, hb1⟩
  go_wp2_with (first | (go_at_call 16; refine (right_any _ _ _ _).mono ?_; rintro e w' ⟨rfl, rfl⟩) | fail)
  have k1 : Below w1.heap.size w1 (w1.alloc (.cells #[.int .u32 1] 48)) := (Below.refl _ _).alloc (Nat.le_refl _) _
  have r1 : Rd .u32 (w1.alloc (.cells #[.int .u32 1] 48)) (some ⟨w1.heap.size, 0, none⟩) 1 [1] := rd_new w1 .u32 48 [1] _ rfl
  generalize (w1.alloc (.cells #[.int .u32 1] 48)) = u1 at *
  have C1 := below_then hb1 k1
  refine (Mul_ok A _ n cap 1 1 la [1] u1 (HR.out.below C1) r1 hf f1 OK.out.1 (by omega) (by omega)).mono ?_
  rintro e w2 ⟨A2, T2, xs, rfl, hT2, ⟨hr2, hf2, _, _, hb2⟩, hv2⟩
  have B2 := below_then C1 hb2
  have HR2 := Lib.hid hr2
  have hv2' : val 4294967296 xs = val 4294967296 la := by rw [hv2]; simp [val]
  have HV2 := Lib.hid hv2'
  have HT2 := Lib.hid hT2
  clear k1 r1 C1 hb2 hr2 hv2 hv2' hT2
  go_wp2_with fail
  have k2 : Below w2.heap.size w2 (w2.alloc (.cells #[.int .u32 0] 48)) := (Below.refl _ _).alloc (Nat.le_refl _) _
  have r2 : Rd .u32 (w2.alloc (.cells #[.int .u32 0] 48)) (some ⟨w2.heap.size, 0, none⟩) 1 [0] := rd_new w2 .u32 48 [0] _ rfl
  generalize (w2.alloc (.cells #[.int .u32 0] 48)) = u2 at *
  have C2 := below_then B2 k2
  refine (Mul_ok _ A 1 1 n cap [0] la u2 r2 (HR.out.below C2) f0 hf (by omega) OK.out.1 (by omega)).mono ?_
  rintro e w3 ⟨A3, T3, ys, rfl, hT3, ⟨hr3, hf3, _, _, hb3⟩, hv3⟩
  have B3 := below_then C2 hb3
  have HR23 := Lib.hid ((HR2.out.below k2).below hb3)
  have HR3 := Lib.hid hr3
  have hv3' : val 4294967296 ys = 0 := by rw [hv3]; simp [val]
  have HV3 := Lib.hid hv3'
  have HT3 := Lib.hid hT3
  clear k2 r2 C2 hb3 hr3 hv3 hv3' hT3 B2 HR2
  go_wp2_with fail
  have k3 : Below w3.heap.size w3 (w3.alloc (.cells #[.int .u32 2] 48)) := (Below.refl _ _).alloc (Nat.le_refl _) _
  have r3 : Rd .u32 (w3.alloc (.cells #[.int .u32 2] 48)) (some ⟨w3.heap.size, 0, none⟩) 1 [2] := rd_new w3 .u32 48 [2] _ rfl
  generalize (w3.alloc (.cells #[.int .u32 2] 48)) = u3 at *
  have C3 := below_then B3 k3
  refine (Mul_ok A _ n cap 1 1 la [2] u3 (HR.out.below C3) r3 hf f2 OK.out.1 (by omega) (by omega)).mono ?_
  rintro e w4 ⟨A4, T4, zs, rfl, hT4, ⟨hr4, hf4, hcap4, hcap4', hb4⟩, hv4⟩
  have B4 := below_then C3 hb4
  have HR24 := Lib.hid ((HR23.out.below k3).below hb4)
  have HR34 := Lib.hid ((HR3.out.below k3).below hb4)
  have HR4 := Lib.hid hr4
  have hv4' : val 4294967296 zs = val 4294967296 la * 2 := by rw [hv4]; simp [val]
  have HV4 := Lib.hid hv4'
  have HT4 := Lib.hid hT4
  clear k3 r3 C3 hb4 hr4 hv4 hv4' hT4 B3 HR23 HR3 hcap4 hcap4'
  go_wp2_with fail
  refine (Add_ok A A n cap cap la la w4 (HR.out.below B4) (HR.out.below B4) hf hf OK.out.1 OK.out.2).mono ?_
  rintro e w5 ⟨A5, c, ss, rfl, hc, ⟨hr5, hf5, _, _, hb5⟩, hv5⟩
  have B5 := below_then B4 hb5
  have HR25 := Lib.hid (HR24.out.below hb5)
  have HR35 := Lib.hid (HR34.out.below hb5)
  have HR45 := Lib.hid (HR4.out.below hb5)
  have HR5 := Lib.hid hr5
  have TW := Lib.hid (twice HR.out.1 (HR4.out.1.trans HT4.out) hr5.1 hf4 hf5 HV4.out hv5 hc)
  have t2b : 1 ≤ T2 ∧ T2 ≤ 256 := by have := HT2.out; omega
  have t3b : 1 ≤ T3 ∧ T3 ≤ 256 := by have := HT3.out; omega
  have T2B := Lib.hid t2b
  have T3B := Lib.hid t3b
  have ht4 : (T4 : Int) = n + 1 := by have := HT4.out; omega
  have ht4n : T4 ≤ 256 := by have := HT4.out; omega
  have ht4l : n < T4 := by have := HT4.out; omega
  have hne4 : ((T4 : Int) != (n : Int) + 1) = false := by simp; omega
  clear hb5 hr5 hv5 B4 HR24 HR34 HR4 t2b t3b
  go_wp2_with fail
  refine (Compare_ok A2 A T2 T2 n cap xs la w5 HR25.out (HR.out.below B5) hf2 hf T2B.out.1 T2B.out.2 OK.out.1 OK.out.2).mono ?_
  rintro e w6 ⟨rfl, hb6⟩
  rw [HV2.out, ord_self]
  have HR36 := Lib.hid (HR35.out.below hb6)
  have HR46 := Lib.hid (HR45.out.below hb6)
  have HR56 := Lib.hid (HR5.out.below hb6)
  have B6 := below_then B5 hb6
  clear hb6 B5 HR25 HR35 HR45 HR5
  go_wp2_with fail
  refine (Bits_ok A3 T3 T3 ys w6 HR36.out hf3 T3B.out.1 T3B.out.2).mono ?_
  rintro e w7 ⟨rfl, hb7⟩
  rw [HV3.out, show ((bitlen 0 : Nat) : Int) = 0 from rfl]
  have HR47 := Lib.hid (HR46.out.below hb7)
  have HR57 := Lib.hid (HR56.out.below hb7)
  have B7 := below_then B6 hb7
  have hsl := run_upto24 A4 T4 T4 n (by omega)
  clear hb7 B6 HR36 HR46 HR56
  go_wp2_with fail
  refine (Compare_ok A4 A5 n T4 n n (zs.take n) ss w7 (HR47.out.take n (by omega)) HR57.out (hf4.take n) hf5 OK.out.1 OK.out.2 OK.out.1 OK.out.2).mono ?_
  rintro e w8 ⟨rfl, hb8⟩
  rw [TW.out.1, ord_self]
  obtain ⟨ad, t, rfl, ht, hcell⟩ := (HR47.out.below hb8).get (j := n) (by omega)
  have htc : t = c := by have := TW.out.2; rw [ht] at this; injection this
  subst htc
  have B8 := below_then B7 hb8
  clear hb8 B7 HR47 HR57 ht hsl TW
  rcases (by omega : t = 0 ∨ t = 1) with rfl | rfl
  · go_wp2
    go_ret
    exact ⟨rfl, B8⟩
  · go_wp2
    go_ret
    exact ⟨rfl, B8⟩

theorem walk (A : Option Addr) (n cap : Nat) (la : List Nat) (w : World) (g : Rd .u32 w A n la) (hf : Fit 4294967296 la) (hc : n ≤ cap) (hm : cap ≤ maxLen) :
    Calls Tryd.prog 9 #[.slice A n cap] w fun e w' => e = .returned (.bool true) ∧ Below w.heap.size w w' := by
  cases q1 : okW n with
  | false => exact walk_no A n cap w (.inl q1)
  | true =>
    by_cases hs : 255 < n
    · exact walk_no A n cap w (.inr ⟨q1, hs⟩)
    · exact walk_yes A n cap la w g hf q1 (by omega)

-- THE ROW's STEP
set_option maxRecDepth 100000 in
theorem lifted (os : Os) (started : os.Started) (H : Type) (enc : TypeId × Value → H) :
    ReturnsInHanded {} Tryd.checked os 9 .any (fun w args => (Rows.limbsOnesSpec.pre enc Tryd.prog Tryd.f9 [] false w args ∧ laidMetH Tryd.prog listed w) ∧ sizedMet enc Tryd.prog Tryd.f9 (OpenSpec.ofChange Rows.limbsOnesSpec) false w args)
      (Rows.limbsOnesSpec.post enc Tryd.prog Tryd.f9 false true false false) := by
  refine returnsInHanded_of_change_and (C := Tryd.checked) (X := fun w _ => laidMetH Tryd.prog listed w) (fun _ _ _ hh h => h.of_heap hh) own started (by kernel_rfl) Tryd.func9
    (ChangeSpec.witness_shaped (enc := enc) (C := Tryd.checked) (os := os) (X := fun w _ => laidMetH Tryd.prog listed w) false (World.laidAll Tryd.prog os listed) #[.slice none 0 0] 8 (World.laidAll_os _ _ _)
      (World.shaped_of_ZipB (by kernel_rfl) (by kernel_rfl)) (by kernel_rfl) (by kernel_rfl) (by kernel_rfl)
      (by rw [MakeChecks.laidMetH_plain _ _ _ (by kernel_rfl)]; exact laidMet_laidAll _ (by kernel_rfl) (by kernel_rfl))) ?_
  intro W base args ds gs before hval0 hW _ _ hL _
  have hval : ∀ (j : Nat) t v, Tryd.f9.params[j]? = some t → args[j]? = some v → Value.okWide Tryd.prog W .any base t v := hval0
  have hW' := hW
  obtain ⟨p, q, hA0, hV, rfl, hfz, hnd⟩ := hW
  have hA : DataW.TrodAll enc Tryd.prog W 0 (fun _ => true) true Tryd.f9.params.toList args.toList ds p := hA0
  rw [Tryd.params9] at hA hval
  obtain ⟨v0, vs0, d0, ds0, p0, q0, hargs, rfl, rfl, h0, r0⟩ := trodAll_cons hA
  obtain ⟨rfl, rfl, rfl⟩ := trodAll_nil r0
  obtain rfl : args = #[v0] := by cases args; simp_all
  obtain ⟨rfl, rfl⟩ := trodVars_none hV
  have k0 := h0
  have lt0 : ∀ x ∈ p0, x.block < W.heap.size := by obtain ⟨m, hm⟩ := k0; exact DataW.trod_lt m _ _ _ hm
  obtain ⟨fuel0, hf0⟩ := h0
  obtain ⟨a0, len0, cap0, l0, e0, g0, hlc0, hcm0, hnil0⟩ := limbs_of_trod hf0
  obtain ⟨b0, lb0, cb0, hv0⟩ := okWide_slice Tryd.underlying24 (hval 0 24 v0 rfl rfl)
  have ev0 : v0 = .slice a0 len0 cap0 := by rw [hv0] at e0 ⊢; simpa [Value.cells] using e0
  subst ev0
  clear hA0 hval0
  refine (walk a0 len0 cap0 l0 W g0.1 g0.2 hlc0 hcm0).mono fun e W' ⟨he, bel⟩ => ?_
  subst he
  exact ⟨_, rfl, _, _, _, [], _, [], hW', trodAll_mk1 (shut_bool Tryd.underlying4 _), (trodAll_cons_mk (Below.trod laidOut (by kernel_rfl) (of_decide_eq_true (by kernel_rfl)) k0 bel lt0) trodAll_mk0), rfl, bel.frame _, fun h => by cases h⟩

theorem row_holds : Rows.LimbsOnesSaid :=
  OpenClaim.holds_of_wide 9 Tryd.f9 rfl rfl rfl rfl rfl rfl rfl ⟨rfl, rfl, rfl, rfl, rfl⟩ rfl rfl rfl rfl rfl (by kernel_rfl) Tryd.func9 (by kernel_rfl)
    (of_decide_eq_true (by kernel_rfl)) (by unfold Func.isWrapper; first | (rw [if_pos (by decide +kernel)]; kernel_rfl) | (rw [if_neg (by decide +kernel)]; exact ⟨rfl, rfl⟩))
    (fun os started H enc _ => lifted os started H enc)

theorem proved : Rows.LimbsOnesCardSaid :=
  Claim7.holds_tied_plain_at .later [] [.data, .pinned] true Rows.limbsOnesCard.stood.harness false
    row_holds (fun _ h => by cases h) (by kernel_rfl) (fun _ h => by cases h) limbsOnes_row_tie rfl ⟨rfl, rfl⟩ (by kernel_rfl) rfl
    (fun f fn hf hfn => by
      obtain rfl : f = 9 := Option.some.inj ((show Tryd.prog.funcNamed Tryd.f9.name = some 9 by kernel_rfl).symm.trans hf) |>.symm
      obtain rfl : fn = Tryd.f9 := (Option.some.inj (Tryd.func9.symm.trans hfn)).symm
      exact ⟨by kernel_rfl, fun j t ht => by
        rw [Tryd.params9] at ht
        have hm : t ∈ [24] := by simpa using Array.mem_of_getElem? ht
        have hall : ([24].all fun u => !Tryd.prog.wantsStandIn u) = true := by kernel_rfl
        exact (show Tryd.prog.wantsStandIn t = false by simpa using List.all_eq_true.1 hall t hm)⟩)
    (by kernel_rfl)
end Go.Proofs.YtbajckbjjepceaaDoor.limbsOnes
