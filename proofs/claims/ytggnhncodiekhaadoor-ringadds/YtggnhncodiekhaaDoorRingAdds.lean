/-
  For every two numbers in limbs and every two exponents RingAdds returns true. No condition but that two tables of Go's library, which the call does not read, hold what their text lays there.
-/
import Derived.Test.YtggnhncodiekhaaDoorLaw3
import Derived.Test.YtggnhncodiekhaaDoorTie
import Derived.Test.YtggnhncodiekhaaDoorCards
namespace Go.Proofs.YtggnhncodiekhaaDoor.ringAdds
open Go.Proofs.YtggnhncodiekhaaDoor Go.ChangeShapes Go.WideShapes Go.ChangeAt Go.RowKit
set_option linter.unusedVariables false
set_option linter.unusedSimpArgs false

/-- A number's four bytes, the highest first. -/
def be4 (x : Nat) : List Nat := [x / 16777216 % 256, x / 65536 % 256, x / 256 % 256, x % 256]
theorem be4_fit (x : Nat) : Fit 256 (be4 x) := by intro d hd; simp only [be4, List.mem_cons, List.mem_nil_iff, or_false] at hd; omega
theorem be4_vbe {x : Nat} (h : x < 4294967296) : vbe (be4 x) = x := by
  simp only [vbe, be4, List.reverse_cons, List.reverse_nil, List.nil_append, List.cons_append, val]
  omega
def GivesBytes (w : World) (x : Nat) (e : Ending) (w' : World) : Prop := ∃ g, e = .returned (.slice (some ⟨g, 0, none⟩) 4 4) ∧ Rd .u8 w' (some ⟨g, 0, none⟩) 4 (be4 x) ∧ Below w.heap.size w w'
set_option maxHeartbeats 1000000 in
theorem bytes_any (z : Int) (x : Nat) (hz : z = (x : Int)) (hx : x < 4294967296) (w : World) : Calls Tryd.prog 24 #[.int .i64 z] w (GivesBytes w x) := by
  subst hz
  go_enter Tryd.func24, Tryd.ntmps24
  go_wp2
  go_ret
  have h := rd_new w .u8 5 (be4 x) _ rfl
  refine ⟨_, rfl, ?_, (Below.refl _ _).alloc (Nat.le_refl _) _⟩
  have e1 : (x : Int) / 16777216 = ((x / 16777216 % 256 : Nat) : Int) := by omega
  have e2 : (x : Int) / 65536 % 256 = ((x / 65536 % 256 : Nat) : Int) := by omega
  have e3 : (x : Int) / 256 % 256 = ((x / 256 % 256 : Nat) : Int) := by omega
  have e4 : (x : Int) % 256 = ((x % 256 : Nat) : Int) := by omega
  first
  | (rw [e1, e2, e3, e4]; exact h)
  | (rw [show (x : Int) / 16777216 % 256 = ((x / 16777216 % 256 : Nat) : Int) by omega, e2, e3, e4]; exact h)

set_option maxRecDepth 100000 in
set_option maxHeartbeats 1000000 in
theorem walk_g0 (A : Option Addr) (n cap : Nat) (Aa : Option Addr) (na ca : Nat) (x y : Int) (w : World) (h : (16 : Int) < n) :
    Calls Tryd.prog 6 #[.slice A n cap, .slice Aa na ca, .int .i64 x, .int .i64 y] w fun e w' => e = .returned (.bool true) ∧ Below w.heap.size w w' := by
  go_enter Tryd.func6, Tryd.ntmps6
  go_wp2_with fail
  refine (anchor_any w).mono ?_
  rintro e w1 ⟨rfl, hb1⟩
  go_wp2
  go_ret
  exact ⟨rfl, hb1⟩

set_option maxRecDepth 100000 in
set_option maxHeartbeats 1000000 in
theorem walk_g1 (A : Option Addr) (n cap : Nat) (Aa : Option Addr) (na ca : Nat) (x y : Int) (w : World) (q0 : ¬ (16 : Int) < n) (h : na ≠ n) :
    Calls Tryd.prog 6 #[.slice A n cap, .slice Aa na ca, .int .i64 x, .int .i64 y] w fun e w' => e = .returned (.bool true) ∧ Below w.heap.size w w' := by
  have h1 : ((na : Int) != (n : Int)) = true := by simp; omega
  have h2 : (na != n) = true := by simp [h]
  go_enter Tryd.func6, Tryd.ntmps6
  go_wp2_with fail
  refine (anchor_any w).mono ?_
  rintro e w1 ⟨rfl, hb1⟩
  go_wp2
  go_ret
  exact ⟨rfl, hb1⟩

set_option maxRecDepth 100000 in
set_option maxHeartbeats 1000000 in
theorem walk_guard (A : Option Addr) (n cap : Nat) (Aa : Option Addr) (ca : Nat) (x y : Int) (w : World) (q : ¬ (16 : Int) < n) (h : x < 0 ∨ y < 0 ∨ (32768 : Int) < x ∨ (32768 : Int) < y) :
    Calls Tryd.prog 6 #[.slice A n cap, .slice Aa n ca, .int .i64 x, .int .i64 y] w fun e w' => e = .returned (.bool true) ∧ Below w.heap.size w w' := by
  by_cases q0 : x < 0
  · clear h
    go_enter Tryd.func6, Tryd.ntmps6
    go_wp2_with fail
    refine (anchor_any w).mono ?_
    rintro e w1 ⟨rfl, hb1⟩
    go_wp2
    go_ret
    exact ⟨rfl, hb1⟩
  · replace h := h.resolve_left q0
    by_cases q1 : y < 0
    · clear h
      go_enter Tryd.func6, Tryd.ntmps6
      go_wp2_with fail
      refine (anchor_any w).mono ?_
      rintro e w1 ⟨rfl, hb1⟩
      go_wp2
      go_ret
      exact ⟨rfl, hb1⟩
    · replace h := h.resolve_left q1
      by_cases q2 : (32768 : Int) < x
      · clear h
        go_enter Tryd.func6, Tryd.ntmps6
        go_wp2_with fail
        refine (anchor_any w).mono ?_
        rintro e w1 ⟨rfl, hb1⟩
        go_wp2
        go_ret
        exact ⟨rfl, hb1⟩
      · replace h := h.resolve_left q2
        go_enter Tryd.func6, Tryd.ntmps6
        go_wp2_with fail
        refine (anchor_any w).mono ?_
        rintro e w1 ⟨rfl, hb1⟩
        go_wp2
        go_ret
        exact ⟨rfl, hb1⟩

set_option maxRecDepth 100000 in
set_option maxHeartbeats 1000000 in
theorem walk_bad (A : Option Addr) (n cap : Nat) (l : List Nat) (Aa : Option Addr) (ca : Nat) (la : List Nat) (X Y : Nat) (w : World) (h : Rd .u32 w A n l) (hf : Fit 4294967296 l) (ha : Rd .u32 w Aa n la) (hfa : Fit 4294967296 la) (q0 : ¬ (16 : Int) < n) (q2 : X ≤ 32768) (q3 : Y ≤ 32768) (hno : ¬ OkN n l) :
    Calls Tryd.prog 6 #[.slice A n cap, .slice Aa n ca, .int .i64 (X : Int), .int .i64 (Y : Int)] w fun e w' => e = .returned (.bool true) ∧ Below w.heap.size w w' := by
  have HRn := Lib.hid h
  have HNO := Lib.hid hno
  clear h ha hno
  go_enter Tryd.func6, Tryd.ntmps6
  go_wp2_with fail
  refine (anchor_any w).mono ?_
  rintro e w1 ⟨rfl, hb1⟩
  have bel1 := hb1
  go_wp2_with fail
  refine (New_err A n cap l w1 (HRn.out.below bel1) hf HNO.out).mono ?_
  rintro e w2 ⟨rfl | rfl, hb2⟩
  · go_wp2
    go_ret
    exact ⟨rfl, below_then bel1 hb2⟩
  · go_wp2
    go_ret
    exact ⟨rfl, below_then bel1 hb2⟩

set_option maxRecDepth 100000 in
set_option maxHeartbeats 1000000 in
theorem walk_not (A : Option Addr) (n cap : Nat) (l : List Nat) (Aa : Option Addr) (ca : Nat) (la : List Nat) (X Y : Nat) (w : World) (h : Rd .u32 w A n l) (hf : Fit 4294967296 l) (ha : Rd .u32 w Aa n la) (hfa : Fit 4294967296 la) (q0 : ¬ (16 : Int) < n) (q2 : X ≤ 32768) (q3 : Y ≤ 32768) (hok : OkN n l) (hno : ¬ val 4294967296 la < val 4294967296 l) :
    Calls Tryd.prog 6 #[.slice A n cap, .slice Aa n ca, .int .i64 (X : Int), .int .i64 (Y : Int)] w fun e w' => e = .returned (.bool true) ∧ Below w.heap.size w w' := by
  have HRn := Lib.hid h
  have HRa := Lib.hid ha
  have OK := Lib.hid hok
  have HNO := Lib.hid hno
  clear h ha hno hok
  go_enter Tryd.func6, Tryd.ntmps6
  go_wp2_with fail
  refine (anchor_any w).mono ?_
  rintro e w1 ⟨rfl, hb1⟩
  have bel1 := hb1
  go_wp2_with fail
  refine (New_ok A n cap l w1 (HRn.out.below bel1) hf OK.out.1 OK.out.2.1 OK.out.2.2.1 OK.out.2.2.2).mono ?_
  rintro e w2 ⟨g, rfl, hW, hb2⟩
  have bel2 := below_then bel1 hb2
  have HW := Lib.hid hW
  clear hW
  go_wp2_with fail
  refine (element_no Aa A n ca n cap la l w2 (HRa.out.below bel2) hfa (HRn.out.below bel2) hf (by omega) (fun h => HNO.out h.2)).mono ?_
  rintro e w3 ⟨rfl, hb3⟩
  have bel3 := below_then bel2 hb3
  go_wp2
  go_ret
  exact ⟨rfl, bel3⟩

set_option maxRecDepth 100000 in
set_option maxHeartbeats 4000000 in
theorem walk_main (A : Option Addr) (n cap : Nat) (l : List Nat) (Aa : Option Addr) (ca : Nat) (la : List Nat) (X Y : Nat) (w : World) (h : Rd .u32 w A n l) (hf : Fit 4294967296 l) (ha : Rd .u32 w Aa n la) (hfa : Fit 4294967296 la) (q0 : ¬ (16 : Int) < n) (q2 : X ≤ 32768) (q3 : Y ≤ 32768) (hok : OkN n l) (hlt : val 4294967296 la < val 4294967296 l) :
    Calls Tryd.prog 6 #[.slice A n cap, .slice Aa n ca, .int .i64 (X : Int), .int .i64 (Y : Int)] w fun e w' => e = .returned (.bool true) ∧ Below w.heap.size w w' := by
  have HRn := Lib.hid h
  have HRa := Lib.hid ha
  have OK := Lib.hid hok
  have HLT := Lib.hid hlt
  have HN : Hid (0 < val 4294967296 l) := by show _ < _; have := hok.2.2.2; omega
  have n1 : 1 ≤ n := hok.1
  obtain ⟨P, hP⟩ : ∃ P, P = X * Y := ⟨_, rfl⟩
  have hPb : P ≤ 1073741824 := by rw [hP]; exact Nat.mul_le_mul q2 q3
  have hPI : (X : Int) * Y = (P : Int) := by rw [hP, Int.natCast_mul]
  have HP := Lib.hid hP
  clear h ha hlt hok hP
  go_enter Tryd.func6, Tryd.ntmps6
  go_wp2_with fail
  refine (anchor_any w).mono ?_
  rintro e w1 ⟨rfl, hb1⟩
  have bel1 := hb1
  go_wp2_with fail
  refine (New_ok A n cap l w1 (HRn.out.below bel1) hf OK.out.1 OK.out.2.1 OK.out.2.2.1 OK.out.2.2.2).mono ?_
  rintro e w2 ⟨g, rfl, hW, hb2⟩
  have bel2 := below_then bel1 hb2
  have HW := Lib.hid hW
  clear hW
  go_wp2_with fail
  refine (element_yes Aa A n ca cap la l w2 (HRa.out.below bel2) hfa (HRn.out.below bel2) hf (by omega) HLT.out).mono ?_
  rintro e w3 ⟨rfl, hb3⟩
  have bel3 := below_then bel2 hb3
  go_wp2_with fail
  refine (bytes_any _ (X) (by omega) (by omega) w3).mono ?_
  rintro e w4 ⟨gex, rfl, hrex, hb4⟩
  have bel4 := below_then bel3 hb4
  have HRex := Lib.hid hrex
  clear hrex
  go_wp2_with fail
  refine (Power_yes g n (val 4294967296 l) Aa ca la _ 4 4 (be4 (X)) w4 (Whole.below (Whole.below HW.out hb3) hb4) (HRa.out.below bel4) hfa HLT.out HRex.out (be4_fit _) (Nat.le_refl _) (by unfold maxLen; omega) (by omega)).mono ?_
  rintro e w5 ⟨Ap, cp, lp, rfl, hrp, hfp, hvp, hb5⟩
  have bel5 := below_then bel4 hb5
  have HRp := Lib.hid hrp
  have HVp := Lib.hid hvp
  clear hrp hvp
  go_wp2_with fail
  refine (bytes_any _ (Y) (by omega) (by omega) w5).mono ?_
  rintro e w6 ⟨gey, rfl, hrey, hb6⟩
  have bel6 := below_then bel5 hb6
  have HRey := Lib.hid hrey
  clear hrey
  go_wp2_with fail
  refine (Power_yes g n (val 4294967296 l) Aa ca la _ 4 4 (be4 (Y)) w6 (Whole.below (Whole.below (Whole.below (Whole.below HW.out hb3) hb4) hb5) hb6) (HRa.out.below bel6) hfa HLT.out HRey.out (be4_fit _) (Nat.le_refl _) (by unfold maxLen; omega) (by omega)).mono ?_
  rintro e w7 ⟨Aq, cq, lq, rfl, hrq, hfq, hvq, hb7⟩
  have bel7 := below_then bel6 hb7
  have HRq := Lib.hid hrq
  have HVq := Lib.hid hvq
  clear hrq hvq
  go_wp2_with fail
  refine (bytes_any _ (X + Y) (by omega) (by omega) w7).mono ?_
  rintro e w8 ⟨ges, rfl, hres, hb8⟩
  have bel8 := below_then bel7 hb8
  have HRes := Lib.hid hres
  clear hres
  go_wp2_with fail
  refine (Power_yes g n (val 4294967296 l) Aa ca la _ 4 4 (be4 (X + Y)) w8 (Whole.below (Whole.below (Whole.below (Whole.below (Whole.below (Whole.below HW.out hb3) hb4) hb5) hb6) hb7) hb8) (HRa.out.below bel8) hfa HLT.out HRes.out (be4_fit _) (Nat.le_refl _) (by unfold maxLen; omega) (by omega)).mono ?_
  rintro e w9 ⟨As, cs, ls, rfl, hrs, hfs, hvs, hb9⟩
  have bel9 := below_then bel8 hb9
  have HRs := Lib.hid hrs
  have HVs := Lib.hid hvs
  clear hrs hvs
  go_wp2_with fail
  refine (Times_yes g n (val 4294967296 l) Ap cp lp Aq cq lq w9 (Whole.below (Whole.below (Whole.below (Whole.below (Whole.below (Whole.below (Whole.below HW.out hb3) hb4) hb5) hb6) hb7) hb8) hb9) ((((HRp.out.below hb6).below hb7).below hb8).below hb9) hfp (by rw [HVp.out]; exact Nat.mod_lt _ HN.out) ((HRq.out.below hb8).below hb9) hfq (by rw [HVq.out]; exact Nat.mod_lt _ HN.out)).mono ?_
  rintro e w10 ⟨At, ct, lt, rfl, hrt, hft, hvt, hb10⟩
  have bel10 := below_then bel9 hb10
  have HRt := Lib.hid hrt
  have HVt := Lib.hid hvt
  clear hrt hvt
  go_wp2_with fail
  refine (bytes_any _ (Y) (by omega) (by omega) w10).mono ?_
  rintro e w11 ⟨gez, rfl, hrez, hb11⟩
  have bel11 := below_then bel10 hb11
  have HRez := Lib.hid hrez
  clear hrez
  go_wp2_with fail
  refine (Power_yes g n (val 4294967296 l) Ap cp lp _ 4 4 (be4 (Y)) w11 (Whole.below (Whole.below (Whole.below (Whole.below (Whole.below (Whole.below (Whole.below (Whole.below (Whole.below HW.out hb3) hb4) hb5) hb6) hb7) hb8) hb9) hb10) hb11) ((((((HRp.out.below hb6).below hb7).below hb8).below hb9).below hb10).below hb11) hfp (by rw [HVp.out]; exact Nat.mod_lt _ HN.out) HRez.out (be4_fit _) (Nat.le_refl _) (by unfold maxLen; omega) (by omega)).mono ?_
  rintro e w12 ⟨Au, cu, lu, rfl, hru, hfu, hvu, hb12⟩
  have bel12 := below_then bel11 hb12
  have HRu := Lib.hid hru
  have HVu := Lib.hid hvu
  clear hru hvu
  go_wp2_with fail
  refine (bytes_any _ (P) (by omega) (by omega) w12).mono ?_
  rintro e w13 ⟨gem, rfl, hrem, hb13⟩
  have bel13 := below_then bel12 hb13
  have HRem := Lib.hid hrem
  clear hrem
  go_wp2_with fail
  refine (Power_yes g n (val 4294967296 l) Aa ca la _ 4 4 (be4 (P)) w13 (Whole.below (Whole.below (Whole.below (Whole.below (Whole.below (Whole.below (Whole.below (Whole.below (Whole.below (Whole.below (Whole.below HW.out hb3) hb4) hb5) hb6) hb7) hb8) hb9) hb10) hb11) hb12) hb13) (HRa.out.below bel13) hfa HLT.out HRem.out (be4_fit _) (Nat.le_refl _) (by unfold maxLen; omega) (by omega)).mono ?_
  rintro e w14 ⟨Av, cv, lv, rfl, hrv, hfv, hvv, hb14⟩
  have bel14 := below_then bel13 hb14
  have HRv := Lib.hid hrv
  have HVv := Lib.hid hvv
  clear hrv hvv
  go_wp2_with fail
  refine (Compare_same_ As At n cs n ct ls lt w14 (((((HRs.out.below hb10).below hb11).below hb12).below hb13).below hb14) ((((HRt.out.below hb11).below hb12).below hb13).below hb14) hfs hft n1 (by omega) n1 (by omega) (by rw [HVs.out, HVt.out, HVp.out, HVq.out, be4_vbe (by omega), be4_vbe (by omega), be4_vbe (by omega), pow_add_mod])).mono ?_
  rintro e w15 ⟨rfl, hb15⟩
  have bel15 := below_then bel14 hb15
  go_wp2_with fail
  refine (Compare_same_ Au Av n cu n cv lu lv w15 (((HRu.out.below hb13).below hb14).below hb15) (HRv.out.below hb15) hfu hfv n1 (by omega) n1 (by omega) (by rw [HVu.out, HVv.out, HVp.out, be4_vbe (by omega), be4_vbe (by omega), be4_vbe (by omega), HP.out, pow_mul_mod])).mono ?_
  rintro e w16 ⟨rfl, hb16⟩
  have bel16 := below_then bel15 hb16
  go_wp2
  go_ret
  exact ⟨rfl, bel16⟩

theorem walk (A : Option Addr) (n cap : Nat) (l : List Nat) (Aa : Option Addr) (na ca : Nat) (la : List Nat) (x y : Int) (w : World) (h : Rd .u32 w A n l) (hf : Fit 4294967296 l) (hcn : n ≤ cap) (hmn : cap ≤ maxLen) (ha : Rd .u32 w Aa na la) (hfa : Fit 4294967296 la) (hca : na ≤ ca) (hma : ca ≤ maxLen) (hx : (Lit.int .i64 x).wf = true) (hy : (Lit.int .i64 y).wf = true) :
    Calls Tryd.prog 6 #[.slice A n cap, .slice Aa na ca, .int .i64 x, .int .i64 y] w fun e w' => e = .returned (.bool true) ∧ Below w.heap.size w w' := by
  by_cases g0 : (16 : Int) < n
  · exact walk_g0 A n cap Aa na ca x y w g0
  by_cases g1 : na = n
  · subst g1
    by_cases q : x < 0 ∨ y < 0 ∨ (32768 : Int) < x ∨ (32768 : Int) < y
    · exact walk_guard A na cap Aa ca x y w g0 q
    · have q1 : ¬ x < 0 := fun h => q (.inl h)
      have q2 : ¬ y < 0 := fun h => q (.inr (.inl h))
      have q3 : ¬ (32768 : Int) < x := fun h => q (.inr (.inr (.inl h)))
      have q4 : ¬ (32768 : Int) < y := fun h => q (.inr (.inr (.inr h)))
      obtain ⟨X, rfl⟩ : ∃ X : Nat, x = (X : Int) := ⟨x.toNat, by omega⟩
      obtain ⟨Y, rfl⟩ : ∃ Y : Nat, y = (Y : Int) := ⟨y.toNat, by omega⟩
      have hX : X ≤ 32768 := by omega
      have hY : Y ≤ 32768 := by omega
      by_cases hok : OkN na l
      · by_cases hel : val 4294967296 la < val 4294967296 l
        · exact walk_main A na cap l Aa ca la X Y w h hf ha hfa g0 hX hY hok hel
        · exact walk_not A na cap l Aa ca la X Y w h hf ha hfa g0 hX hY hok hel
      · exact walk_bad A na cap l Aa ca la X Y w h hf ha hfa g0 hX hY hok
  · exact walk_g1 A n cap Aa na ca x y w g0 g1

-- THE ROW's STEP
set_option maxRecDepth 100000 in
theorem lifted (os : Os) (started : os.Started) (H : Type) (enc : TypeId × Value → H) :
    ReturnsInHanded {} Tryd.checked os 6 .any (fun w args => (Rows.ringAddsSpec.pre enc Tryd.prog Tryd.f6 [] false w args ∧ laidMetH Tryd.prog listed w) ∧ sizedMet enc Tryd.prog Tryd.f6 (OpenSpec.ofChange Rows.ringAddsSpec) false w args)
      (Rows.ringAddsSpec.post enc Tryd.prog Tryd.f6 false true false false) := by
  refine returnsInHanded_of_change_and (C := Tryd.checked) (X := fun w _ => laidMetH Tryd.prog listed w) (fun _ _ _ hh h => h.of_heap hh) own started (by kernel_rfl) Tryd.func6
    (ChangeSpec.witness_shaped (enc := enc) (C := Tryd.checked) (os := os) (X := fun w _ => laidMetH Tryd.prog listed w) false (World.laidAll Tryd.prog os listed) #[.slice none 0 0, .slice none 0 0, .int .i64 0, .int .i64 0] 8 (World.laidAll_os _ _ _)
      (World.shaped_of_ZipB (by kernel_rfl) (by kernel_rfl)) (by kernel_rfl) (by kernel_rfl) (by kernel_rfl)
      (by rw [MakeChecks.laidMetH_plain _ _ _ (by kernel_rfl)]; exact laidMet_laidAll _ (by kernel_rfl) (by kernel_rfl))) ?_
  intro W base args ds gs before hval0 hW _ _ hL _
  have hval : ∀ (j : Nat) t v, Tryd.f6.params[j]? = some t → args[j]? = some v → Value.okWide Tryd.prog W .any base t v := hval0
  have hW' := hW
  obtain ⟨p, q, hA0, hV, rfl, hfz, hnd⟩ := hW
  have hA : DataW.TrodAll enc Tryd.prog W 0 (fun _ => true) true Tryd.f6.params.toList args.toList ds p := hA0
  rw [Tryd.params6] at hA hval
  obtain ⟨v0, vs0, d0, ds0, p0, q0, hargs, rfl, rfl, h0, r0⟩ := trodAll_cons hA
  obtain ⟨v1, vs1, d1, ds1, p1, q1, rfl, rfl, rfl, h1, r1⟩ := trodAll_cons r0
  obtain ⟨v2, vs2, d2, ds2, p2, q2, rfl, rfl, rfl, h2, r2⟩ := trodAll_cons r1
  obtain ⟨v3, vs3, d3, ds3, p3, q3, rfl, rfl, rfl, h3, r3⟩ := trodAll_cons r2
  obtain ⟨rfl, rfl, rfl⟩ := trodAll_nil r3
  obtain rfl : args = #[v0, v1, v2, v3] := by cases args; simp_all
  obtain ⟨rfl, rfl⟩ := trodVars_none hV
  have k0 := h0
  have lt0 : ∀ x ∈ p0, x.block < W.heap.size := by obtain ⟨m, hm⟩ := k0; exact DataW.trod_lt m _ _ _ hm
  obtain ⟨fuel0, hf0⟩ := h0
  obtain ⟨a0, len0, cap0, l0, e0, g0, hlc0, hcm0, hnil0⟩ := limbs_of_trod hf0
  obtain ⟨b0, lb0, cb0, hv0⟩ := okWide_slice Tryd.underlying23 (hval 0 23 v0 rfl rfl)
  have ev0 : v0 = .slice a0 len0 cap0 := by rw [hv0] at e0 ⊢; simpa [Value.cells] using e0
  subst ev0
  have k1 := h1
  have lt1 : ∀ x ∈ p1, x.block < W.heap.size := by obtain ⟨m, hm⟩ := k1; exact DataW.trod_lt m _ _ _ hm
  obtain ⟨fuel1, hf1⟩ := h1
  obtain ⟨a1, len1, cap1, l1, e1, g1, hlc1, hcm1, hnil1⟩ := limbs_of_trod hf1
  obtain ⟨b1, lb1, cb1, hv1⟩ := okWide_slice Tryd.underlying23 (hval 1 23 v1 rfl rfl)
  have ev1 : v1 = .slice a1 len1 cap1 := by rw [hv1] at e1 ⊢; simpa [Value.cells] using e1
  subst ev1
  obtain ⟨a2, rfl, rfl, rfl, w2⟩ := open_int Tryd.underlying3 (hval 2 3 v2 rfl rfl) h2
  obtain ⟨a3, rfl, rfl, rfl, w3⟩ := open_int Tryd.underlying3 (hval 3 3 v3 rfl rfl) h3
  clear hA0 hval0
  refine (walk a0 len0 cap0 l0 a1 len1 cap1 l1 a2 a3 W g0.1 g0.2 hlc0 hcm0 g1.1 g1.2 hlc1 hcm1 w2 w3).mono fun e W' ⟨he, bel⟩ => ?_
  subst he
  exact ⟨_, rfl, _, _, _, [], _, [], hW', trodAll_mk1 (shut_bool Tryd.underlying4 _), (trodAll_cons_mk (Below.trod laidOut (by kernel_rfl) (of_decide_eq_true (by kernel_rfl)) k0 bel lt0) (trodAll_cons_mk (Below.trod laidOut (by kernel_rfl) (of_decide_eq_true (by kernel_rfl)) k1 bel lt1) (trodAll_cons_mk (shut_int Tryd.underlying3 w2) (trodAll_cons_mk (shut_int Tryd.underlying3 w3) trodAll_mk0)))), rfl, bel.frame _, fun h => by cases h⟩

theorem row_holds : Rows.RingAddsSaid :=
  OpenClaim.holds_of_wide 6 Tryd.f6 rfl rfl rfl rfl rfl rfl rfl ⟨rfl, rfl, rfl, rfl, rfl⟩ rfl rfl rfl rfl rfl (by kernel_rfl) Tryd.func6 (by kernel_rfl)
    (of_decide_eq_true (by kernel_rfl)) (by unfold Func.isWrapper; first | (rw [if_pos (by decide +kernel)]; kernel_rfl) | (rw [if_neg (by decide +kernel)]; exact ⟨rfl, rfl⟩))
    (fun os started H enc _ => lifted os started H enc)

theorem proved : Rows.RingAddsCardSaid :=
  Claim7.holds_tied_plain_at .later [] [.data, .pinned] true Rows.ringAddsCard.stood.harness false
    row_holds (fun _ h => by cases h) (by kernel_rfl) (fun _ h => by cases h) ringAdds_row_tie rfl ⟨rfl, rfl⟩ (by kernel_rfl) rfl
    (fun f fn hf hfn => by
      obtain rfl : f = 6 := Option.some.inj ((show Tryd.prog.funcNamed Tryd.f6.name = some 6 by kernel_rfl).symm.trans hf) |>.symm
      obtain rfl : fn = Tryd.f6 := (Option.some.inj (Tryd.func6.symm.trans hfn)).symm
      exact ⟨by kernel_rfl, fun j t ht => by
        rw [Tryd.params6] at ht
        have hm : t ∈ [23, 23, 3, 3] := by simpa using Array.mem_of_getElem? ht
        have hall : ([23, 23, 3, 3].all fun u => !Tryd.prog.wantsStandIn u) = true := by kernel_rfl
        exact (show Tryd.prog.wantsStandIn t = false by simpa using List.all_eq_true.1 hall t hm)⟩)
    (by kernel_rfl)
end Go.Proofs.YtggnhncodiekhaaDoor.ringAdds
