/-
  For every number and every two texts SealSalts returns true. No condition but that six tables hold what their text lays there: the code's own four, which the sums are made with, and two of Go's library, which the call does not read.
-/
import Derived.Test.YtppoikamenbckaaDoorL7
import Derived.Test.YtppoikamenbckaaDoorTie
import Derived.Test.YtppoikamenbckaaDoorCards
namespace Go.Proofs.YtppoikamenbckaaDoor.sealSalts
open Go.Proofs.YtppoikamenbckaaDoor Go.ChangeShapes Go.WideShapes Go.ChangeAt Go.RowKit
set_option linter.unusedVariables false
set_option linter.unusedSimpArgs false

set_option maxRecDepth 100000 in
set_option maxHeartbeats 1000000 in
theorem walk_g0 (z : Int) (A : Option Addr) (n cap : Nat) (At : Option Addr) (m ct : Nat) (w : World) (ht : Both w) (h1 : (64 : Int) < n) :
    Calls Tryd.prog 5 #[.int .i64 z, .slice A n cap, .slice At m ct] w fun e w' => e = .returned (.bool true) ∧ Below w.heap.size w w' := by
  have HT := Lib.hid ht
  clear ht
  go_enter Tryd.func5, Tryd.ntmps5
  go_wp2_with fail
  refine (anchor_any w HT.out).mono ?_
  rintro e w1 ⟨rfl, hb1⟩
  go_wp2
  go_ret
  exact ⟨rfl, hb1⟩

set_option maxRecDepth 100000 in
set_option maxHeartbeats 1000000 in
theorem walk_g1 (z : Int) (A : Option Addr) (n cap : Nat) (At : Option Addr) (m ct : Nat) (w : World) (ht : Both w) (h1 : ¬ (64 : Int) < n) (h2 : (500 : Int) < m) :
    Calls Tryd.prog 5 #[.int .i64 z, .slice A n cap, .slice At m ct] w fun e w' => e = .returned (.bool true) ∧ Below w.heap.size w w' := by
  have HT := Lib.hid ht
  clear ht
  go_enter Tryd.func5, Tryd.ntmps5
  go_wp2_with fail
  refine (anchor_any w HT.out).mono ?_
  rintro e w1 ⟨rfl, hb1⟩
  go_wp2
  go_ret
  exact ⟨rfl, hb1⟩

set_option maxRecDepth 100000 in
set_option maxHeartbeats 1000000 in
theorem walk_alg (z : Int) (A : Option Addr) (n cap : Nat) (At : Option Addr) (m ct : Nat) (w : World) (ht : Both w) (h1 : ¬ (64 : Int) < n) (h2 : ¬ (500 : Int) < m) (l lt : List Nat) (h : Rd .u8 w A n l) (hf : Fit 256 l) (hcn : n ≤ cap) (hnil : A = none → cap = 0) (hrt : Rd .u8 w At m lt) (hft : Fit 256 lt) (hct : m ≤ ct) (hnt : At = none → ct = 0) (z1 : z ≠ 1) (z2 : z ≠ 2) :
    Calls Tryd.prog 5 #[.int .i64 z, .slice A n cap, .slice At m ct] w fun e w' => e = .returned (.bool true) ∧ Below w.heap.size w w' := by
  have HR := Lib.hid h
  have HRT := Lib.hid hrt
  obtain ⟨M, hM⟩ : ∃ M, n + m = M := ⟨_, rfl⟩
  have HM := Lib.hid hM
  have M2 : M ≤ 600 := by omega
  clear h hrt hM
  have HT := Lib.hid ht
  clear ht
  go_enter Tryd.func5, Tryd.ntmps5
  go_wp2_with fail
  refine (anchor_any w HT.out).mono ?_
  rintro e w1 ⟨rfl, hb1⟩
  go_wp2_with fail
  refine (Digest_alg z z1 z2 _ _ _ _ _ _ _).mono ?_
  rintro e w2 ⟨rfl, hb2⟩
  have bel2 := below_then hb1 (below_then (below_alloc1 w1 _) hb2)
  go_wp2_with fail
  refine (Digest_alg z z1 z2 _ _ _ _ _ _ _).mono ?_
  rintro e w3 ⟨rfl, hb3⟩
  have bel3 := below_then bel2 (below_then (below_alloc1 w2 _) hb3)
  clear hb2 hb3
  have HRa : Hid (Rd .u8 (w3.alloc (.cells #[] 5)) A n l) := (HR.out.below bel3).below ((Below.refl _ _).alloc (Nat.le_refl _) _)
  have HEm : Hid (Row (w3.alloc (.cells #[] 5)) w3.heap.size 5 (some ⟨w3.heap.size, 0, none⟩) 0 0 (cn .u8 [])) := own_empty w3 5
  have HT3 := Lib.hid (HRT.out.below bel3)
  go_wp2_with (first
    | ((with_reducible refine at_dst (some 43) ?_); refine wpList_appBs0 (o := ⟨some 43, _, _, _, _, _⟩) rfl (.tmp 41) (.tmp 42) rfl ((Below.refl w3.heap.size w3).alloc (Nat.le_refl _) _) (by simp) rfl HEm.out rfl HRa.out hnil (by omega) n (by omega) ?_; intro A4 c4 w4 HRow4 hbe4 hB4 HG4; have HT4 := Lib.hid (HT3.out.below hbe4))
    | ((with_reducible refine at_dst (some 45) ?_); refine wpList_appBs0 (o := ⟨some 45, _, _, _, _, _⟩) rfl (.tmp 43) (.tmp 44) rfl hbe4 hB4 rfl HRow4.out rfl HT4.out hnt (by omega) M HM.out ?_; intro A5 c5 w5 HRow5 hbe5 hB5 HG5))
  have hrow5 := HRow5.out
  rw [List.nil_append] at hrow5
  have bel5 := below_then bel3 hbe5
  clear hrow5
  refine (Digest_alg z z1 z2 _ _ _ _ _ _ _).mono ?_
  rintro e w6 ⟨rfl, hb6⟩
  have bel6 := below_then bel5 (below_then (below_alloc1 w5 _) hb6)
  have hc : (convert 22 9 (.slice none 0 0)).run Tryd.prog w6 = .ok (.string (str [])) w6 := rd_str (Rd.nil .u8 w6 none) 0
  generalize str [] = S at *
  clear hb6
  go_wp2_with fail
  refine (Size7_any z w6).mono ?_
  rintro e w7 ⟨rfl, rfl⟩
  rw [sizeOfAlg, if_neg z1, if_neg z2]
  go_wp2
  go_ret
  exact ⟨rfl, bel6⟩

set_option maxRecDepth 100000 in
set_option maxHeartbeats 1000000 in
theorem walk_ok (z : Nat) (hz : z = 1 ∨ z = 2) (s : Nat) (hs : sizeOfAlg z = s) (A : Option Addr) (n cap : Nat) (At : Option Addr) (m ct : Nat) (w : World) (ht : Both w) (h1 : ¬ (64 : Int) < n) (h2 : ¬ (500 : Int) < m) (l lt : List Nat) (h : Rd .u8 w A n l) (hf : Fit 256 l) (hcn : n ≤ cap) (hnil : A = none → cap = 0) (hrt : Rd .u8 w At m lt) (hft : Fit 256 lt) (hct : m ≤ ct) (hnt : At = none → ct = 0) :
    Calls Tryd.prog 5 #[.int .i64 (z : Int), .slice A n cap, .slice At m ct] w fun e w' => e = .returned (.bool true) ∧ Below w.heap.size w w' := by
  have HR := Lib.hid h
  have HRT := Lib.hid hrt
  obtain ⟨M, hM⟩ : ∃ M, n + m = M := ⟨_, rfl⟩
  have HM := Lib.hid hM
  have M2 : M ≤ 600 := by omega
  clear h hrt hM
  have HZ := Lib.hid hz
  have HS := Lib.hid hs
  have HSL := Lib.hid ((sizeAlg hz (l ++ lt)).trans hs)
  have HFL := Lib.hid (hf.append hft)
  have hs2 : s = 32 ∨ s = 64 := by have := sizeAlg_cases hz; omega
  clear hz hs
  have HT := Lib.hid ht
  clear ht
  go_enter Tryd.func5, Tryd.ntmps5
  go_wp2_with fail
  refine (anchor_any w HT.out).mono ?_
  rintro e w1 ⟨rfl, hb1⟩
  have HP1 := Lib.hid (parts_one ⟨At, m, ct, lt⟩ w1 ⟨HRT.out.below hb1, hft, hct⟩)
  have hba1 := below_alloc1 w1 (.cells #[.slice At m ct] 22)
  have hl1 : (flat [Bt.mk At m ct lt]).length ≤ 40000 := by simp [flat, HRT.out.1]; omega
  have e1 : l ++ flat [Bt.mk At m ct lt] = l ++ lt := by simp [flat]
  have belA := below_then hb1 hba1
  go_wp2_with fail
  refine (Digest_ok z HZ.out s HS.out A n cap l _ 1 1 _ _ (HR.out.below belA) hf hcn (by omega) HP1.out (fun e => by cases e) (by omega) hl1 (HT.out.below belA)).mono ?_
  rw [e1]
  rintro e w2 ⟨g2, rfl, hg2, hB2, hb2⟩
  have HR2 := Lib.hid (hB2.rd s HSL.out)
  have bel2 := below_then belA hb2
  clear hB2 hg2 hb2 HP1 hba1 hl1 e1 belA
  have HP2 := Lib.hid (parts_two ⟨A, n, cap, l⟩ ⟨At, m, ct, lt⟩ w2 (by
    intro p hp
    simp only [List.mem_cons, List.not_mem_nil, or_false] at hp
    rcases hp with rfl | rfl
    · exact ⟨HR.out.below bel2, hf, hcn⟩
    · exact ⟨HRT.out.below bel2, hft, hct⟩))
  have hba2 := below_alloc1 w2 (.cells #[.slice A n cap, .slice At m ct] 22)
  have hl2 : (flat [Bt.mk A n cap l, Bt.mk At m ct lt]).length ≤ 40000 := by simp [flat, HRT.out.1, HR.out.1]; omega
  have e2 : [] ++ flat [Bt.mk A n cap l, Bt.mk At m ct lt] = l ++ lt := by simp [flat]
  have belB := below_then bel2 hba2
  go_wp2_with fail
  refine (Digest_ok z HZ.out s HS.out none 0 0 [] _ 2 2 _ _ (Rd.nil _ _ _) (Fit.nil _) (Nat.le_refl _) (by omega) HP2.out (fun e => by cases e) (by omega) hl2 (HT.out.below belB)).mono ?_
  rw [e2]
  rintro e w3 ⟨g3, rfl, hg3, hB3, hb3⟩
  have HR3 := Lib.hid (hB3.rd s HSL.out)
  have bel3 := below_then belB hb3
  have bel23 := below_then hba2 hb3
  clear hB3 hg3 hb3 HP2 hba2 hl2 e2 belB
  have HRa : Hid (Rd .u8 (w3.alloc (.cells #[] 5)) A n l) := (HR.out.below bel3).below ((Below.refl _ _).alloc (Nat.le_refl _) _)
  have HEm : Hid (Row (w3.alloc (.cells #[] 5)) w3.heap.size 5 (some ⟨w3.heap.size, 0, none⟩) 0 0 (cn .u8 [])) := own_empty w3 5
  have HT3 := Lib.hid (HRT.out.below bel3)
  go_wp2_with (first
    | ((with_reducible refine at_dst (some 43) ?_); refine wpList_appBs0 (o := ⟨some 43, _, _, _, _, _⟩) rfl (.tmp 41) (.tmp 42) rfl ((Below.refl w3.heap.size w3).alloc (Nat.le_refl _) _) (by simp) rfl HEm.out rfl HRa.out hnil (by omega) n (by omega) ?_; intro A4 c4 w4 HRow4 hbe4 hB4 HG4; have HT4 := Lib.hid (HT3.out.below hbe4))
    | ((with_reducible refine at_dst (some 45) ?_); refine wpList_appBs0 (o := ⟨some 45, _, _, _, _, _⟩) rfl (.tmp 43) (.tmp 44) rfl hbe4 hB4 rfl HRow4.out rfl HT4.out hnt (by omega) M HM.out ?_; intro A5 c5 w5 HRow5 hbe5 hB5 HG5))
  have hrow5 := HRow5.out
  rw [List.nil_append] at hrow5
  have bel5 := below_then bel3 hbe5
  have HP3 := Lib.hid (parts_one ⟨A5, M, c5, l ++ lt⟩ w5 ⟨hrow5.rd, HFL.out, hrow5.le.1⟩)
  have hba3 := below_alloc1 w5 (.cells #[.slice A5 M c5] 22)
  have hl3 : (flat [Bt.mk A5 M c5 (l ++ lt)]).length ≤ 40000 := by simp [flat, HRT.out.1, HR.out.1]; omega
  have e3 : [] ++ flat [Bt.mk A5 M c5 (l ++ lt)] = l ++ lt := by simp [flat]
  have belC := below_then bel5 hba3
  clear hrow5
  refine (Digest_ok z HZ.out s HS.out none 0 0 [] _ 1 1 _ _ (Rd.nil _ _ _) (Fit.nil _) (Nat.le_refl _) (by omega) HP3.out (fun e => by cases e) (by omega) hl3 (HT.out.below belC)).mono ?_
  rw [e3]
  rintro e w6 ⟨g6, rfl, hg6, hB6, hb6⟩
  have bel36 := below_then hbe5 (below_then hba3 hb6)
  have hc6 := rd_str (hB6.rd s HSL.out) s
  have hc3 := rd_str (HR3.out.below bel36) s
  have hc2 := rd_str ((HR2.out.below bel23).below bel36) s
  have bel6 := below_then belC hb6
  generalize str (sumOf z (l ++ lt)) = S at *
  clear hB6 hg6 hb6 HP3 hba3 hl3 e3 belC
  go_wp2_with fail
  refine (Size7_any z w6).mono ?_
  rintro e w7 ⟨rfl, rfl⟩
  rw [HS.out]
  go_wp2
  go_ret
  exact ⟨rfl, bel6⟩

theorem walk (z : Int) (A : Option Addr) (n cap : Nat) (l : List Nat) (At : Option Addr) (m ct : Nat) (lt : List Nat) (w : World) (_ : (Lit.int .i64 z).wf = true) (h : Rd .u8 w A n l) (hf : Fit 256 l) (hcn : n ≤ cap) (hmn : cap ≤ maxLen) (hnil : A = none → cap = 0) (hrt : Rd .u8 w At m lt) (hft : Fit 256 lt) (hct : m ≤ ct) (hmt : ct ≤ maxLen) (hnt : At = none → ct = 0) (ht : Both w) :
    Calls Tryd.prog 5 #[.int .i64 z, .slice A n cap, .slice At m ct] w fun e w' => e = .returned (.bool true) ∧ Below w.heap.size w w' := by
  by_cases h1 : 64 < n
  · exact walk_g0 z A n cap At m ct w ht (by omega)
  by_cases h2 : 500 < m
  · exact walk_g1 z A n cap At m ct w ht (by omega) (by omega)
  by_cases z1 : z = 1 ∨ z = 2
  · obtain ⟨y, rfl, hy⟩ : ∃ y : Nat, z = (y : Int) ∧ (y = 1 ∨ y = 2) := ⟨z.toNat, by omega, by omega⟩
    exact walk_ok y hy _ rfl A n cap At m ct w ht (by omega) (by omega) l lt h hf hcn hnil hrt hft hct hnt
  · exact walk_alg z A n cap At m ct w ht (by omega) (by omega) l lt h hf hcn hnil hrt hft hct hnt (fun e => z1 (.inl e)) (fun e => z1 (.inr e))

-- THE ROW's STEP
set_option maxRecDepth 100000 in
theorem lifted (os : Os) (started : os.Started) (H : Type) (enc : TypeId × Value → H) :
    ReturnsInHanded {} Tryd.checked os 5 .any (fun w args => (Rows.sealSaltsSpec.pre enc Tryd.prog Tryd.f5 [] false w args ∧ laidMetH Tryd.prog listed w) ∧ sizedMet enc Tryd.prog Tryd.f5 (OpenSpec.ofChange Rows.sealSaltsSpec) false w args)
      (Rows.sealSaltsSpec.post enc Tryd.prog Tryd.f5 false true false false) := by
  refine returnsInHanded_of_change_and (C := Tryd.checked) (X := fun w _ => laidMetH Tryd.prog listed w) (fun _ _ _ hh h => h.of_heap hh) own started (by kernel_rfl) Tryd.func5
    (ChangeSpec.witness_shaped (enc := enc) (C := Tryd.checked) (os := os) (X := fun w _ => laidMetH Tryd.prog listed w) false (World.laidAll Tryd.prog os listed) #[.int .i64 0, .slice none 0 0, .slice none 0 0] 8 (World.laidAll_os _ _ _)
      (World.shaped_of_ZipB (by kernel_rfl) (by kernel_rfl)) (by kernel_rfl) (by kernel_rfl) (by kernel_rfl)
      (by rw [MakeChecks.laidMetH_plain _ _ _ (by kernel_rfl)]; exact laidMet_laidAll _ (by kernel_rfl) (by kernel_rfl))) ?_
  intro W base args ds gs before hval0 hW _ _ hL _
  have hval : ∀ (j : Nat) t v, Tryd.f5.params[j]? = some t → args[j]? = some v → Value.okWide Tryd.prog W .any base t v := hval0
  have hW' := hW
  obtain ⟨p, q, hA0, hV, rfl, hfz, hnd⟩ := hW
  have hA : DataW.TrodAll enc Tryd.prog W 0 (fun _ => true) true Tryd.f5.params.toList args.toList ds p := hA0
  rw [Tryd.params5] at hA hval
  obtain ⟨v0, vs0, d0, ds0, p0, q0, hargs, rfl, rfl, h0, r0⟩ := trodAll_cons hA
  obtain ⟨v1, vs1, d1, ds1, p1, q1, rfl, rfl, rfl, h1, r1⟩ := trodAll_cons r0
  obtain ⟨v2, vs2, d2, ds2, p2, q2, rfl, rfl, rfl, h2, r2⟩ := trodAll_cons r1
  obtain ⟨rfl, rfl, rfl⟩ := trodAll_nil r2
  obtain rfl : args = #[v0, v1, v2] := by cases args; simp_all
  obtain ⟨rfl, rfl⟩ := trodVars_none hV
  obtain ⟨a0, rfl, rfl, rfl, w0⟩ := open_int Tryd.underlying3 (hval 0 3 v0 rfl rfl) h0
  have k1 := h1
  have lt1 : ∀ x ∈ p1, x.block < W.heap.size := by obtain ⟨m, hm⟩ := k1; exact DataW.trod_lt m _ _ _ hm
  obtain ⟨fuel1, hf1⟩ := h1
  obtain ⟨a1, len1, cap1, l1, e1, g1, hlc1, hcm1, hnil1⟩ := bytes_of_trod hf1
  obtain ⟨b1, lb1, cb1, hv1⟩ := okWide_slice Tryd.underlying22 (hval 1 22 v1 rfl rfl)
  have ev1 : v1 = .slice a1 len1 cap1 := by rw [hv1] at e1 ⊢; simpa [Value.cells] using e1
  subst ev1
  have k2 := h2
  have lt2 : ∀ x ∈ p2, x.block < W.heap.size := by obtain ⟨m, hm⟩ := k2; exact DataW.trod_lt m _ _ _ hm
  obtain ⟨fuel2, hf2⟩ := h2
  obtain ⟨a2, len2, cap2, l2, e2, g2, hlc2, hcm2, hnil2⟩ := bytes_of_trod hf2
  obtain ⟨b2, lb2, cb2, hv2⟩ := okWide_slice Tryd.underlying22 (hval 2 22 v2 rfl rfl)
  have ev2 : v2 = .slice a2 len2 cap2 := by rw [hv2] at e2 ⊢; simpa [Value.cells] using e2
  subst ev2
  clear hA0 hval0
  refine (walk a0 a1 len1 cap1 l1 a2 len2 cap2 l2 W w0 g1.1 g1.2 hlc1 hcm1 hnil1 g2.1 g2.2 hlc2 hcm2 hnil2 (tabs_of_laid hL)).mono fun e W' ⟨he, bel⟩ => ?_
  subst he
  exact ⟨_, rfl, _, _, _, [], _, [], hW', trodAll_mk1 (shut_bool Tryd.underlying4 _), (trodAll_cons_mk (shut_int Tryd.underlying3 w0) (trodAll_cons_mk (Below.trod laidOut (by kernel_rfl) (of_decide_eq_true (by kernel_rfl)) k1 bel lt1) (trodAll_cons_mk (Below.trod laidOut (by kernel_rfl) (of_decide_eq_true (by kernel_rfl)) k2 bel lt2) trodAll_mk0))), rfl, bel.frame _, fun h => by cases h⟩

theorem row_holds : Rows.SealSaltsSaid :=
  OpenClaim.holds_of_wide 5 Tryd.f5 rfl rfl rfl rfl rfl rfl rfl ⟨rfl, rfl, rfl, rfl, rfl⟩ rfl rfl rfl rfl rfl (by kernel_rfl) Tryd.func5 (by kernel_rfl)
    (of_decide_eq_true (by kernel_rfl)) (by unfold Func.isWrapper; first | (rw [if_pos (by decide +kernel)]; kernel_rfl) | (rw [if_neg (by decide +kernel)]; exact ⟨rfl, rfl⟩))
    (fun os started H enc _ => lifted os started H enc)

theorem proved : Rows.SealSaltsCardSaid :=
  Claim7.holds_tied_plain_at .later [] [.data, .data, .data, .data, .data, .pinned] true Rows.sealSaltsCard.stood.harness false
    row_holds (fun _ h => by cases h) (by kernel_rfl) (fun _ h => by cases h) sealSalts_row_tie rfl ⟨rfl, rfl⟩ (by kernel_rfl) rfl
    (fun f fn hf hfn => by
      obtain rfl : f = 5 := Option.some.inj ((show Tryd.prog.funcNamed Tryd.f5.name = some 5 by kernel_rfl).symm.trans hf) |>.symm
      obtain rfl : fn = Tryd.f5 := (Option.some.inj (Tryd.func5.symm.trans hfn)).symm
      exact ⟨by kernel_rfl, fun j t ht => by
        rw [Tryd.params5] at ht
        have hm : t ∈ [3, 22, 22] := by simpa using Array.mem_of_getElem? ht
        have hall : ([3, 22, 22].all fun u => !Tryd.prog.wantsStandIn u) = true := by kernel_rfl
        exact (show Tryd.prog.wantsStandIn t = false by simpa using List.all_eq_true.1 hall t hm)⟩)
    (by kernel_rfl)
end Go.Proofs.YtppoikamenbckaaDoor.sealSalts
