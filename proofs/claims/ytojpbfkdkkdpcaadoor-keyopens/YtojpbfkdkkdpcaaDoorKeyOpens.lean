/-
  For every two texts KeyOpens returns true. No condition but that two tables of Go's library, which the call does not read, hold what their text lays there.
-/
import Derived.Test.YtojpbfkdkkdpcaaDoorLaw
import Derived.Test.YtojpbfkdkkdpcaaDoorTie
import Derived.Test.YtojpbfkdkkdpcaaDoorCards
namespace Go.Proofs.YtojpbfkdkkdpcaaDoor.keyOpens
open Go.Proofs.YtojpbfkdkkdpcaaDoor Go.ChangeShapes Go.WideShapes Go.ChangeAt Go.RowKit
set_option linter.unusedVariables false
set_option linter.unusedSimpArgs false

set_option maxRecDepth 100000 in
set_option maxHeartbeats 4000000 in
theorem walk_g1 (A : Option Addr) (n cap : Nat) (As : Option Addr) (ns cs : Nat) (w : World) (h1 : (64 : Int) < n) :
    Calls Tryd.prog 5 #[.slice A n cap, .slice As ns cs] w fun e w' => e = .returned (.bool true) ∧ Below w.heap.size w w' := by
  go_enter Tryd.func5, Tryd.ntmps5
  go_wp2_with fail
  refine (anchor_any w).mono ?_
  rintro e w1 ⟨rfl, hb1⟩
  go_wp2
  go_ret
  exact ⟨rfl, hb1⟩

set_option maxRecDepth 100000 in
set_option maxHeartbeats 4000000 in
theorem walk_g2 (A : Option Addr) (n cap : Nat) (As : Option Addr) (ns cs : Nat) (w : World) (h1 : ¬ (64 : Int) < n) (h2 : (1000 : Int) < ns) :
    Calls Tryd.prog 5 #[.slice A n cap, .slice As ns cs] w fun e w' => e = .returned (.bool true) ∧ Below w.heap.size w w' := by
  go_enter Tryd.func5, Tryd.ntmps5
  go_wp2_with fail
  refine (anchor_any w).mono ?_
  rintro e w1 ⟨rfl, hb1⟩
  go_wp2
  go_ret
  exact ⟨rfl, hb1⟩

set_option maxRecDepth 100000 in
set_option maxHeartbeats 4000000 in
theorem walk_bad (A : Option Addr) (n cap : Nat) (l : List Nat) (As : Option Addr) (ns cs : Nat) (ls : List Nat) (w : World) (h : Rd .u8 w A n l) (hf : Fit 256 l) (hcn : n ≤ cap) (hmn : cap ≤ maxLen) (hs : Rd .u8 w As ns ls) (hfs : Fit 256 ls) (hcs : ns ≤ cs) (hms : cs ≤ maxLen) (h1 : ¬ (64 : Int) < n) (h2 : ¬ (1000 : Int) < ns) (hM : ¬ Modul n l) :
    Calls Tryd.prog 5 #[.slice A n cap, .slice As ns cs] w fun e w' => e = .returned (.bool true) ∧ Below w.heap.size w w' := by
  have HR := Lib.hid h
  have HS := Lib.hid hs
  clear h hs
  have HM := Lib.hid hM
  clear hM
  go_enter Tryd.func5, Tryd.ntmps5
  go_wp2_with fail
  refine (anchor_any w).mono ?_
  rintro e w1 ⟨rfl, hb1⟩
  go_wp2_with fail
  refine (Make_no A n cap l w1 (HR.out.below hb1) hf (by omega) HM.out).mono ?_
  rintro e w2 ⟨er, her, rfl, hb2⟩
  have hd : (er != 0) = true := by rcases her with h | h <;> simp [h]
  clear her
  go_wp2
  go_ret
  exact ⟨rfl, below_then hb1 hb2⟩

set_option maxRecDepth 100000 in
set_option maxHeartbeats 4000000 in
theorem walk_size (A : Option Addr) (n cap : Nat) (l : List Nat) (As : Option Addr) (ns cs : Nat) (ls : List Nat) (w : World) (h : Rd .u8 w A n l) (hf : Fit 256 l) (hcn : n ≤ cap) (hmn : cap ≤ maxLen) (hs : Rd .u8 w As ns ls) (hfs : Fit 256 ls) (hcs : ns ≤ cs) (hms : cs ≤ maxLen) (h1 : ¬ (64 : Int) < n) (h2 : ¬ (1000 : Int) < ns) (hM : Modul n l) (hne : ns ≠ n) :
    Calls Tryd.prog 5 #[.slice A n cap, .slice As ns cs] w fun e w' => e = .returned (.bool true) ∧ Below w.heap.size w w' := by
  have HR := Lib.hid h
  have HS := Lib.hid hs
  clear h hs
  have HM := Lib.hid hM
  clear hM
  go_enter Tryd.func5, Tryd.ntmps5
  go_wp2_with fail
  refine (anchor_any w).mono ?_
  rintro e w1 ⟨rfl, hb1⟩
  go_wp2_with fail
  refine (Make_ok A n cap l w1 (HR.out.below hb1) hf hcn hmn HM.out).mono ?_
  rintro e w2 ⟨g, gm, rfl, ⟨ck, gr, hK⟩, hgm, hb2⟩
  have HK := Lib.hid hK
  have bel2 := below_then hb1 hb2
  clear hK hgm
  go_wp2_with fail
  refine (Open_size g n _ gm ck gr As ns cs w2 HK.out hne).mono ?_
  rintro e w3 ⟨rfl, hb3⟩
  have bel3 := below_then bel2 hb3
  go_wp2_with fail
  refine (RefOpen_size A n cap As ns cs w3 hne).mono ?_
  rintro e w4 ⟨rfl, rfl⟩
  have hs1 := rd_str (Rd.nil .u8 w3 none) 0
  generalize str [] = S at *
  go_wp2
  go_ret
  exact ⟨rfl, bel3⟩

set_option maxRecDepth 100000 in
set_option maxHeartbeats 4000000 in
theorem walk_range (A : Option Addr) (n cap : Nat) (l : List Nat) (As : Option Addr) (cs : Nat) (ls : List Nat) (w : World) (h : Rd .u8 w A n l) (hf : Fit 256 l) (hcn : n ≤ cap) (hmn : cap ≤ maxLen) (hs : Rd .u8 w As n ls) (hfs : Fit 256 ls) (hcs : n ≤ cs) (hms : cs ≤ maxLen) (h1 : ¬ (64 : Int) < n) (h2 : ¬ (1000 : Int) < n) (hM : Modul n l) (hno : vbe l ≤ vbe ls) :
    Calls Tryd.prog 5 #[.slice A n cap, .slice As n cs] w fun e w' => e = .returned (.bool true) ∧ Below w.heap.size w w' := by
  have HR := Lib.hid h
  have HS := Lib.hid hs
  clear h hs
  have HM := Lib.hid hM
  have HNO := Lib.hid hno
  clear hM hno
  go_enter Tryd.func5, Tryd.ntmps5
  go_wp2_with fail
  refine (anchor_any w).mono ?_
  rintro e w1 ⟨rfl, hb1⟩
  go_wp2_with fail
  refine (Make_ok A n cap l w1 (HR.out.below hb1) hf hcn hmn HM.out).mono ?_
  rintro e w2 ⟨g, gm, rfl, ⟨ck, gr, hK⟩, hgm, hb2⟩
  have HK := Lib.hid hK
  have bel2 := below_then hb1 hb2
  clear hK hgm
  go_wp2_with fail
  refine (Open_no g n _ gm ck gr As cs ls w2 HK.out (HS.out.below bel2) hfs hcs hms HNO.out).mono ?_
  rintro e w3 ⟨rfl, hb3⟩
  have bel3 := below_then bel2 hb3
  go_wp2_with fail
  refine (RefOpen_no A n cap l As cs ls w3 (HR.out.below bel3) hf (HS.out.below bel3) hfs (by omega) HNO.out).mono ?_
  rintro e w4 ⟨rfl, hb4⟩
  have bel4 := below_then bel3 hb4
  have hs1 := rd_str (Rd.nil .u8 w4 none) 0
  generalize str [] = S at *
  go_wp2
  go_ret
  exact ⟨rfl, bel4⟩

set_option maxRecDepth 100000 in
set_option maxHeartbeats 4000000 in
theorem walk_yes (A : Option Addr) (n cap : Nat) (l : List Nat) (As : Option Addr) (cs : Nat) (ls : List Nat) (w : World) (h : Rd .u8 w A n l) (hf : Fit 256 l) (hcn : n ≤ cap) (hmn : cap ≤ maxLen) (hs : Rd .u8 w As n ls) (hfs : Fit 256 ls) (hcs : n ≤ cs) (hms : cs ≤ maxLen) (h1 : ¬ (64 : Int) < n) (h2 : ¬ (1000 : Int) < n) (hM : Modul n l) (hlt : vbe ls < vbe l) :
    Calls Tryd.prog 5 #[.slice A n cap, .slice As n cs] w fun e w' => e = .returned (.bool true) ∧ Below w.heap.size w w' := by
  have HR := Lib.hid h
  have HS := Lib.hid hs
  clear h hs
  have HM := Lib.hid hM
  have HLT := Lib.hid hlt
  clear hM hlt
  go_enter Tryd.func5, Tryd.ntmps5
  go_wp2_with fail
  refine (anchor_any w).mono ?_
  rintro e w1 ⟨rfl, hb1⟩
  go_wp2_with fail
  refine (Make_ok A n cap l w1 (HR.out.below hb1) hf hcn hmn HM.out).mono ?_
  rintro e w2 ⟨g, gm, rfl, ⟨ck, gr, hK⟩, hgm, hb2⟩
  have HK := Lib.hid hK
  have bel2 := below_then hb1 hb2
  clear hK hgm
  go_wp2_with fail
  refine (Open_yes g n _ gm ck gr As cs ls w2 HK.out (HS.out.below bel2) hfs hcs hms HLT.out).mono ?_
  rintro e w3 ⟨g3, rfl, hg3, hB3, hb3⟩
  have HB3 := Lib.hid hB3
  have bel3 := below_then bel2 hb3
  clear hB3 hg3
  go_wp2_with fail
  refine (RefOpen_yes A n cap l As cs ls w3 (HR.out.below bel3) hf (HS.out.below bel3) hfs (by omega) HLT.out).mono ?_
  rintro e w4 ⟨g4, rfl, hB4, hb4⟩
  have bel4 := below_then bel3 hb4
  have hs1 := rd_str ((HB3.out.rd n (bytesOf_length _ _)).below hb4) n
  have hs2 := rd_str (hB4.rd n (bytesOf_length _ _)) n
  generalize str (bytesOf n (vbe ls ^ keyE % vbe l)) = S at *
  clear hB4 HB3
  go_wp2
  go_ret
  exact ⟨rfl, bel4⟩

theorem walk (A : Option Addr) (n cap : Nat) (l : List Nat) (As : Option Addr) (ns cs : Nat) (ls : List Nat) (w : World) (h : Rd .u8 w A n l) (hf : Fit 256 l) (hcn : n ≤ cap) (hmn : cap ≤ maxLen) (hs : Rd .u8 w As ns ls) (hfs : Fit 256 ls) (hcs : ns ≤ cs) (hms : cs ≤ maxLen) :
    Calls Tryd.prog 5 #[.slice A n cap, .slice As ns cs] w fun e w' => e = .returned (.bool true) ∧ Below w.heap.size w w' := by
  by_cases h1 : 64 < n
  · exact walk_g1 A n cap As ns cs w (by omega)
  by_cases h2 : 1000 < ns
  · exact walk_g2 A n cap As ns cs w (by omega) (by omega)
  by_cases hM : Modul n l
  · by_cases hne : ns = n
    · subst hne
      by_cases hlt : vbe ls < vbe l
      · exact walk_yes A ns cap l As cs ls w h hf hcn hmn hs hfs hcs hms (by omega) (by omega) hM hlt
      · exact walk_range A ns cap l As cs ls w h hf hcn hmn hs hfs hcs hms (by omega) (by omega) hM (by omega)
    · exact walk_size A n cap l As ns cs ls w h hf hcn hmn hs hfs hcs hms (by omega) (by omega) hM hne
  · exact walk_bad A n cap l As ns cs ls w h hf hcn hmn hs hfs hcs hms (by omega) (by omega) hM

-- THE ROW's STEP
set_option maxRecDepth 100000 in
theorem lifted (os : Os) (started : os.Started) (H : Type) (enc : TypeId × Value → H) :
    ReturnsInHanded {} Tryd.checked os 5 .any (fun w args => (Rows.keyOpensSpec.pre enc Tryd.prog Tryd.f5 [] false w args ∧ laidMetH Tryd.prog listed w) ∧ sizedMet enc Tryd.prog Tryd.f5 (OpenSpec.ofChange Rows.keyOpensSpec) false w args)
      (Rows.keyOpensSpec.post enc Tryd.prog Tryd.f5 false true false false) := by
  refine returnsInHanded_of_change_and (C := Tryd.checked) (X := fun w _ => laidMetH Tryd.prog listed w) (fun _ _ _ hh h => h.of_heap hh) own started (by kernel_rfl) Tryd.func5
    (ChangeSpec.witness_shaped (enc := enc) (C := Tryd.checked) (os := os) (X := fun w _ => laidMetH Tryd.prog listed w) false (World.laidAll Tryd.prog os listed) #[.slice none 0 0, .slice none 0 0] 8 (World.laidAll_os _ _ _)
      (World.shaped_of_ZipB (by kernel_rfl) (by kernel_rfl)) (by kernel_rfl) (by kernel_rfl) (by kernel_rfl)
      (by rw [MakeChecks.laidMetH_plain _ _ _ (by kernel_rfl)]; exact laidMet_laidAll _ (by kernel_rfl) (by kernel_rfl))) ?_
  intro W base args ds gs before hval0 hW _ _ hL _
  have hval : ∀ (j : Nat) t v, Tryd.f5.params[j]? = some t → args[j]? = some v → Value.okWide Tryd.prog W .any base t v := hval0
  have hW' := hW
  obtain ⟨p, q, hA0, hV, rfl, hfz, hnd⟩ := hW
  have hA : DataW.TrodAll enc Tryd.prog W 0 (fun _ => true) true Tryd.f5.params.toList args.toList ds p := hA0
  rw [Tryd.params5] at hA hval
  obtain ⟨v0, vs0, d0, ds0, p0, q0, hargs, rfl, rfl, h0, r0⟩ := trodAll_cons hA
  obtain ⟨v1, vs1, d1, ds1, p1, q1, rfl, rfl, rfl, h1, r1⟩ := trodAll_cons r0
  obtain ⟨rfl, rfl, rfl⟩ := trodAll_nil r1
  obtain rfl : args = #[v0, v1] := by cases args; simp_all
  obtain ⟨rfl, rfl⟩ := trodVars_none hV
  have k0 := h0
  have lt0 : ∀ x ∈ p0, x.block < W.heap.size := by obtain ⟨m, hm⟩ := k0; exact DataW.trod_lt m _ _ _ hm
  obtain ⟨fuel0, hf0⟩ := h0
  obtain ⟨a0, len0, cap0, l0, e0, g0, hlc0, hcm0, hnil0⟩ := bytes_of_trod hf0
  obtain ⟨b0, lb0, cb0, hv0⟩ := okWide_slice Tryd.underlying22 (hval 0 22 v0 rfl rfl)
  have ev0 : v0 = .slice a0 len0 cap0 := by rw [hv0] at e0 ⊢; simpa [Value.cells] using e0
  subst ev0
  have k1 := h1
  have lt1 : ∀ x ∈ p1, x.block < W.heap.size := by obtain ⟨m, hm⟩ := k1; exact DataW.trod_lt m _ _ _ hm
  obtain ⟨fuel1, hf1⟩ := h1
  obtain ⟨a1, len1, cap1, l1, e1, g1, hlc1, hcm1, hnil1⟩ := bytes_of_trod hf1
  obtain ⟨b1, lb1, cb1, hv1⟩ := okWide_slice Tryd.underlying22 (hval 1 22 v1 rfl rfl)
  have ev1 : v1 = .slice a1 len1 cap1 := by rw [hv1] at e1 ⊢; simpa [Value.cells] using e1
  subst ev1
  clear hA0 hval0
  refine (walk a0 len0 cap0 l0 a1 len1 cap1 l1 W g0.1 g0.2 hlc0 hcm0 g1.1 g1.2 hlc1 hcm1).mono fun e W' ⟨he, bel⟩ => ?_
  subst he
  exact ⟨_, rfl, _, _, _, [], _, [], hW', trodAll_mk1 (shut_bool Tryd.underlying4 _), (trodAll_cons_mk (Below.trod laidOut (by kernel_rfl) (of_decide_eq_true (by kernel_rfl)) k0 bel lt0) (trodAll_cons_mk (Below.trod laidOut (by kernel_rfl) (of_decide_eq_true (by kernel_rfl)) k1 bel lt1) trodAll_mk0)), rfl, bel.frame _, fun h => by cases h⟩

theorem row_holds : Rows.KeyOpensSaid :=
  OpenClaim.holds_of_wide 5 Tryd.f5 rfl rfl rfl rfl rfl rfl rfl ⟨rfl, rfl, rfl, rfl, rfl⟩ rfl rfl rfl rfl rfl (by kernel_rfl) Tryd.func5 (by kernel_rfl)
    (of_decide_eq_true (by kernel_rfl)) (by unfold Func.isWrapper; first | (rw [if_pos (by decide +kernel)]; kernel_rfl) | (rw [if_neg (by decide +kernel)]; exact ⟨rfl, rfl⟩))
    (fun os started H enc _ => lifted os started H enc)

theorem proved : Rows.KeyOpensCardSaid :=
  Claim7.holds_tied_plain_at .later [] [.data, .pinned] true Rows.keyOpensCard.stood.harness false
    row_holds (fun _ h => by cases h) (by kernel_rfl) (fun _ h => by cases h) keyOpens_row_tie rfl ⟨rfl, rfl⟩ (by kernel_rfl) rfl
    (fun f fn hf hfn => by
      obtain rfl : f = 5 := Option.some.inj ((show Tryd.prog.funcNamed Tryd.f5.name = some 5 by kernel_rfl).symm.trans hf) |>.symm
      obtain rfl : fn = Tryd.f5 := (Option.some.inj (Tryd.func5.symm.trans hfn)).symm
      exact ⟨by kernel_rfl, fun j t ht => by
        rw [Tryd.params5] at ht
        have hm : t ∈ [22, 22] := by simpa using Array.mem_of_getElem? ht
        have hall : ([22, 22].all fun u => !Tryd.prog.wantsStandIn u) = true := by kernel_rfl
        exact (show Tryd.prog.wantsStandIn t = false by simpa using List.all_eq_true.1 hall t hm)⟩)
    (by kernel_rfl)
end Go.Proofs.YtojpbfkdkkdpcaaDoor.keyOpens
