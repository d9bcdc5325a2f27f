/-
  For every text and every two numbers KeyNames returns true. No condition but that two tables of Go's library, which the call does not read, hold what their text lays there.
-/
import Derived.Test.YtojpbfkdkkdpcaaDoorLaw
import Derived.Test.YtojpbfkdkkdpcaaDoorK7
import Derived.Test.YtojpbfkdkkdpcaaDoorTie
import Derived.Test.YtojpbfkdkkdpcaaDoorCards
namespace Go.Proofs.YtojpbfkdkkdpcaaDoor.keyNames
open Go.Proofs.YtojpbfkdkkdpcaaDoor Go.ChangeShapes Go.WideShapes Go.ChangeAt Go.RowKit
set_option linter.unusedVariables false
set_option linter.unusedSimpArgs false

set_option maxRecDepth 100000 in
set_option maxHeartbeats 4000000 in
theorem walk_g0 (A : Option Addr) (n cap : Nat) (l : List Nat) (z x : Int) (w : World) (h0 : (64 : Int) < n) :
    Calls Tryd.prog 9 #[.slice A n cap, .int .i64 z, .int .i64 x] w fun e w' => e = .returned (.bool true) ∧ Below w.heap.size w w' := by
  go_enter Tryd.func9, Tryd.ntmps9
  go_wp2_with fail
  refine (anchor_any w).mono ?_
  rintro e w1 ⟨rfl, hb1⟩
  go_wp2
  go_ret
  exact ⟨rfl, hb1⟩

set_option maxRecDepth 100000 in
set_option maxHeartbeats 4000000 in
theorem walk_g1 (A : Option Addr) (n cap : Nat) (l : List Nat) (z x : Int) (w : World) (h0 : ¬ (64 : Int) < n) (h1 : z < 0) :
    Calls Tryd.prog 9 #[.slice A n cap, .int .i64 z, .int .i64 x] w fun e w' => e = .returned (.bool true) ∧ Below w.heap.size w w' := by
  go_enter Tryd.func9, Tryd.ntmps9
  go_wp2_with fail
  refine (anchor_any w).mono ?_
  rintro e w1 ⟨rfl, hb1⟩
  go_wp2
  go_ret
  exact ⟨rfl, hb1⟩

set_option maxRecDepth 100000 in
set_option maxHeartbeats 4000000 in
theorem walk_g2 (A : Option Addr) (n cap : Nat) (l : List Nat) (z x : Int) (w : World) (h0 : ¬ (64 : Int) < n) (h1 : ¬ z < 0) (h2 : x < 1) :
    Calls Tryd.prog 9 #[.slice A n cap, .int .i64 z, .int .i64 x] w fun e w' => e = .returned (.bool true) ∧ Below w.heap.size w w' := by
  go_enter Tryd.func9, Tryd.ntmps9
  go_wp2_with fail
  refine (anchor_any w).mono ?_
  rintro e w1 ⟨rfl, hb1⟩
  go_wp2
  go_ret
  exact ⟨rfl, hb1⟩

set_option maxRecDepth 100000 in
set_option maxHeartbeats 4000000 in
theorem walk_g3 (A : Option Addr) (n cap : Nat) (l : List Nat) (z x : Int) (w : World) (h0 : ¬ (64 : Int) < n) (h1 : ¬ z < 0) (h2 : ¬ x < 1) (h3 : 255 < x) :
    Calls Tryd.prog 9 #[.slice A n cap, .int .i64 z, .int .i64 x] w fun e w' => e = .returned (.bool true) ∧ Below w.heap.size w w' := by
  go_enter Tryd.func9, Tryd.ntmps9
  go_wp2_with fail
  refine (anchor_any w).mono ?_
  rintro e w1 ⟨rfl, hb1⟩
  go_wp2
  go_ret
  exact ⟨rfl, hb1⟩

set_option maxRecDepth 100000 in
set_option maxHeartbeats 4000000 in
theorem walk_bad (A : Option Addr) (n cap : Nat) (l : List Nat) (z x : Int) (w : World) (h0 : ¬ (64 : Int) < n) (h1 : ¬ z < 0) (h2 : ¬ x < 1) (h3 : ¬ 255 < x) (h : Rd .u8 w A n l) (hf : Fit 256 l) (hcn : n ≤ cap) (hmn : cap ≤ maxLen) (hM : ¬ Modul n l) :
    Calls Tryd.prog 9 #[.slice A n cap, .int .i64 z, .int .i64 x] w fun e w' => e = .returned (.bool true) ∧ Below w.heap.size w w' := by
  have HR := Lib.hid h
  have HM := Lib.hid hM
  clear h hM
  go_enter Tryd.func9, Tryd.ntmps9
  go_wp2_with fail
  refine (anchor_any w).mono ?_
  rintro e w1 ⟨rfl, hb1⟩
  go_wp2_with fail
  refine (Make_no A n cap l w1 (HR.out.below hb1) hf (by omega) HM.out).mono ?_
  rintro e w2 ⟨er, her, rfl, hb2⟩
  have hd : (er != 0) = true := by rcases her with h | h <;> simp [h]
  clear her
  go_wp2
  go_ret
  exact ⟨rfl, below_then hb1 hb2⟩

set_option maxRecDepth 100000 in
set_option maxHeartbeats 4000000 in
theorem walk_ok (A : Option Addr) (n cap : Nat) (l : List Nat) (a y : Nat) (w : World) (h0 : ¬ (64 : Int) < n) (ha : (a : Int) ≤ 9223372036854775807) (hy1 : 1 ≤ y) (hy2 : y ≤ 255) (h : Rd .u8 w A n l) (hf : Fit 256 l) (hcn : n ≤ cap) (hmn : cap ≤ maxLen) (hM : Modul n l) :
    Calls Tryd.prog 9 #[.slice A n cap, .int .i64 (a : Int), .int .i64 (y : Int)] w fun e w' => e = .returned (.bool true) ∧ Below w.heap.size w w' := by
  have HR := Lib.hid h
  have HM := Lib.hid hM
  have k1 := hM.1
  obtain ⟨M, hMM⟩ : ∃ M, M = 8 + 2 * n := ⟨_, rfl⟩
  have HMM := Lib.hid hMM
  have M1 : 136 ≤ M := by omega
  have M2 : M ≤ 136 := by omega
  obtain ⟨p, hp⟩ : ∃ p, p = a % M := ⟨_, rfl⟩
  have hpM : p < M := by rw [hp]; exact Nat.mod_lt _ (by omega)
  have r1 : (a : Int) % (M : Int) = (p : Int) := by rw [hp, Int.natCast_emod]
  have r2 : (a : Int).tmod (M : Int) = (p : Int) := by rw [Int.tmod_eq_emod_of_nonneg (by omega)]; exact r1
  have g1 : ¬ (a : Int) < 0 := by omega
  have g2 : ¬ (y : Int) < 1 := by omega
  have g3 : ¬ (255 : Int) < y := by omega
  have HN := Lib.hid (bytesOf_eq h.1 hf rfl)
  have HL := Lib.hid h.1
  clear h hM hMM hp
  go_enter Tryd.func9, Tryd.ntmps9
  go_wp2_with fail
  refine (anchor_any w).mono ?_
  rintro e w1 ⟨rfl, hb1⟩
  go_wp2_with fail
  refine (Make_ok A n cap l w1 (HR.out.below hb1) hf hcn hmn HM.out).mono ?_
  rintro e w2 ⟨g, gm, rfl, ⟨ck, gr, hK⟩, hgm, hb2⟩
  have HK := Lib.hid hK
  have bel2 := below_then hb1 hb2
  clear hK hgm
  go_wp2_with fail
  refine (KBytes_any g n _ gm ck gr w2 HK.out M HMM.out).mono ?_
  rintro e w3 ⟨g3, c3, rfl, hg3, hrow3, hb3⟩
  have bel3 := below_then bel2 hb3
  have hkl : (keyBytes n (vbe l)).length = M := by rw [keyBytes_length, HMM.out]
  obtain ⟨o, ho⟩ := get_some (l := keyBytes n (vbe l)) (i := p) (by omega)
  have hob := (keyBytes_fit n (vbe l)).get ho
  have hcell := hrow3.at_ hpM ho
  have hfz := hrow3.fz p
  obtain ⟨v, hv⟩ : ∃ v, v = o ^^^ y := ⟨_, rfl⟩
  have hvb : v < 256 := by rw [hv]; exact Nat.xor_lt_two_pow (n := 8) hob (by omega)
  have hx : bits .xor .u8 (o : Int) (y : Int) = (v : Int) := by rw [hv]; exact u8_xor_nat o y hob (by omega)
  have hne := set_ne ho (show v ≠ o by rw [hv]; exact xor_ne (by omega))
  have HNE := Lib.hid hne
  have HROW := Lib.hid (hrow3.put p v)
  have hsz : w.heap.size ≤ g3 := Nat.le_trans bel2.size hg3
  have hc3 := hrow3.le.1
  have hm3 := hrow3.le.2
  have HBE : Hid (Below w.heap.size w (w3.setCell ⟨g3, p, none⟩ (.int .u8 (v : Int)))) := bel3.setCell hsz _
  have HFL : Hid (Fit 256 ((keyBytes n (vbe l)).set p v)) := (keyBytes_fit n (vbe l)).set p v hvb
  clear hrow3 ho hne hv hkl hg3
  go_wp2_with fail
  have HRB := Lib.hid HROW.out.rd
  have HRA := Lib.hid (HR.out.below HBE.out)
  generalize w3.setCell ⟨g3, p, none⟩ (.int .u8 (v : Int)) = w4 at *
  clear HROW hcell hfz hx
  generalize hl2 : (keyBytes n (vbe l)).set p v = l2 at *
  clear hl2
  rcases parse_cases l2 with ⟨er, hB⟩ | ⟨k, hG⟩
  · have hd : (er != 0) = true := by simp [hB.ne]
    refine (Parse_bad _ M c3 l2 er w4 HRB.out HFL.out (by omega) hc3 hm3 hB).mono ?_
    rintro e w5 ⟨rfl, hb5⟩
    have bel5 := below_then HBE.out hb5
    clear hB
    go_wp2
    go_ret
    exact ⟨rfl, bel5⟩
  · have HG := Lib.hid hG
    have HNk : Hid (M = 8 + 2 * k) := by show _ = _; rw [← HRB.out.1]; exact hG.len
    clear hG
    refine (Parse_good _ M c3 l2 k w4 HRB.out HFL.out (by omega) hc3 hm3 HG.out).mono ?_
    rintro e w5 ⟨go, gm2, rfl, ⟨ck2, gr2, hK2⟩, hgm2, hb5⟩
    have HK2 := Lib.hid hK2
    have bel5 := below_then HBE.out hb5
    have HML : Hid ((modOf l2 k).length = k) := by
      have e := HG.out.len
      show ((l2.drop 8).take k).length = k
      rw [List.length_take, List.length_drop]; omega
    have HFM : Hid (Fit 256 (modOf l2 k)) := fun x hx => HFL.out x (List.mem_of_mem_drop (List.mem_of_mem_take hx))
    have HB1 : Hid (str (keyBytes k (vbe (modOf l2 k))) = str l2) := by show _ = _; rw [HG.out.same]
    have e1 := str_same (bytesOf_fit k (vbe (modOf l2 k))) hf
    rw [decide_eq_false (fun hh => by
      have h1 : modOf l2 k = l := by rw [← hh]; exact bytesOf_eq HML.out HFM.out rfl
      have h2 : k = n := by rw [← HML.out, h1, HL.out]
      have h3 := HG.out.same
      rw [h1, h2] at h3
      exact HNE.out h3.symm)] at e1
    have hs0 : (convert 22 9 (.slice A n cap)).run Tryd.prog w5.drew = .ok (.string (str l)) w5.drew := rd_str ((HR.out.below bel5).drewN 1) cap
    have HBEL := Lib.hid bel5
    have HB5 := Lib.hid hb5
    clear hK2 hgm2 bel5 hb5 hb1 hb2 hb3 bel2 bel3
    go_wp2
    go_region_law (first
      | (go_simp; go_at_call 16; refine (Modulus_any go k _ gm2 ck2 gr2 _ (HK2.out.below (below_drewN below_self 1))).mono ?_; rintro e w6 ⟨g6, c6, rfl, hg6, hrow6, hb6⟩; have hs6 := rd_str hrow6.rd c6; have hs7 := rd_str (((HR.out.below HBEL.out).drewN 1).below hb6) cap; have hs8 := rd_str (((HRB.out.below HB5.out).drewN 1).below hb6) c3; clear hrow6 hg6)
      | (go_simp; go_at_call 13; refine (KBytes_any go k _ gm2 ck2 gr2 _ ((HK2.out.below (below_drewN below_self 1)).below hb6) M HNk.out).mono ?_; rintro e w7 ⟨g7, c7, rfl, hg7, hrow7, hb7⟩; have hs9 := rd_str hrow7.rd c7; rw [HB1.out] at hs9; have hsa := rd_str ((((HRB.out.below HB5.out).drewN 1).below hb6).below hb7) c3; clear hrow7 hg7))
    all_goals
      go_wp2
      go_ret
      exact ⟨rfl, below_then (below_then (below_drewN HBEL.out 1) hb6) hb7⟩

theorem walk (A : Option Addr) (n cap : Nat) (l : List Nat) (z x : Int) (w : World) (h : Rd .u8 w A n l) (hf : Fit 256 l) (hcn : n ≤ cap) (hmn : cap ≤ maxLen) (w1 : (Lit.int .i64 z).wf = true) (w2 : (Lit.int .i64 x).wf = true) :
    Calls Tryd.prog 9 #[.slice A n cap, .int .i64 z, .int .i64 x] w fun e w' => e = .returned (.bool true) ∧ Below w.heap.size w w' := by
  obtain ⟨b0, b1⟩ := bounds_i64 w1
  by_cases h0 : (64 : Int) < n
  · exact walk_g0 A n cap l z x w h0
  by_cases h1 : z < 0
  · exact walk_g1 A n cap l z x w h0 h1
  by_cases h2 : x < 1
  · exact walk_g2 A n cap l z x w h0 h1 h2
  by_cases h3 : 255 < x
  · exact walk_g3 A n cap l z x w h0 h1 h2 h3
  by_cases hM : Modul n l
  · obtain ⟨a, rfl⟩ : ∃ a : Nat, z = (a : Int) := ⟨z.toNat, by omega⟩
    obtain ⟨y, rfl⟩ : ∃ y : Nat, x = (y : Int) := ⟨x.toNat, by omega⟩
    exact walk_ok A n cap l a y w h0 b1 (by omega) (by omega) h hf hcn hmn hM
  · exact walk_bad A n cap l z x w h0 h1 h2 h3 h hf hcn hmn hM

-- THE ROW's STEP
set_option maxRecDepth 100000 in
theorem lifted (os : Os) (started : os.Started) (H : Type) (enc : TypeId × Value → H) :
    ReturnsInHanded {} Tryd.checked os 9 .any (fun w args => (Rows.keyNamesSpec.pre enc Tryd.prog Tryd.f9 [] false w args ∧ laidMetH Tryd.prog listed w) ∧ sizedMet enc Tryd.prog Tryd.f9 (OpenSpec.ofChange Rows.keyNamesSpec) false w args)
      (Rows.keyNamesSpec.post enc Tryd.prog Tryd.f9 false true false false) := by
  refine returnsInHanded_of_change_and (C := Tryd.checked) (X := fun w _ => laidMetH Tryd.prog listed w) (fun _ _ _ hh h => h.of_heap hh) own started (by kernel_rfl) Tryd.func9
    (ChangeSpec.witness_shaped (enc := enc) (C := Tryd.checked) (os := os) (X := fun w _ => laidMetH Tryd.prog listed w) false (World.laidAll Tryd.prog os listed) #[.slice none 0 0, .int .i64 0, .int .i64 0] 8 (World.laidAll_os _ _ _)
      (World.shaped_of_ZipB (by kernel_rfl) (by kernel_rfl)) (by kernel_rfl) (by kernel_rfl) (by kernel_rfl)
      (by rw [MakeChecks.laidMetH_plain _ _ _ (by kernel_rfl)]; exact laidMet_laidAll _ (by kernel_rfl) (by kernel_rfl))) ?_
  intro W base args ds gs before hval0 hW _ _ hL _
  have hval : ∀ (j : Nat) t v, Tryd.f9.params[j]? = some t → args[j]? = some v → Value.okWide Tryd.prog W .any base t v := hval0
  have hW' := hW
  obtain ⟨p, q, hA0, hV, rfl, hfz, hnd⟩ := hW
  have hA : DataW.TrodAll enc Tryd.prog W 0 (fun _ => true) true Tryd.f9.params.toList args.toList ds p := hA0
  rw [Tryd.params9] at hA hval
  obtain ⟨v0, vs0, d0, ds0, p0, q0, hargs, rfl, rfl, h0, r0⟩ := trodAll_cons hA
  obtain ⟨v1, vs1, d1, ds1, p1, q1, rfl, rfl, rfl, h1, r1⟩ := trodAll_cons r0
  obtain ⟨v2, vs2, d2, ds2, p2, q2, rfl, rfl, rfl, h2, r2⟩ := trodAll_cons r1
  obtain ⟨rfl, rfl, rfl⟩ := trodAll_nil r2
  obtain rfl : args = #[v0, v1, v2] := by cases args; simp_all
  obtain ⟨rfl, rfl⟩ := trodVars_none hV
  have k0 := h0
  have lt0 : ∀ x ∈ p0, x.block < W.heap.size := by obtain ⟨m, hm⟩ := k0; exact DataW.trod_lt m _ _ _ hm
  obtain ⟨fuel0, hf0⟩ := h0
  obtain ⟨a0, len0, cap0, l0, e0, g0, hlc0, hcm0, hnil0⟩ := bytes_of_trod hf0
  obtain ⟨b0, lb0, cb0, hv0⟩ := okWide_slice Tryd.underlying22 (hval 0 22 v0 rfl rfl)
  have ev0 : v0 = .slice a0 len0 cap0 := by rw [hv0] at e0 ⊢; simpa [Value.cells] using e0
  subst ev0
  obtain ⟨a1, rfl, rfl, rfl, w1⟩ := open_int Tryd.underlying3 (hval 1 3 v1 rfl rfl) h1
  obtain ⟨a2, rfl, rfl, rfl, w2⟩ := open_int Tryd.underlying3 (hval 2 3 v2 rfl rfl) h2
  clear hA0 hval0
  refine (walk a0 len0 cap0 l0 a1 a2 W g0.1 g0.2 hlc0 hcm0 w1 w2).mono fun e W' ⟨he, bel⟩ => ?_
  subst he
  exact ⟨_, rfl, _, _, _, [], _, [], hW', trodAll_mk1 (shut_bool Tryd.underlying4 _), (trodAll_cons_mk (Below.trod laidOut (by kernel_rfl) (of_decide_eq_true (by kernel_rfl)) k0 bel lt0) (trodAll_cons_mk (shut_int Tryd.underlying3 w1) (trodAll_cons_mk (shut_int Tryd.underlying3 w2) trodAll_mk0))), rfl, bel.frame _, fun h => by cases h⟩

theorem row_holds : Rows.KeyNamesSaid :=
  OpenClaim.holds_of_wide 9 Tryd.f9 rfl rfl rfl rfl rfl rfl rfl ⟨rfl, rfl, rfl, rfl, rfl⟩ rfl rfl rfl rfl rfl (by kernel_rfl) Tryd.func9 (by kernel_rfl)
    (of_decide_eq_true (by kernel_rfl)) (by unfold Func.isWrapper; first | (rw [if_pos (by decide +kernel)]; kernel_rfl) | (rw [if_neg (by decide +kernel)]; exact ⟨rfl, rfl⟩))
    (fun os started H enc _ => lifted os started H enc)

theorem proved : Rows.KeyNamesCardSaid :=
  Claim7.holds_tied_plain_at .later [] [.data, .pinned] true Rows.keyNamesCard.stood.harness false
    row_holds (fun _ h => by cases h) (by kernel_rfl) (fun _ h => by cases h) keyNames_row_tie rfl ⟨rfl, rfl⟩ (by kernel_rfl) rfl
    (fun f fn hf hfn => by
      obtain rfl : f = 9 := Option.some.inj ((show Tryd.prog.funcNamed Tryd.f9.name = some 9 by kernel_rfl).symm.trans hf) |>.symm
      obtain rfl : fn = Tryd.f9 := (Option.some.inj (Tryd.func9.symm.trans hfn)).symm
      exact ⟨by kernel_rfl, fun j t ht => by
        rw [Tryd.params9] at ht
        have hm : t ∈ [22, 3, 3] := by simpa using Array.mem_of_getElem? ht
        have hall : ([22, 3, 3].all fun u => !Tryd.prog.wantsStandIn u) = true := by kernel_rfl
        exact (show Tryd.prog.wantsStandIn t = false by simpa using List.all_eq_true.1 hall t hm)⟩)
    (by kernel_rfl)
end Go.Proofs.YtojpbfkdkkdpcaaDoor.keyNames
