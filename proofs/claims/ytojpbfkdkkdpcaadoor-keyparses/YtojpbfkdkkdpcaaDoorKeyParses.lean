/-
  For every text KeyParses returns true. No condition but that two tables of Go's library, which the call does not read, hold what their text lays there.
-/
import Derived.Test.YtojpbfkdkkdpcaaDoorLaw
import Derived.Test.YtojpbfkdkkdpcaaDoorR4
import Derived.Test.YtojpbfkdkkdpcaaDoorEach6
import Derived.Test.YtojpbfkdkkdpcaaDoorTie
import Derived.Test.YtojpbfkdkkdpcaaDoorCards
namespace Go.Proofs.YtojpbfkdkkdpcaaDoor.keyParses
open Go.Proofs.YtojpbfkdkkdpcaaDoor Go.ChangeShapes Go.WideShapes Go.ChangeAt Go.RowKit
set_option linter.unusedVariables false
set_option linter.unusedSimpArgs false

theorem RefParse_bad (A : Option Addr) (n cap : Nat) (l : List Nat) (er : Int) (w : World) (h : Rd .u8 w A n l) (hf : Fit 256 l) (hn2 : n ≤ 10000) (hc : n ≤ cap) (hm : cap ≤ maxLen) (hB : BadParse l er) :
    Calls Tryd.prog 20 #[.slice A n cap] w (NoBytes w er) := by
  have hl := h.1
  cases hB with
  | short h1 => exact RefParse_short A n cap w (by omega)
  | bits h1 h2 => exact (RefParse_long A n cap l w h hf (by omega) hn2 hc hm).mono fun e w' he => he.1 h2
  | lack k h1 h2 h3 h4 => exact (RefParse_long A n cap l w h hf (by omega) hn2 hc hm).mono fun e w' he => (he.2 h2 k h3).1 (by omega)
  | over k h1 h2 h3 h4 => exact (RefParse_long A n cap l w h hf (by omega) hn2 hc hm).mono fun e w' he => (he.2 h2 k h3).2.1 (by omega)
  | form k h1 h2 h3 h4 => exact (RefParse_long A n cap l w h hf (by omega) hn2 hc hm).mono fun e w' he => ((he.2 h1 k h2).2.2 (by omega)).1 h4
  | key k h1 h2 h3 h4 h5 => exact (RefParse_long A n cap l w h hf (by omega) hn2 hc hm).mono fun e w' he => (((he.2 h1 k h2).2.2 (by omega)).2 h4).1 h5
theorem RefParse_good (A : Option Addr) (n cap : Nat) (l : List Nat) (k : Nat) (w : World) (h : Rd .u8 w A n l) (hf : Fit 256 l) (hn2 : n ≤ 10000) (hc : n ≤ cap) (hm : cap ≤ maxLen) (hG : GoodParse l k) :
    Calls Tryd.prog 20 #[.slice A n cap] w (GivesMod w l k) :=
  (RefParse_long A n cap l w h hf (by have := hG.len; have := h.1; omega) hn2 hc hm).mono fun e w' he => (((he.2 hG.ok k hG.bits).2.2 (by have := hG.len; have := h.1; omega)).2 hG.modul).2 hG.same
set_option maxRecDepth 100000 in
set_option maxHeartbeats 4000000 in
theorem walk_g (A : Option Addr) (n cap : Nat) (l : List Nat) (w : World) (h : Rd .u8 w A n l) (hf : Fit 256 l) (hcn : n ≤ cap) (hmn : cap ≤ maxLen) (h1 : (300 : Int) < n) :
    Calls Tryd.prog 4 #[.slice A n cap] w fun e w' => e = .returned (.bool true) ∧ Below w.heap.size w w' := by
  go_enter Tryd.func4, Tryd.ntmps4
  go_wp2_with fail
  refine (anchor_any w).mono ?_
  rintro e w1 ⟨rfl, hb1⟩
  go_wp2
  go_ret
  exact ⟨rfl, hb1⟩

set_option maxRecDepth 100000 in
set_option maxHeartbeats 4000000 in
theorem walk_bad (A : Option Addr) (n cap : Nat) (l : List Nat) (w : World) (h : Rd .u8 w A n l) (hf : Fit 256 l) (hcn : n ≤ cap) (hmn : cap ≤ maxLen) (h1 : ¬ (300 : Int) < n) (er : Int) (hB : BadParse l er) :
    Calls Tryd.prog 4 #[.slice A n cap] w fun e w' => e = .returned (.bool true) ∧ Below w.heap.size w w' := by
  have HR := Lib.hid h
  have HB := Lib.hid hB
  have hd : (er != 0) = true := by simp [hB.ne]
  clear h hB
  go_enter Tryd.func4, Tryd.ntmps4
  go_wp2_with fail
  refine (anchor_any w).mono ?_
  rintro e w1 ⟨rfl, hb1⟩
  go_wp2_with fail
  refine (Parse_bad A n cap l er w1 (HR.out.below hb1) hf (by omega) hcn hmn HB.out).mono ?_
  rintro e w2 ⟨rfl, hb2⟩
  have bel2 := below_then hb1 hb2
  go_wp2_with fail
  refine (RefParse_bad A n cap l er w2 (HR.out.below bel2) hf (by omega) hcn hmn HB.out).mono ?_
  rintro e w3 ⟨rfl, hb3⟩
  have bel3 := below_then bel2 hb3
  go_wp2
  go_ret
  exact ⟨rfl, bel3⟩

set_option maxRecDepth 100000 in
set_option maxHeartbeats 4000000 in
theorem walk_good (A : Option Addr) (n cap : Nat) (l : List Nat) (w : World) (h : Rd .u8 w A n l) (hf : Fit 256 l) (hcn : n ≤ cap) (hmn : cap ≤ maxLen) (h1 : ¬ (300 : Int) < n) (k : Nat) (hG : GoodParse l k) :
    Calls Tryd.prog 4 #[.slice A n cap] w fun e w' => e = .returned (.bool true) ∧ Below w.heap.size w w' := by
  have HR := Lib.hid h
  have HG := Lib.hid hG
  have HN : Hid (n = 8 + 2 * k) := by show _ = _; rw [← h.1]; exact hG.len
  have HML : Hid ((modOf l k).length = k) := by
    have e := hG.len
    show ((l.drop 8).take k).length = k
    rw [List.length_take, List.length_drop]; omega
  have HFM : Hid (Fit 256 (modOf l k)) := fun x hx => hf x (List.mem_of_mem_drop (List.mem_of_mem_take hx))
  clear h hG
  go_enter Tryd.func4, Tryd.ntmps4
  go_wp2_with fail
  refine (anchor_any w).mono ?_
  rintro e w1 ⟨rfl, hb1⟩
  go_wp2_with fail
  refine (Parse_good A n cap l k w1 (HR.out.below hb1) hf (by omega) hcn hmn HG.out).mono ?_
  rintro e w2 ⟨g, gm, rfl, ⟨ck, gr, hK⟩, hgm, hb2⟩
  have HK := Lib.hid hK
  have bel2 := below_then hb1 hb2
  clear hK hgm
  go_wp2_with fail
  refine (RefParse_good A n cap l k w2 (HR.out.below bel2) hf (by omega) hcn hmn HG.out).mono ?_
  rintro e w3 ⟨Am, cm, rfl, hrm, hb3⟩
  have HM := Lib.hid hrm
  have HK3 := Lib.hid (HK.out.below hb3)
  have bel3 := below_then bel2 hb3
  clear hrm
  have HB1 : Hid (str (keyBytes k (vbe (modOf l k))) = str l) := by show _ = _; rw [HG.out.same]
  have HB2 : Hid (str (bytesOf k (vbe (modOf l k))) = str (modOf l k)) := by show _ = _; rw [← bytesOf_eq HML.out HFM.out rfl]
  have HR3 := Lib.hid (HR.out.below bel3)
  have HBEL := Lib.hid bel3
  clear hb1 hb2 hb3 bel2 bel3 HK
  go_wp2
  rename_i hKx
  refine wp_region_each (by kernel_rfl) (by kernel_rfl) (fun iX v w => match iX with
      | 0 => v = .int .i64 0
      | 1 => v = .bool true
      | 2 => v = .bool true
      | 3 => v = .pointer (some ⟨g, 0, none⟩)
      | 4 => v = .bool true
      | 5 => v = .bool true
      | 6 => v = .bool true
      | 7 => v = .pointer (some ⟨g, 0, none⟩)
      | 8 => ∃ A c, v = .slice A n c ∧ Rd .u8 w A n (keyBytes k (vbe (modOf l k)))
      | 9 => v = .string (str l)
      | 10 => v = .slice A n cap
      | 11 => v = .string (str l)
      | 12 => v = .bool true
      | 13 => v = .bool true
      | 14 => v = .bool true
      | 15 => v = .pointer (some ⟨g, 0, none⟩)
      | 16 => ∃ A c, v = .slice A k c ∧ Rd .u8 w A k (bytesOf k (vbe (modOf l k)))
      | 17 => v = .string (str (modOf l k))
      | 18 => v = .slice Am k cm
      | 19 => v = .string (str (modOf l k))
      | 20 => v = .bool true
      | 21 => v = .bool true
      | 22 => v = .bool true
      | _ => True) (fun u => Below w3.heap.size w3 u) ?m1 (fun _ _ h1 h2 => h1.trans (h2.mono h1.size)) ⟨rfl, rfl, rfl, Nat.le_refl _, fun _ _ => rfl⟩ ?m2 ?m3
  case m1 =>
    intro iX v w w' h hr hb
    rcases iX with _ | _ | _ | _ | _ | _ | _ | _ | _ | _ | _ | _ | _ | _ | _ | _ | _ | _ | _ | _ | _ | _ | _ | iX
    · exact h
    · exact h
    · exact h
    · exact h
    · exact h
    · exact h
    · exact h
    · exact h
    · obtain ⟨A, c, e, hk⟩ := h; exact ⟨A, c, e, hk.below hb⟩
    · exact h
    · exact h
    · exact h
    · exact h
    · exact h
    · exact h
    · exact h
    · obtain ⟨A, c, e, hk⟩ := h; exact ⟨A, c, e, hk.below hb⟩
    · exact h
    · exact h
    · exact h
    · exact h
    · exact h
    · exact h
    · trivial
  case m2 =>
    intro iX o ho a w hr hk hpre K hK
    have e3 : a.tmps.getD 3 undef = .pointer (some ⟨g, 0, none⟩) := hk.slot 3 (by simp)
    have e4 : a.tmps.getD 4 undef = .int .i64 0 := hk.slot 4 (by simp)
    have e0 : a.tmps.getD 0 undef = .slice A n cap := hk.slot 0 (by simp)
    have e5 : a.tmps.getD 5 undef = .slice Am k cm := hk.slot 5 (by simp)
    rcases iX with _ | _ | _ | _ | _ | _ | _ | _ | _ | _ | _ | _ | _ | _ | _ | _ | _ | _ | _ | _ | _ | _ | _ | iX
    · obtain rfl := Option.some.inj ho
      exact st_move (.tmp 4) rfl (want_none rfl) _ e4 (hK _ _ rfl (Below.refl _ _))
    · obtain rfl := Option.some.inj ho
      exact st_eqlInt 25 (.tmp 31) (.const (.int .i64 0)) rfl (want_none rfl) _ (hpre 0 _ 31 rfl rfl ⟨⟨0, .data⟩, by simp, rfl, rfl⟩) rfl (hK _ _ rfl (Below.refl _ _))
    · obtain rfl := Option.some.inj ho
      exact st_move (.tmp 32) rfl (want_none rfl) _ (hpre 1 _ 32 rfl rfl ⟨⟨1, .data⟩, by simp, rfl, rfl⟩) (hK _ _ rfl (Below.refl _ _))
    · obtain rfl := Option.some.inj ho
      exact st_move (.tmp 3) rfl (want_some rfl rfl rfl (hpre 2 _ 33 rfl rfl ⟨⟨2, .guard⟩, by simp, rfl, rfl⟩)) _ e3 (hK _ _ rfl (Below.refl _ _))
    · obtain rfl := Option.some.inj ho
      exact st_neqPtr (.tmp 34) rfl (want_some rfl rfl rfl (hpre 2 _ 33 rfl rfl ⟨⟨2, .guard⟩, by simp, rfl, rfl⟩)) _ (hpre 3 _ 34 rfl rfl ⟨⟨3, .data⟩, by simp, rfl, rfl⟩) (hK _ _ rfl (Below.refl _ _))
    · obtain rfl := Option.some.inj ho
      exact st_pick (.tmp 33) (.tmp 35) (.const (.bool false)) rfl (want_none rfl) true (hpre 2 _ 33 rfl rfl ⟨⟨2, .data⟩, by simp, rfl, rfl⟩) _ ((if_pos rfl).trans (hpre 4 _ 35 rfl rfl ⟨⟨4, .data⟩, by simp, rfl, rfl⟩)) (hK _ _ rfl (Below.refl _ _))
    · obtain rfl := Option.some.inj ho
      exact st_move (.tmp 36) rfl (want_none rfl) _ (hpre 5 _ 36 rfl rfl ⟨⟨5, .data⟩, by simp, rfl, rfl⟩) (hK _ _ rfl (Below.refl _ _))
    · obtain rfl := Option.some.inj ho
      exact st_move (.tmp 3) rfl (want_some rfl rfl rfl (hpre 6 _ 37 rfl rfl ⟨⟨6, .guard⟩, by simp, rfl, rfl⟩)) _ e3 (hK _ _ rfl (Below.refl _ _))
    · obtain rfl := Option.some.inj ho
      exact st_call1 13 (.tmp 38) 24 rfl (want_some rfl rfl rfl (hpre 6 _ 37 rfl rfl ⟨⟨6, .guard⟩, by simp, rfl, rfl⟩)) _ (hpre 7 _ 38 rfl rfl ⟨⟨7, .data⟩, by simp, rfl, rfl⟩) (cf13 _ _) _ (KBytes_any g k _ gm ck gr w (HK3.out.below hr) n HN.out) (fun e w' ⟨_, _, he, _, hrow, hb⟩ => ⟨_, he, hK _ _ ⟨_, _, rfl, hrow.rd⟩ hb⟩)
    · obtain rfl := Option.some.inj ho
      obtain ⟨A, c, eg, hs⟩ := (hpre 8 _ 39 rfl rfl ⟨⟨8, .data⟩, by simp, rfl, rfl⟩)
      exact st_conv (.tmp 39) rfl (want_some rfl rfl rfl (hpre 6 _ 37 rfl rfl ⟨⟨6, .guard⟩, by simp, rfl, rfl⟩)) _ _ _ _ eg hs (hK _ _ (congrArg Value.string HB1.out) (Below.refl _ _))
    · obtain rfl := Option.some.inj ho
      exact st_move (.tmp 0) rfl (want_some rfl rfl rfl (hpre 6 _ 37 rfl rfl ⟨⟨6, .guard⟩, by simp, rfl, rfl⟩)) _ e0 (hK _ _ rfl (Below.refl _ _))
    · obtain rfl := Option.some.inj ho
      exact st_conv (.tmp 41) rfl (want_some rfl rfl rfl (hpre 6 _ 37 rfl rfl ⟨⟨6, .guard⟩, by simp, rfl, rfl⟩)) _ _ _ _ (hpre 10 _ 41 rfl rfl ⟨⟨10, .data⟩, by simp, rfl, rfl⟩) (HR3.out.below hr) (hK _ _ rfl (Below.refl _ _))
    · obtain rfl := Option.some.inj ho
      exact st_eqlStr (.tmp 40) (.tmp 42) rfl (want_some rfl rfl rfl (hpre 6 _ 37 rfl rfl ⟨⟨6, .guard⟩, by simp, rfl, rfl⟩)) _ (hpre 9 _ 40 rfl rfl ⟨⟨9, .data⟩, by simp, rfl, rfl⟩) (hpre 11 _ 42 rfl rfl ⟨⟨11, .data⟩, by simp, rfl, rfl⟩) (hK _ _ rfl (Below.refl _ _))
    · obtain rfl := Option.some.inj ho
      exact st_pick (.tmp 37) (.tmp 43) (.const (.bool false)) rfl (want_none rfl) true (hpre 6 _ 37 rfl rfl ⟨⟨6, .data⟩, by simp, rfl, rfl⟩) _ ((if_pos rfl).trans (hpre 12 _ 43 rfl rfl ⟨⟨12, .data⟩, by simp, rfl, rfl⟩)) (hK _ _ rfl (Below.refl _ _))
    · obtain rfl := Option.some.inj ho
      exact st_move (.tmp 44) rfl (want_none rfl) _ (hpre 13 _ 44 rfl rfl ⟨⟨13, .data⟩, by simp, rfl, rfl⟩) (hK _ _ rfl (Below.refl _ _))
    · obtain rfl := Option.some.inj ho
      exact st_move (.tmp 3) rfl (want_some rfl rfl rfl (hpre 14 _ 45 rfl rfl ⟨⟨14, .guard⟩, by simp, rfl, rfl⟩)) _ e3 (hK _ _ rfl (Below.refl _ _))
    · obtain rfl := Option.some.inj ho
      exact st_call1 16 (.tmp 46) 24 rfl (want_some rfl rfl rfl (hpre 14 _ 45 rfl rfl ⟨⟨14, .guard⟩, by simp, rfl, rfl⟩)) _ (hpre 15 _ 46 rfl rfl ⟨⟨15, .data⟩, by simp, rfl, rfl⟩) (cf16 _ _) _ (Modulus_any g k _ gm ck gr w (HK3.out.below hr)) (fun e w' ⟨_, _, he, _, hrow, hb⟩ => ⟨_, he, hK _ _ ⟨_, _, rfl, hrow.rd⟩ hb⟩)
    · obtain rfl := Option.some.inj ho
      obtain ⟨A, c, eg, hs⟩ := (hpre 16 _ 47 rfl rfl ⟨⟨16, .data⟩, by simp, rfl, rfl⟩)
      exact st_conv (.tmp 47) rfl (want_some rfl rfl rfl (hpre 14 _ 45 rfl rfl ⟨⟨14, .guard⟩, by simp, rfl, rfl⟩)) _ _ _ _ eg hs (hK _ _ (congrArg Value.string HB2.out) (Below.refl _ _))
    · obtain rfl := Option.some.inj ho
      exact st_move (.tmp 5) rfl (want_some rfl rfl rfl (hpre 14 _ 45 rfl rfl ⟨⟨14, .guard⟩, by simp, rfl, rfl⟩)) _ e5 (hK _ _ rfl (Below.refl _ _))
    · obtain rfl := Option.some.inj ho
      exact st_conv (.tmp 49) rfl (want_some rfl rfl rfl (hpre 14 _ 45 rfl rfl ⟨⟨14, .guard⟩, by simp, rfl, rfl⟩)) _ _ _ _ (hpre 18 _ 49 rfl rfl ⟨⟨18, .data⟩, by simp, rfl, rfl⟩) (HM.out.below hr) (hK _ _ rfl (Below.refl _ _))
    · obtain rfl := Option.some.inj ho
      exact st_eqlStr (.tmp 48) (.tmp 50) rfl (want_some rfl rfl rfl (hpre 14 _ 45 rfl rfl ⟨⟨14, .guard⟩, by simp, rfl, rfl⟩)) _ (hpre 17 _ 48 rfl rfl ⟨⟨17, .data⟩, by simp, rfl, rfl⟩) (hpre 19 _ 50 rfl rfl ⟨⟨19, .data⟩, by simp, rfl, rfl⟩) (hK _ _ rfl (Below.refl _ _))
    · obtain rfl := Option.some.inj ho
      exact st_pick (.tmp 45) (.tmp 51) (.const (.bool false)) rfl (want_none rfl) true (hpre 14 _ 45 rfl rfl ⟨⟨14, .data⟩, by simp, rfl, rfl⟩) _ ((if_pos rfl).trans (hpre 20 _ 51 rfl rfl ⟨⟨20, .data⟩, by simp, rfl, rfl⟩)) (hK _ _ rfl (Below.refl _ _))
    · obtain rfl := Option.some.inj ho
      exact st_assign (.tmp 52) rfl (want_none rfl) _ (hpre 21 _ 52 rfl rfl ⟨⟨21, .data⟩, by simp, rfl, rfl⟩) (hK _ _ rfl (Below.refl _ _))
    · cases ho
  case m3 =>
    intro a w hr hk hv
    have h6 := hv 22 _ 2 rfl rfl
    refine hKx a w (wp_ret (bodyPost_ret (results_tmp rfl _ _ _) hk.defers ⟨?_, below_then HBEL.out hr⟩))
    exact congrArg Ending.returned h6

theorem walk (A : Option Addr) (n cap : Nat) (l : List Nat) (w : World) (h : Rd .u8 w A n l) (hf : Fit 256 l) (hcn : n ≤ cap) (hmn : cap ≤ maxLen) :
    Calls Tryd.prog 4 #[.slice A n cap] w fun e w' => e = .returned (.bool true) ∧ Below w.heap.size w w' := by
  by_cases h1 : 300 < n
  · exact walk_g A n cap l w h hf hcn hmn (by omega)
  rcases parse_cases l with ⟨er, hB⟩ | ⟨k, hG⟩
  · exact walk_bad A n cap l w h hf hcn hmn (by omega) er hB
  · exact walk_good A n cap l w h hf hcn hmn (by omega) k hG

-- THE ROW's STEP
set_option maxRecDepth 100000 in
theorem lifted (os : Os) (started : os.Started) (H : Type) (enc : TypeId × Value → H) :
    ReturnsInHanded {} Tryd.checked os 4 .any (fun w args => (Rows.keyParsesSpec.pre enc Tryd.prog Tryd.f4 [] false w args ∧ laidMetH Tryd.prog listed w) ∧ sizedMet enc Tryd.prog Tryd.f4 (OpenSpec.ofChange Rows.keyParsesSpec) false w args)
      (Rows.keyParsesSpec.post enc Tryd.prog Tryd.f4 false true false false) := by
  refine returnsInHanded_of_change_and (C := Tryd.checked) (X := fun w _ => laidMetH Tryd.prog listed w) (fun _ _ _ hh h => h.of_heap hh) own started (by kernel_rfl) Tryd.func4
    (ChangeSpec.witness_shaped (enc := enc) (C := Tryd.checked) (os := os) (X := fun w _ => laidMetH Tryd.prog listed w) false (World.laidAll Tryd.prog os listed) #[.slice none 0 0] 8 (World.laidAll_os _ _ _)
      (World.shaped_of_ZipB (by kernel_rfl) (by kernel_rfl)) (by kernel_rfl) (by kernel_rfl) (by kernel_rfl)
      (by rw [MakeChecks.laidMetH_plain _ _ _ (by kernel_rfl)]; exact laidMet_laidAll _ (by kernel_rfl) (by kernel_rfl))) ?_
  intro W base args ds gs before hval0 hW _ _ hL _
  have hval : ∀ (j : Nat) t v, Tryd.f4.params[j]? = some t → args[j]? = some v → Value.okWide Tryd.prog W .any base t v := hval0
  have hW' := hW
  obtain ⟨p, q, hA0, hV, rfl, hfz, hnd⟩ := hW
  have hA : DataW.TrodAll enc Tryd.prog W 0 (fun _ => true) true Tryd.f4.params.toList args.toList ds p := hA0
  rw [Tryd.params4] at hA hval
  obtain ⟨v0, vs0, d0, ds0, p0, q0, hargs, rfl, rfl, h0, r0⟩ := trodAll_cons hA
  obtain ⟨rfl, rfl, rfl⟩ := trodAll_nil r0
  obtain rfl : args = #[v0] := by cases args; simp_all
  obtain ⟨rfl, rfl⟩ := trodVars_none hV
  have k0 := h0
  have lt0 : ∀ x ∈ p0, x.block < W.heap.size := by obtain ⟨m, hm⟩ := k0; exact DataW.trod_lt m _ _ _ hm
  obtain ⟨fuel0, hf0⟩ := h0
  obtain ⟨a0, len0, cap0, l0, e0, g0, hlc0, hcm0, hnil0⟩ := bytes_of_trod hf0
  obtain ⟨b0, lb0, cb0, hv0⟩ := okWide_slice Tryd.underlying22 (hval 0 22 v0 rfl rfl)
  have ev0 : v0 = .slice a0 len0 cap0 := by rw [hv0] at e0 ⊢; simpa [Value.cells] using e0
  subst ev0
  clear hA0 hval0
  refine (walk a0 len0 cap0 l0 W g0.1 g0.2 hlc0 hcm0).mono fun e W' ⟨he, bel⟩ => ?_
  subst he
  exact ⟨_, rfl, _, _, _, [], _, [], hW', trodAll_mk1 (shut_bool Tryd.underlying4 _), (trodAll_cons_mk (Below.trod laidOut (by kernel_rfl) (of_decide_eq_true (by kernel_rfl)) k0 bel lt0) trodAll_mk0), rfl, bel.frame _, fun h => by cases h⟩

theorem row_holds : Rows.KeyParsesSaid :=
  OpenClaim.holds_of_wide 4 Tryd.f4 rfl rfl rfl rfl rfl rfl rfl ⟨rfl, rfl, rfl, rfl, rfl⟩ rfl rfl rfl rfl rfl (by kernel_rfl) Tryd.func4 (by kernel_rfl)
    (of_decide_eq_true (by kernel_rfl)) (by unfold Func.isWrapper; first | (rw [if_pos (by decide +kernel)]; kernel_rfl) | (rw [if_neg (by decide +kernel)]; exact ⟨rfl, rfl⟩))
    (fun os started H enc _ => lifted os started H enc)

theorem proved : Rows.KeyParsesCardSaid :=
  Claim7.holds_tied_plain_at .later [] [.data, .pinned] true Rows.keyParsesCard.stood.harness false
    row_holds (fun _ h => by cases h) (by kernel_rfl) (fun _ h => by cases h) keyParses_row_tie rfl ⟨rfl, rfl⟩ (by kernel_rfl) rfl
    (fun f fn hf hfn => by
      obtain rfl : f = 4 := Option.some.inj ((show Tryd.prog.funcNamed Tryd.f4.name = some 4 by kernel_rfl).symm.trans hf) |>.symm
      obtain rfl : fn = Tryd.f4 := (Option.some.inj (Tryd.func4.symm.trans hfn)).symm
      exact ⟨by kernel_rfl, fun j t ht => by
        rw [Tryd.params4] at ht
        have hm : t ∈ [22] := by simpa using Array.mem_of_getElem? ht
        have hall : ([22].all fun u => !Tryd.prog.wantsStandIn u) = true := by kernel_rfl
        exact (show Tryd.prog.wantsStandIn t = false by simpa using List.all_eq_true.1 hall t hm)⟩)
    (by kernel_rfl)
end Go.Proofs.YtojpbfkdkkdpcaaDoor.keyParses
