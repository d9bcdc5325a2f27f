/-
  What the statements' own anchor answers: true.
-/
import Derived.Test.YtfoenafjaaidmaaDoorG7
import Derived.Test.YtfoenafjaaidmaaDoorE7
import Derived.Lib.LazyBuf
namespace Go.Proofs.YtfoenafjaaidmaaDoor
open Go.RowKit
set_option linter.unusedVariables false
set_option linter.unusedSimpArgs false
set_option maxRecDepth 100000

theorem rd_alloc (w : World) (l : List Nat) (fr : Nat × Nat) (cs : Array Value) (hcs : cs = (cn .u8 l).toArray) (n : Nat) (hn : l.length = n) (g : Nat) (hg : w.heap.size = g) : Rd .u8 (w.alloc (.cells cs 5 fr)) (some ⟨g, 0, none⟩) n l := by
  subst hcs hg
  refine ⟨hn, fun _ => ⟨_, rfl, by simp, fun j x hj => ?_⟩⟩
  rw [addr_add, Nat.zero_add, cell_of_row _ _ _ _ _ _ (heap_alloc_new w _), List.getElem?_toArray]
  exact cn_get hj
/-- A string's bytes over the noughts of a block. -/
theorem copy_over (w : World) (g n m : Nat) (s : ByteArray) (l : List Nat) (hs : s.data.toList.map (fun x : UInt8 => Value.int .u8 (x.toNat : Int)) = cn .u8 l) (hm : l.length = m) (hsz : s.size = m) (hB : Blk w g 5 (cn .u8 (List.replicate n 0))) (hl : m ≤ n) :
    ∃ w', (Builtin.copy_ #[22, 9] 3 #[.slice (some ⟨g, 0, none⟩) n n, .string s]).run Tryd.prog w = .ok (.int .i64 (m : Int)) w' ∧ Rd .u8 w' (some ⟨g, 0, none⟩) n (l ++ List.replicate (n - m) 0) ∧ ∀ (B : Nat) (u : World), B ≤ g → Below B u w → Below B u w' := by
  have hlt := hB.lt
  have hcell : ∀ j, j < n → w.cell? ⟨g, 0 + j, none⟩ = some (.int .u8 0) := fun j hj => by
    rw [Nat.zero_add, hB.cell]
    have : (List.replicate n 0)[j]? = some 0 := by rw [List.getElem?_replicate, if_pos hj]
    exact cn_get this
  have hr := run_copy_string (P := Tryd.prog) w 22 9 3 5 g 0 n n s Tryd.underlying22 (fun w => by kernel_rfl) (by omega) (fun j hj => by rw [hcell j (by omega)]; rfl) (fun j hj => hB.frozen _)
  rw [hs, hsz] at hr
  refine ⟨_, hr, ⟨by rw [List.length_append, List.length_replicate, hm]; omega, fun h0 => ⟨_, rfl, ?_, fun j x hj => ?_⟩⟩, fun B u hb h => Lib.below_setCells g hb _ _ h⟩
  · exact Nat.lt_of_lt_of_le hlt ((Lib.below_setCells g (Nat.zero_le _) _ _ (Below.refl 0 w)).size)
  · rw [addr_add, Nat.zero_add]
    have hin := World.cell?_setCells_in g (cn .u8 l) 0 w (fun j hj => by rw [cn_length] at hj; rw [hcell j (by omega)]; rfl)
    have hout := World.cell?_setCells_out g (cn .u8 l) 0 w
    by_cases h3 : j < m
    · rw [List.getElem?_append_left (by omega)] at hj
      have := hin j (by rw [cn_length]; omega)
      rw [Nat.zero_add] at this
      rw [this, ← List.getElem?_eq_getElem (by rw [cn_length]; omega)]
      exact cn_get hj
    · rw [List.getElem?_append_right (by omega), List.getElem?_replicate] at hj
      split at hj
      · injection hj with hj
        subst hj
        rw [hout ⟨g, j, none⟩ (fun _ _ => by rw [cn_length]; show j < _ ∨ _ ≤ j; omega)]
        have := hcell j (by omega)
        rwa [Nat.zero_add] at this
      · cases hj
theorem shp_abc : Shp 3 64 32 2 1 := ⟨by decide, rfl, rfl⟩
theorem shp_65 : Shp 65 64 32 2 2 := ⟨by decide, rfl, rfl⟩
theorem cs_1 : (cs 2 1).length = 1 := by decide
theorem cs_2 : (cs 2 2).length = 2 := by decide
theorem fit_abc : Fit 256 [97, 98, 99] := by unfold Fit; decide
theorem cf_22 (v0 v1 v2 : Value) (w : World) : (callFunc 22 #[v0, v1, v2]).run Tryd.prog w = .ok (.enter 22 #[v0, v1, v2]) w := by kernel_rfl
set_option maxHeartbeats 4000000 in
theorem anchor9_any (w : World) (ht : Both w) : Calls Tryd.prog 11 #[] w fun e w' => e = .returned (.bool true) ∧ Below w.heap.size w w' := by
  have HT := Lib.hid ht
  have kc := fun (w : World) (C : Array Value) (n c : Nat) => Lib.run_convert_bytes_const (P := Tryd.prog) w 22 5 C n c Tryd.underlying22 Tryd.underlying5
  have hrd0 := rd_alloc w [97, 98, 99] (3, 4) #[.int .u8 97, .int .u8 98, .int .u8 99] rfl 3 rfl w.heap.size rfl
  have hb0 : Below w.heap.size w (w.alloc (.cells #[.int .u8 97, .int .u8 98, .int .u8 99] 5 (3, 4))) := (Below.refl _ _).alloc (Nat.le_refl _) _
  have HR0 := Lib.hid hrd0
  have HB0 := Lib.hid hb0
  clear ht hrd0 hb0
  go_enter Tryd.func11, Tryd.ntmps11
  go_wp2_with fail
  generalize w.alloc (.cells #[.int .u8 97, .int .u8 98, .int .u8 99] 5 (3, 4)) = W at *
  obtain ⟨R, hR⟩ : ∃ R, hsh 1 [] (blk (hsh 1 []) 64 2 1 [97, 98, 99] 0 0) = R := ⟨_, rfl⟩
  have hm1 : Calls Tryd.prog 13 #[.int .i64 1, .slice none 0 0, .int .i64 64, .slice (some ⟨w.heap.size, 0, none⟩) 3 3] W (GivesTree W 32 [] R) := by
    rw [← hR]
    exact Make_ok 1 3 64 32 2 1 none 0 0 (some ⟨w.heap.size, 0, none⟩) 3 [] [97, 98, 99] W 1 ⟨shp_abc, .inl rfl, rfl, Rd.nil _ _ _, Fit.nil _, fun _ => rfl, by omega, HR0.out, fit_abc, Nat.le_refl _⟩ ⟨Rd.nil _ _ _, Fit.nil _, Nat.le_refl _, Nat.zero_le _, fun _ => rfl⟩ ⟨HR0.out, fit_abc, Nat.le_refl _, by unfold maxLen; omega, fun e => by cases e⟩ (by omega) (by omega) (HT.out.below HB0.out) cs_1
  refine hm1.mono ?_
  rintro e w2 ⟨A1, n1, c1, A2, c2, rfl, h1, h2, hb2⟩
  obtain rfl : 0 = n1 := h1.rd.1
  have HR := Lib.hid hR
  have HR2x := Lib.hid h2
  have BEL2 := Lib.hid (below_then HB0.out hb2)
  clear h1 h2 hb2 hm1 hR kc
  go_wp2_with (first
    | ((with_reducible refine at_dst (some 16) ?_); refine wpList_makeNums (o := ⟨some 16, _, _, _, _, _⟩) rfl _ _ 22 5 rfl .u8 1 Tryd.underlying22 byteInfo (by omega) .i64 65 rfl rfl 65 rfl (by omega) ?_; intro w3 HB3 hb3 hlt3))
  have BEL3 := Lib.hid (below_then BEL2.out hb3)
  have HR3x := Lib.hid (HR2x.out.below hb3)
  obtain ⟨T2, hT2⟩ : ∃ T2, tree (hsh 1 []) 64 2 2 (List.replicate 65 0) 2 = T2 := ⟨_, rfl⟩
  obtain ⟨R2, hR2⟩ : ∃ R2, hsh 1 [] (blk (hsh 1 []) 64 2 2 (List.replicate 65 0) 1 0) = R2 := ⟨_, rfl⟩
  have hT2l : T2.length = 64 := by
    rw [← hT2, ← ups_tree]
    show (ups (hsh 1 []) 64 2 2 (List.replicate 65 0) (0 + 1)).length = 64
    rw [ups_succ, List.length_append, lvl_length (H := hsh 1 []) (D := 32) (B := 64) (a := 2) (n := 2) (fun t => hsh_length (.inl rfl) rfl [] t) rfl]
    rfl
  have hr65 : Rd .u8 w3 (some ⟨w2.heap.size, 0, none⟩) 65 (List.replicate 65 0) := HB3.out.rd 65 (by simp)
  have hm2 : Calls Tryd.prog 13 #[.int .i64 1, .slice none 0 0, .int .i64 64, .slice (some ⟨w2.heap.size, 0, none⟩) 65 65] w3 (GivesTree w3 32 T2 R2) := by
    rw [← hT2, ← hR2]
    exact Make_ok 1 65 64 32 2 2 none 0 0 (some ⟨w2.heap.size, 0, none⟩) 65 [] (List.replicate 65 0) w3 2 ⟨shp_65, .inl rfl, rfl, Rd.nil _ _ _, Fit.nil _, fun _ => rfl, by omega, hr65, fit_zeros _, Nat.le_refl _⟩ ⟨Rd.nil _ _ _, Fit.nil _, Nat.le_refl _, Nat.zero_le _, fun _ => rfl⟩ ⟨hr65, fit_zeros _, Nat.le_refl _, by unfold maxLen; omega, fun e => by cases e⟩ (by omega) (by omega) (HT.out.below BEL3.out) cs_2
  refine hm2.mono ?_
  rintro e w4 ⟨A3, n3, c3, A4, c4, rfl, h1, h2, hb4⟩
  have hn3 : n3 = 64 := by rw [← h1.rd.1]; exact hT2l
  subst hn3
  have BEL4 := Lib.hid (below_then BEL3.out hb4)
  have HR4x := Lib.hid (HR3x.out.below hb4)
  clear h1 h2 hb4 hm2 hR2 hT2 hT2l hr65 hb3 hlt3 HB3
  go_wp2_with (first
    | ((with_reducible refine at_dst (some 21) ?_); refine wpList_makeNums (o := ⟨some 21, _, _, _, _, _⟩) rfl _ _ 22 5 rfl .u8 1 Tryd.underlying22 byteInfo (by omega) .i64 64 rfl rfl 64 rfl (by omega) ?_; intro w5 HB5 hb5 hlt5; obtain ⟨w6, hr6, hrd6, hbl6⟩ := copy_over w5 w4.heap.size 64 3 ⟨#[97, 98, 99]⟩ [97, 98, 99] rfl rfl rfl HB5.out (by omega); have HRD6 := Lib.hid hrd6; have HBL6 := Lib.hid hbl6; clear hrd6 hbl6)
    | (at_builtin; refine Lib.wpList_copy_run _ rfl _ _ 22 9 rfl _ _ rfl rfl hr6 ?_))
  clear hr6
  have BEL6 : Hid (Below w.heap.size w w6) := (BEL4.out.trans ((HBL6.out w4.heap.size w4 (Nat.le_refl _) hb5).mono BEL4.out.size))
  have HR2 : Hid (Rd .u8 w6 A2 32 R) := HR4x.out.rd.below (HBL6.out w4.heap.size w4 (Nat.le_refl _) hb5)
  obtain ⟨g6, hg6⟩ : ∃ g6, w4.heap.size = g6 := ⟨_, rfl⟩
  rw [hg6] at HRD6 ⊢
  have hRr : hsh 1 [] ([97, 98, 99] ++ List.replicate (64 - 3) 0) = R := by rw [← HR.out]; rfl
  have HDG : Hid (∀ u, Below w6.heap.size w6 u → Calls Tryd.prog 22 #[.int .i64 1, .slice none 0 0, .slice (some ⟨g6, 0, none⟩) 64 64] u (GivesRd u 32 R)) := fun u hu => by
    rw [← hRr]
    exact RefDigest_z 1 32 (.inl rfl) rfl none 0 0 [] (some ⟨g6, 0, none⟩) 64 64 _ u (Rd.nil _ _ _) (Fit.nil _) (fun _ => rfl) (by omega) (HRD6.out.below hu) (Fit.append fit_abc (fit_zeros _)) (fun e => by cases e) (by omega)
  clear hRr hb5 hlt5 HBL6
  go_wp2
  rename_i hKx
  refine wp_region_eachS (by kernel_rfl) (by kernel_rfl) (fun iX v w => match iX with
      | 0 => v = .int .i64 0
      | 1 => v = .bool true
      | 2 => v = .bool true
      | 3 => v = .slice A1 0 c1
      | 4 => v = .int .i64 0
      | 5 => v = .bool true
      | 6 => v = .bool true
      | 7 => v = .bool true
      | 8 => v = .slice A2 32 c2
      | 9 => v = .string (str R)
      | 10 => v = .slice (some ⟨g6, 0, none⟩) 64 64
      | 11 => VRo 32 (R) v w
      | 12 => v = .string (str R)
      | 13 => v = .bool true
      | 14 => v = .bool true
      | 15 => v = .bool true
      | 16 => v = .int .i64 0
      | 17 => v = .bool true
      | 18 => v = .bool true
      | 19 => v = .bool true
      | 20 => v = .slice A3 64 c3
      | 21 => v = .int .i64 64
      | 22 => v = .bool true
      | 23 => v = .bool true
      | 24 => v = .bool true
      | _ => True) (Since w6) (Like w6.heap.size) ?m1 (fun _ _ h1 h2 => h1.like h2) (Since.start w6) ?m2 ?m3
  case m1 =>
    intro iX v w w' h hr hb
    rcases iX with _ | _ | _ | _ | _ | _ | _ | _ | _ | _ | _ | _ | _ | _ | _ | _ | _ | _ | _ | _ | _ | _ | _ | _ | _ | iX
    · exact h
    · exact h
    · exact h
    · exact h
    · exact h
    · exact h
    · exact h
    · exact h
    · exact h
    · exact h
    · exact h
    · exact h.like hb
    · exact h
    · exact h
    · exact h
    · exact h
    · exact h
    · exact h
    · exact h
    · exact h
    · exact h
    · exact h
    · exact h
    · exact h
    · exact h
    · trivial
  case m2 =>
    intro iX o ho a w hr hk hpre K hK
    have e1 : a.tmps.getD 1 undef = .slice A1 0 c1 := hk.slot 1 (by simp)
    have e2 : a.tmps.getD 2 undef = .slice A2 32 c2 := hk.slot 2 (by simp)
    have e3 : a.tmps.getD 3 undef = .int .i64 0 := hk.slot 3 (by simp)
    have e4 : a.tmps.getD 4 undef = .slice A3 64 c3 := hk.slot 4 (by simp)
    have e6 : a.tmps.getD 6 undef = .int .i64 0 := hk.slot 6 (by simp)
    have e7 : a.tmps.getD 7 undef = .slice (some ⟨g6, 0, none⟩) 64 64 := hk.slot 7 (by simp)
    rcases iX with _ | _ | _ | _ | _ | _ | _ | _ | _ | _ | _ | _ | _ | _ | _ | _ | _ | _ | _ | _ | _ | _ | _ | _ | _ | iX
    · obtain rfl := Option.some.inj ho
      exact st_move (.tmp 3) rfl (want_none rfl) _ e3 (hK _ _ rfl (Like.refl _ _))
    · obtain rfl := Option.some.inj ho
      exact st_eqlInt 26 (.tmp 24) (.const (.int .i64 0)) rfl (want_none rfl) _ (hpre 0 _ 24 rfl rfl ⟨⟨0, .data⟩, by simp, rfl, rfl⟩) rfl (hK _ _ rfl (Like.refl _ _))
    · obtain rfl := Option.some.inj ho
      exact st_move (.tmp 25) rfl (want_none rfl) _ (hpre 1 _ 25 rfl rfl ⟨⟨1, .data⟩, by simp, rfl, rfl⟩) (hK _ _ rfl (Like.refl _ _))
    · obtain rfl := Option.some.inj ho
      exact st_move (.tmp 1) rfl (want_some rfl rfl rfl (hpre 2 _ 26 rfl rfl ⟨⟨2, .guard⟩, by simp, rfl, rfl⟩)) _ e1 (hK _ _ rfl (Like.refl _ _))
    · obtain rfl := Option.some.inj ho
      exact st_len (.tmp 27) rfl (want_some rfl rfl rfl (hpre 2 _ 26 rfl rfl ⟨⟨2, .guard⟩, by simp, rfl, rfl⟩)) _ _ _ (hpre 3 _ 27 rfl rfl ⟨⟨3, .data⟩, by simp, rfl, rfl⟩) (hK _ _ rfl (Like.refl _ _))
    · obtain rfl := Option.some.inj ho
      exact st_eqlInt 3 (.tmp 28) (.const (.int .i64 0)) rfl (want_some rfl rfl rfl (hpre 2 _ 26 rfl rfl ⟨⟨2, .guard⟩, by simp, rfl, rfl⟩)) _ (hpre 4 _ 28 rfl rfl ⟨⟨4, .data⟩, by simp, rfl, rfl⟩) rfl (hK _ _ rfl (Like.refl _ _))
    · obtain rfl := Option.some.inj ho
      exact st_pick (.tmp 26) (.tmp 29) (.const (.bool false)) rfl (want_none rfl) true (hpre 2 _ 26 rfl rfl ⟨⟨2, .data⟩, by simp, rfl, rfl⟩) _ ((if_pos rfl).trans (hpre 5 _ 29 rfl rfl ⟨⟨5, .data⟩, by simp, rfl, rfl⟩)) (hK _ _ rfl (Like.refl _ _))
    · obtain rfl := Option.some.inj ho
      exact st_move (.tmp 30) rfl (want_none rfl) _ (hpre 6 _ 30 rfl rfl ⟨⟨6, .data⟩, by simp, rfl, rfl⟩) (hK _ _ rfl (Like.refl _ _))
    · obtain rfl := Option.some.inj ho
      exact st_move (.tmp 2) rfl (want_some rfl rfl rfl (hpre 7 _ 31 rfl rfl ⟨⟨7, .guard⟩, by simp, rfl, rfl⟩)) _ e2 (hK _ _ rfl (Like.refl _ _))
    · obtain rfl := Option.some.inj ho
      exact st_conv (.tmp 32) rfl (want_some rfl rfl rfl (hpre 7 _ 31 rfl rfl ⟨⟨7, .guard⟩, by simp, rfl, rfl⟩)) _ _ _ _ (hpre 8 _ 32 rfl rfl ⟨⟨8, .data⟩, by simp, rfl, rfl⟩) (HR2.out.below hr.1) (hK _ _ rfl (Like.refl _ _))
    · obtain rfl := Option.some.inj ho
      exact st_move (.tmp 7) rfl (want_some rfl rfl rfl (hpre 7 _ 31 rfl rfl ⟨⟨7, .guard⟩, by simp, rfl, rfl⟩)) _ e7 (hK _ _ rfl (Like.refl _ _))
    · obtain rfl := Option.some.inj ho
      have hx0 : a.eval (.const (.int .i64 1)) = (.int .i64 1) := rfl
      have hx1 : a.eval (.const (.slice none 0 0)) = (.slice none 0 0) := rfl
      have hx2 : a.eval (.tmp 34) = .slice (some ⟨g6, 0, none⟩) 64 64 := (hpre 10 _ 34 rfl rfl ⟨⟨10, .data⟩, by simp, rfl, rfl⟩)
      exact st_callN 22 #[.const (.int .i64 1), .const (.slice none 0 0), .tmp 34] #[3, 22, 22] rfl (want_some rfl rfl rfl (hpre 7 _ 31 rfl rfl ⟨⟨7, .guard⟩, by simp, rfl, rfl⟩)) _ (by simp only [List.map_toArray, List.map_cons, List.map_nil, hx0, hx1, hx2]) (cf_22 _ _ _ _) _ (HDG.out w hr.1) (fun e w' ⟨A5, c5, he, hrd, _, _, _, hb⟩ => ⟨_, he, hK _ _ ⟨A5, c5, rfl, hrd⟩ (Like.of_below hb hr.2)⟩)
    · obtain rfl := Option.some.inj ho
      obtain ⟨A, c, eg, hs⟩ := (hpre 11 _ 35 rfl rfl ⟨⟨11, .data⟩, by simp, rfl, rfl⟩)
      exact st_conv (.tmp 35) rfl (want_some rfl rfl rfl (hpre 7 _ 31 rfl rfl ⟨⟨7, .guard⟩, by simp, rfl, rfl⟩)) _ _ _ _ eg hs (hK _ _ rfl (Like.refl _ _))
    · obtain rfl := Option.some.inj ho
      exact st_eqlStr (.tmp 33) (.tmp 36) rfl (want_some rfl rfl rfl (hpre 7 _ 31 rfl rfl ⟨⟨7, .guard⟩, by simp, rfl, rfl⟩)) _ (hpre 9 _ 33 rfl rfl ⟨⟨9, .data⟩, by simp, rfl, rfl⟩) (hpre 12 _ 36 rfl rfl ⟨⟨12, .data⟩, by simp, rfl, rfl⟩) (hK _ _ rfl (Like.refl _ _))
    · obtain rfl := Option.some.inj ho
      exact st_pick (.tmp 31) (.tmp 37) (.const (.bool false)) rfl (want_none rfl) true (hpre 7 _ 31 rfl rfl ⟨⟨7, .data⟩, by simp, rfl, rfl⟩) _ ((if_pos rfl).trans (hpre 13 _ 37 rfl rfl ⟨⟨13, .data⟩, by simp, rfl, rfl⟩)) (hK _ _ rfl (Like.refl _ _))
    · obtain rfl := Option.some.inj ho
      exact st_move (.tmp 38) rfl (want_none rfl) _ (hpre 14 _ 38 rfl rfl ⟨⟨14, .data⟩, by simp, rfl, rfl⟩) (hK _ _ rfl (Like.refl _ _))
    · obtain rfl := Option.some.inj ho
      exact st_move (.tmp 6) rfl (want_some rfl rfl rfl (hpre 15 _ 39 rfl rfl ⟨⟨15, .guard⟩, by simp, rfl, rfl⟩)) _ e6 (hK _ _ rfl (Like.refl _ _))
    · obtain rfl := Option.some.inj ho
      exact st_eqlInt 26 (.tmp 40) (.const (.int .i64 0)) rfl (want_some rfl rfl rfl (hpre 15 _ 39 rfl rfl ⟨⟨15, .guard⟩, by simp, rfl, rfl⟩)) _ (hpre 16 _ 40 rfl rfl ⟨⟨16, .data⟩, by simp, rfl, rfl⟩) rfl (hK _ _ rfl (Like.refl _ _))
    · obtain rfl := Option.some.inj ho
      exact st_pick (.tmp 39) (.tmp 41) (.const (.bool false)) rfl (want_none rfl) true (hpre 15 _ 39 rfl rfl ⟨⟨15, .data⟩, by simp, rfl, rfl⟩) _ ((if_pos rfl).trans (hpre 17 _ 41 rfl rfl ⟨⟨17, .data⟩, by simp, rfl, rfl⟩)) (hK _ _ rfl (Like.refl _ _))
    · obtain rfl := Option.some.inj ho
      exact st_move (.tmp 42) rfl (want_none rfl) _ (hpre 18 _ 42 rfl rfl ⟨⟨18, .data⟩, by simp, rfl, rfl⟩) (hK _ _ rfl (Like.refl _ _))
    · obtain rfl := Option.some.inj ho
      exact st_move (.tmp 4) rfl (want_some rfl rfl rfl (hpre 19 _ 43 rfl rfl ⟨⟨19, .guard⟩, by simp, rfl, rfl⟩)) _ e4 (hK _ _ rfl (Like.refl _ _))
    · obtain rfl := Option.some.inj ho
      exact st_len (.tmp 44) rfl (want_some rfl rfl rfl (hpre 19 _ 43 rfl rfl ⟨⟨19, .guard⟩, by simp, rfl, rfl⟩)) _ _ _ (hpre 20 _ 44 rfl rfl ⟨⟨20, .data⟩, by simp, rfl, rfl⟩) (hK _ _ rfl (Like.refl _ _))
    · obtain rfl := Option.some.inj ho
      exact st_eqlInt 3 (.tmp 45) (.const (.int .i64 64)) rfl (want_some rfl rfl rfl (hpre 19 _ 43 rfl rfl ⟨⟨19, .guard⟩, by simp, rfl, rfl⟩)) _ (hpre 21 _ 45 rfl rfl ⟨⟨21, .data⟩, by simp, rfl, rfl⟩) rfl (hK _ _ rfl (Like.refl _ _))
    · obtain rfl := Option.some.inj ho
      exact st_pick (.tmp 43) (.tmp 46) (.const (.bool false)) rfl (want_none rfl) true (hpre 19 _ 43 rfl rfl ⟨⟨19, .data⟩, by simp, rfl, rfl⟩) _ ((if_pos rfl).trans (hpre 22 _ 46 rfl rfl ⟨⟨22, .data⟩, by simp, rfl, rfl⟩)) (hK _ _ rfl (Like.refl _ _))
    · obtain rfl := Option.some.inj ho
      exact st_assign (.tmp 47) rfl (want_none rfl) _ (hpre 23 _ 47 rfl rfl ⟨⟨23, .data⟩, by simp, rfl, rfl⟩) (hK _ _ rfl (Like.refl _ _))
    · cases ho
  case m3 =>
    intro a w hr hk hv
    have h6 := hv 24 _ 0 rfl rfl
    refine hKx a w (wp_ret (bodyPost_ret (results_tmp rfl _ _ _) hk.defers ⟨?_, below_then BEL6.out hr.1⟩))
    exact congrArg Ending.returned h6
end Go.Proofs.YtfoenafjaaidmaaDoor
