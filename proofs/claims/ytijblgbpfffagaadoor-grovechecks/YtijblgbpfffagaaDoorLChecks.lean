/-
  GroveChecks returns true for every seed, bytes and numbers: its walk, by the answers of the program's functions.
-/
import Derived.Test.YtijblgbpfffagaaDoorGx
import Derived.Test.YtijblgbpfffagaaDoorE7
namespace Go.Proofs.YtijblgbpfffagaaDoor
open Go.RowKit
set_option linter.unusedVariables false
set_option linter.unusedSimpArgs false
set_option maxRecDepth 100000

theorem sizeOfAlg_pos {z : Int} (h : sizeOfAlg z ≠ 0) : ∃ s : Nat, z = s ∧ (s = 1 ∨ s = 2) := by
  unfold sizeOfAlg at h
  by_cases h1 : z = 1
  · exact ⟨1, h1, .inl rfl⟩
  · by_cases h2 : z = 2
    · exact ⟨2, h2, .inr rfl⟩
    · rw [if_neg h1, if_neg h2] at h
      exact absurd rfl h
theorem sizeOfAlg_ne {z : Int} {s : Nat} (e : z = s) (h : s = 1 ∨ s = 2) : sizeOfAlg z ≠ 0 := by
  subst e
  rcases h with rfl | rfl <;> decide
set_option maxHeartbeats 4000000 in
theorem checks_walk (CC : Code9) (HA0 : ∀ w : World, Both w → Calls Tryd.prog 11 #[] w fun e w' => e = .returned (.bool true) ∧ Below w.heap.size w w') (z b : Int) (A : Option Addr) (nA cA : Nat) (Ad : Option Addr) (nd cd : Nat) (Au : Option Addr) (nu cu : Nat) (at_ : Int) (Al : Option Addr) (nl cl : Nat) (salt above below : List Nat) (w : World) (hz : I64 z) (hat : I64 at_) (hs : Bs w A nA cA salt) (hu : Bs w Au nu cu above) (hl : Bs w Al nl cl below) (ht : Both w) :
    Calls Tryd.prog 10 #[.agg #[.int .i64 z, .int .i64 b, .slice A nA cA, .slice Ad nd cd], .slice Au nu cu, .int .i64 at_, .slice Al nl cl] w fun e w' => e = .returned (.bool true) ∧ Below w.heap.size w w' := by
  have C := Lib.hid CC
  have HA := Lib.hid HA0
  have HZ := Lib.hid hz
  have HT := Lib.hid hat
  have hat' := hat
  unfold I64 at hat'
  have HB1 : Hid (Below w.heap.size w (w.alloc (.cells #[.int .i64 z, .int .i64 b, .slice A nA cA, .slice Ad nd cd] 24))) := (Below.refl _ _).alloc (Nat.le_refl _) _
  have HK := Lib.hid (Blk.new w 24 [.int .i64 z, .int .i64 b, .slice A nA cA, .slice Ad nd cd])
  have HS0 := Lib.hid hs
  have HU0 := Lib.hid hu
  have HL0 := Lib.hid hl
  have HTB := Lib.hid ht
  have hlu : above.length = nu := hu.rd.1
  clear CC HA0 hz hat hs hu hl ht
  go_enter Tryd.func10, Tryd.ntmps10
  go_wp2_with fail
  generalize w.alloc (.cells #[.int .i64 z, .int .i64 b, .slice A nA cA, .slice Ad nd cd] 24) = W at *
  refine (HA.out W (HTB.out.below HB1.out)).mono ?_
  rintro e w1 ⟨rfl, hb1⟩
  have bk := HK.out.below hb1 HK.out.lt
  have c0 : w1.cell? ⟨w.heap.size, 0, none⟩ = some (.int .i64 z) := bk.cell 0
  have c2 : w1.cell? ⟨w.heap.size, 2, none⟩ = some (.slice A nA cA) := bk.cell 2
  have BEL := Lib.hid (below_then HB1.out hb1)
  have HS1 := Lib.hid (HS0.out.below BEL.out)
  have HU1 := Lib.hid (HU0.out.below BEL.out)
  have HL1 := Lib.hid (HL0.out.below BEL.out)
  have HTB1 := Lib.hid (HTB.out.below BEL.out)
  have HLTW : Hid (w.heap.size < w1.heap.size) := bk.lt
  clear bk hb1
  by_cases l1 : 200 < nA
  · have z1 : (200 : Int) < nA := by omega
    go_wp2
    go_ret
    exact ⟨rfl, BEL.out⟩
  have z1 : ¬ (200 : Int) < nA := by omega
  by_cases l2 : 500 < nu
  · have z2 : (500 : Int) < nu := by omega
    go_wp2
    go_ret
    exact ⟨rfl, BEL.out⟩
  have z2 : ¬ (500 : Int) < nu := by omega
  by_cases l3 : 500 < nl
  · have z3 : (500 : Int) < nl := by omega
    go_wp2
    go_ret
    exact ⟨rfl, BEL.out⟩
  have z3 : ¬ (500 : Int) < nl := by omega
  go_wp2_with fail
  refine (RefSize_any z w1).mono ?_
  rintro e w2 ⟨rfl, rfl⟩
  obtain ⟨D, hD⟩ : ∃ D, sizeOfAlg z = D := ⟨_, rfl⟩
  rw [hD]
  have HD := Lib.hid hD
  by_cases t1 : 0 < D
  · have y1 : (0 : Int) < D := by omega
    have hDl : D ≤ 64 := by
      obtain ⟨s, e1, e2⟩ := sizeOfAlg_pos (z := z) (by omega)
      subst e1
      have := sizeAlg_cases e2
      omega
    clear hD
    by_cases t2 : nA ≤ 64
    · have y2 : (nA : Int) ≤ 64 := by omega
      by_cases t3 : 0 ≤ at_
      · by_cases t4 : D ≤ nu
        · have y4 : (D : Int) ≤ nu := by omega
          by_cases t5 : at_ ≤ (nu : Int) - D
          · obtain ⟨s, e1, e2⟩ := sizeOfAlg_pos (z := z) (by have := HD.out; omega)
            subst e1
            obtain ⟨k, rfl⟩ : ∃ k : Nat, at_ = k := ⟨at_.toNat, by omega⟩
            have hk : k + D ≤ nu := by omega
            have y5 : (k : Int) ≤ (nu : Int) - D := t5
            obtain ⟨A8, hA8⟩ : ∃ A8, (if cu = k then Au else Au.map (·.add k)) = A8 := ⟨_, rfl⟩
            obtain ⟨c8, hc8⟩ : ∃ c8, cu - k = c8 := ⟨_, rfl⟩
            have hsl : ∀ u : World, (Instr.slice 22 (.slice Au nu cu) (some (.int .i64 (k : Int))) (some (.int .i64 ((k : Int) + D))) none).run Tryd.prog u = .ok (.slice A8 D c8) u := fun u => by
              have := run_mid8 Au nu cu k (k + D) (by omega) (by have := HU1.out.le; omega) (k : Int) ((k : Int) + D) rfl (by omega) u
              rw [hA8, hc8, Nat.add_sub_cancel_left] at this
              exact this
            have hsa : ∀ u : World, (Instr.sliceAt 22 (.slice Au nu cu) (some (.int .i64 (k : Int))) (some (.int .i64 ((k : Int) + D))) none).run Tryd.prog u = .ok (.slice A8 D c8) u := fun u => by
              rw [run_sliceAt_slice]
              · exact hsl u
              · kernel_rfl
            have hmid : Rd .u8 w1 A8 D ((above.drop k).take D) := by
              have := HU1.out.rd.mid k D cu hk HU1.out.le
              rw [hA8] at this
              exact this
            obtain ⟨X, hX⟩ : ∃ X, (above.drop k).take D = X := ⟨_, rfl⟩
            rw [hX] at hmid
            have hXf : Fit 256 X := by rw [← hX]; exact fit_take (fit_drop HU1.out.fit _) _
            obtain ⟨Y, hY⟩ : ∃ Y, hsh s salt below = Y := ⟨_, rfl⟩
            have hYf : Fit 256 Y := by rw [← hY]; exact hsh_fit _ _ _
            have HDG : Hid (∀ u : World, Below w1.heap.size w1 u → Calls Tryd.prog 22 #[.int .i64 (s : Int), .slice A nA cA, .slice Al nl cl] u (GivesRd u D Y)) := fun u hbu => by
              rw [← hY]
              exact RefDigest_z s D e2 HD.out A nA cA salt Al nl cl below u (HS1.out.rd.below hbu) HS1.out.fit HS1.out.nil (by omega) (HL1.out.rd.below hbu) HL1.out.fit HL1.out.nil (by omega)
            have HST : Hid (decide (X = Y) = true ↔ Stands (s : Int) nA salt above (k : Int) below) := by
              show _ ↔ _
              rw [decide_eq_true_eq]
              constructor
              · intro h
                exact ⟨s, k, rfl, rfl, e2, t2, by rw [HD.out, hlu]; exact hk, by rw [HD.out, hX, hY]; exact h⟩
              · rintro ⟨s', k', f1, f2, f3, f4, f5, f6⟩
                obtain rfl : s = s' := by omega
                obtain rfl : k = k' := by omega
                rw [HD.out, hX, hY] at f6
                exact f6
            have HM := Lib.hid hmid
            clear hmid hX hY hA8 hc8 t5
            go_wp2
            rename_i hKx
            refine wp_region_eachW (by kernel_rfl) (by kernel_rfl) (fun u u' => Below u.heap.size u u') (fun iX v u => match iX with
                | 0 => v = .slice Au nu cu
                | 1 => v = .int .i64 (k : Int)
                | 2 => v = .int .i64 (k : Int)
                | 3 => v = .int .i64 (D : Int)
                | 4 => v = .int .i64 ((k : Int) + D)
                | 5 => v = .slice A8 D c8
                | 6 => v = .string (str X)
                | 7 => v = .pointer (some ⟨w.heap.size, 0, none⟩)
                | 8 => v = .int .i64 (s : Int)
                | 9 => v = .pointer (some ⟨w.heap.size, 2, none⟩)
                | 10 => v = .slice A nA cA
                | 11 => v = .slice Al nl cl
                | 12 => ∃ A5 c5, v = .slice A5 D c5 ∧ Rd .u8 u A5 D Y
                | 13 => v = .string (str Y)
                | 14 => v = .bool (decide (X = Y))
                | 15 => v = .bool (decide (X = Y))
                | _ => True) (fun u => Below w1.heap.size w1 u) ?m1 (fun _ _ h1 h2 => h1.trans (h2.mono h1.size)) ⟨rfl, rfl, rfl, Nat.le_refl _, fun _ _ => rfl⟩ ?m2 ?m3
            case m1 =>
              intro iX v u u' h hr hb
              rcases iX with _ | _ | _ | _ | _ | _ | _ | _ | _ | _ | _ | _ | _ | _ | _ | _ | iX
              all_goals first | exact h | trivial | (obtain ⟨A5, c5, e, hk⟩ := h; exact ⟨A5, c5, e, hk.below hb⟩)
            case m2 =>
              intro iX o ho a u hr hk hpre K hK
              have g1 : a.tmps.getD 1 undef = .slice Au nu cu := hk.slot 1 (by simp)
              have g2 : a.tmps.getD 2 undef = .int .i64 (k : Int) := hk.slot 2 (by simp)
              have g3 : a.tmps.getD 3 undef = .slice Al nl cl := hk.slot 3 (by simp)
              have g4 : a.tmps.getD 4 undef = .pointer (some ⟨w.heap.size, 0, none⟩) := hk.slot 4 (by simp)
              have g9 : a.tmps.getD 9 undef = .int .i64 (D : Int) := hk.slot 9 (by simp)
              have u0 : u.cell? ⟨w.heap.size, 0, none⟩ = some (.int .i64 (s : Int)) := (hr.cell (p := ⟨w.heap.size, 0, none⟩) HLTW.out).trans c0
              have u2 : u.cell? ⟨w.heap.size, 2, none⟩ = some (.slice A nA cA) := (hr.cell (p := ⟨w.heap.size, 2, none⟩) HLTW.out).trans c2
              have rf : Below u.heap.size u u := Below.refl _ _
              rcases iX with _ | _ | _ | _ | _ | _ | _ | _ | _ | _ | _ | _ | _ | _ | _ | _ | iX
              · obtain rfl := Option.some.inj ho
                exact st_move (.tmp 1) rfl (want_none rfl) _ g1 (hK _ _ rfl rf)
              · obtain rfl := Option.some.inj ho
                exact st_move (.tmp 2) rfl (want_none rfl) _ g2 (hK _ _ rfl rf)
              · obtain rfl := Option.some.inj ho
                exact st_move (.tmp 2) rfl (want_none rfl) _ g2 (hK _ _ rfl rf)
              · obtain rfl := Option.some.inj ho
                exact st_move (.tmp 9) rfl (want_none rfl) _ g9 (hK _ _ rfl rf)
              · obtain rfl := Option.some.inj ho
                have v2 : a.eval (.tmp 59) = .int .i64 (k : Int) := hpre 2 _ rfl ⟨⟨2, .data⟩, by simp, rfl, rfl⟩
                have v3 : a.eval (.tmp 60) = .int .i64 (D : Int) := hpre 3 _ rfl ⟨⟨3, .data⟩, by simp, rfl, rfl⟩
                refine st_run (want_none rfl) (.int .i64 ((k : Int) + D)) (w' := u) ?_ (hK _ _ rfl rf)
                simp only [execOp, v2, v3]
                go_simp
                rw [IntKind.wrap_i64]
                omega
              · obtain rfl := Option.some.inj ho
                have v0 : a.eval (.tmp 57) = .slice Au nu cu := hpre 0 _ rfl ⟨⟨0, .data⟩, by simp, rfl, rfl⟩
                have v1 : a.eval (.tmp 58) = .int .i64 (k : Int) := hpre 1 _ rfl ⟨⟨1, .data⟩, by simp, rfl, rfl⟩
                have v4 : a.eval (.tmp 61) = .int .i64 ((k : Int) + D) := hpre 4 _ rfl ⟨⟨4, .data⟩, by simp, rfl, rfl⟩
                refine st_run (want_none rfl) (.slice A8 D c8) (w' := u) ?_ (hK _ _ rfl rf)
                simp [execOp, v0, v1, v4, hsa u, Result.andThen]
              · obtain rfl := Option.some.inj ho
                exact st_conv (.tmp 62) rfl (want_none rfl) _ _ _ _ (hpre 5 _ rfl ⟨⟨5, .data⟩, by simp, rfl, rfl⟩) (HM.out.below hr) (hK _ _ rfl rf)
              · obtain rfl := Option.some.inj ho
                have v4 : a.eval (.tmp 4) = .pointer (some ⟨w.heap.size, 0, none⟩) := g4
                refine st_run (want_none rfl) (.pointer (some ⟨w.heap.size, 0, none⟩)) (w' := u) ?_ (hK _ _ rfl rf)
                simp only [execOp, v4]
                go_simp
              · obtain rfl := Option.some.inj ho
                have v7 : a.eval (.tmp 64) = .pointer (some ⟨w.heap.size, 0, none⟩) := hpre 7 _ rfl ⟨⟨7, .data⟩, by simp, rfl, rfl⟩
                refine st_run (want_none rfl) (.int .i64 (s : Int)) (w' := u) ?_ (hK _ _ rfl rf)
                simp only [execOp, v7]
                go_simp
              · obtain rfl := Option.some.inj ho
                have v4 : a.eval (.tmp 4) = .pointer (some ⟨w.heap.size, 0, none⟩) := g4
                refine st_run (want_none rfl) (.pointer (some ⟨w.heap.size, 2, none⟩)) (w' := u) ?_ (hK _ _ rfl rf)
                simp only [execOp, v4]
                go_simp
              · obtain rfl := Option.some.inj ho
                have v9 : a.eval (.tmp 66) = .pointer (some ⟨w.heap.size, 2, none⟩) := hpre 9 _ rfl ⟨⟨9, .data⟩, by simp, rfl, rfl⟩
                refine st_run (want_none rfl) (.slice A nA cA) (w' := u) ?_ (hK _ _ rfl rf)
                simp only [execOp, v9]
                go_simp
              · obtain rfl := Option.some.inj ho
                exact st_move (.tmp 3) rfl (want_none rfl) _ g3 (hK _ _ rfl rf)
              · obtain rfl := Option.some.inj ho
                have v8 : a.eval (.tmp 65) = .int .i64 (s : Int) := hpre 8 _ rfl ⟨⟨8, .data⟩, by simp, rfl, rfl⟩
                have v10 : a.eval (.tmp 67) = .slice A nA cA := hpre 10 _ rfl ⟨⟨10, .data⟩, by simp, rfl, rfl⟩
                have v11 : a.eval (.tmp 68) = .slice Al nl cl := hpre 11 _ rfl ⟨⟨11, .data⟩, by simp, rfl, rfl⟩
                exact st_callN 22 _ _ rfl (want_none rfl) #[.int .i64 (s : Int), .slice A nA cA, .slice Al nl cl] (by simp [v8, v10, v11]) (by kernel_rfl) _ (HDG.out u hr) (fun e u' ⟨A5, c5, he, hrd, _, _, _, hb⟩ => ⟨_, he, hK _ _ ⟨A5, c5, rfl, hrd⟩ hb⟩)
              · obtain rfl := Option.some.inj ho
                obtain ⟨A5, c5, e5, hrd⟩ := hpre 12 _ rfl ⟨⟨12, .data⟩, by simp, rfl, rfl⟩
                exact st_conv (.tmp 69) rfl (want_none rfl) _ _ _ _ e5 hrd (hK _ _ rfl rf)
              · obtain rfl := Option.some.inj ho
                exact st_eqlStrB (.tmp 63) (.tmp 70) rfl (want_none rfl) X Y hXf hYf (hpre 6 _ rfl ⟨⟨6, .data⟩, by simp, rfl, rfl⟩) (hpre 13 _ rfl ⟨⟨13, .data⟩, by simp, rfl, rfl⟩) (hK _ _ rfl rf)
              · obtain rfl := Option.some.inj ho
                exact st_assign (.tmp 71) rfl (want_none rfl) _ (hpre 14 _ rfl ⟨⟨14, .data⟩, by simp, rfl, rfl⟩) (hK _ _ rfl rf)
              · cases ho
            case m3 =>
              intro a u hr hk hv
              have h15 : a.tmps.getD 10 undef = .bool (decide (X = Y)) := hv 15 _ rfl
              have hfr := keeps_frameP (fun s => decide (s = 10 ∨ (57 ≤ s ∧ s ≤ 71))) hk (by simp)
              refine hKx a u ?_
              rw [hfr]
              generalize hff : (fun s => a.tmps.getD s undef) = ff
              have hf10 : ff 10 = .bool (decide (X = Y)) := by rw [← hff]; exact h15
              simp only [mixP, hf10, decide_eq_true_eq, Nat.reduceAdd, Nat.reduceLeDiff, Nat.reduceEqDiff, false_or, true_or, or_false, or_true, and_true, and_false, true_and, false_and, and_self, if_true, if_false, Nat.zero_le]
              have u0 : u.cell? ⟨w.heap.size, 0, none⟩ = some (.int .i64 (s : Int)) := (hr.cell (p := ⟨w.heap.size, 0, none⟩) HLTW.out).trans c0
              have u2 : u.cell? ⟨w.heap.size, 2, none⟩ = some (.slice A nA cA) := (hr.cell (p := ⟨w.heap.size, 2, none⟩) HLTW.out).trans c2
              have HCK : Hid (Calls Tryd.prog 26 #[.int .i64 (s : Int), .slice A nA cA, .slice Au nu cu, .int .i64 (k : Int), .slice Al nl cl] u fun e w' => e = .returned (.bool (decide (X = Y))) ∧ Below u.heap.size u w') := C.out.check (s : Int) A nA cA Au nu cu (k : Int) Al nl cl salt above below (decide (X = Y)) u HZ.out HT.out (HS1.out.below hr) (HU1.out.below hr) (HL1.out.below hr) (by omega) (by omega) (HTB1.out.below hr) HST.out
              have BELu := Lib.hid (below_then BEL.out hr)
              obtain ⟨bb, hbb⟩ : ∃ bb, decide (X = Y) = bb := ⟨_, rfl⟩
              rw [hbb] at HCK ⊢
              clear hbb hfr hff hf10 h15 hv hk c0 c2
              go_wp2_with fail
              refine HCK.out.mono ?_
              rintro e w3 ⟨rfl, hb3⟩
              have BEL3 := Lib.hid (below_then BELu.out hb3)
              clear hb3
              cases bb
              · go_wp2
                go_ret
                exact ⟨rfl, BEL3.out⟩
              · go_wp2
                go_ret
                exact ⟨rfl, BEL3.out⟩
          · have y5 : decide (at_ ≤ (nu : Int) - D) = false := by simp; omega
            have HN : Hid (¬ Stands z nA salt above at_ below) := by
              rintro ⟨s, k, e1, e2, e3, e4, e5, e6⟩
              have := HD.out; rw [this] at e5; omega
            have HCK : Hid (Calls Tryd.prog 26 #[.int .i64 z, .slice A nA cA, .slice Au nu cu, .int .i64 at_, .slice Al nl cl] w1 fun e w' => e = .returned (.bool false) ∧ Below w1.heap.size w1 w') := C.out.check z A nA cA Au nu cu at_ Al nl cl salt above below false w1 HZ.out HT.out HS1.out HU1.out HL1.out (by omega) (by omega) HTB1.out (by simp [HN.out])
            go_wp2_with fail
            refine HCK.out.mono ?_
            rintro e w3 ⟨rfl, hb3⟩
            go_wp2
            go_ret
            exact ⟨rfl, below_then BEL.out hb3⟩
        · have y4 : ¬ (D : Int) ≤ nu := by omega
          have HN : Hid (¬ Stands z nA salt above at_ below) := by
            rintro ⟨s, k, e1, e2, e3, e4, e5, e6⟩
            have := HD.out; rw [this] at e5; omega
          have HCK : Hid (Calls Tryd.prog 26 #[.int .i64 z, .slice A nA cA, .slice Au nu cu, .int .i64 at_, .slice Al nl cl] w1 fun e w' => e = .returned (.bool false) ∧ Below w1.heap.size w1 w') := C.out.check z A nA cA Au nu cu at_ Al nl cl salt above below false w1 HZ.out HT.out HS1.out HU1.out HL1.out (by omega) (by omega) HTB1.out (by simp [HN.out])
          go_wp2_with fail
          refine HCK.out.mono ?_
          rintro e w3 ⟨rfl, hb3⟩
          go_wp2
          go_ret
          exact ⟨rfl, below_then BEL.out hb3⟩
      · have HN : Hid (¬ Stands z nA salt above at_ below) := by
          rintro ⟨s, k, e1, e2, e3, e4, e5, e6⟩
          omega
        have HCK : Hid (Calls Tryd.prog 26 #[.int .i64 z, .slice A nA cA, .slice Au nu cu, .int .i64 at_, .slice Al nl cl] w1 fun e w' => e = .returned (.bool false) ∧ Below w1.heap.size w1 w') := C.out.check z A nA cA Au nu cu at_ Al nl cl salt above below false w1 HZ.out HT.out HS1.out HU1.out HL1.out (by omega) (by omega) HTB1.out (by simp [HN.out])
        go_wp2_with fail
        refine HCK.out.mono ?_
        rintro e w3 ⟨rfl, hb3⟩
        go_wp2
        go_ret
        exact ⟨rfl, below_then BEL.out hb3⟩
    · have y2 : ¬ (nA : Int) ≤ 64 := by omega
      have HN : Hid (¬ Stands z nA salt above at_ below) := by
        rintro ⟨s, k, e1, e2, e3, e4, e5, e6⟩
        omega
      have HCK : Hid (Calls Tryd.prog 26 #[.int .i64 z, .slice A nA cA, .slice Au nu cu, .int .i64 at_, .slice Al nl cl] w1 fun e w' => e = .returned (.bool false) ∧ Below w1.heap.size w1 w') := C.out.check z A nA cA Au nu cu at_ Al nl cl salt above below false w1 HZ.out HT.out HS1.out HU1.out HL1.out (by omega) (by omega) HTB1.out (by simp [HN.out])
      go_wp2_with fail
      refine HCK.out.mono ?_
      rintro e w3 ⟨rfl, hb3⟩
      go_wp2
      go_ret
      exact ⟨rfl, below_then BEL.out hb3⟩
  · have y1 : ¬ (0 : Int) < D := by omega
    clear hD
    have HN : Hid (¬ Stands z nA salt above at_ below) := by
      rintro ⟨s, k, e1, e2, e3, e4, e5, e6⟩
      have := sizeOfAlg_ne e1 e3; have := HD.out; omega
    have HCK : Hid (Calls Tryd.prog 26 #[.int .i64 z, .slice A nA cA, .slice Au nu cu, .int .i64 at_, .slice Al nl cl] w1 fun e w' => e = .returned (.bool false) ∧ Below w1.heap.size w1 w') := C.out.check z A nA cA Au nu cu at_ Al nl cl salt above below false w1 HZ.out HT.out HS1.out HU1.out HL1.out (by omega) (by omega) HTB1.out (by simp [HN.out])
    go_wp2_with fail
    refine HCK.out.mono ?_
    rintro e w3 ⟨rfl, hb3⟩
    go_wp2
    go_ret
    exact ⟨rfl, below_then BEL.out hb3⟩
end Go.Proofs.YtijblgbpfffagaaDoor
