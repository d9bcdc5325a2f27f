/-
  TailEncodes: any tail is right just if the document says so; its bytes are the document's, and are read as it. No condition.
-/
import Derived.Test.YthepbadecpnepaaAn
import Derived.Test.YthepbadecpnepaaRn
namespace Go.Proofs.Ythepbadecpnepaa
open Go.RowKit Go.MapKept
set_option linter.unusedVariables false
set_option linter.unusedSimpArgs false
set_option maxRecDepth 100000

abbrev EncodesWalk (a b c : Int) (W : World) : Prop := Calls Try.prog 3 #[TV a b c] W fun e w' => e = .returned (.bool true) ∧ Below W.heap.size W w'
set_option maxHeartbeats 1000000 in
theorem encodes_no (a b c : Int) (W : World) (h : ¬ TOk a b c) : EncodesWalk a b c W := by
  have HRT : Hid (decide (TOk a b c) = false) := decide_eq_false h
  have HH := Lib.hid h
  have HB0 := Lib.hid (tbox a b c W)
  have HX0 := Lib.hid (Blk.new W 23 (tcells a b c))
  clear h
  go_enter Try.func3, Try.ntmps3
  go_wp2_with fail
  have HX1 : Hid (Blk (W.alloc (.cells #[.int .i64 a, .int .i64 b, .int .i64 c] 23)) W.heap.size 23 (tcells a b c)) := HX0.out
  generalize W.alloc (.cells #[.int .i64 a, .int .i64 b, .int .i64 c] 23) = W0 at *
  refine (anchor_any W0).mono ?_
  rintro e w1 ⟨rfl, hb1⟩
  have B1 : Hid (Below W.heap.size W w1) := HB0.out.trans (hb1.mono HB0.out.size)
  have K1 := Lib.hid (HX1.out.below hb1 HX1.out.lt)
  have c0 : w1.cell? ⟨W.heap.size, 0, none⟩ = some (.int .i64 a) := K1.out.cell 0
  have c1 : w1.cell? ⟨W.heap.size, 1, none⟩ = some (.int .i64 b) := K1.out.cell 1
  have c2 : w1.cell? ⟨W.heap.size, 2, none⟩ = some (.int .i64 c) := K1.out.cell 2
  clear hb1 HX0 HX1 HB0
  go_wp2_with fail
  refine (Encode_no a b c w1 HH.out).mono ?_
  rintro e w2 ⟨rfl, hb2⟩
  have B2 : Hid (Below W.heap.size W w2) := B1.out.trans (hb2.mono B1.out.size)
  have HX := Lib.hid (K1.out.below hb2 K1.out.lt)
  obtain ⟨X, hX⟩ : ∃ X, W.heap.size = X := ⟨_, rfl⟩
  have HXs := HX.out
  rw [hX] at HXs
  clear HX
  have HX := Lib.hid HXs
  clear HXs hb2 K1 B1 c0 c1 c2
  rw [hX]
  go_wp2
  rename_i hKx
  refine wp_region_eachW (by kernel_rfl) (by kernel_rfl) (fun u u' => Below u.heap.size u u') (fun iX v u => match iX with
      | 0 => v = TV a b c
      | 1 => v = .bool false
      | 2 => v = TV a b c
      | 3 => v = .bool false
      | 4 => v = .bool false
      | _ => True) (fun u => Below w2.heap.size w2 u) ?m1 (fun _ _ h1 h2 => h1.trans (h2.mono h1.size)) ⟨rfl, rfl, rfl, Nat.le_refl _, fun _ _ => rfl⟩ ?m2 ?m3
  case m1 =>
    intro iX v u u' h hr hb
    rcases iX with _ | _ | _ | _ | _ | iX
    · exact h
    · exact h
    · exact h
    · exact h
    · exact h
    · trivial
  case m2 =>
    intro iX o ho aX u hr hk hpre K hK
    have e1 : aX.tmps.getD 1 undef = .pointer (some ⟨X, 0, none⟩) := hk.slot 1 (by simp)
    have hk4 : Blk u X 23 (tcells a b c) := HX.out.below hr HX.out.lt
    have c0 : u.cell? ⟨X, 0, none⟩ = some (.int .i64 a) := hk4.cell 0
    have c1 : u.cell? ⟨X, 1, none⟩ = some (.int .i64 b) := hk4.cell 1
    have c2 : u.cell? ⟨X, 2, none⟩ = some (.int .i64 c) := hk4.cell 2
    have rf : Below u.heap.size u u := Below.refl _ _
    rcases iX with _ | _ | _ | _ | _ | iX
    · obtain rfl := Option.some.inj ho
      have y1 : aX.eval (.tmp 1) = .pointer (some ⟨X, 0, none⟩) := e1
      refine st_run (want_none rfl) (TV a b c) (w' := u) ?_ (hK _ _ rfl rf)
      simp only [execOp, y1]
      go_simp
    · obtain rfl := Option.some.inj ho
      have x0 : aX.eval (.tmp 14) = TV a b c := (hpre 0 _ rfl ⟨⟨0, .data⟩, by simp, rfl, rfl⟩)
      exact st_callN 11 _ _ rfl (want_none rfl) #[TV a b c] (by simp [x0]) (by kernel_rfl) _ (TRight_any a b c u false HRT.out) (fun e u' he => ⟨_, he.1, hK _ _ rfl he.2⟩)
    · obtain rfl := Option.some.inj ho
      have y1 : aX.eval (.tmp 1) = .pointer (some ⟨X, 0, none⟩) := e1
      refine st_run (want_none rfl) (TV a b c) (w' := u) ?_ (hK _ _ rfl rf)
      simp only [execOp, y1]
      go_simp
    · obtain rfl := Option.some.inj ho
      have x0 : aX.eval (.tmp 16) = TV a b c := (hpre 2 _ rfl ⟨⟨2, .data⟩, by simp, rfl, rfl⟩)
      exact st_callN 12 _ _ rfl (want_none rfl) #[TV a b c] (by simp [x0]) (by kernel_rfl) _ (lright_any a b c u false HRT.out) (fun e u' he => ⟨_, he.1, hK _ _ rfl he.2⟩)
    · obtain rfl := Option.some.inj ho
      have y15 : aX.eval (.tmp 15) = .bool false := (hpre 1 _ rfl ⟨⟨1, .data⟩, by simp, rfl, rfl⟩)
      have y17 : aX.eval (.tmp 17) = .bool false := (hpre 3 _ rfl ⟨⟨3, .data⟩, by simp, rfl, rfl⟩)
      refine st_run (want_none rfl) (.bool false) (w' := u) ?_ (hK _ _ rfl rf)
      simp only [execOp, y15, y17]
      go_simp
    · cases ho
  case m3 =>
    intro aX u hr hk hv
    have q18 : aX.tmps.getD 18 undef = .bool false := hv 4 _ rfl
    have hfr := keeps_frameP (fun s => decide ((14 ≤ s ∧ s ≤ 18))) hk (by simp)
    refine hKx aX u ?_
    rw [hfr]
    generalize hff : (fun s => aX.tmps.getD s undef) = ff
    have hf18 : ff 18 = .bool false := by rw [← hff]; exact q18
    simp only [mixP, hf18, decide_eq_true_eq, Nat.reduceAdd, Nat.reduceLeDiff, Nat.reduceEqDiff, false_or, true_or, or_false, or_true, and_true, and_false, true_and, false_and, and_self, if_true, if_false, Nat.zero_le]
    clear hfr hff hf18 q18 hv hk
    have K3 := Lib.hid (HX.out.below hr HX.out.lt)
    have B3 : Hid (Below W.heap.size W u) := B2.out.trans (hr.mono B2.out.size)
    have c0 : u.cell? ⟨X, 0, none⟩ = some (.int .i64 a) := K3.out.cell 0
    have c1 : u.cell? ⟨X, 1, none⟩ = some (.int .i64 b) := K3.out.cell 1
    have c2 : u.cell? ⟨X, 2, none⟩ = some (.int .i64 c) := K3.out.cell 2
    clear hr hKx
    go_wp2_with fail
    refine (lright_any a b c u false HRT.out).mono ?_
    rintro e w4 ⟨rfl, hb4⟩
    have B4 : Hid (Below W.heap.size W w4) := B3.out.trans (hb4.mono B3.out.size)
    clear hb4 c0 c1 c2
    go_wp2
    go_ret
    exact ⟨rfl, B4.out⟩
set_option maxHeartbeats 1000000 in
theorem encodes_yes (a b c : Nat) (W : World) (h : TOk a b c) : EncodesWalk a b c W := by
  have HRT : Hid (decide (TOk (a : Nat) (b : Nat) (c : Nat)) = true) := decide_eq_true h
  have HH := Lib.hid h
  have HB0 := Lib.hid (tbox (a : Nat) (b : Nat) (c : Nat) W)
  have HX0 := Lib.hid (Blk.new W 23 (tcells (a : Nat) (b : Nat) (c : Nat)))
  clear h
  go_enter Try.func3, Try.ntmps3
  go_wp2_with fail
  have HX1 : Hid (Blk (W.alloc (.cells #[.int .i64 (a : Nat), .int .i64 (b : Nat), .int .i64 (c : Nat)] 23)) W.heap.size 23 (tcells (a : Nat) (b : Nat) (c : Nat))) := HX0.out
  generalize W.alloc (.cells #[.int .i64 (a : Nat), .int .i64 (b : Nat), .int .i64 (c : Nat)] 23) = W0 at *
  refine (anchor_any W0).mono ?_
  rintro e w1 ⟨rfl, hb1⟩
  have B1 : Hid (Below W.heap.size W w1) := HB0.out.trans (hb1.mono HB0.out.size)
  have K1 := Lib.hid (HX1.out.below hb1 HX1.out.lt)
  have c0 : w1.cell? ⟨W.heap.size, 0, none⟩ = some (.int .i64 (a : Nat)) := K1.out.cell 0
  have c1 : w1.cell? ⟨W.heap.size, 1, none⟩ = some (.int .i64 (b : Nat)) := K1.out.cell 1
  have c2 : w1.cell? ⟨W.heap.size, 2, none⟩ = some (.int .i64 (c : Nat)) := K1.out.cell 2
  clear hb1 HX0 HX1 HB0
  go_wp2_with fail
  refine (Encode_ok a b c w1 HH.out).mono ?_
  rintro e w2 ⟨g2, rfl, hg2, hB2, hb2⟩
  have R2 := Lib.hid hB2
  have B2 : Hid (Below W.heap.size W w2) := B1.out.trans (hb2.mono B1.out.size)
  have HX := Lib.hid (K1.out.below hb2 K1.out.lt)
  obtain ⟨X, hX⟩ : ∃ X, W.heap.size = X := ⟨_, rfl⟩
  have HXs := HX.out
  rw [hX] at HXs
  clear HX
  have HX := Lib.hid HXs
  clear HXs hb2 K1 B1 c0 c1 c2 hB2 hg2
  rw [hX]
  go_wp2
  rename_i hKx
  refine wp_region_eachW (by kernel_rfl) (by kernel_rfl) (fun u u' => Below u.heap.size u u') (fun iX v u => match iX with
      | 0 => v = TV (a : Nat) (b : Nat) (c : Nat)
      | 1 => v = .bool true
      | 2 => v = TV (a : Nat) (b : Nat) (c : Nat)
      | 3 => v = .bool true
      | 4 => v = .bool false
      | _ => True) (fun u => Below w2.heap.size w2 u) ?m1 (fun _ _ h1 h2 => h1.trans (h2.mono h1.size)) ⟨rfl, rfl, rfl, Nat.le_refl _, fun _ _ => rfl⟩ ?m2 ?m3
  case m1 =>
    intro iX v u u' h hr hb
    rcases iX with _ | _ | _ | _ | _ | iX
    · exact h
    · exact h
    · exact h
    · exact h
    · exact h
    · trivial
  case m2 =>
    intro iX o ho aX u hr hk hpre K hK
    have e1 : aX.tmps.getD 1 undef = .pointer (some ⟨X, 0, none⟩) := hk.slot 1 (by simp)
    have hk4 : Blk u X 23 (tcells (a : Nat) (b : Nat) (c : Nat)) := HX.out.below hr HX.out.lt
    have c0 : u.cell? ⟨X, 0, none⟩ = some (.int .i64 (a : Nat)) := hk4.cell 0
    have c1 : u.cell? ⟨X, 1, none⟩ = some (.int .i64 (b : Nat)) := hk4.cell 1
    have c2 : u.cell? ⟨X, 2, none⟩ = some (.int .i64 (c : Nat)) := hk4.cell 2
    have rf : Below u.heap.size u u := Below.refl _ _
    rcases iX with _ | _ | _ | _ | _ | iX
    · obtain rfl := Option.some.inj ho
      have y1 : aX.eval (.tmp 1) = .pointer (some ⟨X, 0, none⟩) := e1
      refine st_run (want_none rfl) (TV (a : Nat) (b : Nat) (c : Nat)) (w' := u) ?_ (hK _ _ rfl rf)
      simp only [execOp, y1]
      go_simp
    · obtain rfl := Option.some.inj ho
      have x0 : aX.eval (.tmp 14) = TV (a : Nat) (b : Nat) (c : Nat) := (hpre 0 _ rfl ⟨⟨0, .data⟩, by simp, rfl, rfl⟩)
      exact st_callN 11 _ _ rfl (want_none rfl) #[TV (a : Nat) (b : Nat) (c : Nat)] (by simp [x0]) (by kernel_rfl) _ (TRight_any (a : Nat) (b : Nat) (c : Nat) u true HRT.out) (fun e u' he => ⟨_, he.1, hK _ _ rfl he.2⟩)
    · obtain rfl := Option.some.inj ho
      have y1 : aX.eval (.tmp 1) = .pointer (some ⟨X, 0, none⟩) := e1
      refine st_run (want_none rfl) (TV (a : Nat) (b : Nat) (c : Nat)) (w' := u) ?_ (hK _ _ rfl rf)
      simp only [execOp, y1]
      go_simp
    · obtain rfl := Option.some.inj ho
      have x0 : aX.eval (.tmp 16) = TV (a : Nat) (b : Nat) (c : Nat) := (hpre 2 _ rfl ⟨⟨2, .data⟩, by simp, rfl, rfl⟩)
      exact st_callN 12 _ _ rfl (want_none rfl) #[TV (a : Nat) (b : Nat) (c : Nat)] (by simp [x0]) (by kernel_rfl) _ (lright_any (a : Nat) (b : Nat) (c : Nat) u true HRT.out) (fun e u' he => ⟨_, he.1, hK _ _ rfl he.2⟩)
    · obtain rfl := Option.some.inj ho
      have y15 : aX.eval (.tmp 15) = .bool true := (hpre 1 _ rfl ⟨⟨1, .data⟩, by simp, rfl, rfl⟩)
      have y17 : aX.eval (.tmp 17) = .bool true := (hpre 3 _ rfl ⟨⟨3, .data⟩, by simp, rfl, rfl⟩)
      refine st_run (want_none rfl) (.bool false) (w' := u) ?_ (hK _ _ rfl rf)
      simp only [execOp, y15, y17]
      go_simp
    · cases ho
  case m3 =>
    intro aX u hr hk hv
    have q18 : aX.tmps.getD 18 undef = .bool false := hv 4 _ rfl
    have hfr := keeps_frameP (fun s => decide ((14 ≤ s ∧ s ≤ 18))) hk (by simp)
    refine hKx aX u ?_
    rw [hfr]
    generalize hff : (fun s => aX.tmps.getD s undef) = ff
    have hf18 : ff 18 = .bool false := by rw [← hff]; exact q18
    simp only [mixP, hf18, decide_eq_true_eq, Nat.reduceAdd, Nat.reduceLeDiff, Nat.reduceEqDiff, false_or, true_or, or_false, or_true, and_true, and_false, true_and, false_and, and_self, if_true, if_false, Nat.zero_le]
    clear hfr hff hf18 q18 hv hk
    have K3 := Lib.hid (HX.out.below hr HX.out.lt)
    have B3 : Hid (Below W.heap.size W u) := B2.out.trans (hr.mono B2.out.size)
    have R3 := Lib.hid (R2.out.below hr R2.out.lt)
    have c0 : u.cell? ⟨X, 0, none⟩ = some (.int .i64 (a : Nat)) := K3.out.cell 0
    have c1 : u.cell? ⟨X, 1, none⟩ = some (.int .i64 (b : Nat)) := K3.out.cell 1
    have c2 : u.cell? ⟨X, 2, none⟩ = some (.int .i64 (c : Nat)) := K3.out.cell 2
    clear hr hKx
    go_wp2_with fail
    refine (lright_any (a : Nat) (b : Nat) (c : Nat) u true HRT.out).mono ?_
    rintro e w4 ⟨rfl, hb4⟩
    have B4 : Hid (Below W.heap.size W w4) := B3.out.trans (hb4.mono B3.out.size)
    have K4 := Lib.hid (K3.out.below hb4 K3.out.lt)
    have R4 := Lib.hid (R3.out.below hb4 R3.out.lt)
    clear hb4 c0 c1 c2
    go_wp2_with fail
    refine (Parse_any (some ⟨g2, 0, none⟩) 64 64 (tbytes a b c) w4 ⟨R4.out.rd 64 (tbytes_length _ _ _), tbytes_fit _ _ _, by omega, by omega, fun e => by cases e⟩ (by omega)).mono ?_
    rintro e w5 ⟨a5, b5, c5, rfl, hab, hno, hb5⟩
    have hte := terr_bytes HH.out
    have hto := HH.out
    unfold TOk at hto
    obtain ⟨rfl, rfl, rfl⟩ := hab hte
    rw [hte, ta_bytes (by omega), tb_bytes (by omega), tc_bytes (by omega)]
    have B5 : Hid (Below W.heap.size W w5) := B4.out.trans (hb5.mono B4.out.size)
    have K5 := Lib.hid (K4.out.below hb5 K4.out.lt)
    have R5 := Lib.hid (R4.out.below hb5 R4.out.lt)
    clear hab hno hte hto hb5 R4 K4 R3 K3
    have H3 : Hid (Below w5.heap.size w5 (w5.alloc (.cells #[.int .i64 0, .int .i64 0, .int .i64 0] 23)) ∧ Blk (w5.alloc (.cells #[.int .i64 0, .int .i64 0, .int .i64 0] 23)) w5.heap.size 23 tz) := ⟨(Below.refl _ _).alloc (Nat.le_refl _) _, Blk.new w5 _ tz⟩
    go_wp2_with ((with_reducible refine at_dst none ?_); refine stopper ?_)
    refine ⟨?_, trivial⟩
    refine wpList_storeBlk (op := ⟨none, _, _, _, _, _⟩) rfl 23 (.tmp 5) (.tmp 32) rfl (g := w5.heap.size) (t := 23) (old := tz) (cs := tcells (a : Nat) (b : Nat) (c : Nat)) rfl rfl H3.out.2 rfl iT (tcells_one _ _ _) ?_
    intro v0 hv0 tv0
    have Hv0 := Lib.hid hv0
    have Tv0 := Lib.hid tv0
    clear tv0 hv0
    have HBV : Hid (Below W.heap.size W v0) := (B5.out.trans (H3.out.1.mono B5.out.size)).trans (Tv0.out.below (fun y hy => by rw [List.mem_singleton.1 hy]; exact B5.out.size) (Nat.le_trans B5.out.size H3.out.1.size))
    have HXv := Lib.hid ((K5.out.below H3.out.1 K5.out.lt).touch Tv0.out (by have := K5.out.lt; simp; omega))
    have HRv := Lib.hid ((R5.out.below H3.out.1 R5.out.lt).touch Tv0.out (by have := R5.out.lt; simp; omega))
    have HYv := Lib.hid Hv0.out
    have HLB := Lib.hid (fun w => lbytes_any a b c w HH.out)
    have HFT : Hid (Fit 256 (tbytes a b c)) := tbytes_fit _ _ _
    have HSV : Hid (W.heap.size ≤ v0.heap.size) := HBV.out.size
    clear H3 Tv0 Hv0 K5 R5 B5 B4 B3 B2 R2 HX
    obtain ⟨Y, hY⟩ : ∃ Y, w5.heap.size = Y := ⟨_, rfl⟩
    rw [hY] at HYv
    simp only [hY]
    clear hY
    obtain ⟨BT, hBT⟩ : ∃ BT, tbytes a b c = BT := ⟨_, rfl⟩
    have hBL : BT.length = 64 := by rw [← hBT]; exact tbytes_length _ _ _
    rw [hBT] at HLB HFT HRv
    clear hBT
    go_wp2
    rename_i hKx
    refine wp_region_eachW (by kernel_rfl) (by kernel_rfl) (fun u u' => Below u.heap.size u u') (fun iX v u => match iX with
        | 0 => v = .int .i64 0
        | 1 => v = .bool true
        | 2 => v = .bool true
        | 3 => v = .slice (some ⟨g2, 0, none⟩) 64 64
        | 4 => v = .string (str BT)
        | 5 => v = TV (a : Nat) (b : Nat) (c : Nat)
        | 6 => ∃ A9 c9, v = .slice A9 64 c9 ∧ Row u W.heap.size 5 A9 64 c9 (cn .u8 BT)
        | 7 => v = .string (str BT)
        | 8 => v = .bool true
        | 9 => v = .bool true
        | 10 => v = .bool true
        | 11 => v = .int .i64 0
        | 12 => v = .bool true
        | 13 => v = .bool true
        | 14 => v = .bool true
        | 15 => v = TV (a : Nat) (b : Nat) (c : Nat)
        | 16 => v = TV (a : Nat) (b : Nat) (c : Nat)
        | 17 => v = .bool true
        | 18 => v = .bool true
        | 19 => v = .bool true
        | _ => True) (fun u => Below v0.heap.size v0 u) ?m4 (fun _ _ h1 h2 => h1.trans (h2.mono h1.size)) ⟨rfl, rfl, rfl, Nat.le_refl _, fun _ _ => rfl⟩ ?m5 ?m6
    case m4 =>
      intro iX v u u' h hr hb
      rcases iX with _ | _ | _ | _ | _ | _ | _ | _ | _ | _ | _ | _ | _ | _ | _ | _ | _ | _ | _ | _ | iX
      · exact h
      · exact h
      · exact h
      · exact h
      · exact h
      · exact h
      · obtain ⟨A9, c9, h1, h2⟩ := h; exact ⟨A9, c9, h1, h2.below hb⟩
      · exact h
      · exact h
      · exact h
      · exact h
      · exact h
      · exact h
      · exact h
      · exact h
      · exact h
      · exact h
      · exact h
      · exact h
      · exact h
      · trivial
    case m5 =>
      intro iX o ho aX u hr hk hpre K hK
      have e1 : aX.tmps.getD 1 undef = .pointer (some ⟨X, 0, none⟩) := hk.slot 1 (by simp)
      have e3 : aX.tmps.getD 3 undef = .slice (some ⟨g2, 0, none⟩) 64 64 := hk.slot 3 (by simp)
      have e4 : aX.tmps.getD 4 undef = .int .i64 0 := hk.slot 4 (by simp)
      have e5 : aX.tmps.getD 5 undef = .pointer (some ⟨Y, 0, none⟩) := hk.slot 5 (by simp)
      have e6 : aX.tmps.getD 6 undef = .int .i64 0 := hk.slot 6 (by simp)
      have kx : Blk u X 23 (tcells (a : Nat) (b : Nat) (c : Nat)) := HXv.out.below hr HXv.out.lt
      have x0 : u.cell? ⟨X, 0, none⟩ = some (.int .i64 (a : Nat)) := kx.cell 0
      have x1 : u.cell? ⟨X, 1, none⟩ = some (.int .i64 (b : Nat)) := kx.cell 1
      have x2 : u.cell? ⟨X, 2, none⟩ = some (.int .i64 (c : Nat)) := kx.cell 2
      have ky : Blk u Y 23 (tcells (a : Nat) (b : Nat) (c : Nat)) := HYv.out.below hr HYv.out.lt
      have y0 : u.cell? ⟨Y, 0, none⟩ = some (.int .i64 (a : Nat)) := ky.cell 0
      have y1 : u.cell? ⟨Y, 1, none⟩ = some (.int .i64 (b : Nat)) := ky.cell 1
      have y2 : u.cell? ⟨Y, 2, none⟩ = some (.int .i64 (c : Nat)) := ky.cell 2
      have heq := fun w => eqlTT (a : Nat) (b : Nat) (c : Nat) w
      have rf : Below u.heap.size u u := Below.refl _ _
      rcases iX with _ | _ | _ | _ | _ | _ | _ | _ | _ | _ | _ | _ | _ | _ | _ | _ | _ | _ | _ | _ | iX
      · obtain rfl := Option.some.inj ho
        exact st_move (.tmp 4) rfl (want_none rfl) _ e4 (hK _ _ rfl rf)
      · obtain rfl := Option.some.inj ho
        have y34 : aX.eval (.tmp 34) = .int .i64 0 := (hpre 0 _ rfl ⟨⟨0, .data⟩, by simp, rfl, rfl⟩)
        refine st_run (want_none rfl) (.bool true) (w' := u) ?_ (hK _ _ rfl rf)
        simp only [execOp, y34]
        go_simp
      · obtain rfl := Option.some.inj ho
        exact st_move (.tmp 35) rfl (want_none rfl) _ (hpre 1 _ rfl ⟨⟨1, .data⟩, by simp, rfl, rfl⟩) (hK _ _ rfl rf)
      · obtain rfl := Option.some.inj ho
        exact st_move (.tmp 3) rfl (want_some rfl rfl rfl (hpre 2 _ rfl ⟨⟨2, .guard⟩, by simp, rfl, rfl⟩)) _ e3 (hK _ _ rfl rf)
      · obtain rfl := Option.some.inj ho
        exact st_conv (.tmp 37) rfl (want_some rfl rfl rfl (hpre 2 _ rfl ⟨⟨2, .guard⟩, by simp, rfl, rfl⟩)) _ _ _ _ (hpre 3 _ rfl ⟨⟨3, .data⟩, by simp, rfl, rfl⟩) ((HRv.out.below hr HRv.out.lt).rd 64 hBL) (hK _ _ rfl rf)
      · obtain rfl := Option.some.inj ho
        have y1 : aX.eval (.tmp 1) = .pointer (some ⟨X, 0, none⟩) := e1
        refine st_run (want_some rfl rfl rfl (hpre 2 _ rfl ⟨⟨2, .guard⟩, by simp, rfl, rfl⟩)) (TV (a : Nat) (b : Nat) (c : Nat)) (w' := u) ?_ (hK _ _ rfl rf)
        simp only [execOp, y1]
        go_simp
      · obtain rfl := Option.some.inj ho
        have x0 : aX.eval (.tmp 39) = TV (a : Nat) (b : Nat) (c : Nat) := (hpre 5 _ rfl ⟨⟨5, .data⟩, by simp, rfl, rfl⟩)
        exact st_callN 14 _ _ rfl (want_some rfl rfl rfl (hpre 2 _ rfl ⟨⟨2, .guard⟩, by simp, rfl, rfl⟩)) #[TV (a : Nat) (b : Nat) (c : Nat)] (by simp [x0]) (by kernel_rfl) _ (HLB.out u) (fun e u' he => by obtain ⟨A9, c9, he1, he2, he3⟩ := he; exact ⟨_, he1, hK _ _ ⟨A9, c9, rfl, he2.mono (Nat.le_trans HSV.out hr.size)⟩ he3⟩)
      · obtain rfl := Option.some.inj ho
        obtain ⟨A9, c9, e9, h9⟩ := (hpre 6 _ rfl ⟨⟨6, .data⟩, by simp, rfl, rfl⟩)
        exact st_conv (.tmp 40) rfl (want_some rfl rfl rfl (hpre 2 _ rfl ⟨⟨2, .guard⟩, by simp, rfl, rfl⟩)) _ _ _ _ e9 h9.rd (hK _ _ rfl rf)
      · obtain rfl := Option.some.inj ho
        refine st_eqlStrB (.tmp 38) (.tmp 41) rfl (want_some rfl rfl rfl (hpre 2 _ rfl ⟨⟨2, .guard⟩, by simp, rfl, rfl⟩)) BT BT HFT.out HFT.out (hpre 4 _ rfl ⟨⟨4, .data⟩, by simp, rfl, rfl⟩) (hpre 7 _ rfl ⟨⟨7, .data⟩, by simp, rfl, rfl⟩) (hK _ _ ?_ rf)
        exact congrArg Value.bool (decide_eq_true rfl)
      · obtain rfl := Option.some.inj ho
        exact st_pick (.tmp 36) (.tmp 42) (.const (.bool false)) rfl (want_none rfl) true (hpre 2 _ rfl ⟨⟨2, .data⟩, by simp, rfl, rfl⟩) _ ((if_pos rfl).trans (hpre 8 _ rfl ⟨⟨8, .data⟩, by simp, rfl, rfl⟩)) (hK _ _ rfl rf)
      · obtain rfl := Option.some.inj ho
        exact st_move (.tmp 43) rfl (want_none rfl) _ (hpre 9 _ rfl ⟨⟨9, .data⟩, by simp, rfl, rfl⟩) (hK _ _ rfl rf)
      · obtain rfl := Option.some.inj ho
        exact st_move (.tmp 6) rfl (want_some rfl rfl rfl (hpre 10 _ rfl ⟨⟨10, .guard⟩, by simp, rfl, rfl⟩)) _ e6 (hK _ _ rfl rf)
      · obtain rfl := Option.some.inj ho
        have y45 : aX.eval (.tmp 45) = .int .i64 0 := (hpre 11 _ rfl ⟨⟨11, .data⟩, by simp, rfl, rfl⟩)
        refine st_run (want_some rfl rfl rfl (hpre 10 _ rfl ⟨⟨10, .guard⟩, by simp, rfl, rfl⟩)) (.bool true) (w' := u) ?_ (hK _ _ rfl rf)
        simp only [execOp, y45]
        go_simp
      · obtain rfl := Option.some.inj ho
        exact st_pick (.tmp 44) (.tmp 46) (.const (.bool false)) rfl (want_none rfl) true (hpre 10 _ rfl ⟨⟨10, .data⟩, by simp, rfl, rfl⟩) _ ((if_pos rfl).trans (hpre 12 _ rfl ⟨⟨12, .data⟩, by simp, rfl, rfl⟩)) (hK _ _ rfl rf)
      · obtain rfl := Option.some.inj ho
        exact st_move (.tmp 47) rfl (want_none rfl) _ (hpre 13 _ rfl ⟨⟨13, .data⟩, by simp, rfl, rfl⟩) (hK _ _ rfl rf)
      · obtain rfl := Option.some.inj ho
        have y5 : aX.eval (.tmp 5) = .pointer (some ⟨Y, 0, none⟩) := e5
        refine st_run (want_some rfl rfl rfl (hpre 14 _ rfl ⟨⟨14, .guard⟩, by simp, rfl, rfl⟩)) (TV (a : Nat) (b : Nat) (c : Nat)) (w' := u) ?_ (hK _ _ rfl rf)
        simp only [execOp, y5]
        go_simp
      · obtain rfl := Option.some.inj ho
        have y1 : aX.eval (.tmp 1) = .pointer (some ⟨X, 0, none⟩) := e1
        refine st_run (want_some rfl rfl rfl (hpre 14 _ rfl ⟨⟨14, .guard⟩, by simp, rfl, rfl⟩)) (TV (a : Nat) (b : Nat) (c : Nat)) (w' := u) ?_ (hK _ _ rfl rf)
        simp only [execOp, y1]
        go_simp
      · obtain rfl := Option.some.inj ho
        have y49 : aX.eval (.tmp 49) = TV (a : Nat) (b : Nat) (c : Nat) := (hpre 15 _ rfl ⟨⟨15, .data⟩, by simp, rfl, rfl⟩)
        have y50 : aX.eval (.tmp 50) = TV (a : Nat) (b : Nat) (c : Nat) := (hpre 16 _ rfl ⟨⟨16, .data⟩, by simp, rfl, rfl⟩)
        refine st_run (want_some rfl rfl rfl (hpre 14 _ rfl ⟨⟨14, .guard⟩, by simp, rfl, rfl⟩)) (.bool true) (w' := u) ?_ (hK _ _ rfl rf)
        simp only [execOp, y49, y50]
        go_simp
      · obtain rfl := Option.some.inj ho
        exact st_pick (.tmp 48) (.tmp 51) (.const (.bool false)) rfl (want_none rfl) true (hpre 14 _ rfl ⟨⟨14, .data⟩, by simp, rfl, rfl⟩) _ ((if_pos rfl).trans (hpre 17 _ rfl ⟨⟨17, .data⟩, by simp, rfl, rfl⟩)) (hK _ _ rfl rf)
      · obtain rfl := Option.some.inj ho
        exact st_assign (.tmp 52) rfl (want_none rfl) _ (hpre 18 _ rfl ⟨⟨18, .data⟩, by simp, rfl, rfl⟩) (hK _ _ rfl rf)
      · cases ho
    case m6 =>
      intro aX u hr hk hv
      have q2 : aX.tmps.getD 2 undef = .bool true := hv 19 _ rfl
      have hfr := keeps_frameP (fun s => decide (s = 2 ∨ (34 ≤ s ∧ s ≤ 52))) hk (by simp)
      refine hKx aX u ?_
      rw [hfr]
      generalize hff : (fun s => aX.tmps.getD s undef) = ff
      have hf2 : ff 2 = .bool true := by rw [← hff]; exact q2
      simp only [mixP, hf2, decide_eq_true_eq, Nat.reduceAdd, Nat.reduceLeDiff, Nat.reduceEqDiff, false_or, true_or, or_false, or_true, and_true, and_false, true_and, false_and, and_self, if_true, if_false, Nat.zero_le]
      clear hfr hff hf2 q2 hv hk
      have HRR := Lib.hid hr
      clear hr hKx
      go_wp2
      go_ret
      exact ⟨rfl, HBV.out.trans (HRR.out.mono HBV.out.size)⟩
theorem encodes_walk (a b c : Int) (W : World) : EncodesWalk a b c W := by
  by_cases h : TOk a b c
  · obtain ⟨x, rfl⟩ : ∃ x : Nat, a = x := ⟨a.toNat, by unfold TOk at h; omega⟩
    obtain ⟨y, rfl⟩ : ∃ y : Nat, b = y := ⟨b.toNat, by unfold TOk at h; omega⟩
    obtain ⟨z, rfl⟩ : ∃ z : Nat, c = z := ⟨c.toNat, by unfold TOk at h; omega⟩
    exact encodes_yes x y z W h
  · exact encodes_no a b c W h
end Go.Proofs.Ythepbadecpnepaa
