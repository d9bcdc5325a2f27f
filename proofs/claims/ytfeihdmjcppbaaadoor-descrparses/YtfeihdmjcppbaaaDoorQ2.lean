/-
  What the document's Right answers. No condition but that lengths are the texts'.
-/
import Derived.Test.YtfeihdmjcppbaaaDoorQ1
import Derived.Deep.DeepCutAuto
import Derived.Deep.CutBlock
namespace Go.Proofs.YtfeihdmjcppbaaaDoor
open Go.RowKit
set_option linter.unusedVariables false
set_option linter.unusedSimpArgs false
set_option maxRecDepth 100000

theorem right_k0 {d : De} (h : d.kind = 0) : Right d ↔ (NoSum d ∧ NoShape d ∧ NoChain d ∧ Named d.name ∧ d.value.length ≤ 256) := by
  unfold Right
  rw [h]
  simp
theorem right_k1 {d : De} (h : d.kind = 1) : Right d ↔ (NoChain d ∧ d.value.length = 0 ∧ Named d.name ∧ Summed d ∧ Rgt d.size d.block (szOf d.alg) ∧ d.size ≤ d.off ∧ d.off ≤ 1099511627776) := by
  unfold Right
  rw [h]
  simp
theorem right_k2 {d : De} (h : d.kind = 2) : Right d ↔ (NoShape d ∧ NoChain d ∧ d.value.length = 0 ∧ Named d.name ∧ Summed d ∧ 0 ≤ d.size ∧ d.size ≤ 1099511627776) := by
  unfold Right
  rw [h]
  simp
theorem right_k3 {d : De} (h : d.kind = 3) : Right d ↔ (NoSum d ∧ NoShape d ∧ NoChain d ∧ d.name.length = 0 ∧ d.value.length ≤ 256) := by
  unfold Right
  rw [h]
  simp
theorem right_k4 {d : De} (h : d.kind = 4) : Right d ↔ (NoSum d ∧ NoShape d ∧ d.value.length = 0 ∧ Named d.name ∧ 1 ≤ d.loc ∧ d.loc ≤ 31 ∧ 1 ≤ d.key.length ∧ d.key.length ≤ 1032) := by
  unfold Right
  rw [h]
  simp
theorem right_out {d : De} (h : ¬ (0 ≤ d.kind ∧ d.kind ≤ 4)) : ¬ Right d := by unfold Right; omega
set_option maxHeartbeats 8000000 in
theorem RRight_any (x : Dx) (hx : Hds x) (hf : Fit 256 x.d.name) (w : World) : Calls Tryd.prog 12 #[x.val] w fun e w' => e = .returned (.bool (decide (Right x.d))) ∧ Below w.heap.size w w' := by
  obtain ⟨d0, hu0, hd0⟩ := uR
  unfold Dx.val
  obtain ⟨W, hW⟩ : ∃ W, w.alloc (.cells x.cells.toArray 28) = W := ⟨_, rfl⟩
  have X := Lib.hid (Bx.new hW)
  have c0 : W.cell? ⟨w.heap.size, 0, none⟩ = some (.int .i64 x.d.kind) := X.out.blk.cell 0
  have c1 : W.cell? ⟨w.heap.size, 1, none⟩ = some (.int .i64 x.d.alg) := X.out.blk.cell 1
  have c2 : W.cell? ⟨w.heap.size, 2, none⟩ = some (.int .i64 x.d.size) := X.out.blk.cell 2
  have c3 : W.cell? ⟨w.heap.size, 3, none⟩ = some (.int .i64 x.d.block) := X.out.blk.cell 3
  have c4 : W.cell? ⟨w.heap.size, 4, none⟩ = some (.int .i64 x.d.off) := X.out.blk.cell 4
  have c5 : W.cell? ⟨w.heap.size, 5, none⟩ = some (.int .i64 x.d.loc) := X.out.blk.cell 5
  have c6 : W.cell? ⟨w.heap.size, 6, none⟩ = some (.string (str x.d.name)) := X.out.blk.cell 6
  have c7 : W.cell? ⟨w.heap.size, 7, none⟩ = some (.slice x.s1.A x.s1.n x.s1.cap) := X.out.blk.cell 7
  have c8 : W.cell? ⟨w.heap.size, 8, none⟩ = some (.slice x.s2.A x.s2.n x.s2.cap) := X.out.blk.cell 8
  have c9 : W.cell? ⟨w.heap.size, 9, none⟩ = some (.slice x.s3.A x.s3.n x.s3.cap) := X.out.blk.cell 9
  have c10 : W.cell? ⟨w.heap.size, 10, none⟩ = some (.slice x.s4.A x.s4.n x.s4.cap) := X.out.blk.cell 10
  have HX := Lib.hid hx
  have HF := Lib.hid hf
  clear hx hf
  obtain ⟨D, hD⟩ : ∃ D, decide (Right x.d) = D := ⟨_, rfl⟩
  have HD := Lib.hid hD
  rw [hD]
  obtain ⟨b3, h3⟩ : ∃ b, decide (NoSum x.d) = b := ⟨_, rfl⟩
  obtain ⟨b4, h4⟩ : ∃ b, decide (NoShape x.d) = b := ⟨_, rfl⟩
  obtain ⟨b5, h5⟩ : ∃ b, decide (NoChain x.d) = b := ⟨_, rfl⟩
  have H3 := Lib.hid h3
  have H4 := Lib.hid h4
  have H5 := Lib.hid h5
  clear hD h3 h4 h5
  go_enter Tryd.func12, Tryd.ntmps12
  go_upto_region 1 with fail
  go_cut [3] (fun s3 wx => W = wx ∧ s3 = .bool b3)
  case first => as_aux_lemma =>
    by_cases hh0 : x.d.alg = 0
    · have q0 : (x.d.alg == 0) = true := by exact beq_iff_eq.2 hh0
      by_cases hh1 : x.d.size = 0
      · have q1 : (x.d.size == 0) = true := by exact beq_iff_eq.2 hh1
        by_cases hh2 : x.d.salt.length = 0
        · have q2 : ((x.s1.n : Int) == 0) = true := by exact beq_iff_eq.2 (by rw [← HX.out.salt]; omega)
          by_cases hh3 : x.d.digest.length = 0
          · have q3 : ((x.s2.n : Int) == 0) = true := by exact beq_iff_eq.2 (by rw [← HX.out.digest]; omega)
            obtain rfl : b3 = true := H3.out.symm.trans (decide_eq_true ⟨hh0, hh1, hh2, hh3⟩)
            clear hh0 hh1 hh2 hh3
            go_wp2_with fail
            go_meet
            exact ⟨rfl, by first | rfl | simp [*]⟩
          · have q3 : ((x.s2.n : Int) == 0) = false := by exact beq_eq_false_iff_ne.2 (by rw [← HX.out.digest]; omega)
            obtain rfl : b3 = false := H3.out.symm.trans (decide_eq_false (fun h => hh3 h.2.2.2))
            clear hh0 hh1 hh2 hh3
            go_wp2_with fail
            go_meet
            exact ⟨rfl, by first | rfl | simp [*]⟩
        · have q2 : ((x.s1.n : Int) == 0) = false := by exact beq_eq_false_iff_ne.2 (by rw [← HX.out.salt]; omega)
          obtain rfl : b3 = false := H3.out.symm.trans (decide_eq_false (fun h => hh2 h.2.2.1))
          clear hh0 hh1 hh2
          go_wp2_with fail
          go_meet
          exact ⟨rfl, by first | rfl | simp [*]⟩
      · have q1 : (x.d.size == 0) = false := by exact beq_eq_false_iff_ne.2 hh1
        obtain rfl : b3 = false := H3.out.symm.trans (decide_eq_false (fun h => hh1 h.2.1))
        clear hh0 hh1
        go_wp2_with fail
        go_meet
        exact ⟨rfl, by first | rfl | simp [*]⟩
    · have q0 : (x.d.alg == 0) = false := by exact beq_eq_false_iff_ne.2 hh0
      obtain rfl : b3 = false := H3.out.symm.trans (decide_eq_false (fun h => hh0 h.1))
      clear hh0
      go_wp2_with fail
      go_meet
      exact ⟨rfl, by first | rfl | simp [*]⟩
  case rest =>
    obtain ⟨rfl, rfl⟩ := hcut
    go_upto_region 2 with fail
    go_cut [4] (fun s4 wx => W = wx ∧ s4 = .bool b4)
    case first => as_aux_lemma =>
      by_cases hh0 : x.d.block = 0
      · have q0 : (x.d.block == 0) = true := by exact beq_iff_eq.2 hh0
        by_cases hh1 : x.d.off = 0
        · have q1 : (x.d.off == 0) = true := by exact beq_iff_eq.2 hh1
          obtain rfl : b4 = true := H4.out.symm.trans (decide_eq_true ⟨hh0, hh1⟩)
          clear hh0 hh1
          go_wp2_with fail
          go_meet
          exact ⟨rfl, by first | rfl | simp [*]⟩
        · have q1 : (x.d.off == 0) = false := by exact beq_eq_false_iff_ne.2 hh1
          obtain rfl : b4 = false := H4.out.symm.trans (decide_eq_false (fun h => hh1 h.2))
          clear hh0 hh1
          go_wp2_with fail
          go_meet
          exact ⟨rfl, by first | rfl | simp [*]⟩
      · have q0 : (x.d.block == 0) = false := by exact beq_eq_false_iff_ne.2 hh0
        obtain rfl : b4 = false := H4.out.symm.trans (decide_eq_false (fun h => hh0 h.1))
        clear hh0
        go_wp2_with fail
        go_meet
        exact ⟨rfl, by first | rfl | simp [*]⟩
    case rest =>
      obtain ⟨rfl, rfl⟩ := hcut
      go_upto_region 3 with fail
      go_cut [5] (fun s5 wx => W = wx ∧ s5 = .bool b5)
      case first => as_aux_lemma =>
        by_cases hh0 : x.d.loc = 0
        · have q0 : (x.d.loc == 0) = true := by exact beq_iff_eq.2 hh0
          by_cases hh1 : x.d.key.length = 0
          · have q1 : ((x.s3.n : Int) == 0) = true := by exact beq_iff_eq.2 (by rw [← HX.out.key]; omega)
            obtain rfl : b5 = true := H5.out.symm.trans (decide_eq_true ⟨hh0, hh1⟩)
            clear hh0 hh1
            go_wp2_with fail
            go_meet
            exact ⟨rfl, by first | rfl | simp [*]⟩
          · have q1 : ((x.s3.n : Int) == 0) = false := by exact beq_eq_false_iff_ne.2 (by rw [← HX.out.key]; omega)
            obtain rfl : b5 = false := H5.out.symm.trans (decide_eq_false (fun h => hh1 h.2))
            clear hh0 hh1
            go_wp2_with fail
            go_meet
            exact ⟨rfl, by first | rfl | simp [*]⟩
        · have q0 : (x.d.loc == 0) = false := by exact beq_eq_false_iff_ne.2 hh0
          obtain rfl : b5 = false := H5.out.symm.trans (decide_eq_false (fun h => hh0 h.1))
          clear hh0
          go_wp2_with fail
          go_meet
          exact ⟨rfl, by first | rfl | simp [*]⟩
      case rest =>
        obtain ⟨rfl, rfl⟩ := hcut
        by_cases hin : 0 ≤ x.d.kind ∧ x.d.kind ≤ 4
        · rcases (by omega : x.d.kind = 0 ∨ x.d.kind = 1 ∨ x.d.kind = 2 ∨ x.d.kind = 3 ∨ x.d.kind = 4) with hk | hk | hk | hk | hk
          · as_aux_lemma =>
            rw [hk] at c0
            by_cases hh0 : NoSum x.d
            · skip
              obtain rfl : b3 = true := H3.out.symm.trans (decide_eq_true hh0)
              by_cases hh1 : NoShape x.d
              · skip
                obtain rfl : b4 = true := H4.out.symm.trans (decide_eq_true hh1)
                by_cases hh2 : NoChain x.d
                · skip
                  obtain rfl : b5 = true := H5.out.symm.trans (decide_eq_true hh2)
                  by_cases hh3 : Named x.d.name
                  · skip
                    have E3 := Lib.hid (decide_eq_true (p := Named x.d.name) hh3)
                    by_cases hh4 : x.d.value.length ≤ 256
                    · skip
                      have z4 : (x.s4.n : Int) ≤ 256 := by rw [← HX.out.value]; omega
                      have E : Hid (D = true) := HD.out.symm.trans (decide_eq_true ((right_k0 hk).2 ⟨hh0, hh1, hh2, hh3, hh4⟩))
                      clear hk hh0 hh1 hh2 hh3 hh4
                      go_wp2_with fail
                      refine (RNamed_any x.d.name HF.out _).mono ?_
                      rintro e wn ⟨rfl, rfl⟩
                      rw [E3.out]
                      go_wp2
                      go_ret
                      exact ⟨by rw [E.out]; first | rfl | simp [*], by first | exact X9.out.below | exact X8.out.below | exact X7.out.below | exact X.out.below⟩
                    · skip
                      have z4 : ¬ (x.s4.n : Int) ≤ 256 := by rw [← HX.out.value]; omega
                      have E : Hid (D = false) := HD.out.symm.trans (decide_eq_false (fun h0 => hh4 (by have h := (right_k0 hk).1 h0; exact h.2.2.2.2)))
                      clear hk hh0 hh1 hh2 hh3 hh4
                      go_wp2_with fail
                      refine (RNamed_any x.d.name HF.out _).mono ?_
                      rintro e wn ⟨rfl, rfl⟩
                      rw [E3.out]
                      go_wp2
                      go_ret
                      exact ⟨by rw [E.out]; first | rfl | simp [*], by first | exact X9.out.below | exact X8.out.below | exact X7.out.below | exact X.out.below⟩
                  · skip
                    have E3 := Lib.hid (decide_eq_false (p := Named x.d.name) hh3)
                    have E : Hid (D = false) := HD.out.symm.trans (decide_eq_false (fun h0 => hh3 (by have h := (right_k0 hk).1 h0; exact h.2.2.2.1)))
                    clear hk hh0 hh1 hh2 hh3
                    go_wp2_with fail
                    refine (RNamed_any x.d.name HF.out _).mono ?_
                    rintro e wn ⟨rfl, rfl⟩
                    rw [E3.out]
                    go_wp2
                    go_ret
                    exact ⟨by rw [E.out]; first | rfl | simp [*], by first | exact X9.out.below | exact X8.out.below | exact X7.out.below | exact X.out.below⟩
                · skip
                  obtain rfl : b5 = false := H5.out.symm.trans (decide_eq_false hh2)
                  have E : Hid (D = false) := HD.out.symm.trans (decide_eq_false (fun h0 => hh2 (by have h := (right_k0 hk).1 h0; exact h.2.2.1)))
                  clear hk hh0 hh1 hh2
                  go_wp2
                  go_ret
                  exact ⟨by rw [E.out]; first | rfl | simp [*], by first | exact X9.out.below | exact X8.out.below | exact X7.out.below | exact X.out.below⟩
              · skip
                obtain rfl : b4 = false := H4.out.symm.trans (decide_eq_false hh1)
                have E : Hid (D = false) := HD.out.symm.trans (decide_eq_false (fun h0 => hh1 (by have h := (right_k0 hk).1 h0; exact h.2.1)))
                clear hk hh0 hh1
                go_wp2
                go_ret
                exact ⟨by rw [E.out]; first | rfl | simp [*], by first | exact X9.out.below | exact X8.out.below | exact X7.out.below | exact X.out.below⟩
            · skip
              obtain rfl : b3 = false := H3.out.symm.trans (decide_eq_false hh0)
              have E : Hid (D = false) := HD.out.symm.trans (decide_eq_false (fun h0 => hh0 (by have h := (right_k0 hk).1 h0; exact h.1)))
              clear hk hh0
              go_wp2
              go_ret
              exact ⟨by rw [E.out]; first | rfl | simp [*], by first | exact X9.out.below | exact X8.out.below | exact X7.out.below | exact X.out.below⟩
          · as_aux_lemma =>
            rw [hk] at c0
            obtain ⟨q, hq⟩ : ∃ q, szOf x.d.alg = q := ⟨_, rfl⟩
            have HQ := Lib.hid hq
            go_upto_region 7 with fail
            go_cut [6] (fun s6 wx => s6 = .pointer (some ⟨W.heap.size, 0, none⟩) ∧ Hid (Below W.heap.size W wx ∧ Blk wx W.heap.size 49 [.int .i64 x.d.size, .int .i64 x.d.block, .int .i64 q]))
            case first =>
              go_region_held3 (fun w' => w'.cell? ⟨w.heap.size, 2, none⟩ = some (.int .i64 x.d.size) ∧ w'.cell? ⟨w.heap.size, 3, none⟩ = some (.int .i64 x.d.block) ∧ w'.cell? ⟨w.heap.size, 1, none⟩ = some (.int .i64 x.d.alg)) (first | (refine ⟨?_, ?_, ?_⟩ <;> go_keep) | assumption) (first | (go_at_call 24; refine (R7Size_any x.d.alg _).mono ?_; rintro e w2 ⟨rfl, rfl⟩; rw [HQ.out]))
              all_goals (try go_wp2_with fail)
              all_goals go_meet
              all_goals exact ⟨rfl, below_drew1 ((Below.refl _ _).alloc (Nat.le_refl _) _), Blk.new W 49 [.int .i64 x.d.size, .int .i64 x.d.block, .int .i64 q]⟩
            case rest =>
              obtain ⟨rfl, HCU⟩ := hcut
              have hby := HCU.out.1
              have hsb := HCU.out.2
              rename_i wy'
              obtain ⟨wy, hwy⟩ : ∃ wy, wy = wc := ⟨_, rfl⟩
              subst hwy
              have HSB := Lib.hid hsb
              have X7 := Lib.hid (X.out.next hby)
              have t4 : wy.cell? ⟨w.heap.size, 4, none⟩ = some (.int .i64 x.d.off) := X7.out.blk.cell 4
              have t2 : wy.cell? ⟨w.heap.size, 2, none⟩ = some (.int .i64 x.d.size) := X7.out.blk.cell 2
              have t6 : wy.cell? ⟨w.heap.size, 6, none⟩ = some (.string (str x.d.name)) := X7.out.blk.cell 6
              have t10 : wy.cell? ⟨w.heap.size, 10, none⟩ = some (.slice x.s4.A x.s4.n x.s4.cap) := X7.out.blk.cell 10
              have HBY := Lib.hid hby
              clear hby hsb c1 c2 c3 c4 c5 c6 c7 c8 c9 c10
              by_cases hh0 : NoChain x.d
              · skip
                obtain rfl : b5 = true := H5.out.symm.trans (decide_eq_true hh0)
                by_cases hh1 : x.d.value.length = 0
                · skip
                  have z1 : ((x.s4.n : Int) == 0) = true := beq_iff_eq.2 (by rw [← HX.out.value]; omega)
                  by_cases hh2 : Named x.d.name
                  · skip
                    have E2 := Lib.hid (decide_eq_true (p := Named x.d.name) hh2)
                    by_cases hh3 : Summed x.d
                    · skip
                      have E3 := Lib.hid (decide_eq_true (p := Summed x.d) hh3)
                      by_cases hh4 : Rgt x.d.size x.d.block (szOf x.d.alg)
                      · skip
                        have E4 := Lib.hid (decide_eq_true (p := Rgt x.d.size x.d.block (szOf x.d.alg)) hh4)
                        by_cases hh5 : x.d.size ≤ x.d.off
                        · skip
                          have z5 : x.d.size ≤ x.d.off := hh5
                          by_cases hh6 : x.d.off ≤ 1099511627776
                          · skip
                            have z6 : x.d.off ≤ 1099511627776 := hh6
                            have E : Hid (D = true) := HD.out.symm.trans (decide_eq_true ((right_k1 hk).2 ⟨hh0, hh1, hh2, hh3, hh4, hh5, hh6⟩))
                            clear hk hh0 hh1 hh2 hh3 hh4 hh5 hh6
                            go_wp2_with fail
                            refine (RNamed_any x.d.name HF.out _).mono ?_
                            rintro e wn ⟨rfl, rfl⟩
                            rw [E2.out]
                            go_wp2_with ((with_reducible refine at_dst (some 89) ?_); refine wpList_loadAtG (op := ⟨some 89, _, _, _, _, _⟩) (want_some rfl rfl rfl rfl) 28 (.tmp 1) rfl ⟨w.heap.size, 0, none⟩ rfl x.cells d0 X7.out.blk.at hu0 hd0 iR ?_)
                            refine (summed_any x HX.out _).mono ?_
                            rintro e w8 ⟨rfl, hb8⟩
                            rw [E3.out]
                            have X8 := Lib.hid (X7.out.next hb8)
                            have y4 : w8.cell? ⟨w.heap.size, 4, none⟩ = some (.int .i64 x.d.off) := X8.out.blk.cell 4
                            have y2 : w8.cell? ⟨w.heap.size, 2, none⟩ = some (.int .i64 x.d.size) := X8.out.blk.cell 2
                            have BSH := Lib.hid (HSB.out.below hb8 HSB.out.lt)
                            have k0 := BSH.out.cell 0
                            have k1 := BSH.out.cell 1
                            have k2 := BSH.out.cell 2
                            simp only [List.getElem?_cons_zero, List.getElem?_cons_succ] at k0 k1 k2
                            go_wp2_with fail
                            refine (RefRight_any x.d.size x.d.block q _).mono ?_
                            rintro e w9 ⟨rfl, hb9⟩
                            have HE4 := E4.out
                            rw [HQ.out] at HE4
                            rw [HE4]
                            have X9 := Lib.hid (X8.out.next hb9)
                            have u4 : w9.cell? ⟨w.heap.size, 4, none⟩ = some (.int .i64 x.d.off) := X9.out.blk.cell 4
                            have u2 : w9.cell? ⟨w.heap.size, 2, none⟩ = some (.int .i64 x.d.size) := X9.out.blk.cell 2
                            go_wp2
                            go_ret
                            exact ⟨by rw [E.out]; first | rfl | simp [*], by first | exact X9.out.below | exact X8.out.below | exact X7.out.below | exact X.out.below⟩
                          · skip
                            have z6 : ¬ x.d.off ≤ 1099511627776 := hh6
                            have E : Hid (D = false) := HD.out.symm.trans (decide_eq_false (fun h0 => hh6 (by have h := (right_k1 hk).1 h0; exact h.2.2.2.2.2.2)))
                            clear hk hh0 hh1 hh2 hh3 hh4 hh5 hh6
                            go_wp2_with fail
                            refine (RNamed_any x.d.name HF.out _).mono ?_
                            rintro e wn ⟨rfl, rfl⟩
                            rw [E2.out]
                            go_wp2_with ((with_reducible refine at_dst (some 89) ?_); refine wpList_loadAtG (op := ⟨some 89, _, _, _, _, _⟩) (want_some rfl rfl rfl rfl) 28 (.tmp 1) rfl ⟨w.heap.size, 0, none⟩ rfl x.cells d0 X7.out.blk.at hu0 hd0 iR ?_)
                            refine (summed_any x HX.out _).mono ?_
                            rintro e w8 ⟨rfl, hb8⟩
                            rw [E3.out]
                            have X8 := Lib.hid (X7.out.next hb8)
                            have y4 : w8.cell? ⟨w.heap.size, 4, none⟩ = some (.int .i64 x.d.off) := X8.out.blk.cell 4
                            have y2 : w8.cell? ⟨w.heap.size, 2, none⟩ = some (.int .i64 x.d.size) := X8.out.blk.cell 2
                            have BSH := Lib.hid (HSB.out.below hb8 HSB.out.lt)
                            have k0 := BSH.out.cell 0
                            have k1 := BSH.out.cell 1
                            have k2 := BSH.out.cell 2
                            simp only [List.getElem?_cons_zero, List.getElem?_cons_succ] at k0 k1 k2
                            go_wp2_with fail
                            refine (RefRight_any x.d.size x.d.block q _).mono ?_
                            rintro e w9 ⟨rfl, hb9⟩
                            have HE4 := E4.out
                            rw [HQ.out] at HE4
                            rw [HE4]
                            have X9 := Lib.hid (X8.out.next hb9)
                            have u4 : w9.cell? ⟨w.heap.size, 4, none⟩ = some (.int .i64 x.d.off) := X9.out.blk.cell 4
                            have u2 : w9.cell? ⟨w.heap.size, 2, none⟩ = some (.int .i64 x.d.size) := X9.out.blk.cell 2
                            go_wp2
                            go_ret
                            exact ⟨by rw [E.out]; first | rfl | simp [*], by first | exact X9.out.below | exact X8.out.below | exact X7.out.below | exact X.out.below⟩
                        · skip
                          have z5 : ¬ x.d.size ≤ x.d.off := hh5
                          have E : Hid (D = false) := HD.out.symm.trans (decide_eq_false (fun h0 => hh5 (by have h := (right_k1 hk).1 h0; exact h.2.2.2.2.2.1)))
                          clear hk hh0 hh1 hh2 hh3 hh4 hh5
                          go_wp2_with fail
                          refine (RNamed_any x.d.name HF.out _).mono ?_
                          rintro e wn ⟨rfl, rfl⟩
                          rw [E2.out]
                          go_wp2_with ((with_reducible refine at_dst (some 89) ?_); refine wpList_loadAtG (op := ⟨some 89, _, _, _, _, _⟩) (want_some rfl rfl rfl rfl) 28 (.tmp 1) rfl ⟨w.heap.size, 0, none⟩ rfl x.cells d0 X7.out.blk.at hu0 hd0 iR ?_)
                          refine (summed_any x HX.out _).mono ?_
                          rintro e w8 ⟨rfl, hb8⟩
                          rw [E3.out]
                          have X8 := Lib.hid (X7.out.next hb8)
                          have y4 : w8.cell? ⟨w.heap.size, 4, none⟩ = some (.int .i64 x.d.off) := X8.out.blk.cell 4
                          have y2 : w8.cell? ⟨w.heap.size, 2, none⟩ = some (.int .i64 x.d.size) := X8.out.blk.cell 2
                          have BSH := Lib.hid (HSB.out.below hb8 HSB.out.lt)
                          have k0 := BSH.out.cell 0
                          have k1 := BSH.out.cell 1
                          have k2 := BSH.out.cell 2
                          simp only [List.getElem?_cons_zero, List.getElem?_cons_succ] at k0 k1 k2
                          go_wp2_with fail
                          refine (RefRight_any x.d.size x.d.block q _).mono ?_
                          rintro e w9 ⟨rfl, hb9⟩
                          have HE4 := E4.out
                          rw [HQ.out] at HE4
                          rw [HE4]
                          have X9 := Lib.hid (X8.out.next hb9)
                          have u4 : w9.cell? ⟨w.heap.size, 4, none⟩ = some (.int .i64 x.d.off) := X9.out.blk.cell 4
                          have u2 : w9.cell? ⟨w.heap.size, 2, none⟩ = some (.int .i64 x.d.size) := X9.out.blk.cell 2
                          go_wp2
                          go_ret
                          exact ⟨by rw [E.out]; first | rfl | simp [*], by first | exact X9.out.below | exact X8.out.below | exact X7.out.below | exact X.out.below⟩
                      · skip
                        have E4 := Lib.hid (decide_eq_false (p := Rgt x.d.size x.d.block (szOf x.d.alg)) hh4)
                        have E : Hid (D = false) := HD.out.symm.trans (decide_eq_false (fun h0 => hh4 (by have h := (right_k1 hk).1 h0; exact h.2.2.2.2.1)))
                        clear hk hh0 hh1 hh2 hh3 hh4
                        go_wp2_with fail
                        refine (RNamed_any x.d.name HF.out _).mono ?_
                        rintro e wn ⟨rfl, rfl⟩
                        rw [E2.out]
                        go_wp2_with ((with_reducible refine at_dst (some 89) ?_); refine wpList_loadAtG (op := ⟨some 89, _, _, _, _, _⟩) (want_some rfl rfl rfl rfl) 28 (.tmp 1) rfl ⟨w.heap.size, 0, none⟩ rfl x.cells d0 X7.out.blk.at hu0 hd0 iR ?_)
                        refine (summed_any x HX.out _).mono ?_
                        rintro e w8 ⟨rfl, hb8⟩
                        rw [E3.out]
                        have X8 := Lib.hid (X7.out.next hb8)
                        have y4 : w8.cell? ⟨w.heap.size, 4, none⟩ = some (.int .i64 x.d.off) := X8.out.blk.cell 4
                        have y2 : w8.cell? ⟨w.heap.size, 2, none⟩ = some (.int .i64 x.d.size) := X8.out.blk.cell 2
                        have BSH := Lib.hid (HSB.out.below hb8 HSB.out.lt)
                        have k0 := BSH.out.cell 0
                        have k1 := BSH.out.cell 1
                        have k2 := BSH.out.cell 2
                        simp only [List.getElem?_cons_zero, List.getElem?_cons_succ] at k0 k1 k2
                        go_wp2_with fail
                        refine (RefRight_any x.d.size x.d.block q _).mono ?_
                        rintro e w9 ⟨rfl, hb9⟩
                        have HE4 := E4.out
                        rw [HQ.out] at HE4
                        rw [HE4]
                        have X9 := Lib.hid (X8.out.next hb9)
                        have u4 : w9.cell? ⟨w.heap.size, 4, none⟩ = some (.int .i64 x.d.off) := X9.out.blk.cell 4
                        have u2 : w9.cell? ⟨w.heap.size, 2, none⟩ = some (.int .i64 x.d.size) := X9.out.blk.cell 2
                        go_wp2
                        go_ret
                        exact ⟨by rw [E.out]; first | rfl | simp [*], by first | exact X9.out.below | exact X8.out.below | exact X7.out.below | exact X.out.below⟩
                    · skip
                      have E3 := Lib.hid (decide_eq_false (p := Summed x.d) hh3)
                      have E : Hid (D = false) := HD.out.symm.trans (decide_eq_false (fun h0 => hh3 (by have h := (right_k1 hk).1 h0; exact h.2.2.2.1)))
                      clear hk hh0 hh1 hh2 hh3
                      go_wp2_with fail
                      refine (RNamed_any x.d.name HF.out _).mono ?_
                      rintro e wn ⟨rfl, rfl⟩
                      rw [E2.out]
                      go_wp2_with ((with_reducible refine at_dst (some 89) ?_); refine wpList_loadAtG (op := ⟨some 89, _, _, _, _, _⟩) (want_some rfl rfl rfl rfl) 28 (.tmp 1) rfl ⟨w.heap.size, 0, none⟩ rfl x.cells d0 X7.out.blk.at hu0 hd0 iR ?_)
                      refine (summed_any x HX.out _).mono ?_
                      rintro e w8 ⟨rfl, hb8⟩
                      rw [E3.out]
                      have X8 := Lib.hid (X7.out.next hb8)
                      have y4 : w8.cell? ⟨w.heap.size, 4, none⟩ = some (.int .i64 x.d.off) := X8.out.blk.cell 4
                      have y2 : w8.cell? ⟨w.heap.size, 2, none⟩ = some (.int .i64 x.d.size) := X8.out.blk.cell 2
                      go_wp2
                      go_ret
                      exact ⟨by rw [E.out]; first | rfl | simp [*], by first | exact X9.out.below | exact X8.out.below | exact X7.out.below | exact X.out.below⟩
                  · skip
                    have E2 := Lib.hid (decide_eq_false (p := Named x.d.name) hh2)
                    have E : Hid (D = false) := HD.out.symm.trans (decide_eq_false (fun h0 => hh2 (by have h := (right_k1 hk).1 h0; exact h.2.2.1)))
                    clear hk hh0 hh1 hh2
                    go_wp2_with fail
                    refine (RNamed_any x.d.name HF.out _).mono ?_
                    rintro e wn ⟨rfl, rfl⟩
                    rw [E2.out]
                    go_wp2
                    go_ret
                    exact ⟨by rw [E.out]; first | rfl | simp [*], by first | exact X9.out.below | exact X8.out.below | exact X7.out.below | exact X.out.below⟩
                · skip
                  have z1 : ((x.s4.n : Int) == 0) = false := beq_eq_false_iff_ne.2 (by rw [← HX.out.value]; omega)
                  have E : Hid (D = false) := HD.out.symm.trans (decide_eq_false (fun h0 => hh1 (by have h := (right_k1 hk).1 h0; exact h.2.1)))
                  clear hk hh0 hh1
                  go_wp2
                  go_ret
                  exact ⟨by rw [E.out]; first | rfl | simp [*], by first | exact X9.out.below | exact X8.out.below | exact X7.out.below | exact X.out.below⟩
              · skip
                obtain rfl : b5 = false := H5.out.symm.trans (decide_eq_false hh0)
                have E : Hid (D = false) := HD.out.symm.trans (decide_eq_false (fun h0 => hh0 (by have h := (right_k1 hk).1 h0; exact h.1)))
                clear hk hh0
                go_wp2
                go_ret
                exact ⟨by rw [E.out]; first | rfl | simp [*], by first | exact X9.out.below | exact X8.out.below | exact X7.out.below | exact X.out.below⟩
          · as_aux_lemma =>
            rw [hk] at c0
            by_cases hh0 : NoShape x.d
            · skip
              obtain rfl : b4 = true := H4.out.symm.trans (decide_eq_true hh0)
              by_cases hh1 : NoChain x.d
              · skip
                obtain rfl : b5 = true := H5.out.symm.trans (decide_eq_true hh1)
                by_cases hh2 : x.d.value.length = 0
                · skip
                  have z2 : ((x.s4.n : Int) == 0) = true := beq_iff_eq.2 (by rw [← HX.out.value]; omega)
                  by_cases hh3 : Named x.d.name
                  · skip
                    have E3 := Lib.hid (decide_eq_true (p := Named x.d.name) hh3)
                    by_cases hh4 : Summed x.d
                    · skip
                      have E4 := Lib.hid (decide_eq_true (p := Summed x.d) hh4)
                      by_cases hh5 : 0 ≤ x.d.size
                      · skip
                        have z5 : 0 ≤ x.d.size := hh5
                        by_cases hh6 : x.d.size ≤ 1099511627776
                        · skip
                          have z6 : x.d.size ≤ 1099511627776 := hh6
                          have E : Hid (D = true) := HD.out.symm.trans (decide_eq_true ((right_k2 hk).2 ⟨hh0, hh1, hh2, hh3, hh4, hh5, hh6⟩))
                          clear hk hh0 hh1 hh2 hh3 hh4 hh5 hh6
                          go_wp2_with fail
                          refine (RNamed_any x.d.name HF.out _).mono ?_
                          rintro e wn ⟨rfl, rfl⟩
                          rw [E3.out]
                          go_wp2_with ((with_reducible refine at_dst (some 127) ?_); refine wpList_loadAtG (op := ⟨some 127, _, _, _, _, _⟩) (want_some rfl rfl rfl rfl) 28 (.tmp 1) rfl ⟨w.heap.size, 0, none⟩ rfl x.cells d0 X.out.blk.at hu0 hd0 iR ?_)
                          refine (summed_any x HX.out _).mono ?_
                          rintro e w8 ⟨rfl, hb8⟩
                          rw [E4.out]
                          have X8 := Lib.hid (X.out.next hb8)
                          have y2 : w8.cell? ⟨w.heap.size, 2, none⟩ = some (.int .i64 x.d.size) := X8.out.blk.cell 2
                          clear hb8
                          go_wp2
                          go_ret
                          exact ⟨by rw [E.out]; first | rfl | simp [*], by first | exact X9.out.below | exact X8.out.below | exact X7.out.below | exact X.out.below⟩
                        · skip
                          have z6 : ¬ x.d.size ≤ 1099511627776 := hh6
                          have E : Hid (D = false) := HD.out.symm.trans (decide_eq_false (fun h0 => hh6 (by have h := (right_k2 hk).1 h0; exact h.2.2.2.2.2.2)))
                          clear hk hh0 hh1 hh2 hh3 hh4 hh5 hh6
                          go_wp2_with fail
                          refine (RNamed_any x.d.name HF.out _).mono ?_
                          rintro e wn ⟨rfl, rfl⟩
                          rw [E3.out]
                          go_wp2_with ((with_reducible refine at_dst (some 127) ?_); refine wpList_loadAtG (op := ⟨some 127, _, _, _, _, _⟩) (want_some rfl rfl rfl rfl) 28 (.tmp 1) rfl ⟨w.heap.size, 0, none⟩ rfl x.cells d0 X.out.blk.at hu0 hd0 iR ?_)
                          refine (summed_any x HX.out _).mono ?_
                          rintro e w8 ⟨rfl, hb8⟩
                          rw [E4.out]
                          have X8 := Lib.hid (X.out.next hb8)
                          have y2 : w8.cell? ⟨w.heap.size, 2, none⟩ = some (.int .i64 x.d.size) := X8.out.blk.cell 2
                          clear hb8
                          go_wp2
                          go_ret
                          exact ⟨by rw [E.out]; first | rfl | simp [*], by first | exact X9.out.below | exact X8.out.below | exact X7.out.below | exact X.out.below⟩
                      · skip
                        have z5 : ¬ 0 ≤ x.d.size := hh5
                        have E : Hid (D = false) := HD.out.symm.trans (decide_eq_false (fun h0 => hh5 (by have h := (right_k2 hk).1 h0; exact h.2.2.2.2.2.1)))
                        clear hk hh0 hh1 hh2 hh3 hh4 hh5
                        go_wp2_with fail
                        refine (RNamed_any x.d.name HF.out _).mono ?_
                        rintro e wn ⟨rfl, rfl⟩
                        rw [E3.out]
                        go_wp2_with ((with_reducible refine at_dst (some 127) ?_); refine wpList_loadAtG (op := ⟨some 127, _, _, _, _, _⟩) (want_some rfl rfl rfl rfl) 28 (.tmp 1) rfl ⟨w.heap.size, 0, none⟩ rfl x.cells d0 X.out.blk.at hu0 hd0 iR ?_)
                        refine (summed_any x HX.out _).mono ?_
                        rintro e w8 ⟨rfl, hb8⟩
                        rw [E4.out]
                        have X8 := Lib.hid (X.out.next hb8)
                        have y2 : w8.cell? ⟨w.heap.size, 2, none⟩ = some (.int .i64 x.d.size) := X8.out.blk.cell 2
                        clear hb8
                        go_wp2
                        go_ret
                        exact ⟨by rw [E.out]; first | rfl | simp [*], by first | exact X9.out.below | exact X8.out.below | exact X7.out.below | exact X.out.below⟩
                    · skip
                      have E4 := Lib.hid (decide_eq_false (p := Summed x.d) hh4)
                      have E : Hid (D = false) := HD.out.symm.trans (decide_eq_false (fun h0 => hh4 (by have h := (right_k2 hk).1 h0; exact h.2.2.2.2.1)))
                      clear hk hh0 hh1 hh2 hh3 hh4
                      go_wp2_with fail
                      refine (RNamed_any x.d.name HF.out _).mono ?_
                      rintro e wn ⟨rfl, rfl⟩
                      rw [E3.out]
                      go_wp2_with ((with_reducible refine at_dst (some 127) ?_); refine wpList_loadAtG (op := ⟨some 127, _, _, _, _, _⟩) (want_some rfl rfl rfl rfl) 28 (.tmp 1) rfl ⟨w.heap.size, 0, none⟩ rfl x.cells d0 X.out.blk.at hu0 hd0 iR ?_)
                      refine (summed_any x HX.out _).mono ?_
                      rintro e w8 ⟨rfl, hb8⟩
                      rw [E4.out]
                      have X8 := Lib.hid (X.out.next hb8)
                      have y2 : w8.cell? ⟨w.heap.size, 2, none⟩ = some (.int .i64 x.d.size) := X8.out.blk.cell 2
                      clear hb8
                      go_wp2
                      go_ret
                      exact ⟨by rw [E.out]; first | rfl | simp [*], by first | exact X9.out.below | exact X8.out.below | exact X7.out.below | exact X.out.below⟩
                  · skip
                    have E3 := Lib.hid (decide_eq_false (p := Named x.d.name) hh3)
                    have E : Hid (D = false) := HD.out.symm.trans (decide_eq_false (fun h0 => hh3 (by have h := (right_k2 hk).1 h0; exact h.2.2.2.1)))
                    clear hk hh0 hh1 hh2 hh3
                    go_wp2_with fail
                    refine (RNamed_any x.d.name HF.out _).mono ?_
                    rintro e wn ⟨rfl, rfl⟩
                    rw [E3.out]
                    go_wp2
                    go_ret
                    exact ⟨by rw [E.out]; first | rfl | simp [*], by first | exact X9.out.below | exact X8.out.below | exact X7.out.below | exact X.out.below⟩
                · skip
                  have z2 : ((x.s4.n : Int) == 0) = false := beq_eq_false_iff_ne.2 (by rw [← HX.out.value]; omega)
                  have E : Hid (D = false) := HD.out.symm.trans (decide_eq_false (fun h0 => hh2 (by have h := (right_k2 hk).1 h0; exact h.2.2.1)))
                  clear hk hh0 hh1 hh2
                  go_wp2
                  go_ret
                  exact ⟨by rw [E.out]; first | rfl | simp [*], by first | exact X9.out.below | exact X8.out.below | exact X7.out.below | exact X.out.below⟩
              · skip
                obtain rfl : b5 = false := H5.out.symm.trans (decide_eq_false hh1)
                have E : Hid (D = false) := HD.out.symm.trans (decide_eq_false (fun h0 => hh1 (by have h := (right_k2 hk).1 h0; exact h.2.1)))
                clear hk hh0 hh1
                go_wp2
                go_ret
                exact ⟨by rw [E.out]; first | rfl | simp [*], by first | exact X9.out.below | exact X8.out.below | exact X7.out.below | exact X.out.below⟩
            · skip
              obtain rfl : b4 = false := H4.out.symm.trans (decide_eq_false hh0)
              have E : Hid (D = false) := HD.out.symm.trans (decide_eq_false (fun h0 => hh0 (by have h := (right_k2 hk).1 h0; exact h.1)))
              clear hk hh0
              go_wp2
              go_ret
              exact ⟨by rw [E.out]; first | rfl | simp [*], by first | exact X9.out.below | exact X8.out.below | exact X7.out.below | exact X.out.below⟩
          · as_aux_lemma =>
            rw [hk] at c0
            by_cases hh0 : NoSum x.d
            · skip
              obtain rfl : b3 = true := H3.out.symm.trans (decide_eq_true hh0)
              by_cases hh1 : NoShape x.d
              · skip
                obtain rfl : b4 = true := H4.out.symm.trans (decide_eq_true hh1)
                by_cases hh2 : NoChain x.d
                · skip
                  obtain rfl : b5 = true := H5.out.symm.trans (decide_eq_true hh2)
                  by_cases hh3 : x.d.name.length = 0
                  · skip
                    have z3 : ((str x.d.name).toList == ([] : List UInt8)) = true := by rw [List.eq_nil_of_length_eq_zero hh3, str_toList]; rfl
                    by_cases hh4 : x.d.value.length ≤ 256
                    · skip
                      have z4 : (x.s4.n : Int) ≤ 256 := by rw [← HX.out.value]; omega
                      have E : Hid (D = true) := HD.out.symm.trans (decide_eq_true ((right_k3 hk).2 ⟨hh0, hh1, hh2, hh3, hh4⟩))
                      clear hk hh0 hh1 hh2 hh3 hh4
                      go_wp2
                      go_ret
                      exact ⟨by rw [E.out]; first | rfl | simp [*], by first | exact X9.out.below | exact X8.out.below | exact X7.out.below | exact X.out.below⟩
                    · skip
                      have z4 : ¬ (x.s4.n : Int) ≤ 256 := by rw [← HX.out.value]; omega
                      have E : Hid (D = false) := HD.out.symm.trans (decide_eq_false (fun h0 => hh4 (by have h := (right_k3 hk).1 h0; exact h.2.2.2.2)))
                      clear hk hh0 hh1 hh2 hh3 hh4
                      go_wp2
                      go_ret
                      exact ⟨by rw [E.out]; first | rfl | simp [*], by first | exact X9.out.below | exact X8.out.below | exact X7.out.below | exact X.out.below⟩
                  · skip
                    have z3 : ((str x.d.name).toList == ([] : List UInt8)) = false := str_empty (fun e => hh3 (by rw [e]; rfl))
                    have E : Hid (D = false) := HD.out.symm.trans (decide_eq_false (fun h0 => hh3 (by have h := (right_k3 hk).1 h0; exact h.2.2.2.1)))
                    clear hk hh0 hh1 hh2 hh3
                    go_wp2
                    go_ret
                    exact ⟨by rw [E.out]; first | rfl | simp [*], by first | exact X9.out.below | exact X8.out.below | exact X7.out.below | exact X.out.below⟩
                · skip
                  obtain rfl : b5 = false := H5.out.symm.trans (decide_eq_false hh2)
                  have E : Hid (D = false) := HD.out.symm.trans (decide_eq_false (fun h0 => hh2 (by have h := (right_k3 hk).1 h0; exact h.2.2.1)))
                  clear hk hh0 hh1 hh2
                  go_wp2
                  go_ret
                  exact ⟨by rw [E.out]; first | rfl | simp [*], by first | exact X9.out.below | exact X8.out.below | exact X7.out.below | exact X.out.below⟩
              · skip
                obtain rfl : b4 = false := H4.out.symm.trans (decide_eq_false hh1)
                have E : Hid (D = false) := HD.out.symm.trans (decide_eq_false (fun h0 => hh1 (by have h := (right_k3 hk).1 h0; exact h.2.1)))
                clear hk hh0 hh1
                go_wp2
                go_ret
                exact ⟨by rw [E.out]; first | rfl | simp [*], by first | exact X9.out.below | exact X8.out.below | exact X7.out.below | exact X.out.below⟩
            · skip
              obtain rfl : b3 = false := H3.out.symm.trans (decide_eq_false hh0)
              have E : Hid (D = false) := HD.out.symm.trans (decide_eq_false (fun h0 => hh0 (by have h := (right_k3 hk).1 h0; exact h.1)))
              clear hk hh0
              go_wp2
              go_ret
              exact ⟨by rw [E.out]; first | rfl | simp [*], by first | exact X9.out.below | exact X8.out.below | exact X7.out.below | exact X.out.below⟩
          · as_aux_lemma =>
            rw [hk] at c0
            by_cases hh0 : NoSum x.d
            · skip
              obtain rfl : b3 = true := H3.out.symm.trans (decide_eq_true hh0)
              by_cases hh1 : NoShape x.d
              · skip
                obtain rfl : b4 = true := H4.out.symm.trans (decide_eq_true hh1)
                by_cases hh2 : x.d.value.length = 0
                · skip
                  have z2 : ((x.s4.n : Int) == 0) = true := beq_iff_eq.2 (by rw [← HX.out.value]; omega)
                  by_cases hh3 : Named x.d.name
                  · skip
                    have E3 := Lib.hid (decide_eq_true (p := Named x.d.name) hh3)
                    by_cases hh4 : 1 ≤ x.d.loc
                    · skip
                      have z4 : 1 ≤ x.d.loc := hh4
                      by_cases hh5 : x.d.loc ≤ 31
                      · skip
                        have z5 : x.d.loc ≤ 31 := hh5
                        by_cases hh6 : 1 ≤ x.d.key.length
                        · skip
                          have z6 : (1 : Int) ≤ (x.s3.n : Int) := by rw [← HX.out.key]; omega
                          by_cases hh7 : x.d.key.length ≤ 1032
                          · skip
                            have z7 : (x.s3.n : Int) ≤ 1032 := by rw [← HX.out.key]; omega
                            have E : Hid (D = true) := HD.out.symm.trans (decide_eq_true ((right_k4 hk).2 ⟨hh0, hh1, hh2, hh3, hh4, hh5, hh6, hh7⟩))
                            clear hk hh0 hh1 hh2 hh3 hh4 hh5 hh6 hh7
                            go_wp2_with fail
                            refine (RNamed_any x.d.name HF.out _).mono ?_
                            rintro e wn ⟨rfl, rfl⟩
                            rw [E3.out]
                            go_wp2
                            go_ret
                            exact ⟨by rw [E.out]; first | rfl | simp [*], by first | exact X9.out.below | exact X8.out.below | exact X7.out.below | exact X.out.below⟩
                          · skip
                            have z7 : ¬ (x.s3.n : Int) ≤ 1032 := by rw [← HX.out.key]; omega
                            have E : Hid (D = false) := HD.out.symm.trans (decide_eq_false (fun h0 => hh7 (by have h := (right_k4 hk).1 h0; exact h.2.2.2.2.2.2.2)))
                            clear hk hh0 hh1 hh2 hh3 hh4 hh5 hh6 hh7
                            go_wp2_with fail
                            refine (RNamed_any x.d.name HF.out _).mono ?_
                            rintro e wn ⟨rfl, rfl⟩
                            rw [E3.out]
                            go_wp2
                            go_ret
                            exact ⟨by rw [E.out]; first | rfl | simp [*], by first | exact X9.out.below | exact X8.out.below | exact X7.out.below | exact X.out.below⟩
                        · skip
                          have z6 : ¬ (1 : Int) ≤ (x.s3.n : Int) := by rw [← HX.out.key]; omega
                          have E : Hid (D = false) := HD.out.symm.trans (decide_eq_false (fun h0 => hh6 (by have h := (right_k4 hk).1 h0; exact h.2.2.2.2.2.2.1)))
                          clear hk hh0 hh1 hh2 hh3 hh4 hh5 hh6
                          go_wp2_with fail
                          refine (RNamed_any x.d.name HF.out _).mono ?_
                          rintro e wn ⟨rfl, rfl⟩
                          rw [E3.out]
                          go_wp2
                          go_ret
                          exact ⟨by rw [E.out]; first | rfl | simp [*], by first | exact X9.out.below | exact X8.out.below | exact X7.out.below | exact X.out.below⟩
                      · skip
                        have z5 : ¬ x.d.loc ≤ 31 := hh5
                        have E : Hid (D = false) := HD.out.symm.trans (decide_eq_false (fun h0 => hh5 (by have h := (right_k4 hk).1 h0; exact h.2.2.2.2.2.1)))
                        clear hk hh0 hh1 hh2 hh3 hh4 hh5
                        go_wp2_with fail
                        refine (RNamed_any x.d.name HF.out _).mono ?_
                        rintro e wn ⟨rfl, rfl⟩
                        rw [E3.out]
                        go_wp2
                        go_ret
                        exact ⟨by rw [E.out]; first | rfl | simp [*], by first | exact X9.out.below | exact X8.out.below | exact X7.out.below | exact X.out.below⟩
                    · skip
                      have z4 : ¬ 1 ≤ x.d.loc := hh4
                      have E : Hid (D = false) := HD.out.symm.trans (decide_eq_false (fun h0 => hh4 (by have h := (right_k4 hk).1 h0; exact h.2.2.2.2.1)))
                      clear hk hh0 hh1 hh2 hh3 hh4
                      go_wp2_with fail
                      refine (RNamed_any x.d.name HF.out _).mono ?_
                      rintro e wn ⟨rfl, rfl⟩
                      rw [E3.out]
                      go_wp2
                      go_ret
                      exact ⟨by rw [E.out]; first | rfl | simp [*], by first | exact X9.out.below | exact X8.out.below | exact X7.out.below | exact X.out.below⟩
                  · skip
                    have E3 := Lib.hid (decide_eq_false (p := Named x.d.name) hh3)
                    have E : Hid (D = false) := HD.out.symm.trans (decide_eq_false (fun h0 => hh3 (by have h := (right_k4 hk).1 h0; exact h.2.2.2.1)))
                    clear hk hh0 hh1 hh2 hh3
                    go_wp2_with fail
                    refine (RNamed_any x.d.name HF.out _).mono ?_
                    rintro e wn ⟨rfl, rfl⟩
                    rw [E3.out]
                    go_wp2
                    go_ret
                    exact ⟨by rw [E.out]; first | rfl | simp [*], by first | exact X9.out.below | exact X8.out.below | exact X7.out.below | exact X.out.below⟩
                · skip
                  have z2 : ((x.s4.n : Int) == 0) = false := beq_eq_false_iff_ne.2 (by rw [← HX.out.value]; omega)
                  have E : Hid (D = false) := HD.out.symm.trans (decide_eq_false (fun h0 => hh2 (by have h := (right_k4 hk).1 h0; exact h.2.2.1)))
                  clear hk hh0 hh1 hh2
                  go_wp2
                  go_ret
                  exact ⟨by rw [E.out]; first | rfl | simp [*], by first | exact X9.out.below | exact X8.out.below | exact X7.out.below | exact X.out.below⟩
              · skip
                obtain rfl : b4 = false := H4.out.symm.trans (decide_eq_false hh1)
                have E : Hid (D = false) := HD.out.symm.trans (decide_eq_false (fun h0 => hh1 (by have h := (right_k4 hk).1 h0; exact h.2.1)))
                clear hk hh0 hh1
                go_wp2
                go_ret
                exact ⟨by rw [E.out]; first | rfl | simp [*], by first | exact X9.out.below | exact X8.out.below | exact X7.out.below | exact X.out.below⟩
            · skip
              obtain rfl : b3 = false := H3.out.symm.trans (decide_eq_false hh0)
              have E : Hid (D = false) := HD.out.symm.trans (decide_eq_false (fun h0 => hh0 (by have h := (right_k4 hk).1 h0; exact h.1)))
              clear hk hh0
              go_wp2
              go_ret
              exact ⟨by rw [E.out]; first | rfl | simp [*], by first | exact X9.out.below | exact X8.out.below | exact X7.out.below | exact X.out.below⟩
        · have E : Hid (D = false) := HD.out.symm.trans (decide_eq_false (right_out hin))
          have y0 : (x.d.kind == 0) = false := by simp; omega
          have y1 : (x.d.kind == 1) = false := by simp; omega
          have y2 : (x.d.kind == 2) = false := by simp; omega
          have y3 : (x.d.kind == 3) = false := by simp; omega
          have y4 : (x.d.kind == 4) = false := by simp; omega
          clear hin
          go_wp2
          go_ret
          exact ⟨by rw [E.out]; rfl, X.out.below⟩
end Go.Proofs.YtfeihdmjcppbaaaDoor
