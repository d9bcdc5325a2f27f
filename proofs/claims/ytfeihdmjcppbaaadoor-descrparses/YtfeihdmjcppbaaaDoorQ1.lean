/-
  What the document's Named and summed answer. No condition but that names are bytes.
-/
import Derived.Test.YtfeihdmjcppbaaaDoorP4
import Derived.Deep.QuietTactic
import Derived.Deep.DeepCutAuto
import Derived.Deep.CutBlock
namespace Go.Proofs.YtfeihdmjcppbaaaDoor
open Go.RowKit
set_option linter.unusedVariables false
set_option linter.unusedSimpArgs false
set_option maxRecDepth 100000

set_option maxHeartbeats 2000000 in
theorem RNamed_any (l : List Nat) (hf : Fit 256 l) (w : World) : Calls Tryd.prog 23 #[.string (str l)] w fun e w' => e = .returned (.bool (decide (Named l))) ∧ w = w' := by
  have eN : decide (Named l) = decide (1 ≤ l.length ∧ l.length ≤ 24 ∧ l.all letter = true) := decide_eq_decide.2 (by unfold Named; exact Iff.rfl)
  rw [eN]
  clear eN
  have hsz := str_size l
  have HF := Lib.hid hf
  obtain ⟨n, hn⟩ : ∃ n, l.length = n := ⟨_, rfl⟩
  rw [hn] at hsz ⊢
  have HN := Lib.hid hn
  obtain ⟨D, hD⟩ : ∃ D, decide (1 ≤ n ∧ n ≤ 24 ∧ l.all letter = true) = D := ⟨_, rfl⟩
  have HD := Lib.hid hD
  rw [hD]
  clear hD
  have HIX : Hid (∀ (i c : Nat), l[i]? = some c → ∀ W, (Instr.index 9 (.string (str l)) (.int .i64 (i : Int))).run Tryd.prog W = .ok (.int .u8 (c : Int)) W) := fun i c h W => str_index l i c hf h i rfl W
  obtain ⟨T, hT⟩ : ∃ T, str l = T := ⟨_, rfl⟩
  rw [hT] at hsz HIX ⊢
  clear hn hT hf
  by_cases h1 : 1 ≤ n
  · have z1 : ¬ (n : Int) < 1 := by omega
    by_cases h2 : n ≤ 24
    · have z2 : ¬ (24 : Int) < (n : Int) := by omega
      have HH := Lib.hid (And.intro h1 h2)
      clear h1 h2
      go_enter Tryd.func23, Tryd.ntmps23
      go_wp2
      go_loopw [3] (fun o wr => ∃ i : Nat, i ≤ n ∧ o = .int .i64 (i : Int) ∧ (∀ j c, j < i → l[j]? = some c → letter c = true) ∧ w = wr) (fun o _ => n - (intOf o).toNat)
      case atStart => exact ⟨0, Nat.zero_le _, rfl, fun j c h => absurd h (Nat.not_lt_zero j), rfl⟩
      case round =>
        obtain ⟨i, hi, rfl, hall, rfl⟩ := hrel
        have HA := Lib.hid hall
        clear hall
        by_cases hin : i < n
        · have hin2 : (i : Int) < (n : Int) := by omega
          obtain ⟨c, hc⟩ : ∃ c, l[i]? = some c := ⟨_, List.getElem?_eq_getElem (by rw [HN.out]; exact hin)⟩
          have hc1 := HF.out c (List.mem_of_getElem? hc)
          have hix := HIX.out i c hc
          have HC := Lib.hid hc
          clear hc
          rcases (by omega : (97 ≤ c ∧ c ≤ 122) ∨ (122 < c) ∨ (48 ≤ c ∧ c ≤ 57) ∨ (c = 95) ∨ (57 < c ∧ c < 97 ∧ c ≠ 95) ∨ (c < 48)) with hq | hq | hq | hq | hq | hq
          · skip
            have q0 : (97 : Int) ≤ (c : Int) := by omega
            have q1 : (c : Int) ≤ 122 := by omega
            have HLT : Hid (letter c = true) := decide_eq_true (by omega)
            clear hq
            go_wp2
            go_roundw
            case rel =>
              refine ⟨i + 1, by omega, by go_num, fun j c' hj hc' => ?_, trivial⟩
              by_cases e : j = i
              · subst e
                rw [HC.out] at hc'
                injection hc' with hc'
                rw [← hc']; exact HLT.out
              · exact HA.out j c' (by omega) hc'
            case measure => simp [intOf]; omega
          · skip
            have q0 : (97 : Int) ≤ (c : Int) := by omega
            have q1 : ¬ (c : Int) ≤ 122 := by omega
            have q2 : (48 : Int) ≤ (c : Int) := by omega
            have q3 : ¬ (c : Int) ≤ 57 := by omega
            have q4 : ((c : Int) != 95) = true := by simp; omega
            have HLT : Hid (letter c = false) := decide_eq_false (by omega)
            have E : Hid (D = false) := HD.out.symm.trans (decide_eq_false (fun h => by
              have := List.all_eq_true.1 h.2.2 c (List.mem_of_getElem? HC.out)
              rw [HLT.out] at this
              cases this))
            clear hq
            go_wp2
            go_ret
            exact ⟨by rw [E.out]; rfl, rfl⟩
          · skip
            have q0 : ¬ (97 : Int) ≤ (c : Int) := by omega
            have q1 : (48 : Int) ≤ (c : Int) := by omega
            have q2 : (c : Int) ≤ 57 := by omega
            have HLT : Hid (letter c = true) := decide_eq_true (by omega)
            clear hq
            go_wp2
            go_roundw
            case rel =>
              refine ⟨i + 1, by omega, by go_num, fun j c' hj hc' => ?_, trivial⟩
              by_cases e : j = i
              · subst e
                rw [HC.out] at hc'
                injection hc' with hc'
                rw [← hc']; exact HLT.out
              · exact HA.out j c' (by omega) hc'
            case measure => simp [intOf]; omega
          · skip
            have q0 : ¬ (97 : Int) ≤ (c : Int) := by omega
            have q1 : (48 : Int) ≤ (c : Int) := by omega
            have q2 : ¬ (c : Int) ≤ 57 := by omega
            have q3 : ((c : Int) != 95) = false := by simp; omega
            have HLT : Hid (letter c = true) := decide_eq_true (by omega)
            clear hq
            go_wp2
            go_roundw
            case rel =>
              refine ⟨i + 1, by omega, by go_num, fun j c' hj hc' => ?_, trivial⟩
              by_cases e : j = i
              · subst e
                rw [HC.out] at hc'
                injection hc' with hc'
                rw [← hc']; exact HLT.out
              · exact HA.out j c' (by omega) hc'
            case measure => simp [intOf]; omega
          · skip
            have q0 : ¬ (97 : Int) ≤ (c : Int) := by omega
            have q1 : (48 : Int) ≤ (c : Int) := by omega
            have q2 : ¬ (c : Int) ≤ 57 := by omega
            have q3 : ((c : Int) != 95) = true := by simp; omega
            have HLT : Hid (letter c = false) := decide_eq_false (by omega)
            have E : Hid (D = false) := HD.out.symm.trans (decide_eq_false (fun h => by
              have := List.all_eq_true.1 h.2.2 c (List.mem_of_getElem? HC.out)
              rw [HLT.out] at this
              cases this))
            clear hq
            go_wp2
            go_ret
            exact ⟨by rw [E.out]; rfl, rfl⟩
          · skip
            have q0 : ¬ (97 : Int) ≤ (c : Int) := by omega
            have q1 : ¬ (48 : Int) ≤ (c : Int) := by omega
            have q2 : ((c : Int) != 95) = true := by simp; omega
            have HLT : Hid (letter c = false) := decide_eq_false (by omega)
            have E : Hid (D = false) := HD.out.symm.trans (decide_eq_false (fun h => by
              have := List.all_eq_true.1 h.2.2 c (List.mem_of_getElem? HC.out)
              rw [HLT.out] at this
              cases this))
            clear hq
            go_wp2
            go_ret
            exact ⟨by rw [E.out]; rfl, rfl⟩
        · obtain rfl : i = n := by omega
          have E : Hid (D = true) := HD.out.symm.trans (decide_eq_true ⟨HH.out.1, HH.out.2, by
            rw [List.all_eq_true]
            intro c hc
            obtain ⟨j, hj, rfl⟩ := List.getElem_of_mem hc
            exact HA.out j _ (by rw [HN.out] at hj; exact hj) (List.getElem?_eq_getElem hj)⟩)
          go_wp2
          go_ret
          exact ⟨by rw [E.out]; rfl, rfl⟩
    · have z2 : (24 : Int) < (n : Int) := by omega
      have E : Hid (D = false) := HD.out.symm.trans (decide_eq_false (fun h => h2 h.2.1))
      clear h1 h2
      go_enter Tryd.func23, Tryd.ntmps23
      go_wp2
      go_ret
      exact ⟨by rw [E.out]; first | rfl | simp [*], rfl⟩
  · have z1 : (n : Int) < 1 := by omega
    have E : Hid (D = false) := HD.out.symm.trans (decide_eq_false (fun h => h1 h.1))
    clear h1
    go_enter Tryd.func23, Tryd.ntmps23
    go_wp2
    go_ret
    exact ⟨by rw [E.out]; first | rfl | simp [*], rfl⟩
theorem R7Size_q (z : Int) (w : World) (m : Nat) : Calls Tryd.prog 24 #[.int .i64 z] (w.drewN m) fun e w' => e = .returned (.int .i64 (szOf z)) ∧ w' = w.drewN m := (R7Size_any z _).mono fun e w' ⟨h1, h2⟩ => ⟨h1, h2.symm⟩
set_option maxHeartbeats 2000000 in
theorem summed_any (x : Dx) (hx : Hds x) (w : World) : Calls Tryd.prog 25 #[x.val] w fun e w' => e = .returned (.bool (decide (Summed x.d))) ∧ Below w.heap.size w w' := by
  have eS : decide (Summed x.d) = decide ((x.d.alg = 1 ∨ x.d.alg = 2) ∧ (x.s2.n : Int) = szOf x.d.alg ∧ x.s1.n ≤ 64) := decide_eq_decide.2 (by
    unfold Summed
    rw [hx.salt, hx.digest]
    have := szOf_cases x.d.alg
    constructor <;> intro h <;> exact ⟨by omega, h.2.1, h.2.2⟩)
  rw [eS]
  clear eS hx
  unfold Dx.val
  obtain ⟨W, hW⟩ : ∃ W, w.alloc (.cells x.cells.toArray 28) = W := ⟨_, rfl⟩
  have X := Lib.hid (Bx.new hW)
  have c1 : W.cell? ⟨w.heap.size, 1, none⟩ = some (.int .i64 x.d.alg) := X.out.blk.cell 1
  have c7 : W.cell? ⟨w.heap.size, 7, none⟩ = some (.slice x.s1.A x.s1.n x.s1.cap) := X.out.blk.cell 7
  have c8 : W.cell? ⟨w.heap.size, 8, none⟩ = some (.slice x.s2.A x.s2.n x.s2.cap) := X.out.blk.cell 8
  have BW := Lib.hid (below_drew1 X.out.below)
  obtain ⟨q, hq⟩ : ∃ q, szOf x.d.alg = q := ⟨_, rfl⟩
  have HSZ : Hid (∀ m, Calls Tryd.prog 24 #[.int .i64 x.d.alg] (W.drewN m) fun e w' => e = .returned (.int .i64 q) ∧ w' = W.drewN m) := fun m => by
    have := R7Size_q x.d.alg W m
    rw [hq] at this
    exact this
  rw [hq]
  clear hq
  generalize x.d.alg = z at c1 HSZ ⊢
  generalize x.s1.n = n1 at c7 ⊢
  generalize x.s2.n = n2 at c8 ⊢
  by_cases h1 : z = 1
  · have e1 : (z == 1) = true := by simp [h1]
    by_cases h2 : (n2 : Int) = q
    · have e2 : ((n2 : Int) == q) = true := by simp [h2]
      by_cases h3 : n1 ≤ 64
      · have e3 : (n1 : Int) ≤ 64 := by omega
        rw [decide_eq_true ⟨.inl h1, h2, h3⟩]
        clear h1 h2 h3
        go_enter Tryd.func25, Tryd.ntmps25
        go_wp2
        go_quiet ((go_at_call 24; exact Calls.quiet_of_same (HSZ.out _)))
        go_wp2
        go_ret
        exact ⟨by first | rfl | simp [*], by first | exact BW.out | exact below_drewN X.out.below _⟩
      · have e3 : ¬ (n1 : Int) ≤ 64 := by omega
        rw [decide_eq_false (fun h => h3 h.2.2)]
        clear h1 h2 h3
        go_enter Tryd.func25, Tryd.ntmps25
        go_wp2
        go_quiet ((go_at_call 24; exact Calls.quiet_of_same (HSZ.out _)))
        go_wp2
        go_ret
        exact ⟨by first | rfl | simp [*], by first | exact BW.out | exact below_drewN X.out.below _⟩
    · have e2 : ((n2 : Int) == q) = false := by simp [h2]
      rw [decide_eq_false (fun h => h2 h.2.1)]
      clear h1 h2
      go_enter Tryd.func25, Tryd.ntmps25
      go_wp2
      go_quiet ((go_at_call 24; exact Calls.quiet_of_same (HSZ.out _)))
      go_wp2
      go_ret
      exact ⟨by first | rfl | simp [*], by first | exact BW.out | exact below_drewN X.out.below _⟩
  · have e1 : (z == 1) = false := by simp [h1]
    by_cases h1b : z = 2
    · have e1b : (z == 2) = true := by simp [h1b]
      by_cases h2 : (n2 : Int) = q
      · have e2 : ((n2 : Int) == q) = true := by simp [h2]
        by_cases h3 : n1 ≤ 64
        · have e3 : (n1 : Int) ≤ 64 := by omega
          rw [decide_eq_true ⟨.inr h1b, h2, h3⟩]
          clear h1 h1b h2 h3
          go_enter Tryd.func25, Tryd.ntmps25
          go_wp2
          go_quiet ((go_at_call 24; exact Calls.quiet_of_same (HSZ.out _)))
          go_wp2
          go_ret
          exact ⟨by first | rfl | simp [*], by first | exact BW.out | exact below_drewN X.out.below _⟩
        · have e3 : ¬ (n1 : Int) ≤ 64 := by omega
          rw [decide_eq_false (fun h => h3 h.2.2)]
          clear h1 h1b h2 h3
          go_enter Tryd.func25, Tryd.ntmps25
          go_wp2
          go_quiet ((go_at_call 24; exact Calls.quiet_of_same (HSZ.out _)))
          go_wp2
          go_ret
          exact ⟨by first | rfl | simp [*], by first | exact BW.out | exact below_drewN X.out.below _⟩
      · have e2 : ((n2 : Int) == q) = false := by simp [h2]
        rw [decide_eq_false (fun h => h2 h.2.1)]
        clear h1 h1b h2
        go_enter Tryd.func25, Tryd.ntmps25
        go_wp2
        go_quiet ((go_at_call 24; exact Calls.quiet_of_same (HSZ.out _)))
        go_wp2
        go_ret
        exact ⟨by first | rfl | simp [*], by first | exact BW.out | exact below_drewN X.out.below _⟩
    · have e1b : (z == 2) = false := by simp [h1b]
      rw [decide_eq_false (fun h => by omega)]
      clear h1 h1b
      go_enter Tryd.func25, Tryd.ntmps25
      go_wp2
      go_quiet ((go_at_call 24; exact Calls.quiet_of_same (HSZ.out _)))
      go_wp2
      go_ret
      exact ⟨by first | rfl | simp [*], by first | exact BW.out | exact below_drewN X.out.below _⟩
end Go.Proofs.YtfeihdmjcppbaaaDoor
