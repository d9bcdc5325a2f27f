/-
  GroveDiffers returns true for every two lists of texts: its walk, by the answers of the program's functions.
-/
import Derived.Test.YtfoenafjaaidmaaDoorGx
namespace Go.Proofs.YtfoenafjaaidmaaDoor
open Go.RowKit
set_option linter.unusedVariables false
set_option linter.unusedSimpArgs false
set_option maxRecDepth 100000

section
variable {L R : List (List Nat)} {k : Nat} {x y : List Nat}
theorem drop_cons (h : L[k]? = some x) : L.drop k = x :: L.drop (k + 1) := by
  obtain ⟨hk, rfl⟩ := List.getElem?_eq_some_iff.1 h
  exact List.drop_eq_getElem_cons hk
theorem parting_skip (h1 : L[k]? = some x) (h2 : R[k]? = some x) : parting (L.drop k) (R.drop k) = parting (L.drop (k + 1)) (R.drop (k + 1)) := by
  rw [drop_cons h1, drop_cons h2, parting, if_pos rfl]
theorem parting_hit (h1 : L[k]? = some x) (h2 : R[k]? = some y) (hne : x ≠ y) : parting (L.drop k) (R.drop k) = some (x, y) := by
  rw [drop_cons h1, drop_cons h2, parting, if_neg hne]
theorem parting_end (h : L.length ≤ k ∨ R.length ≤ k) : parting (L.drop k) (R.drop k) = none := by
  rcases h with h | h
  · rw [List.drop_of_length_le h]; rfl
  · rw [List.drop_of_length_le h]
    cases L.drop k <;> rfl
theorem rev_get {ps : List Bt} {n k i : Nat} {p : Bt} (hn : ps.length = n) (hi : k + i + 1 = n) (hp : ps[i]? = some p) : (ps.map (·.l)).reverse[k]? = some p.l := by
  rw [List.getElem?_reverse (by rw [List.length_map]; omega), List.length_map, hn, show n - 1 - k = i by omega, List.getElem?_map, hp]
  rfl
end
theorem Ls.below {w w' : World} {A : Option Addr} {n cap : Nat} {ps : List Bt} (h : Ls w A n cap ps) (hb : Below w.heap.size w w') : Ls w' A n cap ps := ⟨h.1.below hb, h.2⟩
theorem Ls.get {w : World} {A : Option Addr} {n cap i : Nat} {ps : List Bt} (h : Ls w A n cap ps) (hi : i < n) : ∃ ad p, A = some ad ∧ ps[i]? = some p ∧ w.cell? (ad.add i) = some (.slice p.A p.n p.cap) ∧ Rd .u8 w p.A p.n p.l ∧ Fit 256 p.l := by
  obtain ⟨ad, e, _, hc⟩ := h.1.2.1 (by omega)
  obtain ⟨p, hp⟩ : ∃ p, ps[i]? = some p := ⟨_, List.getElem?_eq_getElem (by rw [h.1.1]; exact hi)⟩
  have := h.1.2.2 p (List.mem_of_getElem? hp)
  exact ⟨ad, p, e, hp, hc i p hp, this.1, this.2.1⟩
set_option maxHeartbeats 4000000 in
theorem differs_walk (CC : Code9) (HA0 : ∀ w : World, Both w → Calls Tryd.prog 11 #[] w fun e w' => e = .returned (.bool true) ∧ Below w.heap.size w w') (A : Option Addr) (n cap : Nat) (ps : List Bt) (A' : Option Addr) (n' cap' : Nat) (qs : List Bt) (w : World) (hp : Ls w A n cap ps) (hq : Ls w A' n' cap' qs) (ht : Both w) (hsp : ∀ p ∈ ps, p.n ≤ 140737488355328) (hsq : ∀ p ∈ qs, p.n ≤ 140737488355328) :
    Calls Tryd.prog 7 #[.slice A n cap, .slice A' n' cap'] w fun e w' => e = .returned (.bool true) ∧ Below w.heap.size w w' := by
  have C := Lib.hid CC
  have HA := Lib.hid HA0
  have HP0 := Lib.hid hp
  have HQ0 := Lib.hid hq
  have HTB := Lib.hid ht
  have HSP := Lib.hid hsp
  have HSQ := Lib.hid hsq
  have hnc := hp.2.1
  have hcm := hp.2.2.1
  have hnc' := hq.2.1
  have hcm' := hq.2.2.1
  clear CC HA0 hp hq ht hsp hsq
  go_enter Tryd.func7, Tryd.ntmps7
  go_wp2_with fail
  refine (HA.out w HTB.out).mono ?_
  rintro e w1 ⟨rfl, hb1⟩
  have BEL := Lib.hid hb1
  have HP1 := Lib.hid (HP0.out.below hb1)
  have HQ1 := Lib.hid (HQ0.out.below hb1)
  clear hb1
  by_cases l1 : 20 < n
  · have z1 : (20 : Int) < n := by omega
    go_wp2
    go_ret
    exact ⟨rfl, BEL.out⟩
  have z1 : ¬ (20 : Int) < n := by omega
  by_cases l2 : 20 < n'
  · have z2 : (20 : Int) < n' := by omega
    go_wp2
    go_ret
    exact ⟨rfl, BEL.out⟩
  have z2 : ¬ (20 : Int) < n' := by omega
  go_wp2_with fail
  refine (C.out.differ A n cap ps A' n' cap' qs w1 HP1.out HQ1.out (by omega) (by omega) HSP.out HSQ.out).mono ?_
  obtain ⟨o, ho⟩ : ∃ o, differ (ps.map (·.l)) (qs.map (·.l)) = o := ⟨_, rfl⟩
  rw [ho]
  rintro e w2 ⟨A1, n1, c1, A2, n2, c2, rfl, hb2, hmo⟩
  have BEL2 := Lib.hid (below_then BEL.out hb2)
  have HP2 := Lib.hid (HP1.out.below hb2)
  have HQ2 := Lib.hid (HQ1.out.below hb2)
  have HMO := Lib.hid hmo
  obtain ⟨LL, hLL⟩ : ∃ LL, (ps.map (·.l)).reverse = LL := ⟨_, rfl⟩
  obtain ⟨RR, hRR⟩ : ∃ RR, (qs.map (·.l)).reverse = RR := ⟨_, rfl⟩
  have hps : ps.length = n := HP2.out.1.1
  have hqs : qs.length = n' := HQ2.out.1.1
  have hLl : LL.length = n := by rw [← hLL, List.length_reverse, List.length_map, hps]
  have hRl : RR.length = n' := by rw [← hRR, List.length_reverse, List.length_map, hqs]
  have HO : Hid (parting (LL.drop 0) (RR.drop 0) = o) := by show _ = _; rw [List.drop_zero, List.drop_zero, ← hLL, ← hRR]; exact ho
  have HLL := Lib.hid hLL
  have HRR := Lib.hid hRR
  clear hmo hb2 ho hLL hRR
  by_cases hmn : n ≤ n'
  · have zmn : (n : Int) ≤ n' := by omega
    go_wp2
    go_loopw [33] (fun v wr => ∃ k : Nat, k ≤ n ∧ v = .int .i64 (k : Int) ∧ Hid (parting (LL.drop k) (RR.drop k) = o) ∧ Hid (Below w2.heap.size w2 wr)) (fun v _ => n - (intOf v).toNat)
    case atStart => exact ⟨0, Nat.zero_le _, rfl, HO, below_self⟩
    case round =>
      obtain ⟨k, hkM, rfl, HOk, HBW⟩ := hrel
      have BELr := Lib.hid (below_then BEL2.out HBW.out)
      by_cases hk : k < n
      · have zk : (k : Int) < n := by omega
        obtain ⟨i1, hi1⟩ : ∃ i1, n - 1 - k = i1 := ⟨_, rfl⟩
        obtain ⟨i2, hi2⟩ : ∃ i2, n' - 1 - k = i2 := ⟨_, rfl⟩
        have x1 : (n : Int) - 1 - k = (i1 : Int) := by omega
        have x2 : (n' : Int) - 1 - k = (i2 : Int) := by omega
        have b1 : i1 < n := by omega
        have b2 : i2 < n' := by omega
        obtain ⟨ad, p, rfl, hp, hcp, hrp, hfp⟩ := (HP2.out.below HBW.out).get b1
        obtain ⟨ad', q, rfl, hq, hcq, hrq, hfq⟩ := (HQ2.out.below HBW.out).get b2
        have HLk : Hid (LL[k]? = some p.l) := by show _ = _; rw [← HLL.out]; exact rev_get hps (by omega) hp
        have HRk : Hid (RR[k]? = some q.l) := by show _ = _; rw [← HRR.out]; exact rev_get hqs (by omega) hq
        obtain ⟨pA, pn, pc, pl⟩ := p
        obtain ⟨qA, qn, qc, ql⟩ := q
        simp only at hcp hrp hfp hcq hrq hfq HLk HRk
        have hcvp : ∀ j, (convert 22 9 (.slice pA pn pc)).run Tryd.prog (wr.drewN j) = .ok (.string (str pl)) (wr.drewN j) := fun j => rd_str (hrp.drewN j) pc
        have hcvq : ∀ j, (convert 22 9 (.slice qA qn qc)).run Tryd.prog (wr.drewN j) = .ok (.string (str ql)) (wr.drewN j) := fun j => rd_str (hrq.drewN j) qc
        have HSM := Lib.hid (str_same hfp hfq)
        clear hp hq hrp hrq hi1 hi2
        by_cases m1 : 500 < pn
        · have y1 : (500 : Int) < pn := by omega
          go_wp2
          go_quiet (fail)
          go_wp2
          go_ret
          exact ⟨rfl, below_drewN BELr.out _⟩
        have y1 : ¬ (500 : Int) < pn := by omega
        by_cases m2 : 500 < qn
        · have y2 : (500 : Int) < qn := by omega
          go_wp2
          go_quiet (fail)
          go_wp2
          go_ret
          exact ⟨rfl, below_drewN BELr.out _⟩
        have y2 : ¬ (500 : Int) < qn := by omega
        by_cases hne : pl = ql
        · have HSK := Lib.hid ((parting_skip (k := k) (x := pl) HLk.out (by rw [hne]; exact HRk.out)).symm.trans HOk.out)
          have es : ((str pl).toList == (str ql).toList) = true := by rw [HSM.out, decide_eq_true hne]
          subst hne
          go_wp2
          go_quiet (fail)
          go_wp2
          go_roundw
          case rel => exact ⟨k + 1, by omega, by go_num, HSK, below_drewN HBW.out _⟩
          case measure => simp [intOf]; omega
        · have HHT := Lib.hid ((parting_hit (k := k) HLk.out HRk.out hne).symm.trans HOk.out)
          have es : ((str pl).toList == (str ql).toList) = false := by rw [HSM.out, decide_eq_false hne]
          have hmo := HMO.out
          rw [← HHT.out] at hmo
          have eo : o.isSome = true := by rw [← HHT.out]; rfl
          have hr1 := (Rd.below hmo.1.rd HBW.out)
          have hr2 := (Rd.below hmo.2.rd HBW.out)
          have hcv1 : ∀ j, (convert 22 9 (.slice A1 n1 c1)).run Tryd.prog (wr.drewN j) = .ok (.string (str pl)) (wr.drewN j) := fun j => rd_str (hr1.drewN j) c1
          have hcv2 : ∀ j, (convert 22 9 (.slice A2 n2 c2)).run Tryd.prog (wr.drewN j) = .ok (.string (str ql)) (wr.drewN j) := fun j => rd_str (hr2.drewN j) c2
          clear hmo hr1 hr2
          go_wp2
          go_quiet (fail)
          go_wp2
          go_ret
          exact ⟨rfl, below_drewN BELr.out _⟩
      · have zk : ¬ (k : Int) < n := by omega
        have hno : o = none := by rw [← HOk.out]; exact parting_end (by omega)
        have hmo := HMO.out
        rw [hno] at hmo
        obtain ⟨rfl, rfl⟩ := hmo
        have eo : o.isSome = false := by rw [hno]; rfl
        clear hno
        go_wp2
        go_ret
        exact ⟨rfl, BELr.out⟩
  · have zmn : ¬ (n : Int) ≤ n' := by omega
    go_wp2
    go_loopw [33] (fun v wr => ∃ k : Nat, k ≤ n' ∧ v = .int .i64 (k : Int) ∧ Hid (parting (LL.drop k) (RR.drop k) = o) ∧ Hid (Below w2.heap.size w2 wr)) (fun v _ => n' - (intOf v).toNat)
    case atStart => exact ⟨0, Nat.zero_le _, rfl, HO, below_self⟩
    case round =>
      obtain ⟨k, hkM, rfl, HOk, HBW⟩ := hrel
      have BELr := Lib.hid (below_then BEL2.out HBW.out)
      by_cases hk : k < n'
      · have zk : (k : Int) < n' := by omega
        obtain ⟨i1, hi1⟩ : ∃ i1, n - 1 - k = i1 := ⟨_, rfl⟩
        obtain ⟨i2, hi2⟩ : ∃ i2, n' - 1 - k = i2 := ⟨_, rfl⟩
        have x1 : (n : Int) - 1 - k = (i1 : Int) := by omega
        have x2 : (n' : Int) - 1 - k = (i2 : Int) := by omega
        have b1 : i1 < n := by omega
        have b2 : i2 < n' := by omega
        obtain ⟨ad, p, rfl, hp, hcp, hrp, hfp⟩ := (HP2.out.below HBW.out).get b1
        obtain ⟨ad', q, rfl, hq, hcq, hrq, hfq⟩ := (HQ2.out.below HBW.out).get b2
        have HLk : Hid (LL[k]? = some p.l) := by show _ = _; rw [← HLL.out]; exact rev_get hps (by omega) hp
        have HRk : Hid (RR[k]? = some q.l) := by show _ = _; rw [← HRR.out]; exact rev_get hqs (by omega) hq
        obtain ⟨pA, pn, pc, pl⟩ := p
        obtain ⟨qA, qn, qc, ql⟩ := q
        simp only at hcp hrp hfp hcq hrq hfq HLk HRk
        have hcvp : ∀ j, (convert 22 9 (.slice pA pn pc)).run Tryd.prog (wr.drewN j) = .ok (.string (str pl)) (wr.drewN j) := fun j => rd_str (hrp.drewN j) pc
        have hcvq : ∀ j, (convert 22 9 (.slice qA qn qc)).run Tryd.prog (wr.drewN j) = .ok (.string (str ql)) (wr.drewN j) := fun j => rd_str (hrq.drewN j) qc
        have HSM := Lib.hid (str_same hfp hfq)
        clear hp hq hrp hrq hi1 hi2
        by_cases m1 : 500 < pn
        · have y1 : (500 : Int) < pn := by omega
          go_wp2
          go_quiet (fail)
          go_wp2
          go_ret
          exact ⟨rfl, below_drewN BELr.out _⟩
        have y1 : ¬ (500 : Int) < pn := by omega
        by_cases m2 : 500 < qn
        · have y2 : (500 : Int) < qn := by omega
          go_wp2
          go_quiet (fail)
          go_wp2
          go_ret
          exact ⟨rfl, below_drewN BELr.out _⟩
        have y2 : ¬ (500 : Int) < qn := by omega
        by_cases hne : pl = ql
        · have HSK := Lib.hid ((parting_skip (k := k) (x := pl) HLk.out (by rw [hne]; exact HRk.out)).symm.trans HOk.out)
          have es : ((str pl).toList == (str ql).toList) = true := by rw [HSM.out, decide_eq_true hne]
          subst hne
          go_wp2
          go_quiet (fail)
          go_wp2
          go_roundw
          case rel => exact ⟨k + 1, by omega, by go_num, HSK, below_drewN HBW.out _⟩
          case measure => simp [intOf]; omega
        · have HHT := Lib.hid ((parting_hit (k := k) HLk.out HRk.out hne).symm.trans HOk.out)
          have es : ((str pl).toList == (str ql).toList) = false := by rw [HSM.out, decide_eq_false hne]
          have hmo := HMO.out
          rw [← HHT.out] at hmo
          have eo : o.isSome = true := by rw [← HHT.out]; rfl
          have hr1 := (Rd.below hmo.1.rd HBW.out)
          have hr2 := (Rd.below hmo.2.rd HBW.out)
          have hcv1 : ∀ j, (convert 22 9 (.slice A1 n1 c1)).run Tryd.prog (wr.drewN j) = .ok (.string (str pl)) (wr.drewN j) := fun j => rd_str (hr1.drewN j) c1
          have hcv2 : ∀ j, (convert 22 9 (.slice A2 n2 c2)).run Tryd.prog (wr.drewN j) = .ok (.string (str ql)) (wr.drewN j) := fun j => rd_str (hr2.drewN j) c2
          clear hmo hr1 hr2
          go_wp2
          go_quiet (fail)
          go_wp2
          go_ret
          exact ⟨rfl, below_drewN BELr.out _⟩
      · have zk : ¬ (k : Int) < n' := by omega
        have hno : o = none := by rw [← HOk.out]; exact parting_end (by omega)
        have hmo := HMO.out
        rw [hno] at hmo
        obtain ⟨rfl, rfl⟩ := hmo
        have eo : o.isSome = false := by rw [hno]; rfl
        clear hno
        go_wp2
        go_ret
        exact ⟨rfl, BELr.out⟩
end Go.Proofs.YtfoenafjaaidmaaDoor
