/-
  What Differ of package grove answers.
-/
import Derived.Test.YtfoenafjaaidmaaDoorLDiffers
namespace Go.Proofs.YtfoenafjaaidmaaDoor
open Go.RowKit
set_option linter.unusedVariables false
set_option linter.unusedSimpArgs false
set_option maxRecDepth 100000

theorem Bs.drewN {w : World} {A : Option Addr} {n cap : Nat} {l : List Nat} (h : Bs w A n cap l) (m : Nat) : Bs (w.drewN m) A n cap l := { h with rd := h.rd.drewN m }
/-- An answer: bytes, as they were. -/
def GivesC (w : World) (n : Nat) (l : List Nat) (e : Ending) (w' : World) : Prop := ∃ A' c, e = .returned (.slice A' n c) ∧ Bs w' A' n c l ∧ Below w.heap.size w w'
theorem run_appAll (ty : TypeId) (ad : Addr) (n cap : Nat) (l : List Nat) (w : World) (h : Rd .u8 w (some ad) n l) (hf : Fit 256 l) (hn : n ≤ 140737488355328) :
    ∃ A' c' w', (Builtin.append_ #[22, 22] ty #[.slice (some ⟨w.heap.size, 0, none⟩) 0 0, .slice (some ad) n cap]).run Tryd.prog (w.alloc (.cells #[] 5)) = .ok (.slice A' n c') w' ∧ Bs w' A' n c' l ∧ Below w.heap.size w w' := by
  obtain ⟨i0, hi, hz0, hz1, hz2⟩ := info_parts byteInfo
  have hb1 : Below w.heap.size w (w.alloc (.cells #[] 5)) := (Below.refl _ _).alloc (Nat.le_refl _) _
  have hr := h.below hb1
  have hsrc : ∀ j u, (cn .u8 l)[j]? = some u → (w.alloc (.cells #[] 5)).cell? (ad.add j) = some u := by
    rcases Nat.eq_zero_or_pos n with h0 | h0
    · intro j u hu
      have := (List.getElem?_eq_some_iff.1 hu).1
      rw [cn_length, hr.1] at this
      omega
    · obtain ⟨ad', e, hc⟩ := hr.src h0
      injection e with e
      subst e
      exact hc
  obtain ⟨v', w', hrun, hown, hg, hnil, hat⟩ := run_append_own_at (P := Tryd.prog) (w.alloc (.cells #[] 5)) w.heap.size 22 ty 5 i0 _ 1 1 Tryd.underlying22 hi hz0 hz1 hz2 rfl (by omega) _ 0 _ (own_empty w 5) ad n cap (cn .u8 l) (by rw [cn_length, hr.1]; omega) hsrc (cn_one _ _) (by unfold maxLen; omega) (by omega) (by simp)
  rw [Nat.zero_add] at hown
  have hform : ∃ A' cap', v' = .slice A' n cap' ∧ (A' = none → cap' = 0) := by
    rcases hown.2 with ⟨rfl, h0⟩ | ⟨g, cap', cur, rfl, _⟩
    · exact ⟨none, 0, by rw [h0], fun _ => rfl⟩
    · exact ⟨_, _, rfl, fun e => by cases e⟩
  obtain ⟨A', cap', rfl, hnl⟩ := hform
  have hrow : Row w' w.heap.size 5 A' n cap' (cn .u8 l) := by
    show w'.ownsRow _ _ _ _ _ _
    simpa using hown
  refine ⟨A', cap', w', hrun, ⟨hrow.rd, hf, hrow.le.1, hrow.le.2, hnl⟩, below_only hb1 hg (by simp) (fun j hj => ?_)⟩
  have := (World.ownsRow.lt (own_empty w 5) j hj).1
  exact this
theorem wpList_appAll {ops : Array Oper} {rest : List Oper} {o : Oper} {a : Act} {w : World} {Q : Exit → Act → World → Prop} (hgd : o.guard = none) (s x : Operand) (ho : o.op = .call { callee := .builtin .append, args := #[s, x], argTypes := #[22, 22] })
    (ad : Addr) (n cap : Nat) (l : List Nat) (hs : a.eval s = .slice (some ⟨w.heap.size, 0, none⟩) 0 0) (hx : a.eval x = .slice (some ad) n cap) (h : Rd .u8 w (some ad) n l) (hf : Fit 256 l) (hn : n ≤ 140737488355328)
    (hk : ∀ A' c' w', Hid (Bs w' A' n c' l) → Below w.heap.size w w' → wpList Tryd.prog ops Q rest (a.put o.dst (.slice A' n c')) w') : wpList Tryd.prog ops Q (o :: rest) a (w.alloc (.cells #[] 5)) := by
  obtain ⟨A', cap', w', hrun, hp, hb⟩ := run_appAll o.type ad n cap l w h hf hn
  refine wpList_plain hgd fun K hK => ?_
  unfold Oper.wp
  simp [execOp, ho, resolve, invoke, builtin, hs, hx, hrun, Result.andThen]
  exact hK _ _ (hk A' cap' w' hp hb)
set_option maxHeartbeats 1000000 in
theorem CloneG_any (A : Option Addr) (n cap : Nat) (l : List Nat) (w : World) (h : Bs w A n cap l) (hn : n ≤ 140737488355328) : Calls Tryd.prog 41 #[.slice A n cap] w (GivesC w n l) := by
  rcases A with _ | ad
  · have hc := h.nil rfl
    subst hc
    have hn0 : n = 0 := by have := h.le; omega
    subst hn0
    obtain rfl : l = [] := List.eq_nil_of_length_eq_zero h.rd.1
    have q23 : (binOp .eql 22 (.slice none 0 0) (.slice none 0 0)).run Tryd.prog w = .ok (.bool true) w := Lib.run_eql_slice_nil w _ _ _ _ _ _ _ Tryd.underlying22
    go_enter Tryd.func41, Tryd.ntmps41
    go_wp2
    go_ret
    exact ⟨none, 0, rfl, h, Below.refl _ _⟩
  · have HR := Lib.hid h
    have q23 : (binOp .eql 22 (.slice (some ad) n cap) (.slice none 0 0)).run Tryd.prog w = .ok (.bool false) w := Lib.run_eql_slice_nil w _ _ _ _ _ _ _ Tryd.underlying22
    clear h
    go_enter Tryd.func41, Tryd.ntmps41
    go_wp2_with (first
      | ((with_reducible refine at_dst (some 7) ?_); refine wpList_appAll (o := ⟨some 7, _, _, _, _, _⟩) rfl (.tmp 5) (.tmp 6) rfl ad n cap l rfl rfl HR.out.rd HR.out.fit hn ?_; intro A2 c2 w2 HB hbe))
    go_ret
    exact ⟨A2, c2, rfl, HB.out, hbe⟩
set_option maxHeartbeats 4000000 in
theorem Differ_any : DifferC := by
  intro A n cap ps A' n' cap' qs w hp hq hn hn' hsp hsq
  have HP0 := Lib.hid hp
  have HQ0 := Lib.hid hq
  have HSP := Lib.hid hsp
  have HSQ := Lib.hid hsq
  have hnc := hp.2.1
  have hcm := hp.2.2.1
  have hnc' := hq.2.1
  have hcm' := hq.2.2.1
  clear hp hq hsp hsq
  obtain ⟨o, ho⟩ : ∃ o, differ (ps.map (·.l)) (qs.map (·.l)) = o := ⟨_, rfl⟩
  rw [ho]
  obtain ⟨LL, hLL⟩ : ∃ LL, (ps.map (·.l)).reverse = LL := ⟨_, rfl⟩
  obtain ⟨RR, hRR⟩ : ∃ RR, (qs.map (·.l)).reverse = RR := ⟨_, rfl⟩
  have hps : ps.length = n := HP0.out.1.1
  have hqs : qs.length = n' := HQ0.out.1.1
  have hLl : LL.length = n := by rw [← hLL, List.length_reverse, List.length_map, hps]
  have hRl : RR.length = n' := by rw [← hRR, List.length_reverse, List.length_map, hqs]
  have HO : Hid (parting (LL.drop 0) (RR.drop 0) = o) := by show _ = _; rw [List.drop_zero, List.drop_zero, ← hLL, ← hRR]; exact ho
  have HLL := Lib.hid hLL
  have HRR := Lib.hid hRR
  clear ho hLL hRR
  by_cases hmn : n ≤ n'
  · have zmn : (n : Int) ≤ n' := by omega
    go_enter Tryd.func24, Tryd.ntmps24
    go_wp2
    go_loopw [15] (fun v wr => ∃ k : Nat, k ≤ n ∧ v = .int .i64 (k : Int) ∧ Hid (parting (LL.drop k) (RR.drop k) = o) ∧ Hid (Below w.heap.size w wr)) (fun v _ => n - (intOf v).toNat)
    case atStart => exact ⟨0, Nat.zero_le _, rfl, HO, below_self⟩
    case round =>
      obtain ⟨k, hkM, rfl, HOk, HBW⟩ := hrel
      by_cases hk : k < n
      · have zk : (k : Int) < n := by omega
        obtain ⟨i1, hi1⟩ : ∃ i1, n - 1 - k = i1 := ⟨_, rfl⟩
        obtain ⟨i2, hi2⟩ : ∃ i2, n' - 1 - k = i2 := ⟨_, rfl⟩
        have x1 : (n : Int) - 1 - k = (i1 : Int) := by omega
        have x2 : (n' : Int) - 1 - k = (i2 : Int) := by omega
        have b1 : i1 < n := by omega
        have b2 : i2 < n' := by omega
        obtain ⟨ad, p, rfl, hp, hcp, hrp, hfp⟩ := (HP0.out.below HBW.out).get b1
        obtain ⟨ad', q, rfl, hq, hcq, hrq, hfq⟩ := (HQ0.out.below HBW.out).get b2
        have hpx := HP0.out.2.2.2.2 p (List.mem_of_getElem? hp)
        have hqx := HQ0.out.2.2.2.2 q (List.mem_of_getElem? hq)
        have hpz := HSP.out p (List.mem_of_getElem? hp)
        have hqz := HSQ.out q (List.mem_of_getElem? hq)
        have hpc := (HP0.out.1.2.2 p (List.mem_of_getElem? hp)).2.2
        have hqc := (HQ0.out.1.2.2 q (List.mem_of_getElem? hq)).2.2
        have HLk : Hid (LL[k]? = some p.l) := by show _ = _; rw [← HLL.out]; exact rev_get hps (by omega) hp
        have HRk : Hid (RR[k]? = some q.l) := by show _ = _; rw [← HRR.out]; exact rev_get hqs (by omega) hq
        obtain ⟨pA, pn, pc, pl⟩ := p
        obtain ⟨qA, qn, qc, ql⟩ := q
        simp only at hcp hrp hfp hcq hrq hfq HLk HRk hpx hqx hpz hqz hpc hqc
        have HBP : Hid (Bs wr pA pn pc pl) := ⟨hrp, hfp, hpc, hpx.1, hpx.2⟩
        have HBQ : Hid (Bs wr qA qn qc ql) := ⟨hrq, hfq, hqc, hqx.1, hqx.2⟩
        have HPZ := Lib.hid hpz
        have HQZ := Lib.hid hqz
        clear hp hq hi1 hi2 hpx hqx hpz hqz hpc hqc hrp hfp hrq hfq
        by_cases hne : pl = ql
        · have HSK := Lib.hid ((parting_skip (k := k) (x := pl) HLk.out (by rw [hne]; exact HRk.out)).symm.trans HOk.out)
          go_wp2
          go_quiet (fail)
          go_wp2_with fail
          refine (Equal_any _ _ _ _ _ _ pl ql _ (HBP.out.rd.drewN _) (HBQ.out.rd.drewN _) HBP.out.fit HBQ.out.fit).mono ?_
          rw [decide_eq_true hne]
          rintro e w1 ⟨rfl, rfl⟩
          subst hne
          go_wp2
          go_roundw
          case rel => exact ⟨k + 1, by omega, by go_num, HSK, below_drewN HBW.out _⟩
          case measure => simp [intOf]; omega
        · have HHT := Lib.hid ((parting_hit (k := k) HLk.out HRk.out hne).symm.trans HOk.out)
          go_wp2
          go_quiet (fail)
          go_wp2_with fail
          refine (Equal_any _ _ _ _ _ _ pl ql _ (HBP.out.rd.drewN _) (HBQ.out.rd.drewN _) HBP.out.fit HBQ.out.fit).mono ?_
          rw [decide_eq_false hne]
          rintro e w1 ⟨rfl, rfl⟩
          go_wp2_with fail
          refine (CloneG_any pA pn pc pl _ (HBP.out.drewN _) HPZ.out).mono ?_
          rintro e w2 ⟨A1, c1, rfl, hB1, hb1⟩
          have HBQ2 := Lib.hid ((HBQ.out.drewN _).below hb1)
          have BEL2 := Lib.hid (below_then (below_drewN HBW.out _) hb1)
          have HB1 := Lib.hid hB1
          clear hb1 hB1
          go_wp2_with fail
          refine (CloneG_any qA qn qc ql w2 HBQ2.out HQZ.out).mono ?_
          rintro e w3 ⟨A2, c2, rfl, hB2, hb2⟩
          have HB12 := Lib.hid (HB1.out.below hb2)
          have BEL3 := Lib.hid (below_then BEL2.out hb2)
          have HB2 := Lib.hid hB2
          clear hb2 hB2
          go_wp2
          go_ret3
          refine ⟨A1, pn, c1, A2, qn, c2, ?_, BEL3.out, ?_⟩
          · rw [← HHT.out]; rfl
          · rw [← HHT.out]; exact ⟨HB12.out, HB2.out⟩
      · have zk : ¬ (k : Int) < n := by omega
        have hno : o = none := by rw [← HOk.out]; exact parting_end (by omega)
        subst hno
        go_wp2
        go_ret3
        exact ⟨none, 0, 0, none, 0, 0, rfl, HBW.out, rfl, rfl⟩
  · have zmn : ¬ (n : Int) ≤ n' := by omega
    go_enter Tryd.func24, Tryd.ntmps24
    go_wp2
    go_loopw [15] (fun v wr => ∃ k : Nat, k ≤ n' ∧ v = .int .i64 (k : Int) ∧ Hid (parting (LL.drop k) (RR.drop k) = o) ∧ Hid (Below w.heap.size w wr)) (fun v _ => n' - (intOf v).toNat)
    case atStart => exact ⟨0, Nat.zero_le _, rfl, HO, below_self⟩
    case round =>
      obtain ⟨k, hkM, rfl, HOk, HBW⟩ := hrel
      by_cases hk : k < n'
      · have zk : (k : Int) < n' := by omega
        obtain ⟨i1, hi1⟩ : ∃ i1, n - 1 - k = i1 := ⟨_, rfl⟩
        obtain ⟨i2, hi2⟩ : ∃ i2, n' - 1 - k = i2 := ⟨_, rfl⟩
        have x1 : (n : Int) - 1 - k = (i1 : Int) := by omega
        have x2 : (n' : Int) - 1 - k = (i2 : Int) := by omega
        have b1 : i1 < n := by omega
        have b2 : i2 < n' := by omega
        obtain ⟨ad, p, rfl, hp, hcp, hrp, hfp⟩ := (HP0.out.below HBW.out).get b1
        obtain ⟨ad', q, rfl, hq, hcq, hrq, hfq⟩ := (HQ0.out.below HBW.out).get b2
        have hpx := HP0.out.2.2.2.2 p (List.mem_of_getElem? hp)
        have hqx := HQ0.out.2.2.2.2 q (List.mem_of_getElem? hq)
        have hpz := HSP.out p (List.mem_of_getElem? hp)
        have hqz := HSQ.out q (List.mem_of_getElem? hq)
        have hpc := (HP0.out.1.2.2 p (List.mem_of_getElem? hp)).2.2
        have hqc := (HQ0.out.1.2.2 q (List.mem_of_getElem? hq)).2.2
        have HLk : Hid (LL[k]? = some p.l) := by show _ = _; rw [← HLL.out]; exact rev_get hps (by omega) hp
        have HRk : Hid (RR[k]? = some q.l) := by show _ = _; rw [← HRR.out]; exact rev_get hqs (by omega) hq
        obtain ⟨pA, pn, pc, pl⟩ := p
        obtain ⟨qA, qn, qc, ql⟩ := q
        simp only at hcp hrp hfp hcq hrq hfq HLk HRk hpx hqx hpz hqz hpc hqc
        have HBP : Hid (Bs wr pA pn pc pl) := ⟨hrp, hfp, hpc, hpx.1, hpx.2⟩
        have HBQ : Hid (Bs wr qA qn qc ql) := ⟨hrq, hfq, hqc, hqx.1, hqx.2⟩
        have HPZ := Lib.hid hpz
        have HQZ := Lib.hid hqz
        clear hp hq hi1 hi2 hpx hqx hpz hqz hpc hqc hrp hfp hrq hfq
        by_cases hne : pl = ql
        · have HSK := Lib.hid ((parting_skip (k := k) (x := pl) HLk.out (by rw [hne]; exact HRk.out)).symm.trans HOk.out)
          go_wp2
          go_quiet (fail)
          go_wp2_with fail
          refine (Equal_any _ _ _ _ _ _ pl ql _ (HBP.out.rd.drewN _) (HBQ.out.rd.drewN _) HBP.out.fit HBQ.out.fit).mono ?_
          rw [decide_eq_true hne]
          rintro e w1 ⟨rfl, rfl⟩
          subst hne
          go_wp2
          go_roundw
          case rel => exact ⟨k + 1, by omega, by go_num, HSK, below_drewN HBW.out _⟩
          case measure => simp [intOf]; omega
        · have HHT := Lib.hid ((parting_hit (k := k) HLk.out HRk.out hne).symm.trans HOk.out)
          go_wp2
          go_quiet (fail)
          go_wp2_with fail
          refine (Equal_any _ _ _ _ _ _ pl ql _ (HBP.out.rd.drewN _) (HBQ.out.rd.drewN _) HBP.out.fit HBQ.out.fit).mono ?_
          rw [decide_eq_false hne]
          rintro e w1 ⟨rfl, rfl⟩
          go_wp2_with fail
          refine (CloneG_any pA pn pc pl _ (HBP.out.drewN _) HPZ.out).mono ?_
          rintro e w2 ⟨A1, c1, rfl, hB1, hb1⟩
          have HBQ2 := Lib.hid ((HBQ.out.drewN _).below hb1)
          have BEL2 := Lib.hid (below_then (below_drewN HBW.out _) hb1)
          have HB1 := Lib.hid hB1
          clear hb1 hB1
          go_wp2_with fail
          refine (CloneG_any qA qn qc ql w2 HBQ2.out HQZ.out).mono ?_
          rintro e w3 ⟨A2, c2, rfl, hB2, hb2⟩
          have HB12 := Lib.hid (HB1.out.below hb2)
          have BEL3 := Lib.hid (below_then BEL2.out hb2)
          have HB2 := Lib.hid hB2
          clear hb2 hB2
          go_wp2
          go_ret3
          refine ⟨A1, pn, c1, A2, qn, c2, ?_, BEL3.out, ?_⟩
          · rw [← HHT.out]; rfl
          · rw [← HHT.out]; exact ⟨HB12.out, HB2.out⟩
      · have zk : ¬ (k : Int) < n' := by omega
        have hno : o = none := by rw [← HOk.out]; exact parting_end (by omega)
        subst hno
        go_wp2
        go_ret3
        exact ⟨none, 0, 0, none, 0, 0, rfl, HBW.out, rfl, rfl⟩
end Go.Proofs.YtfoenafjaaidmaaDoor
