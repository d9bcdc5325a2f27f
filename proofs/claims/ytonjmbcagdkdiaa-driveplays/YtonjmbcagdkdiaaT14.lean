/-
  A step of the laws: an operation of kind 4 where the sector is there. No condition.
-/
import Derived.Test.YtonjmbcagdkdiaaT13
namespace Go.Proofs.Ytonjmbcagdkdiaa
open Go.RowKit Go.MapKept
set_option linter.unusedVariables false
set_option linter.unusedSimpArgs false
set_option maxRecDepth 100000

theorem bcells_set (l : List Bool) (k : Nat) (b : Bool) : (bcells l).set k (.bool b) = bcells (l.set k b) := by simp [bcells, List.map_set]
theorem bcells_get {l : List Bool} {k : Nat} {b : Bool} (h : l[k]? = some b) : (bcells l)[k]? = some (.bool b) := by simp [bcells, h]
section
variable {T T' : Tv} {D D' : Dv} {w w' w2 : World}
/-- A sector set on both sides. -/
theorem Same.putBad (h : Same T D) {i : Nat} {p : TRow} {q : Pt} (hi : T.rows[i]? = some p) (hj : D.pts[i]? = some q) (k : Nat) (on : Bool) (hk : k < p.sb.length) (hS : p.sb.length = q.l.length / 64) :
    Same (T.put i { p with sb := p.sb.set k on }) (D.put i { q with bad := badset q.bad k on }) where
  rows := by
    show (T.rows.set i _).map _ = (D.pts.set i _).map _
    obtain ⟨q', e1, e2, e3⟩ := h.at hi
    rw [hj] at e1
    injection e1 with e1
    subst e1
    rw [List.map_set, List.map_set, h.rows]
    simp [e2, e3]
  bads := fun j p' q' h1 h2 k' hk' => by
    rw [show (T.put i { p with sb := p.sb.set k on }).rows = T.rows.set i { p with sb := p.sb.set k on } from rfl, List.getElem?_set] at h1
    rw [show (D.put i { q with bad := badset q.bad k on }).pts = D.pts.set i { q with bad := badset q.bad k on } from rfl, List.getElem?_set] at h2
    by_cases e : i = j
    · subst e
      simp [(List.getElem?_eq_some_iff.1 hi).1] at h1
      simp [(List.getElem?_eq_some_iff.1 hj).1] at h2
      subst h1 h2
      have hb := h.bads i p q hi hj k' hk'
      show (p.sb.set k on).getD k' false = badset q.bad k on k'
      unfold badset
      by_cases ek : k' = k
      · subst ek
        rw [if_pos rfl]
        simp [List.getD, List.getElem?_set_self hk]
      · rw [if_neg (by omega), ← hb]
        simp [List.getD, List.getElem?_set_ne (Ne.symm ek)]
    · rw [if_neg e] at h1 h2
      exact h.bads j p' q' h1 h2 k' hk'
  off := h.off
  armed := h.armed
  left := h.left
  keep := h.keep
  count := h.count
  told := h.told
set_option maxHeartbeats 4000000 in
theorem step_bad_ok (h : Both w T D) (o : OpV) (hk : o.kind = 4) (i : Nat) (p : TRow) (hi : T.rows[i]? = some p) (hs : p.nm = o.nm) (sec : Nat) (ho : o.off = sec) (hl : sec < p.l.length / 64) :
    Calls Try.prog 12 #[.pointer (some ⟨D.g, 0, none⟩), .pointer (some ⟨T.t, 0, none⟩), Tv.op o] w (Stepped w T D) := by
  obtain ⟨kind, off, k, nm, dA, m, dc, bs, on, kA, kn, kc, kp⟩ := o
  simp only [] at hk hs ho
  subst hk ho
  unfold Tv.op
  have HB0 : Hid (Below w.heap.size w (w.alloc (.cells #[.int .i64 4, .int .i64 (sec : Int), .int .i64 k, .string nm, .slice dA m dc, .bool on, .slice kA kn kc] 41))) := (Below.refl _ _).alloc (Nat.le_refl _) _
  have HX0 : Hid (Blk (w.alloc (.cells #[.int .i64 4, .int .i64 (sec : Int), .int .i64 k, .string nm, .slice dA m dc, .bool on, .slice kA kn kc] 41)) w.heap.size 41 [.int .i64 4, .int .i64 (sec : Int), .int .i64 k, .string nm, .slice dA m dc, .bool on, .slice kA kn kc]) := Blk.new w _ _
  have H0 := Lib.hid h
  obtain ⟨q, hj, hqn, hql⟩ := h.same.at hi
  have hp := List.mem_of_getElem? hi
  obtain ⟨N, hNN⟩ : ∃ N, T.rows.length = N := ⟨_, rfl⟩
  have hil := (List.getElem?_eq_some_iff.1 hi).1
  have hN16 : N ≤ 16 := by rw [← hNN]; exact h.tw.few
  rw [hNN] at hil
  have zil : (i : Int) < (N : Int) := by omega
  obtain ⟨S, hS⟩ : ∃ S, p.sb.length = S := ⟨_, rfl⟩
  have hSl : p.l.length / 64 = S := by rw [← hS]; exact (h.tw.size p hp).2.1.symm
  have hS2 : S ≤ 20000 := by rw [← hSl]; have := (h.tw.size p hp).1; omega
  rw [hSl] at hl
  have HQ : Hid (q ∈ D.pts ∧ q.nm = nm ∧ q.l.length / 64 = S ∧ D.pts[i]? = some q) := ⟨List.mem_of_getElem? hj, hqn.trans hs, by rw [hql]; exact hSl, hj⟩
  have HS := Lib.hid hS
  have HI := Lib.hid hi
  have HP := Lib.hid hp
  have HNN := Lib.hid hNN
  have HNM := Lib.hid h.tw.names
  have HSN := Lib.hid hs
  have zi : (0 : Int) ≤ (i : Int) := by omega
  clear h hi hj hp hNN hS hSl hqn hql hs
  go_enter Try.func12, Try.ntmps12
  go_wp2_with fail
  generalize w.alloc (.cells #[.int .i64 4, .int .i64 (sec : Int), .int .i64 k, .string nm, .slice dA m dc, .bool on, .slice kA kn kc] 41) = W at *
  refine (tpart_any T _ (H0.out.tw.below HB0.out) nm).mono ?_
  rintro e w2 ⟨r, rfl, hr, hb⟩
  obtain rfl := hr.is HNM.out HI.out HSN.out
  have HB2 := Lib.hid (below_then HB0.out hb)
  have H2 := Lib.hid (H0.out.below HB2.out)
  have HX := Lib.hid (HX0.out.below hb HX0.out.lt)
  have x0 := HX.out.cell 0
  have x1 := HX.out.cell 1
  have x3 := HX.out.cell 3
  have x5 := HX.out.cell 5
  simp only [List.getElem?_cons_zero, List.getElem?_cons_succ] at x0 x1 x3 x5
  clear hb hr
  have c2 : w2.cell? ⟨T.t, 2, none⟩ = some (.slice T.sa T.rows.length T.sc) := H2.out.tw.blk.cell 2
  obtain ⟨ads, es, _, hcs⟩ := H2.out.tw.tabS (by simp; rw [HNN.out]; omega)
  have c9 := hcs i p.sv (by simp [HI.out])
  rw [es, HNN.out] at c2
  unfold TRow.sv at c9
  rw [HS.out] at c9
  clear hcs es
  have zo : (sec : Int) < (S : Int) := by omega
  have d1 : decide ((sec : Int) < (S : Int)) = true := decide_eq_true zo
  have d0 : decide ((0 : Int) ≤ (sec : Int)) = true := decide_eq_true (by omega)
  go_wp2_with fail
  go_quiet (fail)
  -- the twin's sector
  have HD2 := Lib.hid (H2.out.below (below_drewN (Below.refl _ w2) nq))
  have HB2q := Lib.hid (below_drewN HB2.out nq)
  have HXq : Hid (Blk (w2.drewN nq) w.heap.size 41 [.int .i64 4, .int .i64 (sec : Int), .int .i64 k, .string nm, .slice dA m dc, .bool on, .slice kA kn kc]) := HX.out.drewN nq
  have x1 : (w2.drewN nq).cell? ⟨w.heap.size, 1, none⟩ = some (.int .i64 (sec : Int)) := x1
  have x3 : (w2.drewN nq).cell? ⟨w.heap.size, 3, none⟩ = some (.string nm) := x3
  have x5 : (w2.drewN nq).cell? ⟨w.heap.size, 5, none⟩ = some (.bool on) := x5
  have c2 : (w2.drewN nq).cell? ⟨T.t, 2, none⟩ = some (.slice (some ads) N T.sc) := c2
  have c9 : (w2.drewN nq).cell? (ads.add i) = some (.slice (some ⟨p.mm, 0, none⟩) S S) := c9
  generalize w2.drewN nq = W3 at *
  obtain ⟨sv, hsv⟩ : ∃ sv, p.sb[sec]? = some sv := ⟨_, List.getElem?_eq_getElem (by rw [HS.out]; omega)⟩
  have zc : W3.cell? ⟨p.mm, sec, none⟩ = some (.bool sv) := ((HD2.out.tw.bads p HP.out).cell sec).trans (bcells_get hsv)
  have zf : W3.frozen? ⟨p.mm, sec, none⟩ = false := (HD2.out.tw.bads p HP.out).frozen sec
  have t1 : Touch [p.bb, p.mm] W3 ((W3.setCell ⟨p.mm, sec, none⟩ (.bool on)).drew) := ((Touch.refl _ W3).setCell (p := ⟨p.mm, sec, none⟩) (.inl (by simp)) _).drew
  have t0 : Touch [p.mm] W3 ((W3.setCell ⟨p.mm, sec, none⟩ (.bool on)).drew) := ((Touch.refl _ W3).setCell (p := ⟨p.mm, sec, none⟩) (.inl (by simp)) _).drew
  have hmm : p.bb ∉ [p.mm] := fun hm => nodup_row (List.nodup_cons.1 HD2.out.tw.apart).2 HP.out (List.mem_singleton.1 hm)
  have hTn : Tw ((W3.setCell ⟨p.mm, sec, none⟩ (.bool on)).drew) (T.put i { p with l := p.l, sb := p.sb.set sec on }) :=
    HD2.out.tw.setRow HI.out p.l (p.sb.set sec on) rfl (by rw [List.length_set]) (HD2.out.tw.fit p HP.out) t1 ((HD2.out.tw.bytes p HP.out).touch t0 hmm) (by
      have := (HD2.out.tw.bads p HP.out).set_ sec (.bool on)
      rw [bcells_set] at this
      exact this.drewN 1)
  have HTN := Lib.hid hTn
  have tO : Touch T.own W3 ((W3.setCell ⟨p.mm, sec, none⟩ (.bool on)).drew) := t0.wider (fun x hx => by rw [List.mem_singleton.1 hx]; exact tw_own_mm HP.out)
  have HTO := Lib.hid tO
  have HNEW : Hid (w.heap.size ∉ T.own) := fun hm => absurd (H0.out.tw.lt _ hm) (Nat.lt_irrefl _)
  have HX4 := HXq.out.touch tO HNEW.out
  have y1 := HX4.cell 1
  have y3 := HX4.cell 3
  have y5 := HX4.cell 5
  simp only [List.getElem?_cons_zero, List.getElem?_cons_succ] at y1 y3 y5
  have HBK := Lib.hid (Bad_ok D _ (HD2.out.drv.touchFar tO (fun g hg => HD2.out.dfar g hg)) i q HQ.out.2.2.2 nm HQ.out.2.1 sec on (by rw [HQ.out.2.2.1]; exact hl))
  clear hsv t1 t0 hmm hTn tO HX4 x0
  go_wp2_with fail
  go_still_tail 12, (by kernel_rfl)
  change wpList _ _ _ _ _ W3.drew
  have zf : W3.drew.frozen? ⟨p.mm, sec, none⟩ = false := zf
  have zc : W3.drew.cell? ⟨p.mm, sec, none⟩ = some (.bool sv) := zc
  go_wp2_with fail
  refine HBK.out.mono ?_
  rintro e w4 ⟨rfl, hD4, ht4⟩
  have hS' := HD2.out.same.putBad HI.out HQ.out.2.2.2 sec on (by rw [HS.out]; omega) (by rw [HS.out]; exact HQ.out.2.2.1.symm)
  have hK : Kept2 T (T.put i { p with sb := p.sb.set sec on }) D (D.put i { q with bad := badset q.bad sec on }) :=
    ⟨tw_own_put HI.out, own_put HQ.out.2.2.2 rfl rfl, rfl, rfl, fun b hb => Tv.far_same (tw_own_put HI.out) rfl rfl rfl rfl rfl hb, fun b hb => show (D.put i { q with bad := badset q.bad sec on }).far b from Dv.far_same (own_put (q := { q with bad := badset q.bad sec on }) HQ.out.2.2.2 rfl rfl) rfl rfl hb, ⟨Int.le_refl _, (show T.count ≤ T.count + 1 by omega), Int.le_refl _, (show T.told ≤ T.told + 1000000 by omega)⟩, Int.le_refl _, T.put_ps HI.out rfl rfl⟩
  have HF : Hid (Both w4 (T.put i { p with sb := p.sb.set sec on }) (D.put i { q with bad := badset q.bad sec on })) := HD2.out.next hS' hK HTN.out ht4 hD4
  have HK := Lib.hid hK
  have HTF : Hid (Touch (T.own ++ D.own) w w4) := ((Touch.of_below _ HB2q.out).trans (HTO.out.wider (fun x hx => List.mem_append.2 (.inl hx)))).trans (ht4.wider (fun x hx => List.mem_append.2 (.inr hx)))
  clear hD4 ht4 hS' hK
  go_wp2
  go_ret
  exact ⟨by first | rfl | simp, _, _, HF.out, HK.out.tt, HK.out.dg, HK.out.town, HK.out.down, HK.out.nums.2.1, HK.out.nums.2.2.2, HK.out.nums.1, HK.out.nums.2.2.1, HTF.out, HK.out.ps⟩
end
end Go.Proofs.Ytonjmbcagdkdiaa
