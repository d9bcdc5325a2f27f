/-
  A step of the laws: an operation of kind 3 that turns bytes. No condition.
-/
import Derived.Test.YtonjmbcagdkdiaaT12
namespace Go.Proofs.Ytonjmbcagdkdiaa
open Go.RowKit Go.MapKept
set_option linter.unusedVariables false
set_option linter.unusedSimpArgs false
set_option maxRecDepth 100000

section
variable {T T' : Tv} {D D' : Dv} {w w' w2 : World}
set_option maxHeartbeats 4000000 in
theorem step_turn_ok (h : Both w T D) (o : OpV) (hk : o.kind = 3) (i : Nat) (p : TRow) (hi : T.rows[i]? = some p) (hs : p.nm = o.nm) (ho : I64 o.off) (hl : Lies o.off o.dn p.l.length) (hb : Bs w o.dA o.dn o.dc o.db) (hbo : 0 < o.dn → ∀ ad, o.dA = some ad → ad.block ∉ T.own ∧ ad.block ∉ D.own) :
    Calls Try.prog 12 #[.pointer (some ⟨D.g, 0, none⟩), .pointer (some ⟨T.t, 0, none⟩), Tv.op o] w (Stepped w T D) := by
  obtain ⟨q0, hj, hqn, hql⟩ := h.same.at hi
  have hdn : o.dn ≤ 9223372036854775807 := Nat.le_trans hb.le hb.max
  obtain ⟨kind, offx, k, nm, dA, m, dc, bs, on, kA, kn, kc, kp⟩ := o
  simp only [] at hk hs hl ho hb hdn hbo
  subst hk
  obtain ⟨off, rfl⟩ : ∃ off : Nat, offx = off := ⟨offx.toNat, by have := hl.1; omega⟩
  have HP := Lib.hid (List.mem_of_getElem? hi)
  obtain ⟨n, hn⟩ : ∃ n, p.l.length = n := ⟨_, rfl⟩
  have hk16 : n ≤ 1000000 := by rw [← hn]; exact (h.tw.size p HP.out).1
  have hlo : off + m ≤ n := by have := hl.2.2; omega
  have HN := Lib.hid hn
  have hil := (List.getElem?_eq_some_iff.1 hi).1
  obtain ⟨N, hNN⟩ : ∃ N, T.rows.length = N := ⟨_, rfl⟩
  have hN16 : N ≤ 16 := by rw [← hNN]; exact h.tw.few
  rw [hNN] at hil
  have zil : (i : Int) < (N : Int) := by omega
  have HROWS := Lib.hid hNN
  unfold Tv.op
  have HB0 : Hid (Below w.heap.size w (w.alloc (.cells #[.int .i64 3, .int .i64 (off : Int), .int .i64 k, .string nm, .slice dA m dc, .bool on, .slice kA kn kc] 41))) := (Below.refl _ _).alloc (Nat.le_refl _) _
  have HX0 : Hid (Blk (w.alloc (.cells #[.int .i64 3, .int .i64 (off : Int), .int .i64 k, .string nm, .slice dA m dc, .bool on, .slice kA kn kc] 41)) w.heap.size 41 [.int .i64 3, .int .i64 (off : Int), .int .i64 k, .string nm, .slice dA m dc, .bool on, .slice kA kn kc]) := Blk.new w _ _
  have H0 := Lib.hid h
  have HNM := Lib.hid h.tw.names
  have HI := Lib.hid hi
  have HSN := Lib.hid hs
  have HL := Lib.hid hl
  have HJ : Hid (D.pts[i]? = some q0 ∧ q0.nm = nm ∧ q0.l = p.l) := ⟨hj, hqn.trans hs, hql⟩
  have hmc := hb.le
  have hcx := hb.max
  have HBS := Lib.hid hb
  have HBO := Lib.hid hbo
  have HO := Lib.hid ho
  have HNEW : Hid (w.heap.size ∉ T.own) := fun hm => absurd (h.tw.lt _ hm) (Nat.lt_irrefl _)
  have HBB : Hid (p.bb ∈ T.own) := tw_own_bb HP.out
  have zi : (0 : Int) ≤ (i : Int) := by omega
  clear h hi hs hl hb hj hqn hql ho hn hNN hbo
  go_enter Try.func12, Try.ntmps12
  go_wp2_with fail
  generalize w.alloc (.cells #[.int .i64 3, .int .i64 (off : Int), .int .i64 k, .string nm, .slice dA m dc, .bool on, .slice kA kn kc] 41) = W at *
  refine (tpart_any T _ (H0.out.tw.below HB0.out) nm).mono ?_
  rintro e w2 ⟨r, rfl, hr, hb⟩
  obtain rfl := hr.is HNM.out HI.out HSN.out
  have HB2 := Lib.hid (below_then HB0.out hb)
  have H2 := Lib.hid (H0.out.below HB2.out)
  have HX := Lib.hid (HX0.out.below hb HX0.out.lt)
  have x0 := HX.out.cell 0
  have x1 := HX.out.cell 1
  have x3 := HX.out.cell 3
  have x4 := HX.out.cell 4
  simp only [List.getElem?_cons_zero, List.getElem?_cons_succ] at x0 x1 x3 x4
  have HRD2 := Lib.hid (HBS.out.rd.below HB2.out)
  have HFB : Hid (Fit 256 bs) := HBS.out.fit
  have HFL : Hid (Fit 256 p.l) := H2.out.tw.fit p HP.out
  have HTI := Lib.hid (tin_any T w2 H2.out.tw i p HI.out (off : Int) (m : Int) HO.out ⟨by omega, by omega⟩ true (by simpa using HL.out))
  have HS0 : Hid (Tw w2 (T.put i { p with l := xored p.l off (bs.take 0), sb := p.sb })) := by
    have := H2.out.tw.setRow HI.out (xored p.l off (bs.take 0)) p.sb (xored_length _ _ _) rfl (xored_fit HFL.out (HFB.out.take 0)) (Touch.refl _ w2) (by rw [List.take_zero, xored_nil]; exact H2.out.tw.bytes p HP.out) (H2.out.tw.bads p HP.out)
    exact this
  clear hb hr
  go_wp2_with fail
  refine HTI.out.mono ?_
  rintro e w3 ⟨rfl, rfl⟩
  clear HTI
  go_wp2
  go_loopw [101] (fun a wr => ∃ q : Nat, a = .int .i64 (q : Int) ∧ q ≤ m ∧ Hid (Tw wr (T.put i { p with l := xored p.l off (bs.take q), sb := p.sb })) ∧ Hid (Touch T.own w2 wr)) (fun a _ => m - (intOf a).toNat)
  case atStart => exact ⟨0, rfl, Nat.zero_le _, HS0, Touch.refl _ _⟩
  case round =>
    obtain ⟨q, rfl, hqm, HQ, HTQ⟩ := hrel
    clear x0 x1 x3 x4 HS0
    by_cases hlt : q < m
    · have zlt : (q : Int) < (m : Int) := by omega
      obtain ⟨s, hs1⟩ : ∃ s, off + q = s := ⟨_, rfl⟩
      have r1 : IntKind.i64.wrap ((off : Int) + (q : Int)) = (s : Int) := by rw [IntKind.wrap_i64]; omega
      have zs : (s : Int) < (n : Int) := by omega
      have HAT := Lib.hid hs1
      have HRD := Lib.hid (HRD2.out.touch0 HTQ.out (fun h0 ad e => (HBO.out h0 ad e).1))
      obtain ⟨adD, b, rfl, hbq, cD⟩ := HRD.out.get hlt
      have hb256 : b < 256 := HFB.out.get hbq
      have HX4 := HX.out.touch HTQ.out HNEW.out
      have x1 := HX4.cell 1
      simp only [List.getElem?_cons_zero, List.getElem?_cons_succ] at x1
      have hB := HQ.out.bytes { p with l := xored p.l off (bs.take q), sb := p.sb } (List.mem_of_getElem? (i := i) (by simp [Tv.put, HROWS.out, hil]))
      have zf : wr.frozen? ⟨p.bb, s, none⟩ = false := hB.frozen s
      obtain ⟨z, hz⟩ : ∃ z, p.l[off + q]? = some z := ⟨_, List.getElem?_eq_getElem (by rw [HN.out]; omega)⟩
      have hz256 : z < 256 := HFL.out.get hz
      have zc : wr.cell? ⟨p.bb, s, none⟩ = some (.int .u8 (z : Int)) := by
        rw [hB.cell, ← hs1]; exact cn_get (xored_at p.l off bs q z hz (by rw [HBS.out.rd.1]; omega))
      have HSTEPX : Hid (xored p.l off (bs.take (q + 1)) = (xored p.l off (bs.take q)).set s (z ^^^ b)) := by rw [← hs1]; exact xored_step p.l off bs q b z hbq hz
      clear hz
      have HBY := Lib.hid hB
      have c1 : wr.cell? ⟨T.t, 1, none⟩ = some (.slice T.ba (T.rows.set i { p with l := xored p.l off (bs.take q), sb := p.sb }).length T.bc) := HQ.out.blk.cell 1
      rw [List.length_set, HROWS.out] at c1
      obtain ⟨adb, eb, _, hcb⟩ := HQ.out.tabB (by simp [Tv.put]; rw [HROWS.out]; omega)
      have c9 := hcb i (TRow.bv { p with l := xored p.l off (bs.take q), sb := p.sb }) (by simp [Tv.put, HROWS.out, hil])
      simp only [Tv.put] at eb
      rw [eb] at c1
      simp only [TRow.bv, xored_length] at c9
      rw [HN.out] at c9
      have HSTEP : Hid (∃ q' : Nat, Value.int .i64 ((q : Int) + 1) = .int .i64 (q' : Int) ∧ q' ≤ m ∧ Hid (Tw ((wr.drewN 1).setCell ⟨p.bb, s, none⟩ (.int .u8 ((z ^^^ b : Nat) : Int))) (T.put i { p with l := xored p.l off (bs.take q'), sb := p.sb })) ∧ Hid (Touch T.own w2 ((wr.drewN 1).setCell ⟨p.bb, s, none⟩ (.int .u8 ((z ^^^ b : Nat) : Int))))) := by
        have hD := HQ.out.below (below_drewN (Below.refl _ wr) 1)
        have t1 : Touch [p.bb, p.mm] (wr.drewN 1) ((wr.drewN 1).setCell ⟨p.bb, s, none⟩ (.int .u8 ((z ^^^ b : Nat) : Int))) := (Touch.refl _ _).setCell (p := ⟨p.bb, s, none⟩) (.inl (by simp)) _
        have t2 : Touch T.own (wr.drewN 1) ((wr.drewN 1).setCell ⟨p.bb, s, none⟩ (.int .u8 ((z ^^^ b : Nat) : Int))) := (Touch.refl _ _).setCell (p := ⟨p.bb, s, none⟩) (.inl HBB.out) _
        have hB1 : Blk ((wr.drewN 1).setCell ⟨p.bb, s, none⟩ (.int .u8 ((z ^^^ b : Nat) : Int))) p.bb 5 (cn .u8 (xored p.l off (bs.take (q + 1)))) := by
          rw [HSTEPX.out, ← cn_set]
          exact (HBY.out.drewN 1).set_ s _
        have hM := hD.bads { p with l := xored p.l off (bs.take q), sb := p.sb } (List.mem_of_getElem? (i := i) (by simp [Tv.put, HROWS.out, hil]))
        have hmm : p.mm ∉ [p.bb] := fun hm => nodup_row (List.nodup_cons.1 H2.out.tw.apart).2 HP.out (List.mem_singleton.1 hm).symm
        have t3 : Touch [p.bb] (wr.drewN 1) ((wr.drewN 1).setCell ⟨p.bb, s, none⟩ (.int .u8 ((z ^^^ b : Nat) : Int))) := (Touch.refl _ _).setCell (p := ⟨p.bb, s, none⟩) (.inl (by simp)) _
        have := hD.setRow (i := i) (p := { p with l := xored p.l off (bs.take q), sb := p.sb }) (by simp [Tv.put, HROWS.out, hil]) (xored p.l off (bs.take (q + 1))) p.sb (by simp [xored_length]) rfl (xored_fit HFL.out (HFB.out.take _)) t1 hB1 (hM.touch t3 hmm)
        refine ⟨q + 1, by go_num, by omega, ?_, (HTQ.out.drewN 1).trans t2⟩
        have e : (T.put i { p with l := xored p.l off (bs.take q), sb := p.sb }).put i { p with l := xored p.l off (bs.take (q + 1)), sb := p.sb } = T.put i { p with l := xored p.l off (bs.take (q + 1)), sb := p.sb } := by
          simp [Tv.put]
        rw [← e]; exact this
      rw [← u8_xor_nat z b hz256 hb256] at HSTEP
      clear hs1 hB hbq hcb eb HX4
      go_wp2_with fail
      go_still_tail 15, (by kernel_rfl)
      change wpList _ _ _ _ _ wr.drew
      have zf : wr.drew.frozen? ⟨p.bb, s, none⟩ = false := zf
      have zc : wr.drew.cell? ⟨p.bb, s, none⟩ = some (.int .u8 (z : Int)) := zc
      go_wp2
      go_roundw
      case rel => exact HSTEP.out
      case measure => simp [intOf]; omega
    · obtain rfl : q = m := by omega
      have hfin : Hid (bs.take q = bs) := List.take_of_length_le (by rw [HBS.out.rd.1]; omega)
      have HTF2 : Hid (Tw wr (T.put i { p with l := xored p.l off bs, sb := p.sb })) := by have := HQ.out; rwa [hfin.out] at this
      have HX4 := HX.out.touch HTQ.out HNEW.out
      have x1 := HX4.cell 1
      have x3 := HX4.cell 3
      have x4 := HX4.cell 4
      simp only [List.getElem?_cons_zero, List.getElem?_cons_succ] at x1 x3 x4
      have HTN := Lib.hid (Turn_ok D wr (H2.out.drv.touchFar HTQ.out (fun g hg => H2.out.dfar g hg)) i q0 HJ.out.1 nm HJ.out.2.1 off dA q dc bs (HRD2.out.touch0 HTQ.out (fun h0 ad e => (HBO.out h0 ad e).1)) HFB.out (fun h0 ad e => (HBO.out h0 ad e).2) (by rw [HJ.out.2.2, HN.out]; exact hlo))
      clear HX4
      go_wp2_with fail
      refine HTN.out.mono ?_
      rintro e w4 ⟨rfl, hD4, ht4⟩
      have hS' := H2.out.same.put HI.out HJ.out.1 (xored p.l off bs) (by rw [xored_length, HJ.out.2.2])
      have hK : Kept2 T (T.put i { p with l := xored p.l off bs }) D (D.put i { q0 with l := xored p.l off bs }) :=
        ⟨tw_own_put HI.out, own_put HJ.out.1 rfl rfl, rfl, rfl, fun b hb => Tv.far_same (tw_own_put HI.out) rfl rfl rfl rfl rfl hb, fun b hb => show (D.put i { q0 with l := xored p.l off bs }).far b from Dv.far_same (own_put (q := { q0 with l := xored p.l off bs }) HJ.out.1 rfl rfl) rfl rfl hb, ⟨Int.le_refl _, (show T.count ≤ T.count + 1 by omega), Int.le_refl _, (show T.told ≤ T.told + 1000000 by omega)⟩, Int.le_refl _, T.put_ps HI.out rfl (xored_length _ _ _)⟩
      have hD4' : Drv w4 (D.put i { q0 with l := xored p.l off bs }) := by have := hD4; rwa [HJ.out.2.2] at this
      have HF : Hid (Both w4 (T.put i { p with l := xored p.l off bs }) (D.put i { q0 with l := xored p.l off bs })) := H2.out.next hS' hK HTF2.out ht4 hD4'
      have HK := Lib.hid hK
      have HTF : Hid (Touch (T.own ++ D.own) w w4) := ((Touch.of_below _ HB2.out).trans (HTQ.out.wider (fun x hx => List.mem_append.2 (.inl hx)))).trans (ht4.wider (fun x hx => List.mem_append.2 (.inr hx)))
      clear hD4 ht4 hS' hK hD4'
      go_wp2
      go_ret
      exact ⟨rfl, _, _, HF.out, HK.out.tt, HK.out.dg, HK.out.town, HK.out.down, HK.out.nums.2.1, HK.out.nums.2.2.2, HK.out.nums.1, HK.out.nums.2.2.1, HTF.out, HK.out.ps⟩
end
end Go.Proofs.Ytonjmbcagdkdiaa
