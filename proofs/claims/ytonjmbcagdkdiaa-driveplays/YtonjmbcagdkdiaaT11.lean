/-
  A step of the laws: an operation of kind 4. No condition.
-/
import Derived.Test.YtonjmbcagdkdiaaT10
namespace Go.Proofs.Ytonjmbcagdkdiaa
open Go.RowKit Go.MapKept
set_option linter.unusedVariables false
set_option linter.unusedSimpArgs false
set_option maxRecDepth 100000

section
variable {T T' : Tv} {D D' : Dv} {w w' w2 : World}
set_option maxHeartbeats 4000000 in
theorem step_bad_no (h : Both w T D) (o : OpV) (hk : o.kind = 4) (hn : ∀ p ∈ T.rows, p.nm ≠ o.nm) :
    Calls Try.prog 12 #[.pointer (some ⟨D.g, 0, none⟩), .pointer (some ⟨T.t, 0, none⟩), Tv.op o] w (Stepped w T D) := by
  obtain ⟨kind, off, k, nm, dA, m, dc, bs, on, kA, kn, kc, kp⟩ := o
  simp only [] at hk hn
  subst hk
  unfold Tv.op
  have HB0 : Hid (Below w.heap.size w (w.alloc (.cells #[.int .i64 4, .int .i64 off, .int .i64 k, .string nm, .slice dA m dc, .bool on, .slice kA kn kc] 41))) := (Below.refl _ _).alloc (Nat.le_refl _) _
  have HX0 : Hid (Blk (w.alloc (.cells #[.int .i64 4, .int .i64 off, .int .i64 k, .string nm, .slice dA m dc, .bool on, .slice kA kn kc] 41)) w.heap.size 41 [.int .i64 4, .int .i64 off, .int .i64 k, .string nm, .slice dA m dc, .bool on, .slice kA kn kc]) := Blk.new w _ _
  have H0 := Lib.hid h
  have HNO := Lib.hid hn
  clear h hn
  go_enter Try.func12, Try.ntmps12
  go_wp2_with fail
  generalize w.alloc (.cells #[.int .i64 4, .int .i64 off, .int .i64 k, .string nm, .slice dA m dc, .bool on, .slice kA kn kc] 41) = W at *
  refine (tpart_any T _ (H0.out.tw.below HB0.out) nm).mono ?_
  rintro e w2 ⟨r, rfl, hr, hb⟩
  obtain rfl := hr.none HNO.out
  have HB2 := Lib.hid (below_then HB0.out hb)
  have H2 := Lib.hid (H0.out.below HB2.out)
  have HX := Lib.hid (HX0.out.below hb HX0.out.lt)
  have x0 := HX.out.cell 0
  have x1 := HX.out.cell 1
  have x3 := HX.out.cell 3
  have x5 := HX.out.cell 5
  simp only [List.getElem?_cons_zero, List.getElem?_cons_succ] at x0 x1 x3 x5
  clear hb hr
  go_wp2_with fail
  go_quiet (fail)
  go_wp2_with fail
  refine (Bad_part D _ (H2.out.drv.below (below_drewN (Below.refl _ w2) _)) nm (H2.out.same.none HNO.out) off on).mono ?_
  rintro e w3 ⟨rfl, hb3⟩
  have HB3 := Lib.hid (below_then (below_drewN HB2.out _) hb3)
  clear hb3
  go_wp2
  go_ret
  exact ⟨rfl, T, D, H0.out.below HB3.out, rfl, rfl, rfl, rfl, by omega, by omega, by omega, by omega, Touch.of_below _ HB3.out, rfl⟩
set_option maxHeartbeats 4000000 in
theorem step_bad_end (h : Both w T D) (o : OpV) (hk : o.kind = 4) (i : Nat) (p : TRow) (hi : T.rows[i]? = some p) (hs : p.nm = o.nm) (ho : I64 o.off) (hl : ¬ (0 ≤ o.off ∧ o.off < ((p.l.length / 64 : Nat) : Int))) :
    Calls Try.prog 12 #[.pointer (some ⟨D.g, 0, none⟩), .pointer (some ⟨T.t, 0, none⟩), Tv.op o] w (Stepped w T D) := by
  obtain ⟨kind, off, k, nm, dA, m, dc, bs, on, kA, kn, kc, kp⟩ := o
  simp only [] at hk hs hl ho
  subst hk
  unfold Tv.op
  have HB0 : Hid (Below w.heap.size w (w.alloc (.cells #[.int .i64 4, .int .i64 off, .int .i64 k, .string nm, .slice dA m dc, .bool on, .slice kA kn kc] 41))) := (Below.refl _ _).alloc (Nat.le_refl _) _
  have HX0 : Hid (Blk (w.alloc (.cells #[.int .i64 4, .int .i64 off, .int .i64 k, .string nm, .slice dA m dc, .bool on, .slice kA kn kc] 41)) w.heap.size 41 [.int .i64 4, .int .i64 off, .int .i64 k, .string nm, .slice dA m dc, .bool on, .slice kA kn kc]) := Blk.new w _ _
  have H0 := Lib.hid h
  obtain ⟨q, hj, hqn, hql⟩ := h.same.at hi
  have hp := List.mem_of_getElem? hi
  obtain ⟨N, hNN⟩ : ∃ N, T.rows.length = N := ⟨_, rfl⟩
  have hil := (List.getElem?_eq_some_iff.1 hi).1
  have hN16 : N ≤ 16 := by rw [← hNN]; exact h.tw.few
  rw [hNN] at hil
  have zil : (i : Int) < (N : Int) := by omega
  obtain ⟨S, hS⟩ : ∃ S, p.sb.length = S := ⟨_, rfl⟩
  have hSl : p.l.length / 64 = S := by rw [← hS]; exact (h.tw.size p hp).2.1.symm
  have hS2 : S ≤ 20000 := by rw [← hSl]; have := (h.tw.size p hp).1; omega
  rw [hSl] at hl
  have HQ : Hid (q ∈ D.pts ∧ q.nm = nm ∧ q.l.length / 64 = S ∧ D.pts[i]? = some q) := ⟨List.mem_of_getElem? hj, hqn.trans hs, by rw [hql]; exact hSl, hj⟩
  have HS := Lib.hid hS
  have HI := Lib.hid hi
  have HP := Lib.hid hp
  have HNN := Lib.hid hNN
  have HNM := Lib.hid h.tw.names
  have HSN := Lib.hid hs
  unfold I64 at ho
  clear h hi hj hp hNN hS hSl hqn hql hs
  go_enter Try.func12, Try.ntmps12
  go_wp2_with fail
  generalize w.alloc (.cells #[.int .i64 4, .int .i64 off, .int .i64 k, .string nm, .slice dA m dc, .bool on, .slice kA kn kc] 41) = W at *
  refine (tpart_any T _ (H0.out.tw.below HB0.out) nm).mono ?_
  rintro e w2 ⟨r, rfl, hr, hb⟩
  obtain rfl := hr.is HNM.out HI.out HSN.out
  have HB2 := Lib.hid (below_then HB0.out hb)
  have H2 := Lib.hid (H0.out.below HB2.out)
  have HX := Lib.hid (HX0.out.below hb HX0.out.lt)
  have x0 := HX.out.cell 0
  have x1 := HX.out.cell 1
  have x3 := HX.out.cell 3
  have x5 := HX.out.cell 5
  simp only [List.getElem?_cons_zero, List.getElem?_cons_succ] at x0 x1 x3 x5
  clear hb hr
  have c2 : w2.cell? ⟨T.t, 2, none⟩ = some (.slice T.sa T.rows.length T.sc) := H2.out.tw.blk.cell 2
  obtain ⟨ads, es, _, hcs⟩ := H2.out.tw.tabS (by simp; rw [HNN.out]; omega)
  have c9 := hcs i p.sv (by simp [HI.out])
  rw [es, HNN.out] at c2
  unfold TRow.sv at c9
  rw [HS.out] at c9
  clear hcs es
  have HL := Lib.hid hl
  by_cases h0 : 0 ≤ off
  · have zo : ¬ off < (S : Int) := by omega
    have d1 : decide (off < (S : Int)) = false := decide_eq_false zo
    have d0 : decide (0 ≤ off) = true := decide_eq_true h0
    go_wp2_with fail
    go_quiet (fail)
    go_wp2_with fail
    refine (Bad_end D _ (H2.out.drv.below (below_drewN (Below.refl _ w2) _)) q HQ.out.1 nm HQ.out.2.1 off on (by rw [HQ.out.2.2.1]; exact HL.out)).mono ?_
    rintro e w3 ⟨rfl, hb3⟩
    have HB3 := Lib.hid (below_then (below_drewN HB2.out _) hb3)
    clear hb3
    go_wp2
    go_ret
    exact ⟨by first | rfl | (simp; omega), T, D, H0.out.below HB3.out, rfl, rfl, rfl, rfl, by omega, by omega, by omega, by omega, Touch.of_below _ HB3.out, rfl⟩
  · have d0 : decide (0 ≤ off) = false := decide_eq_false h0
    have h0' : off < 0 := by omega
    go_wp2_with fail
    go_quiet (fail)
    go_wp2_with fail
    refine (Bad_end D _ (H2.out.drv.below (below_drewN (Below.refl _ w2) _)) q HQ.out.1 nm HQ.out.2.1 off on (by rw [HQ.out.2.2.1]; exact HL.out)).mono ?_
    rintro e w3 ⟨rfl, hb3⟩
    have HB3 := Lib.hid (below_then (below_drewN HB2.out _) hb3)
    clear hb3
    go_wp2
    go_ret
    exact ⟨by first | rfl | (simp; omega), T, D, H0.out.below HB3.out, rfl, rfl, rfl, rfl, by omega, by omega, by omega, by omega, Touch.of_below _ HB3.out, rfl⟩
end
end Go.Proofs.Ytonjmbcagdkdiaa
