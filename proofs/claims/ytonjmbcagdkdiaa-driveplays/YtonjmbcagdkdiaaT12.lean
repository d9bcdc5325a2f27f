/-
  A step of the laws: an operation of kind 3 that finds nothing to turn. No condition.
-/
import Derived.Test.YtonjmbcagdkdiaaT11
namespace Go.Proofs.Ytonjmbcagdkdiaa
open Go.RowKit Go.MapKept
set_option linter.unusedVariables false
set_option linter.unusedSimpArgs false
set_option maxRecDepth 100000

section
variable {T T' : Tv} {D D' : Dv} {w w' w2 : World}
set_option maxHeartbeats 4000000 in
theorem step_turn_no (h : Both w T D) (o : OpV) (hk : o.kind = 3) (hn : ∀ p ∈ T.rows, p.nm ≠ o.nm) (hb : Bs w o.dA o.dn o.dc o.db) :
    Calls Try.prog 12 #[.pointer (some ⟨D.g, 0, none⟩), .pointer (some ⟨T.t, 0, none⟩), Tv.op o] w (Stepped w T D) := by
  obtain ⟨kind, off, k, nm, dA, m, dc, bs, on, kA, kn, kc, kp⟩ := o
  simp only [] at hk hn hb
  subst hk
  unfold Tv.op
  have HB0 : Hid (Below w.heap.size w (w.alloc (.cells #[.int .i64 3, .int .i64 off, .int .i64 k, .string nm, .slice dA m dc, .bool on, .slice kA kn kc] 41))) := (Below.refl _ _).alloc (Nat.le_refl _) _
  have HX0 : Hid (Blk (w.alloc (.cells #[.int .i64 3, .int .i64 off, .int .i64 k, .string nm, .slice dA m dc, .bool on, .slice kA kn kc] 41)) w.heap.size 41 [.int .i64 3, .int .i64 off, .int .i64 k, .string nm, .slice dA m dc, .bool on, .slice kA kn kc]) := Blk.new w _ _
  have H0 := Lib.hid h
  have HNO := Lib.hid hn
  have hmc := hb.le
  have hcx := hb.max
  have HBS := Lib.hid hb
  clear h hn hb
  go_enter Try.func12, Try.ntmps12
  go_wp2_with fail
  generalize w.alloc (.cells #[.int .i64 3, .int .i64 off, .int .i64 k, .string nm, .slice dA m dc, .bool on, .slice kA kn kc] 41) = W at *
  refine (tpart_any T _ (H0.out.tw.below HB0.out) nm).mono ?_
  rintro e w2 ⟨r, rfl, hr, hb⟩
  obtain rfl := hr.none HNO.out
  have HB2 := Lib.hid (below_then HB0.out hb)
  have H2 := Lib.hid (H0.out.below HB2.out)
  have HX := Lib.hid (HX0.out.below hb HX0.out.lt)
  have x0 := HX.out.cell 0
  have x1 := HX.out.cell 1
  have x3 := HX.out.cell 3
  have x4 := HX.out.cell 4
  simp only [List.getElem?_cons_zero, List.getElem?_cons_succ] at x0 x1 x3 x4
  have HRD := Lib.hid (HBS.out.rd.below HB2.out)
  clear hb hr
  go_wp2
  go_loopw [101] (fun a wr => ∃ q : Nat, a = .int .i64 (q : Int) ∧ q ≤ m ∧ w2 = wr) (fun a _ => m - (intOf a).toNat)
  case atStart => exact ⟨0, rfl, Nat.zero_le _, rfl⟩
  case round =>
    obtain ⟨q, rfl, hqm, rfl⟩ := hrel
    by_cases hlt : q < m
    · have zlt : (q : Int) < (m : Int) := by omega
      obtain ⟨adD, b, rfl, hbq, cD⟩ := HRD.out.get hlt
      clear hbq
      go_wp2
      go_roundw
      case rel => exact ⟨q + 1, by go_num, by omega, by first | trivial | rfl⟩
      case measure => simp [intOf]; omega
    · obtain rfl : q = m := by omega
      go_wp2_with fail
      refine (Turn_part D w2 H2.out.drv nm (H2.out.same.none HNO.out) off dA q dc).mono ?_
      rintro e w3 ⟨rfl, hb3⟩
      have HB3 := Lib.hid (below_then HB2.out hb3)
      clear hb3
      go_wp2
      go_ret
      exact ⟨rfl, T, D, H0.out.below HB3.out, rfl, rfl, rfl, rfl, by omega, by omega, by omega, by omega, Touch.of_below _ HB3.out, rfl⟩
set_option maxHeartbeats 4000000 in
theorem step_turn_end (h : Both w T D) (o : OpV) (hk : o.kind = 3) (i : Nat) (p : TRow) (hi : T.rows[i]? = some p) (hs : p.nm = o.nm) (ho : I64 o.off) (hl : ¬ Lies o.off o.dn p.l.length) (hb : Bs w o.dA o.dn o.dc o.db) :
    Calls Try.prog 12 #[.pointer (some ⟨D.g, 0, none⟩), .pointer (some ⟨T.t, 0, none⟩), Tv.op o] w (Stepped w T D) := by
  obtain ⟨q0, hj, hqn, hql⟩ := h.same.at hi
  have hdn : o.dn ≤ 9223372036854775807 := Nat.le_trans hb.le hb.max
  obtain ⟨kind, off, k, nm, dA, m, dc, bs, on, kA, kn, kc, kp⟩ := o
  simp only [] at hk hs hl ho hb hdn
  subst hk
  unfold Tv.op
  have HB0 : Hid (Below w.heap.size w (w.alloc (.cells #[.int .i64 3, .int .i64 off, .int .i64 k, .string nm, .slice dA m dc, .bool on, .slice kA kn kc] 41))) := (Below.refl _ _).alloc (Nat.le_refl _) _
  have HX0 : Hid (Blk (w.alloc (.cells #[.int .i64 3, .int .i64 off, .int .i64 k, .string nm, .slice dA m dc, .bool on, .slice kA kn kc] 41)) w.heap.size 41 [.int .i64 3, .int .i64 off, .int .i64 k, .string nm, .slice dA m dc, .bool on, .slice kA kn kc]) := Blk.new w _ _
  have H0 := Lib.hid h
  have HNM := Lib.hid h.tw.names
  have HI := Lib.hid hi
  have HSN := Lib.hid hs
  have HL := Lib.hid hl
  have HQ : Hid (q0 ∈ D.pts ∧ q0.nm = nm ∧ q0.l.length = p.l.length) := ⟨List.mem_of_getElem? hj, hqn.trans hs, by rw [hql]⟩
  have hmc := hb.le
  have hcx := hb.max
  have HBS := Lib.hid hb
  have HO := Lib.hid ho
  have zi : (0 : Int) ≤ (i : Int) := by omega
  clear h hi hs hl hb hj hqn hql ho
  go_enter Try.func12, Try.ntmps12
  go_wp2_with fail
  generalize w.alloc (.cells #[.int .i64 3, .int .i64 off, .int .i64 k, .string nm, .slice dA m dc, .bool on, .slice kA kn kc] 41) = W at *
  refine (tpart_any T _ (H0.out.tw.below HB0.out) nm).mono ?_
  rintro e w2 ⟨r, rfl, hr, hb⟩
  obtain rfl := hr.is HNM.out HI.out HSN.out
  have HB2 := Lib.hid (below_then HB0.out hb)
  have H2 := Lib.hid (H0.out.below HB2.out)
  have HX := Lib.hid (HX0.out.below hb HX0.out.lt)
  have x0 := HX.out.cell 0
  have x1 := HX.out.cell 1
  have x3 := HX.out.cell 3
  have x4 := HX.out.cell 4
  simp only [List.getElem?_cons_zero, List.getElem?_cons_succ] at x0 x1 x3 x4
  have HRD := Lib.hid (HBS.out.rd.below HB2.out)
  have HTI := Lib.hid (tin_any T w2 H2.out.tw i p HI.out off (m : Int) HO.out ⟨by omega, by omega⟩ false (by simpa using HL.out))
  clear hb hr
  go_wp2_with fail
  refine HTI.out.mono ?_
  rintro e w3 ⟨rfl, rfl⟩
  clear HTI
  go_wp2
  go_loopw [101] (fun a wr => ∃ q : Nat, a = .int .i64 (q : Int) ∧ q ≤ m ∧ w2 = wr) (fun a _ => m - (intOf a).toNat)
  case atStart => exact ⟨0, rfl, Nat.zero_le _, rfl⟩
  case round =>
    obtain ⟨q, rfl, hqm, rfl⟩ := hrel
    by_cases hlt : q < m
    · have zlt : (q : Int) < (m : Int) := by omega
      obtain ⟨adD, b, rfl, hbq, cD⟩ := HRD.out.get hlt
      clear hbq
      go_wp2
      go_roundw
      case rel => exact ⟨q + 1, by go_num, by omega, by first | trivial | rfl⟩
      case measure => simp [intOf]; omega
    · obtain rfl : q = m := by omega
      go_wp2_with fail
      refine (Turn_end D w2 H2.out.drv q0 HQ.out.1 nm HQ.out.2.1 off dA q dc (by rw [HQ.out.2.2]; exact HL.out) HO.out.2 hdn).mono ?_
      rintro e w3 ⟨rfl, hb3⟩
      have HB3 := Lib.hid (below_then HB2.out hb3)
      clear hb3
      go_wp2
      go_ret
      exact ⟨rfl, T, D, H0.out.below HB3.out, rfl, rfl, rfl, rfl, by omega, by omega, by omega, by omega, Touch.of_below _ HB3.out, rfl⟩
end
end Go.Proofs.Ytonjmbcagdkdiaa
