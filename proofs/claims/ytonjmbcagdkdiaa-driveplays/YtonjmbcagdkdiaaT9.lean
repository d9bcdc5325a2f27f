/-
  A step of the laws: an operation of kind 6, and of no kind. No condition.
-/
import Derived.Test.YtonjmbcagdkdiaaT8
namespace Go.Proofs.Ytonjmbcagdkdiaa
open Go.RowKit Go.MapKept
set_option linter.unusedVariables false
set_option linter.unusedSimpArgs false
set_option maxRecDepth 100000

section
variable {T T' : Tv} {D D' : Dv} {w w' w2 : World}
theorem Tw.flags (h : Tw w T) (ar off : Bool) (t : Touch [T.t] w w') (hb : Blk w' T.t 34 ({ T with armed := ar, off := off } : Tv).cells) : Tw w' { T with armed := ar, off := off } := by
  refine h.upd T.left ar T.ka T.kc T.keep off T.count T.told t hb ?_ (fun h0 ad e => ⟨(h.keptOut h0 ad e).1, Nat.lt_of_lt_of_le (h.keptOut h0 ad e).2 t.size⟩) h.kcap
  rcases Nat.eq_zero_or_pos T.keep.length with h0 | h0
  · have e : T.keep = [] := List.eq_nil_of_length_eq_zero h0
    rw [e]
    exact fun hn => absurd hn (Nat.lt_irrefl _)
  · exact h.kept.touch t (fun ad e hm => (h.keptOut h0 ad e).1 (by rw [List.mem_singleton.1 hm]; exact tw_own_t T))
set_option maxHeartbeats 2000000 in
theorem step_none (h : Both w T D) (o : OpV) (hk : o.kind ≠ 1 ∧ o.kind ≠ 2 ∧ o.kind ≠ 3 ∧ o.kind ≠ 4 ∧ o.kind ≠ 5 ∧ o.kind ≠ 6) :
    Calls Try.prog 12 #[.pointer (some ⟨D.g, 0, none⟩), .pointer (some ⟨T.t, 0, none⟩), Tv.op o] w (Stepped w T D) := by
  obtain ⟨kind, off, k, nm, dA, m, dc, bs, on, kA, kn, kc, kp⟩ := o
  simp only [] at hk
  obtain ⟨k1, k2, k3, k4, k5, k6⟩ := hk
  unfold Tv.op
  have HB0 : Hid (Below w.heap.size w (w.alloc (.cells #[.int .i64 kind, .int .i64 off, .int .i64 k, .string nm, .slice dA m dc, .bool on, .slice kA kn kc] 41))) := (Below.refl _ _).alloc (Nat.le_refl _) _
  have HX0 : Hid (Blk (w.alloc (.cells #[.int .i64 kind, .int .i64 off, .int .i64 k, .string nm, .slice dA m dc, .bool on, .slice kA kn kc] 41)) w.heap.size 41 [.int .i64 kind, .int .i64 off, .int .i64 k, .string nm, .slice dA m dc, .bool on, .slice kA kn kc]) := Blk.new w _ _
  have H0 := Lib.hid h
  clear h
  go_enter Try.func12, Try.ntmps12
  go_wp2_with fail
  generalize w.alloc (.cells #[.int .i64 kind, .int .i64 off, .int .i64 k, .string nm, .slice dA m dc, .bool on, .slice kA kn kc] 41) = W at *
  refine (tpart_any T _ (H0.out.tw.below HB0.out) nm).mono ?_
  rintro e w2 ⟨r, rfl, hr, hb⟩
  have HB2 := Lib.hid (below_then HB0.out hb)
  have x0 := (HX0.out.below hb HX0.out.lt).cell 0
  simp only [List.getElem?_cons_zero, List.getElem?_cons_succ] at x0
  clear hb hr
  go_wp2
  go_ret
  exact ⟨rfl, T, D, H0.out.below HB2.out, rfl, rfl, rfl, rfl, by omega, by omega, by omega, by omega, Touch.of_below _ HB2.out, rfl⟩
set_option maxHeartbeats 2000000 in
theorem step_boot (h : Both w T D) (o : OpV) (hk : o.kind = 6) :
    Calls Try.prog 12 #[.pointer (some ⟨D.g, 0, none⟩), .pointer (some ⟨T.t, 0, none⟩), Tv.op o] w (Stepped w T D) := by
  obtain ⟨kind, off, k, nm, dA, m, dc, bs, on, kA, kn, kc, kp⟩ := o
  simp only [] at hk
  subst hk
  unfold Tv.op
  have HB0 : Hid (Below w.heap.size w (w.alloc (.cells #[.int .i64 6, .int .i64 off, .int .i64 k, .string nm, .slice dA m dc, .bool on, .slice kA kn kc] 41))) := (Below.refl _ _).alloc (Nat.le_refl _) _
  have HX0 : Hid (Blk (w.alloc (.cells #[.int .i64 6, .int .i64 off, .int .i64 k, .string nm, .slice dA m dc, .bool on, .slice kA kn kc] 41)) w.heap.size 41 [.int .i64 6, .int .i64 off, .int .i64 k, .string nm, .slice dA m dc, .bool on, .slice kA kn kc]) := Blk.new w _ _
  have H0 := Lib.hid h
  clear h
  go_enter Try.func12, Try.ntmps12
  go_wp2_with fail
  generalize w.alloc (.cells #[.int .i64 6, .int .i64 off, .int .i64 k, .string nm, .slice dA m dc, .bool on, .slice kA kn kc] 41) = W at *
  refine (tpart_any T _ (H0.out.tw.below HB0.out) nm).mono ?_
  rintro e w2 ⟨r, rfl, hr, hb⟩
  have HB2 := Lib.hid (below_then HB0.out hb)
  have H2 := Lib.hid (H0.out.below HB2.out)
  have x0 := (HX0.out.below hb HX0.out.lt).cell 0
  simp only [List.getElem?_cons_zero, List.getElem?_cons_succ] at x0
  clear hb hr
  go_wp2_with fail
  refine (Boot_any D w2 H2.out.drv).mono ?_
  rintro e w3 ⟨rfl, hD3, ht3⟩
  have HT3 := Lib.hid (H2.out.tw.touchFar ht3 (fun g hg => H2.out.tfar g (by rw [List.mem_singleton.1 hg]; exact own_g D)))
  have t4 : Touch [T.t] w3 ((w3.setCell ⟨T.t, 4, none⟩ (.bool false)).setCell ⟨T.t, 6, none⟩ (.bool false)) := ((Touch.refl _ w3).setCell (p := ⟨T.t, 4, none⟩) (.inl (by simp)) _).setCell (p := ⟨T.t, 6, none⟩) (.inl (by simp)) _
  have hT4 : Tw ((w3.setCell ⟨T.t, 4, none⟩ (.bool false)).setCell ⟨T.t, 6, none⟩ (.bool false)) { T with armed := false, off := false } := HT3.out.flags false false t4 ((HT3.out.blk.set_ 4 _).set_ 6 _)
  have hfar : ∀ b ∈ T.own, (({ D.unarm with down := false } : Dv)).far b := fun b hb => by
    have := H2.out.dfar b hb
    unfold Dv.far at this ⊢
    exact ⟨this.1, this.2.1, fun ad e => by cases e⟩
  have HF : Hid (Both ((w3.setCell ⟨T.t, 4, none⟩ (.bool false)).setCell ⟨T.t, 6, none⟩ (.bool false)) { T with armed := false, off := false } { D.unarm with down := false }) := by
    refine ⟨hD3.touchFar t4 (fun g hg => hfar g (by rw [List.mem_singleton.1 hg]; exact tw_own_t T)), hT4, ⟨H2.out.same.rows, H2.out.same.bads, rfl, ?_, (fun h => by cases h), (fun h => by cases h), H2.out.same.count, H2.out.same.told⟩, H2.out.tfar, hfar, H2.out.lbd⟩
    exact ⟨(fun h => by cases h), (fun h => by have h : (0 : Int) ≤ -1 := h; omega)⟩
  have HTF : Hid (Touch (T.own ++ D.own) w ((w3.setCell ⟨T.t, 4, none⟩ (.bool false)).setCell ⟨T.t, 6, none⟩ (.bool false))) := ((Touch.of_below _ HB2.out).trans (ht3.wider (fun x hx => List.mem_append.2 (.inr (by rw [List.mem_singleton.1 hx]; exact own_g D))))).trans (t4.wider (fun x hx => List.mem_append.2 (.inl (by rw [List.mem_singleton.1 hx]; exact tw_own_t T))))
  have z4 : w3.frozen? ⟨T.t, 4, none⟩ = false := HT3.out.blk.frozen 4
  have z6 : w3.frozen? ⟨T.t, 6, none⟩ = false := HT3.out.blk.frozen 6
  have c4 : w3.cell? ⟨T.t, 4, none⟩ = some (.bool T.armed) := HT3.out.blk.cell 4
  have c6 : w3.cell? ⟨T.t, 6, none⟩ = some (.bool T.off) := HT3.out.blk.cell 6
  clear ht3 hD3 hT4 hfar t4
  go_wp2
  go_ret
  exact ⟨rfl, _, _, HF.out, rfl, rfl, rfl, rfl, by show T.count ≤ T.count + 1; omega, by show T.told ≤ T.told + 1000000; omega, Int.le_refl _, Int.le_refl _, HTF.out, rfl⟩
end
end Go.Proofs.Ytonjmbcagdkdiaa
