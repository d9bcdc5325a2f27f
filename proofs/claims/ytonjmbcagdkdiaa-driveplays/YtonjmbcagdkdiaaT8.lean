/-
  A step of the laws: an operation of kind 2. No condition.
-/
import Derived.Test.YtonjmbcagdkdiaaT7
namespace Go.Proofs.Ytonjmbcagdkdiaa
open Go.RowKit Go.MapKept
set_option linter.unusedVariables false
set_option linter.unusedSimpArgs false
set_option maxRecDepth 100000

/-- The drive and the twin, beside one another. -/
structure Both (w : World) (T : Tv) (D : Dv) : Prop where
  drv : Drv w D
  tw : Tw w T
  same : Same T D
  tfar : ∀ b ∈ D.own, T.far b
  dfar : ∀ b ∈ T.own, D.far b
  lbd : T.left ≤ 9223372036854775807
section
variable {T T' : Tv} {D D' : Dv} {w w' w2 : World}
theorem Both.below (h : Both w T D) (hb : Below w.heap.size w w') : Both w' T D := ⟨h.drv.below hb, h.tw.below hb, h.same, h.tfar, h.dfar, h.lbd⟩
/-- The twin has turned, then the drive. -/
theorem Both.next (h : Both w T D) (hS : Same T' D') (hK : Kept2 T T' D D') (hT : Tw w2 T') (t : Touch D.own w2 w') (hD : Drv w' D') : Both w' T' D' where
  drv := hD
  tw := hT.touchFar t (fun g hg => hK.tfar g (h.tfar g hg))
  same := hS
  tfar b hb := hK.tfar b (h.tfar b (by rw [← hK.down]; exact hb))
  dfar b hb := hK.dfar b (h.dfar b (by rw [← hK.town]; exact hb))
  lbd := Int.le_trans hK.lf h.lbd
/-- What a step leaves. -/
def Stepped (w : World) (T : Tv) (D : Dv) (e : Ending) (w' : World) : Prop :=
  e = .returned (.bool true) ∧ ∃ T' D', Both w' T' D' ∧ T'.t = T.t ∧ D'.g = D.g ∧ T'.own = T.own ∧ D'.own = D.own ∧ T'.count ≤ T.count + 1 ∧ T'.told ≤ T.told + 1000000 ∧ T.count ≤ T'.count ∧ T.told ≤ T'.told ∧ Touch (T.own ++ D.own) w w' ∧ T'.ps = T.ps
set_option maxHeartbeats 2000000 in
theorem step_write (h : Both w T D) (o : OpV) (hk : o.kind = 2) (ho : I64 o.off) (hb : Bs w o.dA o.dn o.dc o.db) (hbo : 0 < o.dn → ∀ ad, o.dA = some ad → ad.block ∉ T.own ∧ ad.block ∉ D.own):
    Calls Try.prog 12 #[.pointer (some ⟨D.g, 0, none⟩), .pointer (some ⟨T.t, 0, none⟩), Tv.op o] w (Stepped w T D) := by
  have HO := Lib.hid hb
  have HPW : Hid (∀ w2, Below w.heap.size w w2 → Paired w2 T D (fun w K => Calls Try.prog 27 #[.pointer (some ⟨T.t, 0, none⟩), Tv.op o] w K) (fun w K => Calls Try.prog 19 #[.pointer (some ⟨D.g, 0, none⟩), .string o.nm, .int .i64 o.off, .slice o.dA o.dn o.dc] w K) (fun w1 => Bs w1 o.dA o.dn o.dc o.db)) := fun w2 h2 =>
    both_write (h.tw.below h2) h.same h.lbd o ho (HO.out.below h2) (fun h0 ad e => (hbo h0 ad e).1) (fun h0 ad e => (hbo h0 ad e).2)
  have HBT : Hid (∀ w3, Touch T.own w w3 → Bs w3 o.dA o.dn o.dc o.db) := fun w3 h3 => { HO.out with rd := HO.out.rd.touch0 h3 (fun h0 ad e => (hbo h0 ad e).1) }
  have HNEW : Hid (w.heap.size ∉ T.own) := fun hm => absurd (h.tw.lt _ hm) (Nat.lt_irrefl _)
  obtain ⟨kind, off, k, nm, dA, m, dc, bs, on, kA, kn, kc, kp⟩ := o
  simp only [] at hk HPW HBT
  subst hk
  unfold Tv.op at HPW ⊢
  have HB0 : Hid (Below w.heap.size w (w.alloc (.cells #[.int .i64 2, .int .i64 off, .int .i64 k, .string nm, .slice dA m dc, .bool on, .slice kA kn kc] 41))) := (Below.refl _ _).alloc (Nat.le_refl _) _
  have HX0 : Hid (Blk (w.alloc (.cells #[.int .i64 2, .int .i64 off, .int .i64 k, .string nm, .slice dA m dc, .bool on, .slice kA kn kc] 41)) w.heap.size 41 [.int .i64 2, .int .i64 off, .int .i64 k, .string nm, .slice dA m dc, .bool on, .slice kA kn kc]) := Blk.new w _ _
  have H0 := Lib.hid h
  clear h hb hbo HO
  go_enter Try.func12, Try.ntmps12
  go_wp2_with fail
  generalize w.alloc (.cells #[.int .i64 2, .int .i64 off, .int .i64 k, .string nm, .slice dA m dc, .bool on, .slice kA kn kc] 41) = W at *
  refine (tpart_any T _ (H0.out.tw.below HB0.out) nm).mono ?_
  rintro e w2 ⟨r, rfl, hr, hb⟩
  have HB2 := Lib.hid (below_then HB0.out hb)
  have H2 := Lib.hid (H0.out.below HB2.out)
  have HX := Lib.hid (HX0.out.below hb HX0.out.lt)
  have x0 := HX.out.cell 0
  have x1 := HX.out.cell 1
  have x2 := HX.out.cell 2
  have x3 := HX.out.cell 3
  have x4 := HX.out.cell 4
  have x5 := HX.out.cell 5
  have x6 := HX.out.cell 6
  simp only [List.getElem?_cons_zero, List.getElem?_cons_succ] at x0 x1 x2 x3 x4 x5 x6
  clear hb hr
  obtain ⟨er, T', D', hS', hK, hC, hD⟩ := HPW.out w2 HB2.out
  have HS' := Lib.hid hS'
  have HK := Lib.hid hK
  have HC := Lib.hid hC
  have HD := Lib.hid hD
  clear hS' hK hC hD
  go_wp2_with fail
  refine HC.out.mono ?_
  rintro e w3 ⟨rfl, hT3, ht3⟩
  have HT3 := Lib.hid hT3
  have HTT := Lib.hid ht3
  have HX3 := HX.out.touch ht3 HNEW.out
  have x1 := HX3.cell 1
  have x3 := HX3.cell 3
  have x4 := HX3.cell 4
  simp only [List.getElem?_cons_zero, List.getElem?_cons_succ] at x1 x3 x4
  clear hT3 ht3 HX3 x0 x2 x5 x6
  go_wp2_with fail
  refine (HD.out w3 (H2.out.drv.touchFar HTT.out (fun g hg => H2.out.dfar g hg)) (HBT.out w3 ((Touch.of_below T.own HB2.out).trans HTT.out))).mono ?_
  rintro e w4 ⟨rfl, hD4, ht4⟩
  have HF : Hid (Both w4 T' D') := H2.out.next HS'.out HK.out HT3.out ht4 hD4
  have HTF : Hid (Touch (T.own ++ D.own) w w4) := ((Touch.of_below _ HB2.out).trans (HTT.out.wider (fun x hx => List.mem_append.2 (.inl hx)))).trans (ht4.wider (fun x hx => List.mem_append.2 (.inr hx)))
  clear hD4 ht4
  go_wp2
  go_ret
  refine ⟨by simp, T', D', HF.out, HK.out.tt, HK.out.dg, HK.out.town, HK.out.down, HK.out.nums.2.1, HK.out.nums.2.2.2, HK.out.nums.1, HK.out.nums.2.2.1, HTF.out, HK.out.ps⟩
end
end Go.Proofs.Ytonjmbcagdkdiaa
