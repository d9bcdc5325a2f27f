/-
  A step of the laws: an operation of kind 1. No condition.
-/
import Derived.Test.YtonjmbcagdkdiaaT9
namespace Go.Proofs.Ytonjmbcagdkdiaa
open Go.RowKit Go.MapKept
set_option linter.unusedVariables false
set_option linter.unusedSimpArgs false
set_option maxRecDepth 100000

section
variable {T T' : Tv} {D D' : Dv} {w w' w2 : World}
set_option maxHeartbeats 4000000 in
theorem step_read (h : Both w T D) (o : OpV) (hk : o.kind = 1) (ho : I64 o.off) (hn : I64 o.n) (hct : 0 ≤ T.count ∧ T.count ≤ 1000 ∧ 0 ≤ T.told ∧ T.told ≤ 1000000000 - 1000000) :
    Calls Try.prog 12 #[.pointer (some ⟨D.g, 0, none⟩), .pointer (some ⟨T.t, 0, none⟩), Tv.op o] w (Stepped w T D) := by
  have HPR : Hid (∀ w2, Below w.heap.size w w2 → PairedRead w2 T D o) := fun w2 h2 => both_read (h.tw.below h2) ⟨_, h.drv⟩ h.same o ho hn hct
  have HNEW : Hid (w.heap.size ∉ T.own) := fun hm => absurd (h.tw.lt _ hm) (Nat.lt_irrefl _)
  have HNED : Hid (w.heap.size ∉ D.own) := fun hm => absurd (h.drv.lt _ hm) (Nat.lt_irrefl _)
  obtain ⟨kind, off, k, nm, dA, m, dc, bs, on, kA, kn, kc, kp⟩ := o
  simp only [] at hk
  subst hk
  unfold PairedRead Tv.op at HPR
  unfold Tv.op
  have HB0 : Hid (Below w.heap.size w (w.alloc (.cells #[.int .i64 1, .int .i64 off, .int .i64 k, .string nm, .slice dA m dc, .bool on, .slice kA kn kc] 41))) := (Below.refl _ _).alloc (Nat.le_refl _) _
  have HX0 : Hid (Blk (w.alloc (.cells #[.int .i64 1, .int .i64 off, .int .i64 k, .string nm, .slice dA m dc, .bool on, .slice kA kn kc] 41)) w.heap.size 41 [.int .i64 1, .int .i64 off, .int .i64 k, .string nm, .slice dA m dc, .bool on, .slice kA kn kc]) := Blk.new w _ _
  have H0 := Lib.hid h
  clear h
  go_enter Try.func12, Try.ntmps12
  go_wp2_with fail
  generalize w.alloc (.cells #[.int .i64 1, .int .i64 off, .int .i64 k, .string nm, .slice dA m dc, .bool on, .slice kA kn kc] 41) = W at *
  refine (tpart_any T _ (H0.out.tw.below HB0.out) nm).mono ?_
  rintro e w2 ⟨r, rfl, hr, hb⟩
  have HB2 := Lib.hid (below_then HB0.out hb)
  have H2 := Lib.hid (H0.out.below HB2.out)
  have HX := Lib.hid (HX0.out.below hb HX0.out.lt)
  have x0 := HX.out.cell 0
  have x1 := HX.out.cell 1
  have x2 := HX.out.cell 2
  have x3 := HX.out.cell 3
  have x4 := HX.out.cell 4
  have x5 := HX.out.cell 5
  have x6 := HX.out.cell 6
  simp only [List.getElem?_cons_zero, List.getElem?_cons_succ] at x0 x1 x2 x3 x4 x5 x6
  clear hb hr
  obtain ⟨er, n, l, T', D', hS', hK, hFl, hn6, hC, hD⟩ := HPR.out w2 HB2.out
  have HS' := Lib.hid hS'
  have HK := Lib.hid hK
  have HC := Lib.hid hC
  have HD := Lib.hid hD
  clear hS' hK hC hD
  go_wp2_with fail
  refine HC.out.mono ?_
  rintro e w3 ⟨⟨A, c, rfl, hA, hAo⟩, hT3, ht3⟩
  have HT3 := Lib.hid hT3
  have HTT := Lib.hid ht3
  have HA3 := Lib.hid hA
  have HAO := Lib.hid hAo
  have HX3 := HX.out.touch ht3 HNEW.out
  have x1 := HX3.cell 1
  have x2 := HX3.cell 2
  have x3 := HX3.cell 3
  simp only [List.getElem?_cons_zero, List.getElem?_cons_succ] at x1 x2 x3
  clear hT3 ht3 HX3 x0 x4 x5 x6 hA hAo
  go_wp2_with fail
  refine (HD.out w3 (H2.out.drv.touchFar HTT.out (fun g hg => H2.out.dfar g hg))).mono ?_
  rintro e w4 ⟨⟨B, rfl, hB⟩, hD4, ht4⟩
  have HF : Hid (Both w4 T' D') := H2.out.next HS'.out HK.out HT3.out ht4 hD4
  have HTF : Hid (Touch (T.own ++ D.own) w w4) := ((Touch.of_below _ HB2.out).trans (HTT.out.wider (fun x hx => List.mem_append.2 (.inl hx)))).trans (ht4.wider (fun x hx => List.mem_append.2 (.inr hx)))
  have HA4 : Hid (Rd .u8 w4 A n l) := HA3.out.touch ht4 (fun ad e hm => (H2.out.tfar _ hm).1 (HAO.out ad e))
  have q1 := rd_str HA4.out c
  have hBR : Rd .u8 w4 B n l := by
    rcases hB with ⟨rfl, rfl, rfl⟩ | ⟨g, rfl, _, hg, hgl⟩
    · exact Rd.nil _ _ _
    · exact hg.rd n hgl
  have q2 := rd_str hBR n
  have q3 : ((str l).toList == (str l).toList) = true := beq_self_eq_true _
  have HSZ : Hid (w.heap.size ≤ w3.heap.size) := Nat.le_trans HB2.out.size HTT.out.size
  generalize str l = G at q1 q2 q3
  rcases hB with ⟨rfl, rfl, rfl⟩ | ⟨g, rfl, hg3, hg, hgl⟩
  · clear hBR ht4 hD4
    go_wp2_with fail
    go_loopw [58] (fun a wr => a = .int .i64 0 ∧ wr = w4) (fun a _ => 0)
    case atStart => exact ⟨rfl, rfl⟩
    case round =>
      obtain ⟨rfl, rfl⟩ := hrel
      go_wp2
      go_ret
      exact ⟨rfl, T', D', HF.out, HK.out.tt, HK.out.dg, HK.out.town, HK.out.down, HK.out.nums.2.1, HK.out.nums.2.2.2, HK.out.nums.1, HK.out.nums.2.2.1, HTF.out, HK.out.ps⟩
  · have HG0 : Hid (∃ l', l'.length = n ∧ Fit 256 l' ∧ Blk w4 g 5 (cn .u8 l')) := ⟨l, hgl, hFl, hg⟩
    have hn9 : n ≤ 9223372036854775807 := by omega
    clear hBR ht4 hD4 hg
    have HG3 := Lib.hid hg3
    clear hg3 hgl
    go_wp2_with fail
    go_loopw [58] (fun a wr => ∃ i : Nat, a = .int .i64 (i : Int) ∧ i ≤ n ∧ Hid (∃ l', l'.length = n ∧ Fit 256 l' ∧ Blk wr g 5 (cn .u8 l')) ∧ Hid (Touch [g] w4 wr) ∧ Hid (Touch (T.own ++ D.own) w wr)) (fun a _ => n - (intOf a).toNat)
    case atStart => exact ⟨0, rfl, Nat.zero_le _, HG0, Touch.refl _ _, HTF⟩
    case round =>
      obtain ⟨i, rfl, hin, HGi, HTi, HTFi⟩ := hrel
      clear HG0 q1 q2
      by_cases hlt : i < n
      · have zlt : (i : Int) < (n : Int) := by omega
        obtain ⟨l', hl', hf', hB'⟩ := HGi.out
        obtain ⟨z, hz⟩ : ∃ z, l'[i]? = some z := ⟨_, List.getElem?_eq_getElem (by omega)⟩
        have hz256 : z < 256 := hf'.get hz
        have hc : wr.cell? ⟨g, i, none⟩ = some (.int .u8 (z : Int)) := by rw [hB'.cell]; exact cn_get hz
        have hf : wr.frozen? ⟨g, i, none⟩ = false := hB'.frozen i
        have HB' := Lib.hid hB'
        have HL' := Lib.hid hl'
        have HF' := Lib.hid hf'
        clear hB' hl' hf' hz
        go_wp2
        go_roundw
        case rel =>
          refine ⟨i + 1, by go_num, by omega, ⟨l'.set i (z ^^^ 255), by rw [List.length_set]; exact HL'.out, fun x hx => ?_, ?_⟩, HTi.out.setCell (.inl (by simp)) _, HTFi.out.setCell (p := ⟨g, i, none⟩) (.inr (Nat.le_trans HSZ.out HG3.out)) _⟩
          · rcases List.mem_or_eq_of_mem_set hx with hx | rfl
            · exact HF'.out x hx
            · exact Nat.xor_lt_two_pow (n := 8) hz256 (by decide)
          · have := HB'.out.set_ i (.int .u8 ((z ^^^ 255 : Nat) : Int))
            rw [cn_set] at this
            rw [← u8_xor_nat z 255 hz256 (by decide)] at this
            exact this
        case measure => simp [intOf]; omega
      · obtain rfl : i = n := by omega
        have hgD : D'.far g := HK.out.dfar g (H2.out.drv.far_new (Nat.le_trans HTT.out.size HG3.out))
        have hgT : T'.far g := HK.out.tfar g (H2.out.tw.far_new (Nat.le_trans HTT.out.size HG3.out))
        have HF2 : Hid (Both wr T' D') := ⟨HF.out.drv.touchFar HTi.out (fun b hb => by rw [List.mem_singleton.1 hb]; exact hgD), HF.out.tw.touchFar HTi.out (fun b hb => by rw [List.mem_singleton.1 hb]; exact hgT), HF.out.same, HF.out.tfar, HF.out.dfar, HF.out.lbd⟩
        have HTF2 := HTFi
        go_wp2
        go_ret
        exact ⟨rfl, T', D', HF2.out, HK.out.tt, HK.out.dg, HK.out.town, HK.out.down, HK.out.nums.2.1, HK.out.nums.2.2.2, HK.out.nums.1, HK.out.nums.2.2.1, HTF2.out, HK.out.ps⟩
end
end Go.Proofs.Ytonjmbcagdkdiaa
