/-
  The program's short: what it answers.
-/
import Derived.Test.YtojpbfkdkkdpcaaDoorRing3
namespace Go.Proofs.YtojpbfkdkkdpcaaDoor
set_option maxRecDepth 100000
open Go.RowKit
set_option linter.unusedVariables false
set_option linter.unusedSimpArgs false

set_option maxRecDepth 100000 in
set_option maxHeartbeats 4000000 in
theorem short_any (g k N n0 : Nat) (A : Option Addr) (c : Nat) (R : Value) (ln : List Nat) (Aa : Option Addr) (ca : Nat) (la : List Nat) (Ab : Option Addr) (cb : Nat) (lb : List Nat) (w : World) (hr : Ringed w g k N n0 A c R ln) (ha : Rd .u32 w Aa k la) (hfa : Fit 4294967296 la) (hb : Rd .u32 w Ab k lb) (hfb : Fit 4294967296 lb) (hlt : val 4294967296 la < N) :
    Calls Tryd.prog 58 #[.pointer (some ⟨g, 0, none⟩), .slice Aa k ca, .slice Ab k cb] w (Shorted w k N (val 4294967296 la) (val 4294967296 lb)) := by
  have hc0 := hr.c0
  have k1 := hr.k1
  have k2 := hr.k2
  have HRR := Lib.hid hr
  have HA := Lib.hid ha
  have HB := Lib.hid hb
  have HLT := Lib.hid hlt
  obtain ⟨T1, hT1⟩ : ∃ T1, T1 = k + 1 := ⟨_, rfl⟩
  obtain ⟨T, hT⟩ : ∃ T, T = T1 + 1 := ⟨_, rfl⟩
  have hk1T : k + 1 < T := by omega
  have hT3 : (k : Int) + 2 = T := by omega
  have HT3 := Lib.hid hT3
  have HT := Lib.hid hT
  have HT1 := Lib.hid hT1
  clear hr ha hb hlt hT hT1 hT3
  go_enter Tryd.func58, Tryd.ntmps58
  go_wp2_with (first
    | ((with_reducible refine at_dst (some 18) ?_); refine wpList_makeNums (o := ⟨some 18, _, _, _, _, _⟩) rfl (.tmp 17) (.tmp 17) 45 73 rfl .u32 4 Tryd.underlying45 wordInfo (by omega) _ _ rfl rfl T HT3.out (by have := HT.out; have := HT1.out; omega) ?_; intro w1 hb1 hbel1 hs1))
  clear hc0
  have hgr : g < w.heap.size := HRR.out.blk.lt
  have haN : ∀ ad, Aa = some ad → ad.block ≠ w.heap.size := fun ad e => by have := HA.out.lt (by omega) ad e; omega
  have hnN : ∀ ad, A = some ad → ad.block ≠ w.heap.size := fun ad e => by have := HRR.out.rd.lt (by omega) ad e; omega
  have HAN := Lib.hid haN
  have HNN := Lib.hid hnN
  clear haN hnN
  go_loopw [21] (fun ii wr => ∃ (i : Nat) (O : List Nat), i ≤ k ∧ ii = .int .i64 (i : Int) ∧ Hid (Rows_ N (val 4294967296 la) lb k i O) ∧ Hid (Blk wr w.heap.size 73 (cn .u32 O)) ∧ Below w.heap.size w wr) (fun i _ => k - (intOf i).toNat)
  case atStart =>
    refine ⟨0, _, by omega, rfl, ⟨by rw [List.length_replicate]; have := HT.out; have := HT1.out; omega, Fit.replicate _ _ _ (by omega), by rw [val_replicate]; have := HRR.out.gt; omega, ?_⟩, hb1, hbel1⟩
    rw [val_replicate, List.take_zero, val, Nat.zero_mul, Nat.zero_mul]
  case round =>
    obtain ⟨i, O, hi, rfl, HI, HBO, hbe⟩ := hrel
    by_cases hik : i < k
    · obtain ⟨ad, x, rfl, hx, hcell⟩ := (HB.out.below hbe).get (j := i) (by omega)
      have hx1 := hfb.get hx
      have HX := Lib.hid hx
      clear hx
      go_wp2_with fail
      have hbd : val 4294967296 O + x * val 4294967296 la < 4294967296 ^ (k + 2) := by
        have := row_bound (B := 4294967296) (m := 0) (by omega) HRR.out.lt HI.out.lt hx1 HLT.out (by omega)
        omega
      refine (addRow_any w.heap.size k T T Aa ca O la x wr HBO.out HI.out.fit HI.out.len (by have := HT.out; have := HT1.out; omega) (HA.out.below hbe) hfa HAN.out hx1 (by omega) hbd).mono ?_
      rintro e w2 ⟨O1, rfl, hl1, hf1, hv1, hb2, hg2⟩
      have bel2 : Below w.heap.size w w2 := below_only hbe hg2 hbe.size (fun j hj => by injection hj with hj; omega)
      have q0 := (HRR.out.below bel2).c0
      have q1 := (HRR.out.below bel2).c1
      obtain ⟨o0, ho0⟩ := get_some (l := O1) (i := 0) (by omega)
      have hoc := (hb2.cell 0).trans (cn_get ho0)
      have hlow := low_val ho0 hf1
      have ho1 := hf1.get ho0
      have hn1 := HRR.out.n1
      obtain ⟨m, hm⟩ : ∃ m, m = o0 * n0 % 4294967296 := ⟨_, rfl⟩
      have hm1 : m < 4294967296 := by rw [hm]; exact Nat.mod_lt _ (by omega)
      have hmw : IntKind.u32.wrap ((o0 : Int) * n0) = (m : Int) := by rw [IntKind.wrap_u32', hm]; simp
      have hmw2 : (o0 : Int) * n0 % 4294967296 = (m : Int) := by rw [hm]; simp
      have hbd2 : val 4294967296 O1 + m * val 4294967296 ln < 4294967296 ^ (k + 2) := by
        rw [HRR.out.num, hv1]
        exact row_bound (B := 4294967296) (by omega) HRR.out.lt HI.out.lt hx1 HLT.out hm1
      have HM : Hid (m = val 4294967296 O1 % 4294967296 * n0 % 4294967296) := by show m = _; rw [← hlow]; exact hm
      have HD : Hid (val 4294967296 O1 + m * val 4294967296 ln < 4294967296 ^ (k + 2)) := hbd2
      have HV1 := Lib.hid hv1
      have HB2 := Lib.hid hb2
      have HL1 := Lib.hid hl1
      have hT0 : 0 < T := by omega
      clear hm hbd hbd2 hv1 hb2 hl1 ho0 hlow hg2
      have bel2' : Below w.heap.size w w2.drew := below_drew1 bel2
      go_wp2
      go_still_tail 13, (by kernel_rfl)
      change wpList _ _ _ _ _ w2.drew
      have HB2' : Hid (Blk w2.drew w.heap.size 73 (cn .u32 O1)) := HB2.out
      have HRR2 : Hid (Ringed w2.drew g k N n0 A c R ln) := HRR.out.below bel2'
      clear hmw hmw2 q0 q1 hoc HB2 bel2
      generalize w2.drew = w3 at *
      go_wp2_with fail
      refine (addRow_any w.heap.size k T T A c O1 ln m w3 HB2'.out hf1 HL1.out (by have := HT.out; have := HT1.out; omega) HRR2.out.rd HRR.out.fit HNN.out hm1 (by omega) HD.out).mono ?_
      rintro e w4 ⟨O2, rfl, hl2, hf2, hv2, hb4, hg4⟩
      have bel4 : Below w.heap.size w w4 := below_only bel2' hg4 bel2'.size (fun j hj => by injection hj with hj; omega)
      have hnx := HI.out.next HRR.out.inv HLT.out HX.out hx1 HV1.out HM.out hl2 hf2 (by rw [hv2, HRR.out.num])
      have HNX := Lib.hid hnx
      have HB4 := Lib.hid hb4
      have hlT : O2.length = T := by have := HT.out; have := HT1.out; omega
      have HLT2 := Lib.hid hlT
      obtain ⟨z, hz⟩ := get_last hlT HT.out
      have HZ := Lib.hid hz
      have hsl := run_from1 w.heap.size T T1 HT.out (by have := HT1.out; omega)
      have hk1 : (k : Int) + 1 = T1 := by have := HT1.out; omega
      have hT1T : T1 < T := by have := HT.out; omega
      clear hl2 hf2 hv2 hb4 hg4 hnx hlT hz hbe HBO hcell HB2' HRR2 bel2' HV1 HM HD HL1
      go_wp2_with (first
        | ((with_reducible refine at_dst (some 46) ?_); refine wpList_down (o := ⟨some 46, _, _, _, _, _⟩) rfl (.tmp 43) (.tmp 45) rfl w.heap.size T T1 T T1 rfl rfl O2 HLT2.out HT.out HB4.out ?_; intro w5 HB5 hg5; have hoc5 := (HB5.out.cell T1).trans (cn_get HZ.out); have hof5 := HB5.out.frozen T1))
      have bel5 : Below w.heap.size w w5 := below_only bel4 hg5 bel4.size (fun j hj => by injection hj with hj; omega)
      go_roundw
      case rel =>
        refine ⟨i + 1, _, by omega, by go_num, HNX, ?_, bel5.setCell (Nat.le_refl _) _⟩
        have := HB5.out.set_ T1 (.int .u32 ((0 : Nat) : Int))
        rw [cn_set, set_last HLT2.out HT.out] at this
        exact this
      case measure => simp [intOf]; omega
    · obtain rfl : k = i := by omega
      obtain ⟨o, ho⟩ := get_some (l := O) (i := k) (by rw [HI.out.len]; omega)
      have htop := top_val (B := 4294967296) (k := k) (o2 := 0) (V := val 4294967296 O) (by omega) HI.out.len HI.out.fit rfl (by have := HRR.out.lt; have := HI.out.lt; omega) ho
      have hoc := (HBO.out.cell k).trans (cn_get ho)
      have hsl := run_upto23 (some ⟨w.heap.size, 0, none⟩) T T k (by omega)
      have HRD : Hid (Rd .u32 wr (some ⟨w.heap.size, 0, none⟩) k (O.take k)) := (HBO.out.rd T (by rw [HI.out.len]; have := HT.out; have := HT1.out; omega)).take k (by omega)
      have HLS := Lib.hid HBO.out.lt
      have HTOP := Lib.hid htop.2
      have HFT := Lib.hid (HI.out.fit.take k)
      have HEQ := Lib.hid HI.out.eq
      have HV2 := Lib.hid HI.out.lt
      have HLB := Lib.hid HB.out.1
      have hle := htop.1
      have hkT : k < T := by omega
      clear htop ho
      have fin : ∀ (v : Nat), v = val 4294967296 O % N → v < N ∧ v * 4294967296 ^ k % N = val 4294967296 la * val 4294967296 lb % N := by
        intro v hv
        have hN : 0 < N := by have := HRR.out.gt; omega
        refine ⟨by rw [hv]; exact Nat.mod_lt _ hN, ?_⟩
        have h1 := HEQ.out
        rw [List.take_of_length_le (by rw [HLB.out]; exact Nat.le_refl _)] at h1
        rw [hv, Nat.mul_mod, Nat.mod_mod, ← Nat.mul_mod, h1, Nat.mul_comm]
      have FIN := Lib.hid fin
      clear fin
      rcases Nat.le_one_iff_eq_zero_or_eq_one.1 hle with rfl | rfl
      · go_wp2
        go_region_law (first
          | (go_simp; go_at_call 54; refine (Clone_any (some ⟨w.heap.size, 0, none⟩) k T (O.take k) _ (HRD.out.drewN _) HFT.out k1 (by omega)).mono ?_; rintro e w5 ⟨A5, c5, l5, rfl, hr5, hf5, hv5, hb5⟩; have hk5 := (hb5.cell (p := ⟨w.heap.size, k, none⟩) HLS.out).trans hoc; have HR5 := Lib.hid hr5; have HV5 := Lib.hid hv5; clear hr5 hv5)
          | (go_simp; go_at_call 81; refine (below_any g k N n0 A c R ln A5 c5 l5 false 0 (val 4294967296 O) w5 (HRR.out.below (below_then (below_drew1 hbe) hb5)) HR5.out hf5 (.inl ⟨rfl, rfl⟩) (by rw [HV5.out]; exact HTOP.out) HV2.out).mono ?_; rintro e w6 ⟨A6, c6, l6, rfl, hr6, hf6, hv6, hb6⟩; have HR6 := Lib.hid hr6; have HV6 := Lib.hid hv6; clear hr6 hv6))
        all_goals
          go_wp2
          go_ret
          exact ⟨A6, c6, l6, rfl, HR6.out, hf6, (FIN.out _ HV6.out).1, (FIN.out _ HV6.out).2, below_then (below_then (below_drew1 hbe) hb5) hb6⟩
      · go_wp2
        go_region_law (first
          | (go_simp; go_at_call 54; refine (Clone_any (some ⟨w.heap.size, 0, none⟩) k T (O.take k) _ (HRD.out.drewN _) HFT.out k1 (by omega)).mono ?_; rintro e w5 ⟨A5, c5, l5, rfl, hr5, hf5, hv5, hb5⟩; have hk5 := (hb5.cell (p := ⟨w.heap.size, k, none⟩) HLS.out).trans hoc; have HR5 := Lib.hid hr5; have HV5 := Lib.hid hv5; clear hr5 hv5)
          | (go_simp; go_at_call 81; refine (below_any g k N n0 A c R ln A5 c5 l5 true 1 (val 4294967296 O) w5 (HRR.out.below (below_then (below_drew1 hbe) hb5)) HR5.out hf5 (.inr ⟨rfl, rfl⟩) (by rw [HV5.out]; exact HTOP.out) HV2.out).mono ?_; rintro e w6 ⟨A6, c6, l6, rfl, hr6, hf6, hv6, hb6⟩; have HR6 := Lib.hid hr6; have HV6 := Lib.hid hv6; clear hr6 hv6))
        all_goals
          go_wp2
          go_ret
          exact ⟨A6, c6, l6, rfl, HR6.out, hf6, (FIN.out _ HV6.out).1, (FIN.out _ HV6.out).2, below_then (below_then (below_drew1 hbe) hb5) hb6⟩
end Go.Proofs.YtojpbfkdkkdpcaaDoor
