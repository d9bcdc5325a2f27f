/-
  What bytes.Join without a separator answers.
-/
import Derived.Test.YtfoenafjaaidmaaDoorQ2
namespace Go.Proofs.YtfoenafjaaidmaaDoor
open Go.RowKit
set_option linter.unusedVariables false
set_option linter.unusedSimpArgs false
set_option maxRecDepth 100000

theorem flat_snoc (ps : List Bt) (i : Nat) (p : Bt) (h : ps[i]? = some p) : flat (ps.take (i + 1)) = flat (ps.take i) ++ p.l := by
  obtain ⟨hi, rfl⟩ := List.getElem?_eq_some_iff.1 h
  rw [List.take_succ_eq_append_getElem hi]
  simp only [flat, List.flatMap_append, List.flatMap_cons, List.flatMap_nil, List.append_nil]
theorem flat_take_le (ps : List Bt) (i : Nat) : (flat (ps.take i)).length ≤ (flat ps).length := by
  have : flat ps = flat (ps.take i) ++ flat (ps.drop i) := by
    simp only [flat]
    rw [← List.flatMap_append, List.take_append_drop]
  rw [this, List.length_append]; omega
/-- What was taken of the parts, as bytes. -/
def took (ps : List Bt) (i : Nat) : List UInt8 := (flat (ps.take i)).map UInt8.ofNat
theorem took_length (ps : List Bt) (i : Nat) : (took ps i).length = (flat (ps.take i)).length := by rw [took, List.length_map]
set_option maxHeartbeats 1000000 in
theorem Join_any (b n cap : Nat) (ps : List Bt) (w : World) (hP : PartsR w (some ⟨b, 0, none⟩) n ps) (h2 : 2 ≤ n) (hn : n ≤ 100) (hcap : n ≤ cap) (hcm : cap ≤ 1000) (T : Nat) (hT : (flat ps).length = T) (hTm : T ≤ 900000) :
    Calls Tryd.prog 45 #[.slice (some ⟨b, 0, none⟩) n cap, .slice none 0 0] w (GivesOwn w T (flat ps)) := by
  have HP := Lib.hid hP
  have f0 : ((n : Int) == 0) = false := beq_eq_false_iff_ne.2 (by omega)
  have f1 : ((n : Int) == 1) = false := beq_eq_false_iff_ne.2 (by omega)
  have HTT := Lib.hid hT
  obtain ⟨cs, hcall, hle⟩ := noZero_any w T (by omega)
  have i0 : (0 : Int) ≤ (T : Int) := by omega
  have i1 : (T : Int) ≤ (cs.size : Int) := by omega
  have HB0 := Lib.hid (Lib.Buf.start w cs 5 T 2 hle)
  have HCALL := Lib.hid hcall
  clear hP hT hcall
  go_enter Tryd.func45, Tryd.ntmps45
  go_wp2
  go_loopw [5, 44] (fun a o wr => ∃ i : Nat, i ≤ n ∧ o = .int .i64 (i : Int) ∧ a = .int .i64 ((flat (ps.take i)).length : Int) ∧ w = wr) (fun _ o _ => n - (intOf o).toNat)
  case atStart => exact ⟨0, by omega, rfl, rfl, rfl⟩
  case round =>
    obtain ⟨i, hi, rfl, rfl, rfl⟩ := hrel
    by_cases hin : i < n
    · obtain ⟨p, hpi⟩ : ∃ p, ps[i]? = some p := ⟨_, List.getElem?_eq_getElem (by rw [HP.out.1]; exact hin)⟩
      obtain ⟨ad, hA, had, hcell⟩ := HP.out.2.1 (by omega)
      injection hA with hA
      subst hA
      have hc := hcell i p hpi
      rw [addr_add, Nat.zero_add] at hc
      have hpm := HP.out.2.2 p (List.mem_of_getElem? hpi)
      have hlen := hpm.1.1
      have e1 := flat_snoc ps i p hpi
      have e2 := flat_take_le ps (i + 1)
      rw [HTT.out] at e2
      have e3 := congrArg List.length e1
      rw [List.length_append, hlen] at e3
      have HE3 := Lib.hid e3
      obtain ⟨m, hm⟩ : ∃ m, (flat (ps.take i)).length = m := ⟨_, rfl⟩
      obtain ⟨k, hk⟩ : ∃ k, (flat (ps.take (i + 1))).length = k := ⟨_, rfl⟩
      rw [hm, hk] at e3
      rw [hk] at e2
      rw [hm]
      have hb : ¬ (9223372036854775807 - (m : Int) < (p.n : Int)) := by omega
      have hbw : (9223372036854775807 : Int) - (m : Int) ≤ 9223372036854775807 := by omega
      have hkk : ((flat (ps.take (i + 1))).length : Int) = (m : Int) + (p.n : Int) := by rw [hk]; omega
      have HKK := Lib.hid hkk
      have hmb : m + p.n ≤ 900000 := by omega
      clear hcell hpm hlen e1 e2 e3 hm hk hkk hpi
      go_wp2
      go_roundw
      case rel => exact ⟨i + 1, by omega, by go_num, by rw [HKK.out], trivial⟩
      case measure => simp [intOf]; omega
    · obtain rfl : i = n := by omega
      have hall : (flat (ps.take i)).length = T := by rw [List.take_of_length_le (by rw [HP.out.1]; omega)]; exact HTT.out
      rw [hall]
      have hcall := HCALL.out
      obtain ⟨p0, hp0⟩ : ∃ p, ps[0]? = some p := ⟨_, List.getElem?_eq_getElem (by rw [HP.out.1]; omega)⟩
      obtain ⟨ad, hA, had, hcell⟩ := HP.out.2.1 (by omega)
      injection hA with hA
      subst hA
      have HCELL := Lib.hid hcell
      have hc := hcell 0 p0 hp0
      rw [addr_add, Nat.zero_add] at hc
      have hpm := HP.out.2.2 p0 (List.mem_of_getElem? hp0)
      have hc0 : ((w.alloc (.cells cs 5)).drewN 2).cell? ⟨b, 0, none⟩ = some (.slice p0.A p0.n p0.cap) := Lib.Below.cellOf HB0.out.below hc (Nat.le_refl _)
      have e1 := flat_snoc ps 0 p0 hp0
      have e2 := flat_take_le ps (0 + 1)
      have el : p0.l.length ≤ T := by
        rw [← HTT.out]
        rw [e1] at e2
        simpa [flat] using e2
      obtain ⟨w1, hr1, B1⟩ := Lib.copy_part (P := Tryd.prog) w _ w.heap.size T [] (p0.l.map UInt8.ofNat) (.slice p0.A p0.n p0.cap) 22 3 5 Tryd.underlying22 byteSize (Nat.le_refl _) HB0.out (hpm.1.holds hpm.2.1) (by simpa using el)
      rw [List.length_nil, Lib.tailV_zero, List.length_map, hpm.1.1] at hr1
      have HB1 : Hid (Lib.Buf w w1 w.heap.size T (took ps 1)) := by
        show Lib.Buf _ _ _ _ _
        rw [took, e1]
        simpa [flat] using B1
      have hl0 : ((took ps 1).length : Int) = (p0.n : Int) := by
        rw [took_length, e1]
        simp [flat, hpm.1.1]
      have HL0 := Lib.hid hl0
      clear hcell hpm e1 e2 el B1 hl0 hp0
      go_wp2_with (at_builtin; refine Lib.wpList_copy_run _ rfl _ _ 22 22 rfl _ _ rfl rfl hr1 ?_)
      clear hcall hr1 hc hc0
      go_loopw [9, 72] (fun a o wr => ∃ j : Nat, j ≤ i - 1 ∧ o = .int .i64 (j : Int) ∧ a = .int .i64 ((took ps (1 + j)).length : Int) ∧ Hid (Lib.Buf w wr w.heap.size T (took ps (1 + j)))) (fun _ o _ => i - 1 - (intOf o).toNat)
      case atStart => exact ⟨0, by omega, rfl, by rw [HL0.out], HB1⟩
      case round =>
        obtain ⟨j, hj, rfl, rfl, HB⟩ := hrel
        obtain ⟨q, hq⟩ : ∃ q, (took ps (1 + j)).length = q := ⟨_, rfl⟩
        have hqT : q ≤ T := by rw [← hq]; exact HB.out.fits
        by_cases hjn : j < i - 1
        · have hjz : (j : Int) < ((i - 1 : Nat) : Int) := by omega
          obtain ⟨p, hpi⟩ : ∃ p, ps[1 + j]? = some p := ⟨_, List.getElem?_eq_getElem (by rw [HP.out.1]; omega)⟩
          have hc := HCELL.out (1 + j) p hpi
          rw [addr_add, Nat.zero_add] at hc
          have hcw : wr.cell? ⟨b, 1 + j, none⟩ = some (.slice p.A p.n p.cap) := Lib.Below.cellOf HB.out.below hc (Nat.le_refl _)
          have hpm := HP.out.2.2 p (List.mem_of_getElem? hpi)
          have e1 := flat_snoc ps (1 + j) p hpi
          have e2 := flat_take_le ps (1 + j + 1)
          rw [HTT.out, e1, List.length_append, ← took_length, hq, hpm.1.1] at e2
          have hsl1 : ∀ W, (Instr.slice 22 (.slice (some ⟨w.heap.size, 0, none⟩) T T) (some (.int .i64 (q : Int))) none none).run Tryd.prog W = .ok (Lib.tailV w.heap.size T q) W := fun W => Lib.run_slice_tailV W 22 5 Tryd.underlying22 byteSz _ T q (by omega)
          have hr2 : (Builtin.copy_ #[22, 22] 3 #[Lib.tailV w.heap.size T q, .slice none 0 0]).run Tryd.prog wr = .ok (.int .i64 0) wr := run_copy_none (P := Tryd.prog) wr 22 22 3 5 _ _ _ _ _ _ Tryd.underlying22 byteSize (Nat.zero_min _)
          obtain ⟨w3, hr3, B3⟩ := Lib.copy_part (P := Tryd.prog) w wr w.heap.size T (took ps (1 + j)) (p.l.map UInt8.ofNat) (.slice p.A p.n p.cap) 22 3 5 Tryd.underlying22 byteSize (Nat.le_refl _) HB.out (hpm.1.holds hpm.2.1) (by rw [hq, List.length_map, hpm.1.1]; exact e2)
          rw [hq, List.length_map, hpm.1.1] at hr3
          have HB3 : Hid (Lib.Buf w w3 w.heap.size T (took ps (1 + (j + 1)))) := by
            show Lib.Buf _ _ _ _ _
            rw [took, show 1 + (j + 1) = 1 + j + 1 by omega, e1, List.map_append]
            exact B3
          have HLL : Hid (((took ps (1 + (j + 1))).length : Int) = (q : Int) + (p.n : Int)) := by
            show _ = _
            rw [took_length, show 1 + (j + 1) = 1 + j + 1 by omega, e1, List.length_append, ← took_length, hq, hpm.1.1]
            omega
          have hwr : IntKind.i64.wrap ((q : Int) + (p.n : Int)) = (q : Int) + (p.n : Int) := by rw [IntKind.wrap_i64]; omega
          rw [hq]
          clear hc hpm e1 e2 B3 hpi hq
          go_wp2_with (at_builtin; first | refine Lib.wpList_copy_run _ rfl _ _ 22 22 rfl _ _ rfl rfl hr2 ?_ | refine Lib.wpList_copy_run _ rfl _ _ 22 22 rfl _ _ rfl rfl hr3 ?_)
          go_roundw
          case rel => exact ⟨j + 1, by omega, by go_num, by rw [HLL.out], HB3⟩
          case measure => simp [intOf]; omega
        · obtain rfl : j = i - 1 := by omega
          have hjz : ¬ ((i - 1 : Nat) : Int) < ((i - 1 : Nat) : Int) := by omega
          have ht : took ps (1 + (i - 1)) = (flat ps).map UInt8.ofNat := by
            rw [took, List.take_of_length_le (by rw [HP.out.1]; omega)]
          have hb := HB.out
          rw [ht] at hb
          have HB4 := Lib.hid hb
          clear hb ht HB hq
          go_wp2
          go_ret
          have hfit : Fit 256 (flat ps) := flat_fit (fun p hp => (HP.out.2.2 p hp).2.1)
          exact ⟨_, rfl, Nat.le_refl _, Buf.rd HB4.out hfit HTT.out, HB4.out.below⟩
end Go.Proofs.YtfoenafjaaidmaaDoor
