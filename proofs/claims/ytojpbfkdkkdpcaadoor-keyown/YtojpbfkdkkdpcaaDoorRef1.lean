/-
  The document's Trim, Digits, Low: what they answer of numbers in memory.
-/
import Derived.Test.YtojpbfkdkkdpcaaDoorMem
namespace Go.Proofs.YtojpbfkdkkdpcaaDoor
set_option maxRecDepth 100000
open Go.RowKit
set_option linter.unusedVariables false
set_option linter.unusedSimpArgs false

theorem add_zero_ (a : Addr) : a.add 0 = a := by unfold Addr.add; simp
theorem map_add0 (A : Option Addr) : A.map (·.add 0) = A := by cases A <;> simp [add_zero_]
theorem run_upto (A : Option Addr) (k cap : Nat) (hi : Nat) (h2 : hi ≤ cap) (w : World) :
    (Instr.slice 59 (.slice A k cap) none (some (.int .i64 (hi : Int))) none).run Tryd.prog w = .ok (.slice A hi cap) w := by
  obtain ⟨i0, hi0, hz0, hz1, hz2⟩ := info_parts intInfo
  simp [Instr.slice, run_underlying Tryd.underlying59, Instr.sliceBounds, run_sliceBound, sizeOf, typeInfo, hi0, hz1, h2, add_zero_]

theorem take_trim {l : List Nat} {i x : Nat} (hx : l[i]? = some x) : l.take (i + 1) = l.take i ++ [x] := by
  have hi := (List.getElem?_eq_some_iff.1 hx).1
  have e := (List.getElem?_eq_some_iff.1 hx).2
  rw [List.take_succ_eq_append_getElem hi, e]

set_option maxHeartbeats 400000 in
theorem Trim_any (A : Option Addr) (n cap : Nat) (l : List Nat) (w : World) (h : Rd .i64 w A n l) (hn : n ≤ 1000000) (hc : n ≤ cap) (hm : cap ≤ maxLen) :
    Calls Tryd.prog 66 #[.slice A n cap] w fun e w' => (∃ m, m ≤ n ∧ e = .returned (.slice A m cap) ∧ l.take m = trim l) ∧ w = w' := by
  have HR := Lib.hid h
  have hsl := run_upto A n cap
  unfold maxLen at hm
  clear h
  go_enter Tryd.func66, Tryd.ntmps66
  go_wp2
  go_loop [3] (fun v => ∃ j : Nat, j ≤ n ∧ v = .int .i64 (j : Int) ∧ Hid (trim l = trim (l.take j))) (fun v => (intOf v).toNat)
  case atStart => exact ⟨n, Nat.le_refl _, rfl, by show trim l = _; rw [List.take_of_length_le (by rw [HR.out.1]; exact Nat.le_refl _)]⟩
  case round =>
    obtain ⟨j, hj, rfl, ht⟩ := hrel
    rcases j with _ | i
    · go_wp2
      go_ret
      exact ⟨⟨0, by omega, rfl, by rw [ht.out]; rfl⟩, rfl⟩
    · obtain ⟨ad, x, rfl, hx, hcell⟩ := HR.out.get (j := i) (by omega)
      have HX := Lib.hid hx
      clear hx
      rcases x with _ | x
      · go_wp2
        go_round
        case rel => exact ⟨i, by omega, by go_num, by show trim l = _; rw [ht.out, take_trim HX.out, trim_zero]⟩
        case measure => simp [intOf]
      · go_wp2
        go_ret
        refine ⟨⟨i + 1, hj, rfl, ?_⟩, rfl⟩
        rw [ht.out, trim_of_tight]
        exact .inr ⟨l.take i, x + 1, take_trim HX.out, by omega⟩

/-- A call's answer: the digits of x; what was there before is as it was. -/
def GivesDigs (w : World) (x : Nat) (e : Ending) (w' : World) : Prop :=
  ∃ A m cap, e = .returned (.slice A m cap) ∧ Rd .i64 w' A m (digs x) ∧ m ≤ cap ∧ cap ≤ maxLen ∧ Below w.heap.size w w'

/-- The bytes of a list as digits, the highest first. -/
def vbe (l : List Nat) : Nat := val 256 l.reverse
theorem vbe_snoc (l : List Nat) (x : Nat) : vbe (l ++ [x]) = x + 256 * vbe l := by simp [vbe, val]
theorem drop_rev {l : List Nat} {i x : Nat} (hx : l[i]? = some x) : (l.drop i).reverse = (l.drop (i + 1)).reverse ++ [x] := by
  have hi := (List.getElem?_eq_some_iff.1 hx).1
  have e := (List.getElem?_eq_some_iff.1 hx).2
  rw [List.drop_eq_getElem_cons hi, e, List.reverse_cons]

set_option maxHeartbeats 800000 in
theorem Low_any (A : Option Addr) (n cap : Nat) (l : List Nat) (w : World) (h : Rd .u8 w A n l) (hf : Fit 256 l) (hn : n ≤ 10000) :
    Calls Tryd.prog 41 #[.slice A n cap] w (GivesDigs w (vbe l)) := by
  have HR := Lib.hid h
  clear h
  go_enter Tryd.func41, Tryd.ntmps41
  go_wp2
  go_loopw [3, 4] (fun o i wr => ∃ (k m : Nat) (A1 : Option Addr) (c1 : Nat), k ≤ n ∧ i = .int .i64 ((k : Int) - 1) ∧ o = .slice A1 m c1 ∧ Hid (m = n - k) ∧ Hid (Row wr w.heap.size 3 A1 m c1 (cn .i64 (l.drop k).reverse)) ∧ Below w.heap.size w wr ∧ w.heap.size ≤ wr.heap.size) (fun _ i _ => (intOf i + 1).toNat)
  case atStart =>
    refine ⟨n, 0, none, 0, by omega, rfl, rfl, by show 0 = _; omega, ?_, below_self, Nat.le_refl _⟩
    show Row _ _ _ _ _ _ _
    rw [List.drop_eq_nil_of_le (by rw [HR.out.1]; exact Nat.le_refl _)]
    exact Row.nil w _ _
  case round =>
    obtain ⟨k, m, A1, c1, hk, rfl, rfl, HM, HRow, hbe, hB⟩ := hrel
    rcases k with _ | k
    · go_wp2_with fail
      have hr := HRow.out.rd
      rw [List.drop_zero] at hr
      refine (Trim_any _ _ _ _ _ hr (by have := HM.out; omega) HRow.out.le.1 HRow.out.le.2).mono ?_
      rintro e w1 ⟨⟨j, hj, rfl, ht⟩, rfl⟩
      go_wp2
      go_ret
      refine ⟨_, _, _, rfl, ?_, Nat.le_trans hj HRow.out.le.1, HRow.out.le.2, hbe⟩
      have := hr.take j hj
      rwa [ht, trim_digs hf.reverse] at this
    · obtain ⟨ad, x, rfl, hx, hcell⟩ := (HR.out.below hbe).get (j := k) (by omega)
      have HX := Lib.hid hx
      have hx2 := hf.get hx
      have hm2 : m < 1000000 := by have := HM.out; omega
      obtain ⟨m3, hm3⟩ : ∃ m3, m + 1 = m3 := ⟨_, rfl⟩
      have HM3 := Lib.hid hm3
      clear hx hm3
      go_wp2_with (first
        | ((with_reducible refine at_dst (some 19) ?_); refine wpList_appInt (o := ⟨some 19, _, _, _, _, _⟩) rfl (.tmp 12) (.tmp 18) rfl hbe hB x _ (by first | rfl | omega) rfl HRow.out rfl hm2 m3 HM3.out ?_; intro A3 c3 w3 HRow3 hbe3 hB3))
      go_roundw
      case rel =>
        refine ⟨k, m3, A3, c3, by omega, by go_num, rfl, ?_, ?_, hbe3, hB3⟩
        · show m3 = _; rw [← HM3.out, HM.out]; omega
        · have := HRow3.out
          rw [← drop_rev HX.out] at this
          exact this
      case measure => simp [intOf]
end Go.Proofs.YtojpbfkdkkdpcaaDoor
