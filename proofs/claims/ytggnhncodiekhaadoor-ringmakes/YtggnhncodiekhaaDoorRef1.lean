/-
  The document's Trim, Digits, Low: what they answer of numbers in memory.
-/
import Derived.Test.YtggnhncodiekhaaDoorMem
namespace Go.Proofs.YtggnhncodiekhaaDoor
open Go.RowKit
set_option linter.unusedVariables false
set_option linter.unusedSimpArgs false

theorem add_zero_ (a : Addr) : a.add 0 = a := by unfold Addr.add; simp
theorem map_add0 (A : Option Addr) : A.map (·.add 0) = A := by cases A <;> simp [add_zero_]
theorem run_upto (A : Option Addr) (k cap : Nat) (hi : Nat) (h2 : hi ≤ cap) (w : World) :
    (Instr.slice 29 (.slice A k cap) none (some (.int .i64 (hi : Int))) none).run Tryd.prog w = .ok (.slice A hi cap) w := by
  obtain ⟨i0, hi0, hz0, hz1, hz2⟩ := info_parts intInfo
  simp [Instr.slice, run_underlying Tryd.underlying29, Instr.sliceBounds, run_sliceBound, sizeOf, typeInfo, hi0, hz1, h2, add_zero_]

theorem take_trim {l : List Nat} {i x : Nat} (hx : l[i]? = some x) : l.take (i + 1) = l.take i ++ [x] := by
  have hi := (List.getElem?_eq_some_iff.1 hx).1
  have e := (List.getElem?_eq_some_iff.1 hx).2
  rw [List.take_succ_eq_append_getElem hi, e]

set_option maxHeartbeats 400000 in
theorem Trim_any (A : Option Addr) (n cap : Nat) (l : List Nat) (w : World) (h : Rd .i64 w A n l) (hn : n ≤ 1000000) (hc : n ≤ cap) (hm : cap ≤ maxLen) :
    Calls Tryd.prog 30 #[.slice A n cap] w fun e w' => (∃ m, m ≤ n ∧ e = .returned (.slice A m cap) ∧ l.take m = trim l) ∧ w = w' := by
  have HR := Lib.hid h
  have hsl := run_upto A n cap
  unfold maxLen at hm
  clear h
  go_enter Tryd.func30, Tryd.ntmps30
  go_wp2
  go_loop [3] (fun v => ∃ j : Nat, j ≤ n ∧ v = .int .i64 (j : Int) ∧ Hid (trim l = trim (l.take j))) (fun v => (intOf v).toNat)
  case atStart => exact ⟨n, Nat.le_refl _, rfl, by show trim l = _; rw [List.take_of_length_le (by rw [HR.out.1]; exact Nat.le_refl _)]⟩
  case round =>
    obtain ⟨j, hj, rfl, ht⟩ := hrel
    rcases j with _ | i
    · go_wp2
      go_ret
      exact ⟨⟨0, by omega, rfl, by rw [ht.out]; rfl⟩, rfl⟩
    · obtain ⟨ad, x, rfl, hx, hcell⟩ := HR.out.get (j := i) (by omega)
      have HX := Lib.hid hx
      clear hx
      rcases x with _ | x
      · go_wp2
        go_round
        case rel => exact ⟨i, by omega, by go_num, by show trim l = _; rw [ht.out, take_trim HX.out, trim_zero]⟩
        case measure => simp [intOf]
      · go_wp2
        go_ret
        refine ⟨⟨i + 1, hj, rfl, ?_⟩, rfl⟩
        rw [ht.out, trim_of_tight]
        exact .inr ⟨l.take i, x + 1, take_trim HX.out, by omega⟩

/-- A call's answer: the digits of x; what was there before is as it was. -/
def GivesDigs (w : World) (x : Nat) (e : Ending) (w' : World) : Prop :=
  ∃ A m cap, e = .returned (.slice A m cap) ∧ Rd .i64 w' A m (digs x) ∧ m ≤ cap ∧ cap ≤ maxLen ∧ Below w.heap.size w w'

set_option maxHeartbeats 800000 in
theorem Digits_any (A : Option Addr) (n cap : Nat) (l : List Nat) (w : World) (h : Rd .u32 w A n l) (hf : Fit 4294967296 l) (hn : n ≤ 10000) :
    Calls Tryd.prog 12 #[.slice A n cap] w (GivesDigs w (val 4294967296 l)) := by
  have HR := Lib.hid h
  clear h
  go_enter Tryd.func12, Tryd.ntmps12
  go_wp2
  go_loopw [3, 4] (fun o i wr => ∃ (k m : Nat) (A1 : Option Addr) (c1 : Nat), k ≤ n ∧ i = .int .i64 (k : Int) ∧ o = .slice A1 m c1 ∧ Hid (m = 4 * k) ∧ Hid (Row wr w.heap.size 3 A1 m c1 (cn .i64 ((l.take k).flatMap four))) ∧ Below w.heap.size w wr ∧ w.heap.size ≤ wr.heap.size) (fun _ i _ => n - (intOf i).toNat)
  case atStart => exact ⟨0, 0, none, 0, by omega, rfl, rfl, rfl, Row.nil w _ _, below_self, Nat.le_refl _⟩
  case round =>
    obtain ⟨k, m, A1, c1, hk, rfl, rfl, HM, HRow, hbe, hB⟩ := hrel
    by_cases hkn : k < n
    · obtain ⟨ad, x, rfl, hx, hcell⟩ := (HR.out.below hbe).get (j := k) (by omega)
      have HX := Lib.hid hx
      clear hx
      go_wp2
      rename World => w2
      go_loopw [3, 5, 6] (fun o xx kk wr => ∃ (q m2 X : Nat) (A2 : Option Addr) (c2 : Nat), q ≤ 4 ∧ X < 4294967296 ∧ kk = .int .i64 (q : Int) ∧ xx = .int .u32 (X : Int) ∧ o = .slice A2 m2 c2 ∧ Hid (X = x / 256 ^ q) ∧ Hid (m2 = 4 * k + q) ∧ Hid (Row wr w.heap.size 3 A2 m2 c2 (cn .i64 ((l.take k).flatMap four ++ (four x).take q))) ∧ Below w.heap.size w wr ∧ w.heap.size ≤ wr.heap.size) (fun _ _ kk _ => 4 - (intOf kk).toNat)
      case atStart => exact ⟨0, m, x, A1, c1, by omega, hf.get HX.out, rfl, rfl, rfl, by show x = x / 256 ^ 0; simp, by show m = _; rw [HM.out]; rfl, by simpa using HRow, hbe, hB⟩
      case round =>
        obtain ⟨q, m2, X, A2, c2, hq, hXb, rfl, rfl, rfl, HXX, HM2, HRow2, hbe2, hB2⟩ := hrel
        have hm2 : m2 < 1000000 := by have := HM2.out; omega
        by_cases hq4 : q < 4
        · obtain ⟨m3, hm3⟩ : ∃ m3, m2 + 1 = m3 := ⟨_, rfl⟩
          have HM3 := Lib.hid hm3
          clear hm3
          go_wp2_with (first
            | ((with_reducible refine at_dst (some 26) ?_); refine wpList_appInt (o := ⟨some 26, _, _, _, _, _⟩) rfl (.tmp 21) (.tmp 25) rfl hbe2 hB2 (X % 256) _ (by omega) rfl HRow2.out rfl hm2 m3 HM3.out ?_; intro A3 c3 w3 HRow3 hbe3 hB3))
          go_roundw
          case rel =>
            refine ⟨q + 1, m3, X / 256, A3, c3, by omega, by omega, by go_num, by go_num, rfl, ?_, ?_, ?_, hbe3, hB3⟩
            · show X / 256 = _; rw [HXX.out, Nat.div_div_eq_div_mul, Nat.pow_succ]
            · show m3 = _; rw [← HM3.out, HM2.out]; omega
            · have := HRow3.out
              rw [HXX.out, List.append_assoc, ← take_trim (four_get x hq4)] at this
              exact this
          case measure => simp [intOf]; omega
        · obtain rfl : q = 4 := by omega
          go_wp2
          go_roundw
          case rel =>
            refine ⟨k + 1, m2, A2, c2, by omega, by go_num, rfl, ?_, ?_, hbe2, hB2⟩
            · show m2 = _; rw [HM2.out]; omega
            · have := HRow2.out
              rw [show (four x).take 4 = four x from rfl] at this
              show Row _ _ _ _ _ _ _
              rw [take_trim HX.out, List.flatMap_append]
              simpa using this
          case measure => simp [intOf]; omega
    · obtain rfl : k = n := by omega
      go_wp2_with fail
      have hr := HRow.out.rd
      rw [List.take_of_length_le (by rw [HR.out.1]; exact Nat.le_refl _)] at hr
      refine (Trim_any _ _ _ _ _ hr (by have := HM.out; omega) HRow.out.le.1 HRow.out.le.2).mono ?_
      rintro e w1 ⟨⟨j, hj, rfl, ht⟩, rfl⟩
      go_wp2
      go_ret
      refine ⟨_, _, _, rfl, ?_, Nat.le_trans hj HRow.out.le.1, HRow.out.le.2, hbe⟩
      have := hr.take j hj
      rwa [ht, trim_digs (fours_fit l), fours_val hf] at this

/-- The bytes of a list as digits, the highest first. -/
def vbe (l : List Nat) : Nat := val 256 l.reverse
theorem vbe_snoc (l : List Nat) (x : Nat) : vbe (l ++ [x]) = x + 256 * vbe l := by simp [vbe, val]
theorem drop_rev {l : List Nat} {i x : Nat} (hx : l[i]? = some x) : (l.drop i).reverse = (l.drop (i + 1)).reverse ++ [x] := by
  have hi := (List.getElem?_eq_some_iff.1 hx).1
  have e := (List.getElem?_eq_some_iff.1 hx).2
  rw [List.drop_eq_getElem_cons hi, e, List.reverse_cons]

end Go.Proofs.YtggnhncodiekhaaDoor
