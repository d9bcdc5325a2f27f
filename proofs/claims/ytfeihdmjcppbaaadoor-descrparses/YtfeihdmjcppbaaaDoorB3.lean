/-
  What ContainsFunc with like, allRight and anyTwice answer. No condition but that the texts are bytes that fit.
-/
import Derived.Test.YtfeihdmjcppbaaaDoorB2
namespace Go.Proofs.YtfeihdmjcppbaaaDoor
open Go.RowKit
set_option linter.unusedVariables false
set_option linter.unusedSimpArgs false
set_option maxRecDepth 100000

theorem des_get {xs : List Dx} {i : Nat} {x : Dx} (h : xs[i]? = some x) : (des xs)[i]? = some x.d := by simp [des, h]
theorem dup_yes {l : List De} {d y : De} {i : Nat} (h : l[i]? = some y) (hl : Like d y) : dup l d = true := by
  unfold dup
  rw [List.any_eq_true]
  exact ⟨y, List.mem_of_getElem? h, decide_eq_true hl⟩
theorem dup_no {l : List De} {d : De} (h : ∀ (i : Nat) y, l[i]? = some y → ¬ Like d y) : dup l d = false := by
  unfold dup
  rw [List.any_eq_false]
  intro y hy
  obtain ⟨i, hi, rfl⟩ := List.getElem_of_mem hy
  simpa using h i _ (List.getElem?_eq_getElem hi)
set_option maxHeartbeats 2000000 in
theorem IndexF_any (x : Dx) (A : Option Addr) (n cap : Nat) (xs : List Dx) (w : World) (hx : Fit 256 x.d.name) (hd : DL w A n xs) (hn : n ≤ 100000) : Calls Tryd.prog 51 #[.slice A n cap, .func (.func 35) #[x.val] #[]] w fun e w' => ∃ z, e = .returned (.int .i64 z) ∧ decide (0 ≤ z) = dup (des xs) x.d ∧ Below w.heap.size w w' := by
  obtain ⟨d0, hu0, hd0⟩ := uD
  have HX := Lib.hid hx
  have HD := Lib.hid hd
  obtain ⟨v, hv⟩ : ∃ v, x.val = v := ⟨_, rfl⟩
  have HV := Lib.hid hv
  rw [hv]
  clear hx hd hv
  go_enter Tryd.func51, Tryd.ntmps51
  go_wp2
  go_loopw [8] (fun o wr => ∃ i : Nat, i ≤ n ∧ o = .int .i64 (i : Int) ∧ (∀ (j : Nat) y, j < i → (des xs)[j]? = some y → ¬ Like x.d y) ∧ Hid (Below w.heap.size w wr)) (fun o _ => n - (intOf o).toNat)
  case atStart => exact ⟨0, Nat.zero_le _, rfl, fun j y h => absurd h (Nat.not_lt_zero j), Below.refl _ _⟩
  case round =>
    obtain ⟨i, hi, rfl, hall, HB⟩ := hrel
    have HA := Lib.hid hall
    clear hall
    by_cases hin : i < n
    · have hin2 : (i : Int) < (n : Int) := by omega
      obtain ⟨ad, y, rfl, had, hy, hym, hAt, hok⟩ := (HD.out.below HB.out).get hin
      have HAT := Lib.hid hAt
      have HY := Lib.hid hy
      have HL := Lib.hid (like_any x y wr HX.out hok.name)
      rw [HV.out] at HL
      clear hAt hy hym hok had
      go_wp2_with ((with_reducible refine at_dst (some 15) ?_); refine wpList_loadAt (op := ⟨some 15, _, _, _, _, _⟩) rfl 27 (.tmp 14) rfl (ad.add (i * 11)) rfl y.cells d0 HAT.out hu0 hd0 iD ?_)
      refine HL.out.mono ?_
      rintro e w2 ⟨rfl, hb2⟩
      have HB2 := Lib.hid (HB.out.trans (hb2.mono HB.out.size))
      clear hb2
      by_cases hlk : Like x.d y.d
      · have E := Lib.hid (decide_eq_true hlk)
        rw [E.out]
        have hdup := dup_yes (des_get HY.out) hlk
        have HDU := Lib.hid hdup
        clear hlk hdup
        go_wp2
        go_ret
        exact ⟨i, rfl, by rw [HDU.out]; simp, HB2.out⟩
      · have E := Lib.hid (decide_eq_false hlk)
        have HLK := Lib.hid hlk
        rw [E.out]
        clear hlk
        go_wp2
        go_roundw
        case rel =>
          refine ⟨i + 1, by omega, by go_num, fun j y' hj hy' => ?_, HB2⟩
          by_cases e : j = i
          · subst e
            rw [des_get HY.out] at hy'
            injection hy' with hy'
            rw [← hy']; exact HLK.out
          · exact HA.out j y' (by omega) hy'
        case measure => simp [intOf]; omega
    · obtain rfl : i = n := by omega
      have hdup : dup (des xs) x.d = false := dup_no (fun j y hy => HA.out j y (by have := (List.getElem?_eq_some_iff.1 hy).1; rw [des, List.length_map, HD.out.len] at this; exact this) hy)
      have HDU := Lib.hid hdup
      clear hdup
      go_wp2
      go_ret
      exact ⟨-1, rfl, by rw [HDU.out]; rfl, HB.out⟩
theorem ContainsF_any (x : Dx) (A : Option Addr) (n cap : Nat) (xs : List Dx) (w : World) (hx : Fit 256 x.d.name) (hd : DL w A n xs) (hn : n ≤ 100000) : Calls Tryd.prog 34 #[.slice A n cap, .func (.func 35) #[x.val] #[]] w fun e w' => e = .returned (.bool (dup (des xs) x.d)) ∧ Below w.heap.size w w' := by
  have HC := Lib.hid (IndexF_any x A n cap xs w hx hd hn)
  obtain ⟨v, hv⟩ : ∃ v, x.val = v := ⟨_, rfl⟩
  rw [hv] at HC ⊢
  clear hx hd hv
  go_enter Tryd.func34, Tryd.ntmps34
  go_wp2_with fail
  refine HC.out.mono ?_
  rintro e w2 ⟨z, rfl, hz, hb⟩
  have HZ := Lib.hid hz
  have HB := Lib.hid hb
  clear hz hb
  go_wp2
  go_ret
  exact ⟨by rw [← HZ.out]; rfl, HB.out⟩
def allR (xs : List Dx) : Bool := decide (∀ d ∈ des xs, Right d)
set_option maxHeartbeats 2000000 in
theorem allRight_any (A : Option Addr) (n cap : Nat) (xs : List Dx) (w : World) (hd : DL w A n xs) (hn : n ≤ 100000) (hnm : ∀ x ∈ xs, x.d.name.length ≤ 100000) : Calls Tryd.prog 27 #[.slice A n cap] w fun e w' => e = .returned (.bool (allR xs)) ∧ Below w.heap.size w w' := by
  obtain ⟨d0, hu0, hd0⟩ := uD
  have HD := Lib.hid hd
  have HN := Lib.hid hnm
  clear hd hnm
  go_enter Tryd.func27, Tryd.ntmps27
  go_wp2
  go_loopw [7] (fun o wr => ∃ i : Nat, i ≤ n ∧ o = .int .i64 (i : Int) ∧ (∀ (j : Nat) y, j < i → (des xs)[j]? = some y → Right y) ∧ Hid (Below w.heap.size w wr)) (fun o _ => n - (intOf o).toNat)
  case atStart => exact ⟨0, Nat.zero_le _, rfl, fun j y h => absurd h (Nat.not_lt_zero j), Below.refl _ _⟩
  case round =>
    obtain ⟨i, hi, rfl, hall, HB⟩ := hrel
    have HA := Lib.hid hall
    clear hall
    by_cases hin : i < n
    · have hin2 : (i : Int) < (n : Int) := by omega
      obtain ⟨ad, y, rfl, had, hy, hym, hAt, hok⟩ := (HD.out.below HB.out).get hin
      have HAT := Lib.hid hAt
      have HY := Lib.hid hy
      have hb1 : Below wr.heap.size wr (wr.alloc (.cells y.cells.toArray 27)) := (Below.refl _ _).alloc (Nat.le_refl _) _
      have HBB : Hid (Below w.heap.size w (wr.alloc (.cells y.cells.toArray 27))) := HB.out.trans (hb1.mono HB.out.size)
      have HL := Lib.hid (Right_any y (wr.alloc (.cells y.cells.toArray 27)) (hok.below hb1) (HN.out y hym))
      have HBK : Hid (At (wr.alloc (.cells y.cells.toArray 27)) ⟨wr.heap.size, 0, none⟩ y.cells) := (Blk.new wr 27 y.cells).at
      clear hAt hy hok had hb1
      go_wp2_with (first
        | ((with_reducible refine at_dst (some 10) ?_); refine wpList_loadAt (op := ⟨some 10, _, _, _, _, _⟩) rfl 27 (.tmp 9) rfl (ad.add (i * 11)) rfl y.cells d0 HAT.out hu0 hd0 iD ?_)
        | ((with_reducible refine at_dst none ?_); refine wpList_storeNew (w := wr) (op := ⟨none, _, _, _, _, _⟩) rfl 27 (.tmp 4) (.tmp 10) rfl zeroD y.cells rfl rfl rfl iD y.one ?_)
        | ((with_reducible refine at_dst (some 11) ?_); refine wpList_loadAt (op := ⟨some 11, _, _, _, _, _⟩) rfl 27 (.tmp 4) rfl ⟨wr.heap.size, 0, none⟩ rfl y.cells d0 HBK.out hu0 hd0 iD ?_))
      refine HL.out.mono ?_
      rintro e w2 ⟨rfl, hb2⟩
      have HB2 := Lib.hid (HBB.out.trans (hb2.mono HBB.out.size))
      clear hb2
      by_cases hlk : Right y.d
      · have E := Lib.hid (decide_eq_true hlk)
        have HLK := Lib.hid hlk
        rw [E.out]
        clear hlk
        go_wp2
        go_roundw
        case rel =>
          refine ⟨i + 1, by omega, by go_num, fun j y' hj hy' => ?_, HB2⟩
          by_cases e : j = i
          · subst e
            rw [des_get HY.out] at hy'
            injection hy' with hy'
            rw [← hy']; exact HLK.out
          · exact HA.out j y' (by omega) hy'
        case measure => simp [intOf]; omega
      · have E := Lib.hid (decide_eq_false hlk)
        have HF : Hid (allR xs = false) := decide_eq_false (fun h => hlk (h _ (List.mem_of_getElem? (des_get HY.out))))
        rw [E.out]
        clear hlk
        go_wp2
        go_ret
        exact ⟨by rw [HF.out]; rfl, HB2.out⟩
    · obtain rfl : i = n := by omega
      have HF : Hid (allR xs = true) := decide_eq_true (fun d hdm => by
        obtain ⟨j, hj, rfl⟩ := List.getElem_of_mem hdm
        exact HA.out j _ (by rw [des, List.length_map, HD.out.len] at hj; exact hj) (List.getElem?_eq_getElem hj))
      go_wp2
      go_ret
      exact ⟨by rw [HF.out]; rfl, HB.out⟩
end Go.Proofs.YtfeihdmjcppbaaaDoor
