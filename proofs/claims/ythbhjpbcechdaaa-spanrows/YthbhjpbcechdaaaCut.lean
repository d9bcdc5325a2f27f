/-
  What span.Cut, span.Pad, span.Zeros and the statements' own anchor answer.
-/
import Derived.Test.YthbhjpbcechdaaaGet
namespace Go.Proofs.Ythbhjpbcechdaaa
open Go.RowKit
set_option linter.unusedVariables false

theorem run_cut (A : Option Addr) (k cap : Nat) (lo hi : Nat) (h1 : lo ≤ hi) (h2 : hi ≤ cap) (L H : Int) (hL : L = (lo : Int)) (hH : H = (hi : Int)) (w : World) :
    (Instr.slice 22 (.slice A k cap) (some (.int .i64 L)) (some (.int .i64 H)) none).run Try.prog w = .ok (.slice (if cap = lo then A else A.map (·.add lo)) (hi - lo) (cap - lo)) w := by
  subst hL hH
  obtain ⟨i0, hi0, hz0, hz1, hz2⟩ := info_parts byteInfo
  simp [Instr.slice, run_underlying Try.underlying22, Instr.sliceBounds, run_sliceBound, sizeOf, typeInfo, hi0, hz1, h1, h2]

set_option maxHeartbeats 400000 in
theorem Cut_ok (A : Option Addr) (k cap : Nat) (l : List Int) (off len : Int) (w : World) (hs : Seg w A k l) (hk : k ≤ 100000) (hcap : k ≤ cap) (hcap2 : cap ≤ maxLen) (h : Lies off len k) (m : Nat) (hm : (m : Int) = len) :
    Calls Try.prog 16 #[.slice A k cap, .int .i64 off, .int .i64 len] w (GivesBytesOK w m ((l.drop off.toNat).take m)) := by
  subst hm
  obtain ⟨o, rfl⟩ : ∃ o : Nat, off = (o : Int) := ⟨off.toNat, by have := h.1; omega⟩
  have h5 : o + m ≤ k := by have := h.2.2.2; omega
  unfold maxLen at hcap2
  simp only [Int.toNat_natCast]
  have hsl := run_cut A k cap o (o + m) (by omega) (by omega) o (o + m) rfl (by omega)
  have hsg := hs.cut o m cap h5 hcap
  generalize (if cap = o then A else A.map (·.add o)) = B at hsl hsg
  rw [Nat.add_sub_cancel_left] at hsl
  go_enter Try.func16, Try.ntmps16
  go_wp2_with (first | (go_at_call 15; refine (Within_yes _ _ _ _ h (by omega)).mono ?_; rintro e w' ⟨rfl, rfl⟩) | (go_at_call 21; refine (longer_any B m _ _ 0 _ hsg (by omega) (by omega) (by omega) m (by omega)).mono ?_; rintro e w1 ⟨rfl, hL, hown, hb⟩; have HL := Lib.hid hL; clear hL))
  go_ret2
  have e : (l.drop o).take m ++ List.replicate (Int.toNat 0) 0 = (l.drop o).take m := by simp
  rw [e] at hown
  have := HL.out
  rw [e] at this
  exact ⟨rfl, this, hown, hb⟩
theorem Cut_end (A : Option Addr) (k cap : Nat) (off len : Int) (w : World) (hk : k ≤ 100000) (h1 : off ≤ 9223372036854775807) (h2 : len ≤ 9223372036854775807) (h : ¬ Lies off len k) :
    Calls Try.prog 16 #[.slice A k cap, .int .i64 off, .int .i64 len] w fun e w' => e = .returned (.tuple #[.slice none 0 0, .int .i64 10]) ∧ w = w' := by
  go_enter Try.func16, Try.ntmps16
  go_wp2_with (go_at_call 15; refine (Within_no _ _ _ _ h h2 h1 (by omega)).mono ?_; rintro e w' ⟨rfl, rfl⟩)
  go_ret2
  exact ⟨rfl, rfl⟩

theorem Pad_form (A : Option Addr) (k cap : Nat) (to : Int) (w : World) (h : to < 1 ∨ 65536 < to) :
    Calls Try.prog 18 #[.slice A k cap, .int .i64 to] w fun e w' => e = .returned (.tuple #[.slice none 0 0, .int .i64 12]) ∧ w = w' := by
  go_enter Try.func18, Try.ntmps18
  go_wp2_with (go_at_call 22; refine (toRight_no _ _ h).mono ?_; rintro e w' ⟨rfl, rfl⟩)
  go_ret2
  exact ⟨rfl, rfl⟩
set_option maxHeartbeats 400000 in
theorem Pad_ok (A : Option Addr) (k cap : Nat) (l : List Int) (to : Int) (w : World) (hs : Seg w A k l) (hk : k ≤ 90000) (h1 : 1 ≤ to) (h2 : to ≤ 65536) (m : Nat) (hm : (m : Int) = k + gapOf k to) :
    Calls Try.prog 18 #[.slice A k cap, .int .i64 to] w (GivesBytesOK w m (l ++ List.replicate (gapOf k to).toNat 0)) := by
  have HM := Lib.hid hm
  clear hm
  have hb := gapOf_bd k to h1
  go_enter Try.func18, Try.ntmps18
  go_wp2_with (first | (go_at_call 22; refine (toRight_yes _ _ h1 h2).mono ?_; rintro e w' ⟨rfl, rfl⟩) | (go_at_call 23; refine (gap_any _ _ _ (by omega) (by omega) h1 h2).mono ?_; rintro e w' ⟨rfl, rfl⟩) | (go_at_call 21; refine (longer_any A k cap l _ _ hs (by omega) (by omega) (by omega) m HM.out).mono ?_; rintro e w1 ⟨rfl, hL, hown, hb⟩; have HL := Lib.hid hL; clear hL))
  go_ret2
  exact ⟨rfl, HL.out, hown, hb⟩

def allZero (l : List Int) : Bool := l.all fun x => x == 0
theorem allZero_snoc (l : List Int) (x : Int) : allZero (l ++ [x]) = (allZero l && (x == 0)) := by simp [allZero]
set_option maxHeartbeats 400000 in
theorem Zeros_any (A : Option Addr) (k cap : Nat) (l : List Int) (w : World) (hs : Seg w A k l) (hk : k ≤ 1000000) :
    Calls Try.prog 19 #[.slice A k cap] w fun e w' => e = .returned (.bool (allZero l)) ∧ w = w' := by
  go_enter Try.func19, Try.ntmps19
  go_wp2
  go_loop [7] (fun i => ∃ j : Nat, j ≤ k ∧ i = .int .i64 j ∧ allZero (l.take j) = true) (fun i => k - (intOf i).toNat)
  case atStart => exact ⟨0, Nat.zero_le _, rfl, rfl⟩
  case round =>
    obtain ⟨j, hj, rfl, hz⟩ := hrel
    have HZ := Lib.hid hz
    clear hz
    by_cases hlt : j < k
    · obtain ⟨ad, rfl, _, hc⟩ := hs.2.2 (by omega)
      have hcj := hc j hlt
      have HS := Lib.hid hs
      clear hc hs
      have ht : l.take (j + 1) = l.take j ++ [l.getD j 0] := by
        have := seg_snoc l 0 j (by rw [HS.out.1]; omega)
        simpa using this
      have HT := Lib.hid ht
      clear ht
      by_cases hx : (l.getD j 0 != 0) = true
      · have hx2 : (l[j]?.getD 0 != 0) = true := hx
        have ha : allZero l = false := by
          have hj2 : j < l.length := by rw [HS.out.1]; omega
          have : l.getD j 0 = l[j] := by simp [List.getD, List.getElem?_eq_getElem hj2]
          rw [this] at hx
          simp only [allZero, List.all_eq_false]
          exact ⟨l[j], List.getElem_mem hj2, by simpa using hx⟩
        have HA := Lib.hid ha
        clear ha hx
        go_wp2
        go_ret
        exact ⟨by rw [HA.out]; rfl, rfl⟩
      · have hx2 : (l[j]?.getD 0 != 0) = false := by simpa using hx
        have hx3 : l.getD j 0 = 0 := by simpa using hx
        have HX := Lib.hid hx3
        clear hx hx3
        go_wp2
        go_round
        case rel => exact ⟨j + 1, by omega, by go_num, by rw [HT.out, allZero_snoc, HZ.out, HX.out]; rfl⟩
        case measure => simp [intOf]; omega
    · have ha : allZero l = true := by
        have := HZ.out
        rwa [List.take_of_length_le (by rw [hs.1]; omega)] at this
      have HA := Lib.hid ha
      clear ha
      go_wp2
      go_ret
      exact ⟨by rw [HA.out]; rfl, rfl⟩

set_option maxHeartbeats 400000 in
theorem anchor_any (w : World) : Calls Try.prog 11 #[] w fun e w' => e = .returned (.bool true) ∧ Below w.heap.size w w' := by
  go_enter Try.func11, Try.ntmps11
  go_wp2_with fail
  refine (Put_ok none 0 0 [] 3 258 w ⟨rfl, by simp [AreBytes], by simp⟩ (by omega) (by omega) (by omega) (by omega) (by omega) rfl 3 rfl).mono ?_
  rintro e w1 ⟨rfl, hL, hown, hb⟩
  have hcv := run_convert_bytes_arg (P := Try.prog) w1 22 5 Try.underlying22 Try.underlying5 w.heap.size 0 3 3 [0, 1, 2] rfl (fun i hi => by
    have := hown.cell i (by simpa [be_length] using hi)
    rw [Nat.zero_add, this]
    match i, hi with
    | 0, _ => rfl
    | 1, _ => rfl
    | 2, _ => rfl) 9 Try.underlying9
  have e3 : strOfNums [0, 1, 2] = ⟨#[0, 1, 2]⟩ := rfl
  rw [e3] at hcv
  clear e3 hL
  go_wp2_with (first | (go_at_call 17; refine (Align_ok _ _ _ (by omega) (by omega) (by omega) (by decide)).mono ?_; rintro e w' ⟨rfl, rfl⟩) | (go_at_call 15; refine (Within_no _ _ _ _ (by unfold Lies; omega) (by omega) (by omega) (by omega)).mono ?_; rintro e w' ⟨rfl, rfl⟩))
  go_ret
  exact ⟨by rw [show gapOf 65 64 = 63 from rfl]; rfl, hb⟩
end Go.Proofs.Ythbhjpbcechdaaa
