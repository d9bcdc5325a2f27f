/-
  What numbers, Encode and the statements' own bytes answer. No condition but that the tail is right, or the numbers an int's.
-/
import Derived.Test.YthepbadecpnepaaH1
import Derived.Test.YthepbadecpnepaaRn
namespace Go.Proofs.Ythepbadecpnepaa
open Go.RowKit
set_option linter.unusedVariables false
set_option linter.unusedSimpArgs false
set_option maxRecDepth 100000

def numCells (g : Nat) : List Value := [.pointer (some ⟨g, 0, none⟩), .pointer (some ⟨g, 1, none⟩), .pointer (some ⟨g, 2, none⟩)]
theorem numCells_get (g : Nat) {i : Nat} (h : i < 3) : (numCells g)[i]? = some (.pointer (some ⟨g, i, none⟩)) := by
  rcases (by omega : i = 0 ∨ i = 1 ∨ i = 2) with rfl | rfl | rfl <;> rfl
theorem numbers_any (g : Nat) (w : World) : Calls Try.prog 26 #[.pointer (some ⟨g, 0, none⟩)] w fun e w' => ∃ b, e = .returned (.slice (some ⟨b, 0, none⟩) 3 3) ∧ w.heap.size ≤ b ∧ Blk w' b 59 (numCells g) ∧ Below w.heap.size w w' := by
  go_enter Try.func26, Try.ntmps26
  go_wp2
  go_still_tail 9, (by kernel_rfl)
  change wpList _ _ _ _ _ w.drew
  go_wp2
  go_ret
  refine ⟨w.heap.size, rfl, Nat.le_refl _, ?_, ?_⟩
  · exact Blk.new w.drew _ (numCells g)
  · exact (below_drew1 (Below.refl _ _)).alloc (Nat.le_refl _) _
/-- The i-th number. -/
def nsel (a b c : Nat) : Nat → Nat
  | 0 => a
  | 1 => b
  | _ => c
theorem tcells_sel (a b c : Nat) {i : Nat} (h : i < 3) : (tcells a b c)[i]? = some (.int .i64 (nsel a b c i : Nat)) := by
  rcases (by omega : i = 0 ∨ i = 1 ∨ i = 2) with rfl | rfl | rfl <;> rfl
/-- A tail's bytes, of which the first i numbers are laid. -/
def eTo (a b c : Nat) : Nat → List Nat
  | 0 => thead
  | i + 1 => eTo a b c i ++ be 8 (nsel a b c i)
theorem eTo_length (a b c : Nat) : ∀ i, (eTo a b c i).length = 8 + 8 * i
  | 0 => rfl
  | i + 1 => by rw [eTo, List.length_append, eTo_length a b c i, be_length]; omega
theorem eTo_fit (a b c : Nat) : ∀ i, Fit 256 (eTo a b c i)
  | 0 => by unfold Fit eTo thead; decide
  | i + 1 => (eTo_fit a b c i).append (be_fit _ _)
theorem eTo_all (a b c : Nat) : eTo a b c 3 ++ List.replicate 32 0 = tbytes a b c := by simp [eTo, tbytes, nsel]
theorem rd_alloc13 (w : World) (l : List Nat) (fr : Nat × Nat) (cs : Array Value) (hcs : cs = (cn .u8 l).toArray) (n : Nat) (hn : l.length = n) : Rd .u8 (w.alloc (.cells cs 5 fr)) (some ⟨w.heap.size, 0, none⟩) n l := by
  subst hcs
  refine ⟨hn, fun _ => ⟨_, rfl, by simp, fun j x hj => ?_⟩⟩
  rw [addr_add, Nat.zero_add, cell_of_row _ _ _ _ _ _ (heap_alloc_new w _), List.getElem?_toArray]
  exact cn_get hj
set_option maxHeartbeats 1000000 in
theorem Encode_no (a b c : Int) (w : World) (h : ¬ TOk a b c) : Calls Try.prog 10 #[TV a b c] w fun e w' => e = .returned (.tuple #[.slice none 0 0, .int .i64 12]) ∧ Below w.heap.size w w' := by
  have hb := tbox a b c w
  have HR := Lib.hid (fun w => TRight_any a b c w false (decide_eq_false h))
  clear h
  go_enter Try.func10, Try.ntmps10
  go_wp2_with fail
  refine (HR.out _).mono ?_
  rintro e w1 ⟨rfl, hb1⟩
  have HB : Hid (Below w.heap.size w w1) := hb.trans (hb1.mono hb.size)
  clear hb hb1
  go_wp2
  go_ret2
  exact ⟨rfl, HB.out⟩
set_option maxHeartbeats 4000000 in
theorem Encode_ok (a b c : Nat) (w : World) (h : TOk a b c) : Calls Try.prog 10 #[TV a b c] w (GivesBT w 64 (tbytes a b c)) := by
  have hb := tbox a b c w
  have hk := Blk.new w 23 (tcells a b c)
  have HR := Lib.hid (fun w => TRight_any a b c w true (decide_eq_true h))
  have HNS : Hid (∀ i, nsel a b c i < 256 ^ 8 ∧ nsel a b c i ≤ 9223372036854775807) := fun i => by
    unfold TOk at h
    unfold nsel
    split <;> omega
  clear h
  have kc := fun (w : World) (C : Array Value) (n c : Nat) => Lib.run_convert_bytes_const (P := Try.prog) w 25 5 C n c Try.underlying25 Try.underlying5
  go_enter Try.func10, Try.ntmps10
  go_wp2_with fail
  refine (HR.out _).mono ?_
  rintro e w1 ⟨rfl, hb1⟩
  have HB : Hid (Below w.heap.size w w1 ∧ Blk w1 w.heap.size 23 (tcells a b c)) := ⟨hb.trans (hb1.mono hb.size), hk.below hb1 hk.lt⟩
  clear hb hk hb1
  have hb0 : Below w1.heap.size w1 (w1.alloc (.cells #[.int .u8 65, .int .u8 86, .int .u8 66, .int .u8 102] 5 (4, 5))) := (Below.refl _ _).alloc (Nat.le_refl _) _
  have hr0 : Rd .u8 (w1.alloc (.cells #[.int .u8 65, .int .u8 86, .int .u8 66, .int .u8 102] 5 (4, 5))) (some ⟨w1.heap.size, 0, none⟩) 4 mag := rd_alloc13 w1 mag (4, 5) _ rfl 4 rfl
  obtain ⟨W, hW⟩ : ∃ W, w1.alloc (.cells #[.int .u8 65, .int .u8 86, .int .u8 66, .int .u8 102] 5 (4, 5)) = W := ⟨_, rfl⟩
  rw [hW] at hb0 hr0
  have H0 : Hid (Below w.heap.size w W ∧ Rd .u8 W (some ⟨w1.heap.size, 0, none⟩) 4 mag ∧ Blk W w.heap.size 23 (tcells a b c)) := ⟨HB.out.1.trans (hb0.mono HB.out.1.size), hr0, HB.out.2.below hb0 HB.out.2.lt⟩
  clear hb0 hr0
  go_wp2_with fail
  clear kc
  (try rw [hW])
  refine (Put_n (some ⟨w1.heap.size, 0, none⟩) 4 4 mag 4 1 _ _ rfl rfl (by omega) (by omega) (by omega) (by omega) W H0.out.2.1 (by unfold Fit mag; decide) (by omega) 8 rfl).mono ?_
  rintro e w2 ⟨rfl, hB2, hb2⟩
  have H1 : Hid (Below w.heap.size w w2 ∧ Rd .u8 w2 (some ⟨W.heap.size, 0, none⟩) 8 (eTo a b c 0) ∧ Blk w2 w.heap.size 23 (tcells a b c)) := ⟨H0.out.1.trans (hb2.mono H0.out.1.size), hB2.rd 8 rfl, H0.out.2.2.below hb2 H0.out.2.2.lt⟩
  clear hB2 hb2
  go_wp2_with fail
  refine (numbers_any w.heap.size w2).mono ?_
  rintro e w3 ⟨bn, rfl, hbn, hN, hb3⟩
  have I0 : Hid (Below w.heap.size w w3 ∧ Rd .u8 w3 (some ⟨W.heap.size, 0, none⟩) 8 (eTo a b c 0) ∧ Blk w3 w.heap.size 23 (tcells a b c) ∧ Blk w3 bn 59 (numCells w.heap.size)) := ⟨H1.out.1.trans (hb3.mono H1.out.1.size), H1.out.2.1.below hb3, H1.out.2.2.below hb3 H1.out.2.2.lt, hN⟩
  clear hbn hN hb3
  go_wp2
  go_loopw [4, 19] (fun v q wr => ∃ i : Nat, i ≤ 3 ∧ q = .int .i64 (i : Int) ∧ ∃ A k cap, v = .slice A k cap ∧ k ≤ 32 ∧ Hid (k = 8 + 8 * i) ∧ Hid (Below w3.heap.size w3 wr ∧ Rd .u8 wr A k (eTo a b c i))) (fun _ q _ => 3 - (intOf q).toNat)
  case atStart => exact ⟨0, by omega, rfl, _, 8, 8, rfl, by omega, rfl, Below.refl _ _, I0.out.2.1⟩
  case round =>
    obtain ⟨i, hi, rfl, A, k, cap, rfl, hk32, HK, HRd⟩ := hrel
    have hnum := I0.out.2.2.2.below HRd.out.1 I0.out.2.2.2.lt
    have hbox := I0.out.2.2.1.below HRd.out.1 I0.out.2.2.1.lt
    by_cases hin : i < 3
    · have hin2 : (i : Int) < 3 := by omega
      have g0 : wr.cell? ⟨bn, i, none⟩ = some (.pointer (some ⟨w.heap.size, i, none⟩)) := (hnum.cell _).trans (numCells_get _ hin)
      have g2 : wr.cell? ⟨w.heap.size, i, none⟩ = some (.int .i64 (nsel a b c i : Nat)) := (hbox.cell _).trans (tcells_sel a b c hin)
      obtain ⟨hv3, hv4⟩ := HNS.out i
      have HTO : Hid (eTo a b c (i + 1) = eTo a b c i ++ be 8 (nsel a b c i)) := rfl
      obtain ⟨v, hv⟩ : ∃ v, nsel a b c i = v := ⟨_, rfl⟩
      rw [hv] at g2 hv3 hv4 HTO
      have HPUT := Lib.hid (Put_n A k cap (eTo a b c i) 8 v _ _ rfl rfl (by omega) (by omega) hv3 hv4 wr HRd.out.2 (eTo_fit _ _ _ _) (by omega) (k + 8) rfl)
      clear hv hnum hbox hv3 hv4
      go_wp2_with fail
      refine HPUT.out.mono ?_
      rintro e w4 ⟨rfl, hB4, hb4⟩
      have HB4 := Lib.hid hB4
      have Hb4 := Lib.hid hb4
      clear hB4 hb4
      go_wp2
      go_roundw
      case rel =>
        have hk := HK.out
        refine ⟨i + 1, by omega, by go_num, _, _, _, rfl, by omega, by show _ = _; omega, ?_, ?_⟩
        · exact HRd.out.1.trans (Hb4.out.mono HRd.out.1.size)
        · rw [HTO.out]
          exact HB4.out.rd _ (by rw [List.length_append, be_length, HRd.out.2.1])
      case measure => simp [intOf]; omega
    · obtain rfl : i = 3 := by omega
      obtain rfl : k = 32 := HK.out
      have HP := Lib.hid (Pad_any A 32 cap (eTo a b c 3) 64 wr HRd.out.2 (by omega) (by omega) (by omega) 32 64 rfl rfl)
      have HBW : Hid (Below w.heap.size w wr) := I0.out.1.trans (HRd.out.1.mono I0.out.1.size)
      clear hnum hbox
      go_wp2_with fail
      refine HP.out.mono ?_
      rintro e w5 ⟨g2, rfl, hg2, hB2, hb2⟩
      rw [eTo_all] at hB2
      have HF : Hid (w.heap.size ≤ g2 ∧ Blk w5 g2 5 (cn .u8 (tbytes a b c)) ∧ Below w.heap.size w w5) := ⟨Nat.le_trans HBW.out.size hg2, hB2, HBW.out.trans (hb2.mono HBW.out.size)⟩
      clear hg2 hB2 hb2
      go_wp2
      go_ret2
      exact ⟨g2, rfl, HF.out⟩
end Go.Proofs.Ythepbadecpnepaa
