/-
  The program's Counts and Total answer as the document says.
-/
import Derived.Test.YtfoenafjaaidmaaDoorCa
namespace Go.Proofs.YtfoenafjaaidmaaDoor
open Go.RowKit
set_option linter.unusedVariables false
set_option linter.unusedSimpArgs false
set_option maxRecDepth 100000

theorem Shp.i64 {S B D a n : Nat} (h : Shp S B D a n) : I64 S ∧ I64 B ∧ I64 D := by
  have := h.b
  unfold I64
  omega
set_option maxHeartbeats 1000000 in
theorem Counts_bad : CountsBad := by
  intro S B D w hS hB hD hR
  have HR : Hid (∀ w : World, _) := fun w => Right_any S B D w hS hB hD
  have HB1 : Hid (Below w.heap.size w (w.alloc (.cells #[.int .i64 S, .int .i64 B, .int .i64 D] 44))) := (Below.refl _ _).alloc (Nat.le_refl _) _
  go_enter Tryd.func47, Tryd.ntmps47
  go_wp2_with fail
  generalize w.alloc (.cells #[.int .i64 S, .int .i64 B, .int .i64 D] 44) = W at *
  refine (HR.out W).mono ?_
  rw [decide_eq_false hR]
  rintro e w1 ⟨rfl, hb1⟩
  go_wp2
  go_ret2
  exact ⟨none, 0, rfl, Nat.zero_le _, below_then HB1.out hb1⟩
set_option maxHeartbeats 2000000 in
theorem Counts_row (S B D a n : Nat) (w : World) (h : Shp S B D a n) : Calls Tryd.prog 47 #[.agg #[.int .i64 (S : Int), .int .i64 (B : Int), .int .i64 (D : Int)]] w fun e w' => ∃ A m c, e = .returned (.tuple #[.slice A m c, .int .i64 0]) ∧ Row w' w.heap.size 3 A m c (cn .i64 (cs a n)) ∧ Below w.heap.size w w' := by
  have HS := Lib.hid h
  have hb := h.b
  have ha := h.a2
  have hn := h.n1
  have HR : Hid (∀ w : World, _) := fun w => Right_any S B D w h.i64.1 h.i64.2.1 h.i64.2.2
  have HAR : Hid (∀ w : World, _) := fun w => arity_any S B D a n w h
  have HRG := Lib.hid h.rgt
  have HL := Lib.hid h.low
  have HB1 : Hid (Below w.heap.size w (w.alloc (.cells #[.int .i64 (S : Int), .int .i64 (B : Int), .int .i64 (D : Int)] 44))) := (Below.refl _ _).alloc (Nat.le_refl _) _
  have HBK := Lib.hid (Blk.new w 44 [.int .i64 (S : Int), .int .i64 (B : Int), .int .i64 (D : Int)])
  have HG1 : Hid ((w.alloc (.cells #[.int .i64 (S : Int), .int .i64 (B : Int), .int .i64 (D : Int)] 44)).heap.size = w.heap.size + 1) := by show _ = _; simp
  clear h
  go_enter Tryd.func47, Tryd.ntmps47
  go_wp2_with fail
  generalize w.alloc (.cells #[.int .i64 (S : Int), .int .i64 (B : Int), .int .i64 (D : Int)] 44) = W0 at *
  refine (HR.out W0).mono ?_
  rw [decide_eq_true HRG.out]
  rintro e W ⟨rfl, hbW⟩
  have bk := HBK.out.below hbW HBK.out.lt
  have HBW := Lib.hid (below_then HB1.out hbW)
  have HGW : Hid (w.heap.size + 1 ≤ W.heap.size) := by show _ ≤ _; have := HG1.out; have := hbW.size; omega
  have c0 : W.cell? ⟨w.heap.size, 0, none⟩ = some (.int .i64 (S : Int)) := bk.cell 0
  have c1 : W.cell? ⟨w.heap.size, 1, none⟩ = some (.int .i64 (B : Int)) := bk.cell 1
  have HBKW := Lib.hid bk
  clear bk hbW
  go_wp2_with fail
  refine (through_any S B (by omega) (by omega) (by omega) _).mono ?_
  rw [HL.out]
  rintro e w1 ⟨rfl, rfl⟩
  have HROW : Hid (Row (W.alloc (.cells #[.int .i64 (n : Int)] 3)) W.heap.size 3 (some ⟨W.heap.size, 0, none⟩) 1 1 (cn .i64 ((List.range (0 + 1)).map (lev a n)))) :=
    ⟨rfl, .inr ⟨W.heap.size, 1, #[.int .i64 (n : Int)], rfl, Nat.le_refl _, Blk.new W 3 (cn .i64 [n]), Nat.le_refl _, by unfold maxLen; omega, rfl, rfl⟩⟩
  have hbW : Below W.heap.size W (W.alloc (.cells #[.int .i64 (n : Int)] 3)) := (Below.refl _ _).alloc (Nat.le_refl _) _
  clear c0 c1
  go_wp2
  go_loopw [4, 5] (fun o v wr => ∃ (l : Nat) (A : Option Addr) (m c : Nat), o = .int .i64 (lev a n l : Nat) ∧ v = .slice A m c ∧ Hid (m = l + 1) ∧ Hid (Row wr W.heap.size 3 A m c (cn .i64 ((List.range (l + 1)).map (lev a n)))) ∧ Below W.heap.size W wr ∧ W.heap.size ≤ wr.heap.size ∧ Hid (∀ j, j < l → 2 ≤ lev a n j) ∧ l ≤ 40) (fun o _ _ => (intOf o).toNat)
  case atStart => exact ⟨0, _, 1, 1, rfl, rfl, rfl, HROW, hbW, hbW.size, (fun j hj => absurd hj (Nat.not_lt_zero _)), by omega⟩
  case round =>
    obtain ⟨l, A, m, c, rfl, rfl, HM, HR, hbr, hB, HJ, hl⟩ := hrel
    obtain ⟨x, hx⟩ : ∃ x, lev a n l = x := ⟨_, rfl⟩
    have HX := Lib.hid hx
    have hxn : x ≤ n := by rw [← hx]; have := lev_le ha.1 l HJ.out; omega
    rw [hx]
    clear hx
    by_cases h1 : 1 < x
    · have h1z : (1 : Int) < x := by omega
      have hBlk := HBKW.out.below (B := W.heap.size) hbr HBKW.out.lt
      have c0 : wr.cell? ⟨w.heap.size, 0, none⟩ = some (.int .i64 (S : Int)) := hBlk.cell 0
      have c1 : wr.cell? ⟨w.heap.size, 1, none⟩ = some (.int .i64 (B : Int)) := hBlk.cell 1
      have c2 : wr.cell? ⟨w.heap.size, 2, none⟩ = some (.int .i64 (D : Int)) := hBlk.cell 2
      have hl40 : l < 40 := by
        rcases Nat.lt_or_ge l 40 with h | h
        · exact h
        · have e : l = 40 := by omega
          have := lev_pow ha.1 hn.2 40 (by omega)
          rw [← e, HX.out] at this
          simp at this
          omega
      clear hBlk
      go_wp2_with fail
      refine (HAR.out _).mono ?_
      rintro e w2 ⟨rfl, hb2⟩
      have hbr2 : Below W.heap.size W w2 := hbr.trans (hb2.mono hB)
      have hB2 : W.heap.size ≤ w2.heap.size := Nat.le_trans hB hb2.size
      have HR2 := Lib.hid (HR.out.below hb2)
      clear c0 c1 c2 hb2 hbr hB
      go_wp2_with fail
      refine (through_any x a (by omega) (by omega) (by omega) _).mono ?_
      rintro e w3 ⟨rfl, rfl⟩
      obtain ⟨x2, hx2⟩ : ∃ x2, up x a = x2 := ⟨_, rfl⟩
      have HX2 : Hid (lev a n (l + 1) = x2) := by show up (lev a n l) a = x2; rw [HX.out]; exact hx2
      have hlt : x2 < x := by rw [← hx2]; exact up_lt ha.1 (by omega)
      rw [hx2]
      clear hx2
      obtain ⟨m2, hm2⟩ : ∃ m2, m + 1 = m2 := ⟨_, rfl⟩
      have HM2 := Lib.hid hm2
      have hmb : m < 1000000 := by have := HM.out; omega
      clear hm2
      go_wp2_with (first
        | ((with_reducible refine at_dst (some 25) ?_); refine wpList_appInt (o := ⟨some 25, _, _, _, _, _⟩) rfl (.tmp 22) (.tmp 24) rfl hbr2 hB2 x2 _ rfl rfl HR2.out rfl hmb m2 HM2.out ?_; intro A3 c3 w3 HR3 hb3 hB3))
      go_roundw
      case rel =>
        refine ⟨l + 1, A3, m2, c3, by rw [HX2.out], rfl, by show _ = _; have := HM.out; have := HM2.out; omega, ?_, hb3, hB3, ?_, by omega⟩
        · have := HR3.out
          show Row _ _ _ _ _ _ _
          rw [List.range_succ, List.map_append, show [l + 1].map (lev a n) = [x2] by simp [HX2.out]]
          exact this
        · intro j hj
          by_cases hjl : j = l
          · subst hjl; rw [HX.out]; omega
          · exact HJ.out j (by omega)
      case measure => simp [intOf]; omega
    · have h1z : ¬ (1 : Int) < x := by omega
      have he : cs a n = (List.range (l + 1)).map (lev a n) := cnts_eq a l 40 n hl HJ.out (by rw [HX.out]; omega)
      have HE := Lib.hid he
      clear he
      go_wp2
      go_ret2
      refine ⟨A, m, c, rfl, ?_, ?_⟩
      · rw [HE.out]
        exact Row.mono HR.out (by have := HGW.out; omega)
      · exact HBW.out.trans (hbr.mono (by have := HGW.out; omega))
theorem Counts_ok : CountsOk := by
  intro S B D a n w h
  refine (Counts_row S B D a n w h).mono ?_
  rintro e w' ⟨A, m, c, rfl, hrow, hb⟩
  exact ⟨A, m, c, rfl, hrow.rd, hrow.le.1, hrow.le.2, hb⟩
end Go.Proofs.YtfoenafjaaidmaaDoor
