/-
  The document's Counts, Total, In and Above.
-/
import Derived.Test.YtfoenafjaaidmaaDoorDa
namespace Go.Proofs.YtfoenafjaaidmaaDoor
open Go.RowKit
set_option linter.unusedVariables false
set_option linter.unusedSimpArgs false
set_option maxRecDepth 100000

/-- A right shape in whole numbers, its arity, and its lowest level's blocks. -/
structure Shp (S B D a n : Nat) : Prop where
  rgt : Rgt S B D
  ar : B / D = a
  low : up S B = n
section
variable {S B D a n : Nat}
theorem Shp.b (h : Shp S B D a n) : 64 ≤ B ∧ B ≤ 4096 ∧ 1 ≤ S ∧ S ≤ 1099511627776 ∧ (D = 32 ∨ D = 64) := by
  obtain ⟨h1, h2, h3, h4, h5⟩ := h.rgt
  omega
theorem Shp.a2 (h : Shp S B D a n) : 2 ≤ a ∧ a ≤ 128 := by
  obtain ⟨h1, h2, h3, h4, h5⟩ := h.rgt
  have := h.ar
  rcases (by omega : D = 32 ∨ D = 64) with rfl | rfl <;> omega
theorem Shp.n1 (h : Shp S B D a n) : 0 < n ∧ n ≤ 2 ^ 40 := by
  have hb := h.b
  obtain ⟨k1, k2⟩ := up_spec (a := S) (b := B) (by omega)
  rw [h.low] at k1 k2
  refine ⟨by rw [← h.low]; exact up_pos (by omega) (by omega), ?_⟩
  rcases Nat.lt_or_ge (2 ^ 40) n with hlt | hge
  · have : (2 ^ 40 + 1) * B ≤ n * B := Nat.mul_le_mul_right _ hlt
    have h2 : (2 ^ 40 + 1) * 64 ≤ (2 ^ 40 + 1) * B := Nat.mul_le_mul_left _ hb.1
    omega
  · exact hge
theorem Shp.ar_int (h : Shp S B D a n) : (B : Int).tdiv (D : Int) = (a : Int) ∧ (B : Int) / (D : Int) = (a : Int) := by
  have e : (B : Int) / (D : Int) = (a : Int) := by rw [← h.ar, Int.natCast_ediv]
  exact ⟨by rw [Int.tdiv_eq_ediv_of_nonneg (by omega)]; exact e, e⟩
end
/-- How many blocks each level has. -/
def cs (a n : Nat) : List Nat := cnts a 40 n
set_option maxHeartbeats 1000000 in
theorem RefCounts_any (S B D a n : Nat) (w : World) (h : Shp S B D a n) : Calls Tryd.prog 18 #[.agg #[.int .i64 (S : Int), .int .i64 (B : Int), .int .i64 (D : Int)]] w fun e w' => ∃ A m c, e = .returned (.slice A m c) ∧ Row w' w.heap.size 3 A m c (cn .i64 (cs a n)) ∧ Below w.heap.size w w' := by
  have HS := Lib.hid h
  have hb := h.b
  have ha := h.a2
  have hn := h.n1
  have r1 := h.ar_int.1
  have r2 := h.ar_int.2
  have dz : ¬ (D : Int) = 0 := by omega
  have wa : IntKind.i64.wrap (a : Int) = (a : Int) := by rw [IntKind.wrap_i64]; omega
  have HL := Lib.hid h.low
  have hb1 : Below w.heap.size w (w.alloc (.cells #[.int .i64 (S : Int), .int .i64 (B : Int), .int .i64 (D : Int)] 32)) := (Below.refl _ _).alloc (Nat.le_refl _) _
  have c0 : (w.alloc (.cells #[.int .i64 (S : Int), .int .i64 (B : Int), .int .i64 (D : Int)] 32)).cell? ⟨w.heap.size, 0, none⟩ = some (.int .i64 (S : Int)) := (Blk.new w 32 [.int .i64 (S : Int), .int .i64 (B : Int), .int .i64 (D : Int)]).cell 0
  have HBK := Lib.hid (Blk.new w 32 [.int .i64 (S : Int), .int .i64 (B : Int), .int .i64 (D : Int)])
  clear h
  have hg1 : (w.alloc (.cells #[.int .i64 (S : Int), .int .i64 (B : Int), .int .i64 (D : Int)] 32)).heap.size = w.heap.size + 1 := by simp
  go_enter Tryd.func18, Tryd.ntmps18
  go_wp2_with fail
  refine (up_any S B (by omega) (by omega) (by omega) _).mono ?_
  rw [HL.out]
  rintro e w1 ⟨rfl, rfl⟩
  generalize w.alloc (.cells #[.int .i64 (S : Int), .int .i64 (B : Int), .int .i64 (D : Int)] 32) = W at *
  have HROW : Hid (Row (W.alloc (.cells #[.int .i64 (n : Int)] 3)) W.heap.size 3 (some ⟨W.heap.size, 0, none⟩) 1 1 (cn .i64 ((List.range (0 + 1)).map (lev a n)))) :=
    ⟨rfl, .inr ⟨W.heap.size, 1, #[.int .i64 (n : Int)], rfl, Nat.le_refl _, Blk.new W 3 (cn .i64 [n]), Nat.le_refl _, by unfold maxLen; omega, rfl, rfl⟩⟩
  have hbW : Below W.heap.size W (W.alloc (.cells #[.int .i64 (n : Int)] 3)) := (Below.refl _ _).alloc (Nat.le_refl _) _
  have HG1 := Lib.hid hg1
  have HB1 := Lib.hid hb1
  clear hg1 c0 hb1
  go_wp2
  go_loopw [3, 4] (fun o v wr => ∃ (l : Nat) (A : Option Addr) (m c : Nat), o = .int .i64 (lev a n l : Nat) ∧ v = .slice A m c ∧ Hid (m = l + 1) ∧ Hid (Row wr W.heap.size 3 A m c (cn .i64 ((List.range (l + 1)).map (lev a n)))) ∧ Below W.heap.size W wr ∧ W.heap.size ≤ wr.heap.size ∧ Hid (∀ j, j < l → 2 ≤ lev a n j) ∧ l ≤ 40) (fun o _ _ => (intOf o).toNat)
  case atStart => exact ⟨0, _, 1, 1, rfl, rfl, rfl, HROW, hbW, hbW.size, (fun j hj => absurd hj (Nat.not_lt_zero _)), by omega⟩
  case round =>
    obtain ⟨l, A, m, c, rfl, rfl, HM, HR, hbr, hB, HJ, hl⟩ := hrel
    obtain ⟨x, hx⟩ : ∃ x, lev a n l = x := ⟨_, rfl⟩
    have HX := Lib.hid hx
    have hxn : x ≤ n := by rw [← hx]; have := lev_le ha.1 l HJ.out; omega
    rw [hx]
    clear hx
    by_cases h1 : 1 < x
    · have h1z : (1 : Int) < x := by omega
      have hBlk := HBK.out.below (B := W.heap.size) hbr (by have := HG1.out; omega)
      have c1 : wr.cell? ⟨w.heap.size, 1, none⟩ = some (.int .i64 (B : Int)) := hBlk.cell 1
      have c2 : wr.cell? ⟨w.heap.size, 2, none⟩ = some (.int .i64 (D : Int)) := hBlk.cell 2
      have hl40 : l < 40 := by
        rcases Nat.lt_or_ge l 40 with h | h
        · exact h
        · have e : l = 40 := by omega
          have := lev_pow ha.1 hn.2 40 (by omega)
          rw [← e, HX.out] at this
          simp at this
          omega
      clear hBlk
      go_wp2_with fail
      refine (up_any x a (by omega) (by omega) (by omega) _).mono ?_
      rintro e w2 ⟨rfl, rfl⟩
      obtain ⟨x2, hx2⟩ : ∃ x2, up x a = x2 := ⟨_, rfl⟩
      have HX2 : Hid (lev a n (l + 1) = x2) := by show up (lev a n l) a = x2; rw [HX.out]; exact hx2
      have hlt : x2 < x := by rw [← hx2]; exact up_lt ha.1 (by omega)
      rw [hx2]
      clear hx2 c1 c2
      obtain ⟨m2, hm2⟩ : ∃ m2, m + 1 = m2 := ⟨_, rfl⟩
      have HM2 := Lib.hid hm2
      have hmb : m < 1000000 := by have := HM.out; omega
      clear hm2
      go_wp2_with (first
        | ((with_reducible refine at_dst (some 24) ?_); refine wpList_appInt (o := ⟨some 24, _, _, _, _, _⟩) rfl (.tmp 21) (.tmp 23) rfl hbr hB x2 _ rfl rfl HR.out rfl hmb m2 HM2.out ?_; intro A3 c3 w3 HR3 hb3 hB3))
      go_roundw
      case rel =>
        refine ⟨l + 1, A3, m2, c3, by rw [HX2.out], rfl, by show _ = _; have := HM.out; have := HM2.out; omega, ?_, hb3, hB3, ?_, by omega⟩
        · have := HR3.out
          show Row _ _ _ _ _ _ _
          rw [List.range_succ, List.map_append, show [l + 1].map (lev a n) = [x2] by simp [HX2.out]]
          exact this
        · intro j hj
          by_cases hjl : j = l
          · subst hjl; rw [HX.out]; omega
          · exact HJ.out j (by omega)
      case measure => simp [intOf]; omega
    · have h1z : ¬ (1 : Int) < x := by omega
      have he : cs a n = (List.range (l + 1)).map (lev a n) := cnts_eq a l 40 n hl HJ.out (by rw [HX.out]; omega)
      have HE := Lib.hid he
      clear he
      go_wp2
      go_ret
      refine ⟨A, m, c, rfl, ?_, ?_⟩
      · rw [HE.out]
        exact Row.mono HR.out (by have := HG1.out; omega)
      · exact HB1.out.trans (hbr.mono (by have := HG1.out; omega))
end Go.Proofs.YtfoenafjaaidmaaDoor
