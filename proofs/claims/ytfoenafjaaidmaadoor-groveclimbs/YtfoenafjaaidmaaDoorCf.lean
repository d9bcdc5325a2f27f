/-
  The program's Above answers as the document says, of places below the top.
-/
import Derived.Test.YtfoenafjaaidmaaDoorCd
namespace Go.Proofs.YtfoenafjaaidmaaDoor
open Go.RowKit
set_option linter.unusedVariables false
set_option linter.unusedSimpArgs false
set_option maxRecDepth 100000

theorem lev_le_ {S B D a n : Nat} (h : Shp S B D a n) (j : Nat) (hj : j ≤ 40) : lev a n j ≤ 1099511627776 := by
  have := lev_pow h.a2.1 h.n1.2 j hj
  have h2 : 2 ^ (40 - j) ≤ 2 ^ 40 := Nat.pow_le_pow_right (by omega) (by omega)
  omega
set_option maxHeartbeats 4000000 in
theorem Above_ok : AboveOk := by
  intro S B D a n i l x y w h hl hi hx hy
  have hb := h.b
  have ha := h.a2
  have HCT : Hid (∀ w : World, _) := fun w => Counts_ok S B D a n w h
  have HAR : Hid (∀ w : World, _) := fun w => arity_any S B D a n w h
  have HB1 : Hid (Below w.heap.size w (w.alloc (.cells #[.int .i64 (S : Int), .int .i64 (B : Int), .int .i64 (D : Int)] 44))) := (Below.refl _ _).alloc (Nat.le_refl _) _
  have HBK := Lib.hid (Blk.new w 44 [.int .i64 (S : Int), .int .i64 (B : Int), .int .i64 (D : Int)])
  have hl40 : l ≤ 40 := by have : (cs a n).length ≤ 41 := cnts_len _ _ _; omega
  have hil : i ≤ 1099511627776 := by have := lev_le_ h l hl40; omega
  have HUP : Hid (∀ w : World, _) := fun w => Up_any S B D a n x y i l w h hx hy hil (by omega)
  obtain ⟨r, hr⟩ : ∃ r, i % a = r := ⟨_, rfl⟩
  have q2 : (i : Int).tmod (a : Int) = (r : Int) := by rw [Int.tmod_eq_emod_of_nonneg (by omega), ← hr, Int.natCast_emod]
  have q4 : (i : Int) % (a : Int) = (r : Int) := by rw [← hr, Int.natCast_emod]
  have hrl : r < a := by rw [← hr]; exact Nat.mod_lt _ (by omega)
  have wr : IntKind.i64.wrap (r : Int) = (r : Int) := by rw [IntKind.wrap_i64]; omega
  have az : ¬ (a : Int) = 0 := by omega
  have az2 : ¬ a = 0 := by omega
  have e1 : (D : Int) * (r : Int) = ((r * D : Nat) : Int) := by rw [Int.natCast_mul, Int.mul_comm]
  obtain ⟨t, ht⟩ : ∃ t, r * D = t := ⟨_, rfl⟩
  have htl : t ≤ 128 * 64 := by rw [← ht]; exact Nat.mul_le_mul (by omega) (by omega)
  rw [ht] at e1
  have wt : IntKind.i64.wrap (t : Int) = (t : Int) := by rw [IntKind.wrap_i64]; omega
  have HLV : Hid (∀ j, j < (cs a n).length → lev a n j ≤ 2199023255552) := fun j hj => by
    have : (cs a n).length ≤ 41 := cnts_len _ _ _
    have := lev_le_ h j (by omega)
    omega
  rw [hr, ht]
  have HL := Lib.hid hl
  have HI := Lib.hid hi
  have HX := Lib.hid hx
  have HY := Lib.hid hy
  clear h ht hr hx hy hl hi
  go_enter Tryd.func37, Tryd.ntmps37
  go_wp2_with fail
  generalize w.alloc (.cells #[.int .i64 (S : Int), .int .i64 (B : Int), .int .i64 (D : Int)] 44) = W at *
  refine (HCT.out W).mono ?_
  rintro e w1 ⟨A, m, c, rfl, hrd, hmc, hcm, hb1⟩
  have bk1 := HBK.out.below hb1 HBK.out.lt
  have c0 : w1.cell? ⟨w.heap.size, 0, none⟩ = some (.int .i64 (S : Int)) := bk1.cell 0
  have c1 : w1.cell? ⟨w.heap.size, 1, none⟩ = some (.int .i64 (B : Int)) := bk1.cell 1
  have c2 : w1.cell? ⟨w.heap.size, 2, none⟩ = some (.int .i64 (D : Int)) := bk1.cell 2
  have BK1 := Lib.hid bk1
  have BEL := Lib.hid (below_then HB1.out hb1)
  have hlm : l + 1 < m := by have := HL.out; have := hrd.1; omega
  have hm2 : m ≤ 41 := by rw [← hrd.1]; exact cnts_len _ _ _
  have d0 : ((l : Int) == (m : Int) - 1) = false := by simp; omega
  have HFD : Hid (Calls Tryd.prog 49 #[.slice A m c, .complex .f64 x y] w1 fun r w' => r = .returned (.tuple #[.int .i64 (i : Int), .int .i64 (l : Int), .bool true]) ∧ w1 = w') := find_yes A m c a n x y i l w1 hrd (by rw [← hrd.1]; exact HLV.out) hmc hcm (by omega) HI.out HX.out HY.out hm2
  clear bk1 hb1 hrd
  go_wp2_with fail
  refine HFD.out.mono ?_
  rintro e w2 ⟨rfl, rfl⟩
  go_wp2
  go_region_law (first
    | (go_simp; go_at_call 48; refine (HUP.out _).mono ?_; rintro e w2 ⟨x', y', rfl, hx', hy', hb2⟩; have BK2 := Lib.hid (Blk.below (w := w1.drew) BK1.out hb2 BK1.out.lt); have k0 : w2.cell? ⟨w.heap.size, 0, none⟩ = some (.int .i64 (S : Int)) := BK2.out.cell 0; have k1 : w2.cell? ⟨w.heap.size, 1, none⟩ = some (.int .i64 (B : Int)) := BK2.out.cell 1; have k2 : w2.cell? ⟨w.heap.size, 2, none⟩ = some (.int .i64 (D : Int)) := BK2.out.cell 2; have BEL2 := Lib.hid (below_then (below_drew1 BEL.out) hb2); have HX' := Lib.hid hx'; have HY' := Lib.hid hy'; clear hb2 hx' hy')
    | (go_simp; go_at_call 50; refine (HAR.out _).mono ?_; rintro e w3 ⟨rfl, hb3⟩; have k3 : w3.cell? ⟨w.heap.size, 2, none⟩ = some (.int .i64 (D : Int)) := (BK2.out.below hb3 BK2.out.lt).cell 2; have BEL3 := Lib.hid (below_then BEL2.out hb3); clear hb3))
  all_goals
    go_simp
    go_wp2
    go_ret3
    exact ⟨x', y', rfl, HX'.out, HY'.out, BEL3.out⟩
end Go.Proofs.YtfoenafjaaidmaaDoor
