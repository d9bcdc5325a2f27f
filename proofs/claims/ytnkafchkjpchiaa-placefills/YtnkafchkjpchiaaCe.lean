/-
  The program's Offset and Above answer as the document says, of places.
-/
import Derived.Test.YtnkafchkjpchiaaCc
import Derived.Test.YtnkafchkjpchiaaCd
namespace Go.Proofs.Ytnkafchkjpchiaa
open Go.RowKit
set_option linter.unusedVariables false
set_option linter.unusedSimpArgs false
set_option maxRecDepth 100000

section
variable {S B D a n : Nat}
theorem Shp.lev_le (h : Shp S B D a n) (j : Nat) (hj : j ≤ 40) : lev a n j ≤ 1099511627776 := by
  have := lev_pow h.a2.1 h.n1.2 j hj
  have h2 : 2 ^ (40 - j) ≤ 2 ^ 40 := Nat.pow_le_pow_right (by omega) (by omega)
  omega
theorem drops_sum_le (l : List Nat) (k : Nat) : (l.drop k).sum ≤ l.sum := by
  have : l.sum = (l.take k).sum + (l.drop k).sum := by rw [← List.sum_append, List.take_append_drop]
  omega
theorem drops_sum_le1 (l : List Nat) (k : Nat) (hk : 1 ≤ k) : (l.drop k).sum ≤ (l.drop 1).sum := by
  have := drops_sum_le (l.drop 1) (k - 1)
  rwa [List.drop_drop, show 1 + (k - 1) = k by omega] at this
end
set_option maxHeartbeats 2000000 in
theorem Offset_ok : OffsetOk := by
  intro S B D a n i l x y w h hl0 hl hi hx hy
  have hb := h.b
  have HCT : Hid (∀ w : World, _) := fun w => Counts_ok S B D a n w h
  have HB1 : Hid (Below w.heap.size w (w.alloc (.cells #[.int .i64 (S : Int), .int .i64 (B : Int), .int .i64 (D : Int)] 23))) := (Below.refl _ _).alloc (Nat.le_refl _) _
  have HBK := Lib.hid (Blk.new w 23 [.int .i64 (S : Int), .int .i64 (B : Int), .int .i64 (D : Int)])
  have hsum : above a n ≤ 2199023255552 := by
    have := cnts_sum a h.a2.1 40 n h.n1.1
    have := h.n1.2
    show ((cnts a 40 n).drop 1).sum ≤ _
    omega
  have hl40 : l ≤ 40 := by have : (cs a n).length ≤ 41 := cnts_len _ _ _; omega
  have hil : i ≤ 1099511627776 := by have := h.lev_le l hl40; omega
  obtain ⟨u, hu⟩ : ∃ u, ((cs a n).drop (l + 1)).sum = u := ⟨_, rfl⟩
  have hul : u ≤ 2199023255552 := by rw [← hu]; exact Nat.le_trans (drops_sum_le1 _ _ (by omega)) hsum
  obtain ⟨v, hv⟩ : ∃ v, u + i = v := ⟨_, rfl⟩
  have hvi : (u : Int) + (i : Int) = (v : Int) := by omega
  have e1 : (B : Int) * (v : Int) = ((v * B : Nat) : Int) := by rw [Int.natCast_mul, Int.mul_comm]
  obtain ⟨t, ht⟩ : ∃ t, v * B = t := ⟨_, rfl⟩
  have htl : t ≤ 13510798882111488 := by rw [← ht]; exact Nat.le_trans (Nat.mul_le_mul (show v ≤ 3298534883328 by omega) (show B ≤ 4096 by omega)) (by decide)
  rw [ht] at e1
  have HLV : Hid (∀ j, j < (cs a n).length → lev a n j ≤ 2199023255552) := fun j hj => by
    have : (cs a n).length ≤ 41 := cnts_len _ _ _
    have := h.lev_le j (by omega)
    omega
  rw [hu, hv, ht]
  have HU := Lib.hid hu
  have HL := Lib.hid hl
  have HI := Lib.hid hi
  have HX := Lib.hid hx
  have HY := Lib.hid hy
  have wt : IntKind.i64.wrap (t : Int) = (t : Int) := by rw [IntKind.wrap_i64]; omega
  have wv : IntKind.i64.wrap ((u : Int) + (i : Int)) = (v : Int) := by rw [IntKind.wrap_i64]; omega
  have d0 : ((l : Int) == 0) = false := by simp; omega
  obtain ⟨l1, hl1⟩ : ∃ l1, l + 1 = l1 := ⟨_, rfl⟩
  have hl1i : (l : Int) + 1 = (l1 : Int) := by omega
  have wl : IntKind.i64.wrap ((l : Int) + 1) = (l1 : Int) := by rw [IntKind.wrap_i64]; omega
  rw [hl1] at HU
  have HL1 := Lib.hid hl1
  have HTL := Lib.hid htl
  clear h ht hu hv hx hy hl hi hsum hl1 hl1i hvi htl
  go_enter Try.func20, Try.ntmps20
  go_wp2_with fail
  generalize w.alloc (.cells #[.int .i64 (S : Int), .int .i64 (B : Int), .int .i64 (D : Int)] 23) = W at *
  refine (HCT.out W).mono ?_
  rintro e w1 ⟨A, m, c, rfl, hrd, hmc, hcm, hb1⟩
  have bk1 := HBK.out.below hb1 HBK.out.lt
  have c1 : w1.cell? ⟨w.heap.size, 1, none⟩ = some (.int .i64 (B : Int)) := bk1.cell 1
  have BEL := Lib.hid (below_then HB1.out hb1)
  have hlm : l1 ≤ m := by have := HL.out; have := HL1.out; have := hrd.1; omega
  have hm2 : m ≤ 41 := by rw [← hrd.1]; exact cnts_len _ _ _
  have hdr := hrd.drop l1 c hlm hmc
  have HSUM : Hid (∀ w' : World, Rd .i64 w' (if c = l1 then A else A.map (·.add l1)) (m - l1) ((cs a n).drop l1) → Calls Try.prog 24 #[.slice (if c = l1 then A else A.map (·.add l1)) (m - l1) (c - l1)] w' fun e w'' => e = .returned (.int .i64 (u : Int)) ∧ w' = w'') := fun w' h => by
    have := sum_any _ (m - l1) (c - l1) ((cs a n).drop l1) w' h (by rw [HU.out]; omega) (by omega) (by omega) (by omega)
    rw [HU.out] at this
    exact this
  have HDR := Lib.hid hdr
  have HFD : Hid (Calls Try.prog 27 #[.slice A m c, .complex .f64 x y] w1 fun r w' => r = .returned (.tuple #[.int .i64 (i : Int), .int .i64 (l : Int), .bool true]) ∧ w1 = w') := find_yes A m c a n x y i l w1 hrd (by rw [← hrd.1]; exact HLV.out) hmc hcm (by have := HL1.out; omega) HI.out HX.out HY.out hm2
  clear hdr bk1 hb1 hrd
  go_wp2_with fail
  refine HFD.out.mono ?_
  rintro e w2 ⟨rfl, rfl⟩
  go_wp2
  go_region_law (first | (go_simp; go_at_call 24; refine (HSUM.out _ (HDR.out.drewN _)).mono ?_; rintro e w2 ⟨rfl, rfl⟩))
  all_goals
    go_simp
    go_wp2
  all_goals
    go_ret2
    exact ⟨rfl, below_drew1 BEL.out⟩
end Go.Proofs.Ytnkafchkjpchiaa
