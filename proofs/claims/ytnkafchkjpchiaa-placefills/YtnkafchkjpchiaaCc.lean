/-
  The program's Total answers as the document says.
-/
import Derived.Test.YtnkafchkjpchiaaCb
namespace Go.Proofs.Ytnkafchkjpchiaa
open Go.RowKit
set_option linter.unusedVariables false
set_option linter.unusedSimpArgs false
set_option maxRecDepth 100000

theorem run_from (A : Option Addr) (k cap lo : Nat) (L : Int) (hL : L = lo) (h : lo ≤ k) (h2 : k ≤ cap) (w : World) :
    (Instr.slice 27 (.slice A k cap) (some (.int .i64 L)) none none).run Try.prog w = .ok (.slice (if cap = lo then A else A.map (·.add lo)) (k - lo) (cap - lo)) w := by
  obtain ⟨i0, hi0, hz0, hz1, hz2⟩ := info_parts intInfo
  subst hL
  simp [Instr.slice, run_underlying Try.underlying27, Instr.sliceBounds, run_sliceBound, sizeOf, typeInfo, hi0, hz1, h, h2]
set_option maxHeartbeats 2000000 in
theorem Total_ok : TotalOk := by
  intro S B D a n w h
  have HS := Lib.hid h
  have hb := h.b
  have HCT : Hid (∀ w : World, _) := fun w => Counts_ok S B D a n w h
  have HB1 : Hid (Below w.heap.size w (w.alloc (.cells #[.int .i64 (S : Int), .int .i64 (B : Int), .int .i64 (D : Int)] 23))) := (Below.refl _ _).alloc (Nat.le_refl _) _
  have HBK := Lib.hid (Blk.new w 23 [.int .i64 (S : Int), .int .i64 (B : Int), .int .i64 (D : Int)])
  have hsum : above a n ≤ 2199023255552 := by
    have := cnts_sum a h.a2.1 40 n h.n1.1
    have := h.n1.2
    show ((cnts a 40 n).drop 1).sum ≤ _
    omega
  have htot := h.total
  have HSM := Lib.hid hsum
  have e1 : (B : Int) * ((above a n : Nat) : Int) = ((above a n * B : Nat) : Int) := by rw [Int.natCast_mul, Int.mul_comm]
  obtain ⟨t, ht⟩ : ∃ t, above a n * B = t := ⟨_, rfl⟩
  rw [ht] at e1 htot ⊢
  obtain ⟨u, hu⟩ : ∃ u, above a n = u := ⟨_, rfl⟩
  rw [hu] at e1 hsum
  have HU := Lib.hid hu
  have wt : IntKind.i64.wrap (t : Int) = (t : Int) := by rw [IntKind.wrap_i64]; omega
  clear h ht hu
  go_enter Try.func11, Try.ntmps11
  go_wp2_with fail
  generalize w.alloc (.cells #[.int .i64 (S : Int), .int .i64 (B : Int), .int .i64 (D : Int)] 23) = W at *
  refine (HCT.out W).mono ?_
  rintro e w1 ⟨A, m, c, rfl, hrd, hmc, hcm, hb1⟩
  have bk1 := HBK.out.below hb1 HBK.out.lt
  have c1 : w1.cell? ⟨w.heap.size, 1, none⟩ = some (.int .i64 (B : Int)) := bk1.cell 1
  have BEL := Lib.hid (below_then HB1.out hb1)
  have hm1 : 1 ≤ m := by rw [← hrd.1]; exact List.length_pos_iff.2 (cnts_ne _ _ _)
  have hm2 : m ≤ 41 := by rw [← hrd.1]; exact cnts_len _ _ _
  have hdr := hrd.drop 1 c hm1 hmc
  obtain ⟨A2, hA2⟩ : ∃ A2, (if c = 1 then A else A.map (·.add 1)) = A2 := ⟨_, rfl⟩
  rw [hA2] at hdr
  obtain ⟨m1, hmm⟩ : ∃ m1, m - 1 = m1 := ⟨_, rfl⟩
  obtain ⟨k1, hkk⟩ : ∃ k1, c - 1 = k1 := ⟨_, rfl⟩
  have hsl : (Instr.slice 27 (.slice A m c) (some (.int .i64 1)) none none).run Try.prog w1.drew = .ok (.slice A2 m1 k1) w1.drew := by rw [← hA2, ← hmm, ← hkk]; exact run_from A m c 1 1 rfl hm1 hmc _
  rw [hmm] at hdr
  have HSUM : Hid (∀ w' : World, Rd .i64 w' A2 m1 ((cs a n).drop 1) → Calls Try.prog 24 #[.slice A2 m1 k1] w' fun e w'' => e = .returned (.int .i64 (u : Int)) ∧ w' = w'') := fun w' h => by
    have := sum_any A2 m1 k1 ((cs a n).drop 1) w' h (by have := HSM.out; unfold above at this; omega) (by omega) (by omega) (by omega)
    rw [show ((cs a n).drop 1).sum = u from HU.out] at this
    exact this
  have HDR := Lib.hid hdr
  have HA2 := Lib.hid hA2
  clear hdr hA2 bk1 hb1 hrd hmm hkk
  go_wp2
  go_region_law (first | (go_simp; go_at_call 24; refine (HSUM.out _ (HDR.out.drewN _)).mono ?_; rintro e w2 ⟨rfl, rfl⟩))
  all_goals
    go_simp
    go_wp2
    go_ret2
    exact ⟨rfl, below_drew1 BEL.out⟩
end Go.Proofs.Ytnkafchkjpchiaa
