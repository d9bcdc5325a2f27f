/-
  The document's Total, In and Above.
-/
import Derived.Test.YtnkafchkjpchiaaDb
import Derived.Laws.ResultCell
namespace Go.Proofs.Ytnkafchkjpchiaa
open Go.RowKit
set_option linter.unusedVariables false
set_option linter.unusedSimpArgs false
set_option maxRecDepth 100000

theorem cnts_sum (b : Nat) (hb : 2 ≤ b) : ∀ (f n : Nat), 0 < n → ((cnts b f n).drop 1).sum ≤ 2 * n
  | 0, n, _ => by simp [cnts]
  | f + 1, n, h => by
    unfold cnts
    split
    · simp
    · next h1 =>
      rw [List.drop_one, List.tail_cons]
      have ih := cnts_sum b hb f (up n b) (up_pos (by omega) h)
      have hu : 2 * up n b ≤ n + 1 := by
        obtain ⟨k1, k2⟩ := up_spec (a := n) (b := b) (by omega)
        rcases Nat.lt_or_ge (n + 1) (2 * up n b) with hlt | hge
        · exfalso
          obtain ⟨u, hu⟩ : ∃ u, up n b = u + 1 := ⟨up n b - 1, by omega⟩
          rw [hu, Nat.add_mul, Nat.one_mul] at k2
          have : u * 2 ≤ u * b := Nat.mul_le_mul_left _ hb
          omega
        · exact hge
      have e : (cnts b f (up n b)).sum = up n b + ((cnts b f (up n b)).drop 1).sum := by
        cases f with
        | zero => simp [cnts]
        | succ f => unfold cnts; split <;> simp
      rw [e]
      omega
theorem cnts_len (b : Nat) : ∀ (f n : Nat), (cnts b f n).length ≤ f + 1
  | 0, n => by simp [cnts]
  | f + 1, n => by
    unfold cnts
    split
    · simp
    · have := cnts_len b f (up n b)
      rw [List.length_cons]; omega
/-- How many blocks stand above the lowest level. -/
def above (a n : Nat) : Nat := ((cs a n).drop 1).sum
theorem take_sum_le (l : List Nat) (k : Nat) : (l.take k).sum ≤ l.sum := by
  have : l.sum = (l.take k).sum + (l.drop k).sum := by rw [← List.sum_append, List.take_append_drop]
  omega
theorem take_sum_succ {l : List Nat} {k x : Nat} (h : l[k]? = some x) : (l.take (k + 1)).sum = (l.take k).sum + x := by
  obtain ⟨hk, rfl⟩ := List.getElem?_eq_some_iff.1 h
  rw [List.take_succ_eq_append_getElem hk, List.sum_append]
  simp
theorem Shp.total {S B D a n : Nat} (h : Shp S B D a n) : above a n * B ≤ 4398046511104 := by
  have h1 := cnts_sum a h.a2.1 40 n h.n1.1
  have hb := h.b
  obtain ⟨k1, k2⟩ := up_spec (a := S) (b := B) (by omega)
  rw [h.low] at k1 k2
  have h2 : above a n * B ≤ 2 * n * B := Nat.mul_le_mul_right _ h1
  rw [Nat.mul_assoc] at h2
  omega
set_option maxHeartbeats 1000000 in
theorem RefTotal_any (S B D a n : Nat) (w : World) (h : Shp S B D a n) : Calls Try.prog 15 #[.agg #[.int .i64 (S : Int), .int .i64 (B : Int), .int .i64 (D : Int)]] w fun e w' => e = .returned (.int .i64 ((above a n * B : Nat) : Int)) ∧ Below w.heap.size w w' := by
  have HS := Lib.hid h
  have hb := h.b
  have HB1 : Hid (Below w.heap.size w (w.alloc (.cells #[.int .i64 (S : Int), .int .i64 (B : Int), .int .i64 (D : Int)] 25))) := (Below.refl _ _).alloc (Nat.le_refl _) _
  have HBK := Lib.hid (Blk.new w 25 [.int .i64 (S : Int), .int .i64 (B : Int), .int .i64 (D : Int)])
  have hsum : above a n ≤ 2199023255552 := by
    have := cnts_sum a h.a2.1 40 n h.n1.1
    have := h.n1.2
    show ((cnts a 40 n).drop 1).sum ≤ _
    omega
  have htot := h.total
  have HSM := Lib.hid hsum
  clear h
  go_enter Try.func15, Try.ntmps15
  go_wp2_with fail
  generalize w.alloc (.cells #[.int .i64 (S : Int), .int .i64 (B : Int), .int .i64 (D : Int)] 25) = W at *
  refine (RefCounts_any S B D a n W HS.out).mono ?_
  rintro e w1 ⟨A, m, c, rfl, hrow, hb1⟩
  have HBK1 := Lib.hid (HBK.out.below hb1 HBK.out.lt)
  have bel1 := below_then HB1.out hb1
  have HRD := Lib.hid hrow.rd
  have hml : (cs a n).length = m := by have := hrow.length; rwa [cn_length] at this
  have hm1 : 1 ≤ m := by rw [← hml]; exact List.length_pos_iff.2 (cnts_ne _ _ _)
  have hm2 : m ≤ 41 := by rw [← hml]; exact cnts_len _ _ _
  have HML := Lib.hid hml
  have hmc := hrow.le.1
  have hcm := hrow.le.2
  clear hrow hml
  go_wp2
  go_loopw [4, 5] (fun v o wr => ∃ l : Nat, 1 ≤ l ∧ l ≤ m ∧ o = .int .i64 (l : Int) ∧ v = .int .i64 ((((cs a n).drop 1).take (l - 1)).sum : Nat) ∧ w1 = wr) (fun _ o _ => m - (intOf o).toNat)
  case atStart => exact ⟨1, by omega, hm1, rfl, rfl, rfl⟩
  case round =>
    obtain ⟨l, h1, h2, rfl, rfl, rfl⟩ := hrel
    obtain ⟨x, hx⟩ : ∃ x, (((cs a n).drop 1).take (l - 1)).sum = x := ⟨_, rfl⟩
    have hxl : x ≤ 2199023255552 := by rw [← hx]; exact Nat.le_trans (take_sum_le _ _) HSM.out
    have HX := Lib.hid hx
    rw [hx]
    clear hx
    by_cases hl : l < m
    · obtain ⟨ad, y, rfl, hy, hc⟩ := HRD.out.get hl
      have hy2 : ((cs a n).drop 1)[l - 1]? = some y := by rw [List.getElem?_drop, show 1 + (l - 1) = l by omega]; exact hy
      have hn := take_sum_succ hy2
      rw [show l - 1 + 1 = l by omega, HX.out] at hn
      have hle : x + y ≤ 2199023255552 := by rw [← hn]; exact Nat.le_trans (take_sum_le _ _) HSM.out
      have HN := Lib.hid hn
      clear hn hy hy2
      go_wp2
      go_roundw
      case rel => exact ⟨l + 1, by omega, by omega, by go_num, by rw [Nat.add_sub_cancel, HN.out]; go_num, trivial⟩
      case measure => simp [intOf]; omega
    · obtain rfl : l = m := by omega
      have he : x = above a n := by
        rw [← HX.out, above, List.take_of_length_le (by rw [List.length_drop, HML.out]; omega)]
      have c1 : w1.cell? ⟨w.heap.size, 1, none⟩ = some (.int .i64 (B : Int)) := HBK1.out.cell 1
      subst he
      have e1 : ((above a n : Nat) : Int) * (B : Int) = ((above a n * B : Nat) : Int) := (Int.natCast_mul _ _).symm
      obtain ⟨t, ht⟩ : ∃ t, above a n * B = t := ⟨_, rfl⟩
      rw [ht] at e1 htot
      have HTT := Lib.hid ht
      clear ht
      go_wp2
      go_ret
      exact ⟨by rw [HTT.out]; rfl, bel1⟩
end Go.Proofs.Ytnkafchkjpchiaa
