/-
  PlaceMeets returns true for every shape and all numbers: its walk, by the answers of the program's functions.
-/
import Derived.Test.YtnkafchkjpchiaaLFills
namespace Go.Proofs.Ytnkafchkjpchiaa
open Go.RowKit
set_option linter.unusedVariables false
set_option linter.unusedSimpArgs false
set_option maxRecDepth 100000

/-- The error's number that Path gives. -/
def per (S B D i : Int) : Int := if Rgt S B D then (if i < 0 ∨ (up S.toNat B.toNat : Int) ≤ i then 13 else 0) else 24
theorem path_any (C : Code) (S B D i : Int) (hS : I64 S) (hB : I64 B) (hD : I64 D) (hi : I64 i) (w : World) : Calls Try.prog 16 #[.agg #[.int .i64 S, .int .i64 B, .int .i64 D], .int .i64 i] w fun e w' => ∃ A m c, e = .returned (.tuple #[.slice A m c, .int .i64 (per S B D i)]) ∧ Below w.heap.size w w' := by
  unfold per
  by_cases h : Rgt S B D
  · rw [if_pos h]
    obtain ⟨s, b, d, a, n, rfl, rfl, rfl, hs⟩ := h.shp
    rw [show up (s : Int).toNat (b : Int).toNat = n from hs.low]
    by_cases ho : i < 0 ∨ (n : Int) ≤ i
    · rw [if_pos ho]
      exact (C.pathRange s b d a n i w hs hi ho).mono fun e w' ⟨A, c, he, _, hb⟩ => ⟨A, 0, c, he, hb⟩
    · rw [if_neg ho]
      obtain ⟨j, rfl⟩ : ∃ j : Nat, i = j := ⟨i.toNat, by omega⟩
      exact (C.pathOk s b d a n j w hs (by omega)).mono fun e w' ⟨A, m, c, he, _, _, _, _, hb⟩ => ⟨A, m, c, he, hb⟩
  · rw [if_neg h]
    exact (C.pathBad S B D i w hS hB hD hi h).mono fun e w' ⟨A, c, he, _, hb⟩ => ⟨A, 0, c, he, hb⟩
set_option maxHeartbeats 2000000 in
theorem meets_early (C : Code) (S B D i k : Int) (w : World) (hS : I64 S) (hB : I64 B) (hD : I64 D) (hi : I64 i) (hk : I64 k) (h : per S B D i ≠ 0 ∨ per S B D k ≠ 0) : Calls Try.prog 6 #[.agg #[.int .i64 S, .int .i64 B, .int .i64 D], .int .i64 i, .int .i64 k] w fun e w' => e = .returned (.bool true) ∧ Below w.heap.size w w' := by
  have HA : Hid (∀ w : World, _) := fun w => anchor_of C w
  have HP : Hid (∀ w : World, _) := fun w => path_any C S B D i hS hB hD hi w
  have HQ : Hid (∀ w : World, _) := fun w => path_any C S B D k hS hB hD hk w
  clear C hS hB hD hi hk
  have HB1 : Hid (Below w.heap.size w (w.alloc (.cells #[.int .i64 S, .int .i64 B, .int .i64 D] 23))) := (Below.refl _ _).alloc (Nat.le_refl _) _
  have HBK := Lib.hid (Blk.new w 23 [.int .i64 S, .int .i64 B, .int .i64 D])
  generalize per S B D i = x at *
  generalize per S B D k = y at *
  go_enter Try.func6, Try.ntmps6
  go_wp2_with fail
  generalize w.alloc (.cells #[.int .i64 S, .int .i64 B, .int .i64 D] 23) = W at *
  refine (HA.out W).mono ?_
  rintro e w1 ⟨rfl, hb1⟩
  have bk1 := HBK.out.below hb1 HBK.out.lt
  have BEL1 := Lib.hid (below_then HB1.out hb1)
  have c0 : w1.cell? ⟨w.heap.size, 0, none⟩ = some (.int .i64 S) := bk1.cell 0
  have c1 : w1.cell? ⟨w.heap.size, 1, none⟩ = some (.int .i64 B) := bk1.cell 1
  have c2 : w1.cell? ⟨w.heap.size, 2, none⟩ = some (.int .i64 D) := bk1.cell 2
  have BK1 := Lib.hid bk1
  clear bk1 hb1
  go_wp2_with fail
  refine (HP.out w1).mono ?_
  rintro e w2 ⟨A, m, c, rfl, hb2⟩
  have bk2 := BK1.out.below hb2 BK1.out.lt
  have BEL2 := Lib.hid (below_then BEL1.out hb2)
  clear c0 c1 c2 hb2
  have c0 : w2.cell? ⟨w.heap.size, 0, none⟩ = some (.int .i64 S) := bk2.cell 0
  have c1 : w2.cell? ⟨w.heap.size, 1, none⟩ = some (.int .i64 B) := bk2.cell 1
  have c2 : w2.cell? ⟨w.heap.size, 2, none⟩ = some (.int .i64 D) := bk2.cell 2
  clear bk2
  go_wp2_with fail
  refine (HQ.out w2).mono ?_
  rintro e w3 ⟨A', m', c', rfl, hb3⟩
  clear c0 c1 c2
  by_cases hx : x = 0
  · subst hx
    have hy : (y != 0) = true := by simpa using h
    clear h
    go_wp2
    go_ret
    exact ⟨rfl, below_then BEL2.out hb3⟩
  · have hx2 : (x != 0) = true := by simpa using hx
    clear h hx
    go_wp2
    go_ret
    exact ⟨rfl, below_then BEL2.out hb3⟩
section
variable {a i k n m : Nat}
/-- Whether two paths have met below a level. -/
def mt (a i k j : Nat) : Bool := decide (0 < j ∧ i / a ^ (j - 1) = k / a ^ (j - 1))
theorem mt_on {j : Nat} (h : mt a i k j = true) : i / a ^ j = k / a ^ j := by
  simp only [mt, decide_eq_true_eq] at h
  obtain ⟨h1, h2⟩ := h
  rw [show a ^ j = a ^ (j - 1) * a by rw [← Nat.pow_succ]; congr 1; omega, ← Nat.div_div_eq_div_mul, ← Nat.div_div_eq_div_mul, h2]
theorem mt_succ (j : Nat) : mt a i k (j + 1) = decide (i / a ^ j = k / a ^ j) := by simp [mt]
end
set_option maxHeartbeats 4000000 in
theorem meets_on (C : Code) (S B D a n i k : Nat) (w : World) (h : Shp S B D a n) (hi : i < n) (hk : k < n) : Calls Try.prog 6 #[.agg #[.int .i64 (S : Int), .int .i64 (B : Int), .int .i64 (D : Int)], .int .i64 (i : Int), .int .i64 (k : Int)] w fun e w' => e = .returned (.bool true) ∧ Below w.heap.size w w' := by
  have hb := h.b
  have ha := h.a2
  have r1 := h.ar_int.1
  have dz : ¬ (D : Int) = 0 := by omega
  have az : ¬ (a : Int) = 0 := by omega
  have wa : IntKind.i64.wrap (a : Int) = (a : Int) := by rw [IntKind.wrap_i64]; omega
  have HSH := Lib.hid h
  have HI := Lib.hid hi
  have HK := Lib.hid hk
  have HA : Hid (∀ w : World, _) := fun w => anchor_of C w
  have HP : Hid (∀ w : World, _) := fun w => C.pathOk S B D a n i w h hi
  have HQ : Hid (∀ w : World, _) := fun w => C.pathOk S B D a n k w h hk
  have hi40 : i ≤ 1099511627776 := by have := h.n1.2; omega
  have hk40 : k ≤ 1099511627776 := by have := h.n1.2; omega
  clear C h hi hk
  have HB1 : Hid (Below w.heap.size w (w.alloc (.cells #[.int .i64 (S : Int), .int .i64 (B : Int), .int .i64 (D : Int)] 23))) := (Below.refl _ _).alloc (Nat.le_refl _) _
  have HBK := Lib.hid (Blk.new w 23 [.int .i64 (S : Int), .int .i64 (B : Int), .int .i64 (D : Int)])
  go_enter Try.func6, Try.ntmps6
  go_wp2_with fail
  generalize w.alloc (.cells #[.int .i64 (S : Int), .int .i64 (B : Int), .int .i64 (D : Int)] 23) = W at *
  refine (HA.out W).mono ?_
  rintro e w1 ⟨rfl, hb1⟩
  have bk1 := HBK.out.below hb1 HBK.out.lt
  have BEL1 := Lib.hid (below_then HB1.out hb1)
  have c0 : w1.cell? ⟨w.heap.size, 0, none⟩ = some (.int .i64 S) := bk1.cell 0
  have c1 : w1.cell? ⟨w.heap.size, 1, none⟩ = some (.int .i64 B) := bk1.cell 1
  have c2 : w1.cell? ⟨w.heap.size, 2, none⟩ = some (.int .i64 D) := bk1.cell 2
  have BK1 := Lib.hid bk1
  clear bk1 hb1
  go_wp2_with fail
  refine (HP.out w1).mono ?_
  rintro e w2 ⟨A, m, c, rfl, hml, hpt, hmc, hcm, hb2⟩
  have bk2 := BK1.out.below hb2 BK1.out.lt
  have BEL2 := Lib.hid (below_then BEL1.out hb2)
  have PT2 := Lib.hid hpt
  have HML := Lib.hid hml
  clear c0 c1 c2 hb2 hpt hml
  have c0 : w2.cell? ⟨w.heap.size, 0, none⟩ = some (.int .i64 S) := bk2.cell 0
  have c1 : w2.cell? ⟨w.heap.size, 1, none⟩ = some (.int .i64 B) := bk2.cell 1
  have c2 : w2.cell? ⟨w.heap.size, 2, none⟩ = some (.int .i64 D) := bk2.cell 2
  have BK2 := Lib.hid bk2
  clear bk2
  go_wp2_with fail
  refine (HQ.out w2).mono ?_
  rintro e w3 ⟨A', m', c', rfl, hml', hpt', hmc', hcm', hb3⟩
  have BK3 := Lib.hid (BK2.out.below hb3 BK2.out.lt)
  have BEL3 := Lib.hid (below_then BEL2.out hb3)
  have PT3 := Lib.hid (PT2.out.below hb3)
  have PU3 := Lib.hid hpt'
  have e1 : m' = m := by rw [← hml', HML.out]
  subst e1
  have hl1 := cs_len a n
  rw [hml'] at hl1
  clear c0 c1 c2 hb3 hpt' hml'
  go_wp2
  go_loopw [11, 36] (fun z o wr => ∃ j : Nat, j ≤ m' ∧ o = .int .i64 (j : Int) ∧ z = .bool (mt a i k j) ∧ Hid (Below w3.heap.size w3 wr)) (fun _ o _ => m' - (intOf o).toNat)
  case atStart => exact ⟨0, by omega, rfl, rfl, below_self⟩
  case round =>
    obtain ⟨j, hj, rfl, rfl, BE⟩ := hrel
    by_cases hjm : j < m'
    · obtain ⟨ad, x, y, rfl, hc, HX, HY⟩ := PT3.out.below BE.out j hjm
      obtain ⟨ad', x', y', rfl, hc', HX', HY'⟩ := PU3.out.below BE.out j hjm
      have e1 := is_eq HX HX'
      have e2 := is_eq HY HY'
      rw [decide_eq_true rfl] at e2
      have e3 : decide (((i / a ^ j : Nat) : Int) = ((k / a ^ j : Nat) : Int)) = mt a i k (j + 1) := by rw [mt_succ]; exact decide_eq_decide.2 Int.ofNat_inj
      rw [e3] at e1
      clear e3
      have MT : Hid (mt a i k j = true → mt a i k (j + 1) = true) := by intro hm; rw [mt_succ, decide_eq_true_eq]; exact mt_on hm
      obtain ⟨q2, hq2⟩ : ∃ q2, mt a i k (j + 1) = q2 := ⟨_, rfl⟩
      obtain ⟨q1, hq1⟩ : ∃ q1, mt a i k j = q1 := ⟨_, rfl⟩
      rw [hq2] at e1 MT
      rw [hq1] at MT
      rw [hq1]
      have Q2 := Lib.hid hq2
      clear hq2 hq1
      clear HX HY HX' HY'
      cases q1
      · cases q2
        all_goals
          go_wp2
          go_quiet (fail)
          go_wp2
          go_quiet (fail)
          go_wp2
          go_roundw
          case rel => exact ⟨j + 1, by omega, by go_num, by rw [Q2.out], below_drewN BE.out _⟩
          case measure => simp [intOf]; omega
      · obtain rfl : q2 = true := MT.out rfl
        go_wp2
        go_quiet (fail)
        go_wp2
        go_quiet (fail)
        go_wp2
        go_roundw
        case rel => exact ⟨j + 1, by omega, by go_num, by rw [Q2.out], below_drewN BE.out _⟩
        case measure => simp [intOf]; omega
    · obtain rfl : j = m' := by omega
      have htop := cnts_top a HSH.out.a2.1 40 n HSH.out.n1.1 HSH.out.n1.2
      rw [show (cnts a 40 n).length = j from HML.out] at htop
      have hq : mt a i k j = true := by
        have h1 := above_lt (b := a) (by omega) HI.out (j - 1)
        have h2 := above_lt (b := a) (by omega) HK.out (j - 1)
        rw [htop.1] at h1 h2
        simp only [mt, decide_eq_true_eq]
        exact ⟨by omega, by rw [Nat.lt_one_iff.1 h1, Nat.lt_one_iff.1 h2]⟩
      rw [hq]
      clear hq htop
      have bk := BK3.out.below BE.out BK3.out.lt
      have c1 : wr.cell? ⟨w.heap.size, 1, none⟩ = some (.int .i64 B) := bk.cell 1
      have c2 : wr.cell? ⟨w.heap.size, 2, none⟩ = some (.int .i64 D) := bk.cell 2
      have FIN : Hid (Below w.heap.size w wr) := BEL3.out.trans (BE.out.mono BEL3.out.size)
      clear bk
      by_cases hj1 : j = 1
      · subst hj1
        go_wp2
        go_quiet (fail)
        go_wp2
        go_ret
        exact ⟨rfl, below_drewN FIN.out _⟩
      · have b1 : ((j : Int) == 1) = false := by simp; omega
        have z1 : (1 : Int) < j := by omega
        have z2 : 1 < j := by omega
        obtain ⟨ad, x, y, rfl, hc, HX, HY⟩ := PT3.out.below BE.out 1 z2
        obtain ⟨ad', x', y', rfl, hc', HX', HY'⟩ := PU3.out.below BE.out 1 z2
        have hd : wr.cell? ⟨ad.block, ad.off + 1, none⟩ = some (.complex .f64 x y) := hc
        have hd' : wr.cell? ⟨ad'.block, ad'.off + 1, none⟩ = some (.complex .f64 x' y') := hc'
        rw [Nat.pow_one] at HX HX'
        have e1 := is_eq HX HX'
        have e2 := is_eq HY HY'
        rw [decide_eq_true rfl] at e2
        obtain ⟨qi, hqi⟩ : ∃ q, i / a = q := ⟨_, rfl⟩
        obtain ⟨qk, hqk⟩ : ∃ q, k / a = q := ⟨_, rfl⟩
        have t1 : (i : Int).tdiv (a : Int) = (qi : Int) := by rw [Int.tdiv_eq_ediv_of_nonneg (by omega), ← hqi, Int.natCast_ediv]
        have t2 : (k : Int).tdiv (a : Int) = (qk : Int) := by rw [Int.tdiv_eq_ediv_of_nonneg (by omega), ← hqk, Int.natCast_ediv]
        have l1 : qi ≤ i := by rw [← hqi]; exact Nat.div_le_self _ _
        have l2 : qk ≤ k := by rw [← hqk]; exact Nat.div_le_self _ _
        have w1' : IntKind.i64.wrap (qi : Int) = (qi : Int) := by rw [IntKind.wrap_i64]; omega
        have w2' : IntKind.i64.wrap (qk : Int) = (qk : Int) := by rw [IntKind.wrap_i64]; omega
        rw [hqi, hqk] at e1
        clear HX HX' HY HY' hqi hqk
        by_cases hqq : qi = qk
        · subst hqq
          rw [decide_eq_true rfl] at e1
          go_wp2
          go_quiet (fail)
          go_wp2
          go_ret
          exact ⟨rfl, below_drewN FIN.out _⟩
        · have b2 : ((qi : Int) == (qk : Int)) = false := by simp; omega
          have b3 : ¬ (qi : Int) = (qk : Int) := by omega
          rw [decide_eq_false b3] at e1
          clear b3
          go_wp2
          go_quiet (fail)
          go_wp2
          go_ret
          exact ⟨rfl, below_drewN FIN.out _⟩
/-- PlaceMeets returns true for every shape and all numbers. -/
theorem meets_walk (C : Code) (S B D i k : Int) (w : World) (wS : (Lit.int .i64 S).wf = true) (wB : (Lit.int .i64 B).wf = true) (wD : (Lit.int .i64 D).wf = true) (wi : (Lit.int .i64 i).wf = true) (wk : (Lit.int .i64 k).wf = true) : Calls Try.prog 6 #[.agg #[.int .i64 S, .int .i64 B, .int .i64 D], .int .i64 i, .int .i64 k] w fun e w' => e = .returned (.bool true) ∧ Below w.heap.size w w' := by
  by_cases h : per S B D i ≠ 0 ∨ per S B D k ≠ 0
  · exact meets_early C S B D i k w (i64_wf wS) (i64_wf wB) (i64_wf wD) (i64_wf wi) (i64_wf wk) h
  · have h1 : per S B D i = 0 := Classical.not_not.1 fun g => h (.inl g)
    have h2 : per S B D k = 0 := Classical.not_not.1 fun g => h (.inr g)
    unfold per at h1 h2
    by_cases hR : Rgt S B D
    · rw [if_pos hR] at h1 h2
      obtain ⟨s, b, d, a, n, rfl, rfl, rfl, hs⟩ := hR.shp
      rw [show up (s : Int).toNat (b : Int).toNat = n from hs.low] at h1 h2
      have g1 : ¬ (i < 0 ∨ (n : Int) ≤ i) := fun g => by rw [if_pos g] at h1; omega
      have g2 : ¬ (k < 0 ∨ (n : Int) ≤ k) := fun g => by rw [if_pos g] at h2; omega
      obtain ⟨i', rfl⟩ : ∃ j : Nat, i = j := ⟨i.toNat, by omega⟩
      obtain ⟨k', rfl⟩ : ∃ j : Nat, k = j := ⟨k.toNat, by omega⟩
      exact meets_on C s b d a n i' k' w hs (by omega) (by omega)
    · rw [if_neg hR] at h1
      omega
end Go.Proofs.Ytnkafchkjpchiaa
