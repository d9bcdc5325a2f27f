/-
  What SmallDescrs and Same answer. No condition but that texts are bytes that fit.
-/
import Derived.Test.YtfeihdmjcppbaaaDoorS1
namespace Go.Proofs.YtfeihdmjcppbaaaDoor
open Go.RowKit
set_option linter.unusedVariables false
set_option linter.unusedSimpArgs false
set_option maxRecDepth 100000

def SmallX (x : Dx) : Prop := x.d.name.length ≤ 200 ∧ x.s1.n ≤ 200 ∧ x.s2.n ≤ 200 ∧ x.s3.n ≤ 1100 ∧ x.s4.n ≤ 400
def SmallP (w : World) (xs : List Dx) (n : Nat) (e : Ending) (w' : World) : Prop := ∃ b, e = .returned (.bool b) ∧ (b = true → (∀ x ∈ xs, SmallX x) ∧ n ≤ 40) ∧ Below w.heap.size w w'
set_option maxHeartbeats 2000000 in
theorem Small_any (A : Option Addr) (n cap : Nat) (xs : List Dx) (w : World) (hd : DL w A n xs) (hc : n ≤ cap) (hm : cap ≤ 9223372036854775807) : Calls Tryd.prog 9 #[.slice A n cap] w (SmallP w xs n) := by
  obtain ⟨d0, hu0, hd0⟩ := uD
  have HD := Lib.hid hd
  clear hd
  go_enter Tryd.func9, Tryd.ntmps9
  go_wp2
  go_loopw [7] (fun o wr => ∃ i : Nat, i ≤ n ∧ o = .int .i64 (i : Int) ∧ (∀ (j : Nat) y, j < i → xs[j]? = some y → SmallX y) ∧ Hid (Below w.heap.size w wr)) (fun o _ => n - (intOf o).toNat)
  case atStart => exact ⟨0, Nat.zero_le _, rfl, fun j y h => absurd h (Nat.not_lt_zero j), Below.refl _ _⟩
  case round =>
    obtain ⟨i, hi, rfl, hall, HB⟩ := hrel
    have HA := Lib.hid hall
    clear hall
    by_cases hin : i < n
    · have hin2 : (i : Int) < (n : Int) := by omega
      obtain ⟨ad, y, rfl, had, hy, hym, hAt, hok⟩ := (HD.out.below HB.out).get hin
      have HAT := Lib.hid hAt
      have HY := Lib.hid hy
      have hb1 : Below wr.heap.size wr (wr.alloc (.cells y.cells.toArray 27)) := (Below.refl _ _).alloc (Nat.le_refl _) _
      have hk1 : Blk (wr.alloc (.cells y.cells.toArray 27)) wr.heap.size 27 y.cells := Blk.new _ _ _
      obtain ⟨wz, hwz⟩ : ∃ wz, wr.alloc (.cells y.cells.toArray 27) = wz := ⟨_, rfl⟩
      rw [hwz] at hb1 hk1
      have HBB : Hid (Below w.heap.size w wz) := HB.out.trans (hb1.mono HB.out.size)
      have c6 : wz.cell? ⟨wr.heap.size, 6, none⟩ = some (.string (str y.d.name)) := hk1.cell 6
      have c7 : wz.cell? ⟨wr.heap.size, 7, none⟩ = some (.slice y.s1.A y.s1.n y.s1.cap) := hk1.cell 7
      have c8 : wz.cell? ⟨wr.heap.size, 8, none⟩ = some (.slice y.s2.A y.s2.n y.s2.cap) := hk1.cell 8
      have c9 : wz.cell? ⟨wr.heap.size, 9, none⟩ = some (.slice y.s3.A y.s3.n y.s3.cap) := hk1.cell 9
      have c10 : wz.cell? ⟨wr.heap.size, 10, none⟩ = some (.slice y.s4.A y.s4.n y.s4.cap) := hk1.cell 10
      have hsz := str_size y.d.name
      obtain ⟨m0, hm0⟩ : ∃ m, y.d.name.length = m := ⟨_, rfl⟩
      have HM0 := Lib.hid hm0
      rw [hm0] at hsz
      obtain ⟨m1, hm1⟩ : ∃ m, y.s1.n = m := ⟨_, rfl⟩
      obtain ⟨m2, hm2⟩ : ∃ m, y.s2.n = m := ⟨_, rfl⟩
      obtain ⟨m3, hm3⟩ : ∃ m, y.s3.n = m := ⟨_, rfl⟩
      obtain ⟨m4, hm4⟩ : ∃ m, y.s4.n = m := ⟨_, rfl⟩
      have HMM := Lib.hid (And.intro hm1 (And.intro hm2 (And.intro hm3 hm4)))
      rw [hm1] at c7
      rw [hm2] at c8
      rw [hm3] at c9
      rw [hm4] at c10
      clear hAt hy hok had hb1 hk1 hym hm0 hm1 hm2 hm3 hm4
      by_cases hh0 : m0 ≤ 200
      · have z0 : ¬ (200 : Int) < (m0 : Int) := by omega
        by_cases hh1 : m1 ≤ 200
        · have z1 : ¬ (200 : Int) < (m1 : Int) := by omega
          by_cases hh2 : m2 ≤ 200
          · have z2 : ¬ (200 : Int) < (m2 : Int) := by omega
            by_cases hh3 : m3 ≤ 1100
            · have z3 : ¬ (1100 : Int) < (m3 : Int) := by omega
              by_cases hh4 : m4 ≤ 400
              · have z4 : ¬ (400 : Int) < (m4 : Int) := by omega
                have HSM : Hid (SmallX y) := by show SmallX y; unfold SmallX; rw [HM0.out, HMM.out.1, HMM.out.2.1, HMM.out.2.2.1, HMM.out.2.2.2]; omega
                clear hh0 hh1 hh2 hh3 hh4
                go_wp2_with (first
                  | ((with_reducible refine at_dst (some 10) ?_); refine wpList_loadAt (op := ⟨some 10, _, _, _, _, _⟩) rfl 27 (.tmp 9) rfl (ad.add (i * 11)) rfl y.cells d0 HAT.out hu0 hd0 iD ?_)
                  | ((with_reducible refine at_dst none ?_); refine wpList_storeNew (w := wr) (op := ⟨none, _, _, _, _, _⟩) rfl 27 (.tmp 4) (.tmp 10) rfl zeroD y.cells rfl rfl rfl iD y.one ?_; rw [hwz]))
                go_roundw
                case rel =>
                  refine ⟨i + 1, by omega, by go_num, fun j y' hj hy' => ?_, HBB⟩
                  by_cases e : j = i
                  · subst e
                    rw [HY.out] at hy'
                    injection hy' with hy'
                    rw [← hy']; exact HSM.out
                  · exact HA.out j y' (by omega) hy'
                case measure => simp [intOf]; omega
              · have z4 : (400 : Int) < (m4 : Int) := by omega
                clear hh0 hh1 hh2 hh3 hh4
                go_wp2_with (first
                  | ((with_reducible refine at_dst (some 10) ?_); refine wpList_loadAt (op := ⟨some 10, _, _, _, _, _⟩) rfl 27 (.tmp 9) rfl (ad.add (i * 11)) rfl y.cells d0 HAT.out hu0 hd0 iD ?_)
                  | ((with_reducible refine at_dst none ?_); refine wpList_storeNew (w := wr) (op := ⟨none, _, _, _, _, _⟩) rfl 27 (.tmp 4) (.tmp 10) rfl zeroD y.cells rfl rfl rfl iD y.one ?_; rw [hwz]))
                go_ret
                exact ⟨false, rfl, fun h => (by cases h), HBB.out⟩
            · have z3 : (1100 : Int) < (m3 : Int) := by omega
              clear hh0 hh1 hh2 hh3
              go_wp2_with (first
                | ((with_reducible refine at_dst (some 10) ?_); refine wpList_loadAt (op := ⟨some 10, _, _, _, _, _⟩) rfl 27 (.tmp 9) rfl (ad.add (i * 11)) rfl y.cells d0 HAT.out hu0 hd0 iD ?_)
                | ((with_reducible refine at_dst none ?_); refine wpList_storeNew (w := wr) (op := ⟨none, _, _, _, _, _⟩) rfl 27 (.tmp 4) (.tmp 10) rfl zeroD y.cells rfl rfl rfl iD y.one ?_; rw [hwz]))
              go_ret
              exact ⟨false, rfl, fun h => (by cases h), HBB.out⟩
          · have z2 : (200 : Int) < (m2 : Int) := by omega
            clear hh0 hh1 hh2
            go_wp2_with (first
              | ((with_reducible refine at_dst (some 10) ?_); refine wpList_loadAt (op := ⟨some 10, _, _, _, _, _⟩) rfl 27 (.tmp 9) rfl (ad.add (i * 11)) rfl y.cells d0 HAT.out hu0 hd0 iD ?_)
              | ((with_reducible refine at_dst none ?_); refine wpList_storeNew (w := wr) (op := ⟨none, _, _, _, _, _⟩) rfl 27 (.tmp 4) (.tmp 10) rfl zeroD y.cells rfl rfl rfl iD y.one ?_; rw [hwz]))
            go_ret
            exact ⟨false, rfl, fun h => (by cases h), HBB.out⟩
        · have z1 : (200 : Int) < (m1 : Int) := by omega
          clear hh0 hh1
          go_wp2_with (first
            | ((with_reducible refine at_dst (some 10) ?_); refine wpList_loadAt (op := ⟨some 10, _, _, _, _, _⟩) rfl 27 (.tmp 9) rfl (ad.add (i * 11)) rfl y.cells d0 HAT.out hu0 hd0 iD ?_)
            | ((with_reducible refine at_dst none ?_); refine wpList_storeNew (w := wr) (op := ⟨none, _, _, _, _, _⟩) rfl 27 (.tmp 4) (.tmp 10) rfl zeroD y.cells rfl rfl rfl iD y.one ?_; rw [hwz]))
          go_ret
          exact ⟨false, rfl, fun h => (by cases h), HBB.out⟩
      · have z0 : (200 : Int) < (m0 : Int) := by omega
        clear hh0
        go_wp2_with (first
          | ((with_reducible refine at_dst (some 10) ?_); refine wpList_loadAt (op := ⟨some 10, _, _, _, _, _⟩) rfl 27 (.tmp 9) rfl (ad.add (i * 11)) rfl y.cells d0 HAT.out hu0 hd0 iD ?_)
          | ((with_reducible refine at_dst none ?_); refine wpList_storeNew (w := wr) (op := ⟨none, _, _, _, _, _⟩) rfl 27 (.tmp 4) (.tmp 10) rfl zeroD y.cells rfl rfl rfl iD y.one ?_; rw [hwz]))
        go_ret
        exact ⟨false, rfl, fun h => (by cases h), HBB.out⟩
    · obtain rfl : i = n := by omega
      have HALL : Hid (∀ x ∈ xs, SmallX x) := fun x hx => by
        obtain ⟨j, hj, rfl⟩ := List.getElem_of_mem hx
        exact HA.out j _ (by rw [HD.out.len] at hj; exact hj) (List.getElem?_eq_getElem hj)
      by_cases h40 : i ≤ 40
      · have z40 : (i : Int) ≤ 40 := by omega
        go_wp2
        go_ret
        exact ⟨true, by first | rfl | simp [*], fun _ => ⟨HALL.out, h40⟩, HB.out⟩
      · have z40 : ¬ (i : Int) ≤ 40 := by omega
        go_wp2
        go_ret
        exact ⟨false, by first | rfl | simp [*], fun h => (by cases h), HB.out⟩
set_option maxHeartbeats 4000000 in
theorem Same_any (x y : Dx) (w : World) (hx : DxOk w x) (hy : DxOk w y) : Calls Tryd.prog 19 #[x.val, y.val] w fun e w' => e = .returned (.bool (decide (x.d = y.d))) ∧ Below w.heap.size w w' := by
  unfold Dx.val
  obtain ⟨W, hW⟩ : ∃ W, w.alloc (.cells x.cells.toArray 28) = W := ⟨_, rfl⟩
  have X := Lib.hid (Bx.new hW)
  have hb2 : Below W.heap.size W (W.alloc (.cells y.cells.toArray 28)) := (Below.refl _ _).alloc (Nat.le_refl _) _
  obtain ⟨W2, hW2⟩ : ∃ W2, W.alloc (.cells y.cells.toArray 28) = W2 := ⟨_, rfl⟩
  have Y := Lib.hid (Bx.new hW2)
  rw [hW2] at hb2
  have X2 := Lib.hid (X.out.next hb2)
  have c0 : W2.cell? ⟨w.heap.size, 0, none⟩ = some (.int .i64 x.d.kind) := X2.out.blk.cell 0
  have c1 : W2.cell? ⟨w.heap.size, 1, none⟩ = some (.int .i64 x.d.alg) := X2.out.blk.cell 1
  have c2 : W2.cell? ⟨w.heap.size, 2, none⟩ = some (.int .i64 x.d.size) := X2.out.blk.cell 2
  have c3 : W2.cell? ⟨w.heap.size, 3, none⟩ = some (.int .i64 x.d.block) := X2.out.blk.cell 3
  have c4 : W2.cell? ⟨w.heap.size, 4, none⟩ = some (.int .i64 x.d.off) := X2.out.blk.cell 4
  have c5 : W2.cell? ⟨w.heap.size, 5, none⟩ = some (.int .i64 x.d.loc) := X2.out.blk.cell 5
  have c6 : W2.cell? ⟨w.heap.size, 6, none⟩ = some (.string (str x.d.name)) := X2.out.blk.cell 6
  have c7 : W2.cell? ⟨w.heap.size, 7, none⟩ = some (.slice x.s1.A x.s1.n x.s1.cap) := X2.out.blk.cell 7
  have c8 : W2.cell? ⟨w.heap.size, 8, none⟩ = some (.slice x.s2.A x.s2.n x.s2.cap) := X2.out.blk.cell 8
  have c9 : W2.cell? ⟨w.heap.size, 9, none⟩ = some (.slice x.s3.A x.s3.n x.s3.cap) := X2.out.blk.cell 9
  have c10 : W2.cell? ⟨w.heap.size, 10, none⟩ = some (.slice x.s4.A x.s4.n x.s4.cap) := X2.out.blk.cell 10
  have e0 : W2.cell? ⟨W.heap.size, 0, none⟩ = some (.int .i64 y.d.kind) := Y.out.blk.cell 0
  have e1 : W2.cell? ⟨W.heap.size, 1, none⟩ = some (.int .i64 y.d.alg) := Y.out.blk.cell 1
  have e2 : W2.cell? ⟨W.heap.size, 2, none⟩ = some (.int .i64 y.d.size) := Y.out.blk.cell 2
  have e3 : W2.cell? ⟨W.heap.size, 3, none⟩ = some (.int .i64 y.d.block) := Y.out.blk.cell 3
  have e4 : W2.cell? ⟨W.heap.size, 4, none⟩ = some (.int .i64 y.d.off) := Y.out.blk.cell 4
  have e5 : W2.cell? ⟨W.heap.size, 5, none⟩ = some (.int .i64 y.d.loc) := Y.out.blk.cell 5
  have e6 : W2.cell? ⟨W.heap.size, 6, none⟩ = some (.string (str y.d.name)) := Y.out.blk.cell 6
  have e7 : W2.cell? ⟨W.heap.size, 7, none⟩ = some (.slice y.s1.A y.s1.n y.s1.cap) := Y.out.blk.cell 7
  have e8 : W2.cell? ⟨W.heap.size, 8, none⟩ = some (.slice y.s2.A y.s2.n y.s2.cap) := Y.out.blk.cell 8
  have e9 : W2.cell? ⟨W.heap.size, 9, none⟩ = some (.slice y.s3.A y.s3.n y.s3.cap) := Y.out.blk.cell 9
  have e10 : W2.cell? ⟨W.heap.size, 10, none⟩ = some (.slice y.s4.A y.s4.n y.s4.cap) := Y.out.blk.cell 10
  have hx2 := hx.below X2.out.below
  have hy2 := hy.below X2.out.below
  have r0 := rd_str hx2.salt.rd x.s1.cap
  have t0 := rd_str hy2.salt.rd y.s1.cap
  have u0 := str_same hx2.salt.fit hy2.salt.fit
  have r1 := rd_str hx2.digest.rd x.s2.cap
  have t1 := rd_str hy2.digest.rd y.s2.cap
  have u1 := str_same hx2.digest.fit hy2.digest.fit
  have r2 := rd_str hx2.key.rd x.s3.cap
  have t2 := rd_str hy2.key.rd y.s3.cap
  have u2 := str_same hx2.key.fit hy2.key.fit
  have r3 := rd_str hx2.value.rd x.s4.cap
  have t3 := rd_str hy2.value.rd y.s4.cap
  have u3 := str_same hx2.value.fit hy2.value.fit
  have un := str_same hx2.name hy2.name
  obtain ⟨D, hD⟩ : ∃ D, decide (x.d = y.d) = D := ⟨_, rfl⟩
  have HD := Lib.hid hD
  rw [hD]
  have HEQ : Hid (x.d.kind = y.d.kind → x.d.alg = y.d.alg → x.d.size = y.d.size → x.d.block = y.d.block → x.d.off = y.d.off → x.d.loc = y.d.loc → x.d.name = y.d.name → x.d.salt = y.d.salt → x.d.digest = y.d.digest → x.d.key = y.d.key → x.d.value = y.d.value → x.d = y.d) := by
    intro a1 a2 a3 a4 a5 a6 a7 a8 a9 a10 a11
    obtain ⟨d, _, _, _, _⟩ := x
    obtain ⟨d', _, _, _, _⟩ := y
    cases d; cases d'
    simp_all
  clear hx hy hx2 hy2 hb2 hD
  by_cases hh0 : x.d.kind = y.d.kind
  · have q0 : (x.d.kind != y.d.kind) = false := by simp [hh0]
    by_cases hh1 : x.d.alg = y.d.alg
    · have q1 : (x.d.alg != y.d.alg) = false := by simp [hh1]
      by_cases hh2 : x.d.size = y.d.size
      · have q2 : (x.d.size != y.d.size) = false := by simp [hh2]
        by_cases hh3 : x.d.block = y.d.block
        · have q3 : (x.d.block != y.d.block) = false := by simp [hh3]
          by_cases hh4 : x.d.off = y.d.off
          · have q4 : (x.d.off != y.d.off) = false := by simp [hh4]
            by_cases hh5 : x.d.loc = y.d.loc
            · have q5 : (x.d.loc != y.d.loc) = false := by simp [hh5]
              by_cases hh6 : x.d.name = y.d.name
              · rw [decide_eq_true hh6] at un
                by_cases hh7 : x.d.salt = y.d.salt
                · rw [decide_eq_true hh7] at u0
                  by_cases hh8 : x.d.digest = y.d.digest
                  · rw [decide_eq_true hh8] at u1
                    by_cases hh9 : x.d.key = y.d.key
                    · rw [decide_eq_true hh9] at u2
                      by_cases hh10 : x.d.value = y.d.value
                      · rw [decide_eq_true hh10] at u3
                        have E : Hid (D = true) := HD.out.symm.trans (decide_eq_true (HEQ.out hh0 hh1 hh2 hh3 hh4 hh5 hh6 hh7 hh8 hh9 hh10))
                        clear hh0 hh1 hh2 hh3 hh4 hh5 hh6 hh7 hh8 hh9 hh10
                        go_enter Tryd.func19, Tryd.ntmps19
                        go_wp2
                        go_ret
                        exact ⟨by rw [E.out]; first | rfl | simp [*], X2.out.below⟩
                      · rw [decide_eq_false hh10] at u3
                        have E : Hid (D = false) := HD.out.symm.trans (decide_eq_false (fun h => hh10 (by rw [h])))
                        clear hh0 hh1 hh2 hh3 hh4 hh5 hh6 hh7 hh8 hh9 hh10
                        go_enter Tryd.func19, Tryd.ntmps19
                        go_wp2
                        go_ret
                        exact ⟨by rw [E.out]; first | rfl | simp [*], X2.out.below⟩
                    · rw [decide_eq_false hh9] at u2
                      have E : Hid (D = false) := HD.out.symm.trans (decide_eq_false (fun h => hh9 (by rw [h])))
                      clear hh0 hh1 hh2 hh3 hh4 hh5 hh6 hh7 hh8 hh9
                      go_enter Tryd.func19, Tryd.ntmps19
                      go_wp2
                      go_ret
                      exact ⟨by rw [E.out]; first | rfl | simp [*], X2.out.below⟩
                  · rw [decide_eq_false hh8] at u1
                    have E : Hid (D = false) := HD.out.symm.trans (decide_eq_false (fun h => hh8 (by rw [h])))
                    clear hh0 hh1 hh2 hh3 hh4 hh5 hh6 hh7 hh8
                    go_enter Tryd.func19, Tryd.ntmps19
                    go_wp2
                    go_ret
                    exact ⟨by rw [E.out]; first | rfl | simp [*], X2.out.below⟩
                · rw [decide_eq_false hh7] at u0
                  have E : Hid (D = false) := HD.out.symm.trans (decide_eq_false (fun h => hh7 (by rw [h])))
                  clear hh0 hh1 hh2 hh3 hh4 hh5 hh6 hh7
                  go_enter Tryd.func19, Tryd.ntmps19
                  go_wp2
                  go_ret
                  exact ⟨by rw [E.out]; first | rfl | simp [*], X2.out.below⟩
              · rw [decide_eq_false hh6] at un
                have E : Hid (D = false) := HD.out.symm.trans (decide_eq_false (fun h => hh6 (by rw [h])))
                clear hh0 hh1 hh2 hh3 hh4 hh5 hh6
                go_enter Tryd.func19, Tryd.ntmps19
                go_wp2
                go_ret
                exact ⟨by rw [E.out]; first | rfl | simp [*], X2.out.below⟩
            · have q5 : (x.d.loc != y.d.loc) = true := by simp [hh5]
              have E : Hid (D = false) := HD.out.symm.trans (decide_eq_false (fun h => hh5 (by rw [h])))
              clear hh0 hh1 hh2 hh3 hh4 hh5
              go_enter Tryd.func19, Tryd.ntmps19
              go_wp2
              go_ret
              exact ⟨by rw [E.out]; first | rfl | simp [*], X2.out.below⟩
          · have q4 : (x.d.off != y.d.off) = true := by simp [hh4]
            have E : Hid (D = false) := HD.out.symm.trans (decide_eq_false (fun h => hh4 (by rw [h])))
            clear hh0 hh1 hh2 hh3 hh4
            go_enter Tryd.func19, Tryd.ntmps19
            go_wp2
            go_ret
            exact ⟨by rw [E.out]; first | rfl | simp [*], X2.out.below⟩
        · have q3 : (x.d.block != y.d.block) = true := by simp [hh3]
          have E : Hid (D = false) := HD.out.symm.trans (decide_eq_false (fun h => hh3 (by rw [h])))
          clear hh0 hh1 hh2 hh3
          go_enter Tryd.func19, Tryd.ntmps19
          go_wp2
          go_ret
          exact ⟨by rw [E.out]; first | rfl | simp [*], X2.out.below⟩
      · have q2 : (x.d.size != y.d.size) = true := by simp [hh2]
        have E : Hid (D = false) := HD.out.symm.trans (decide_eq_false (fun h => hh2 (by rw [h])))
        clear hh0 hh1 hh2
        go_enter Tryd.func19, Tryd.ntmps19
        go_wp2
        go_ret
        exact ⟨by rw [E.out]; first | rfl | simp [*], X2.out.below⟩
    · have q1 : (x.d.alg != y.d.alg) = true := by simp [hh1]
      have E : Hid (D = false) := HD.out.symm.trans (decide_eq_false (fun h => hh1 (by rw [h])))
      clear hh0 hh1
      go_enter Tryd.func19, Tryd.ntmps19
      go_wp2
      go_ret
      exact ⟨by rw [E.out]; first | rfl | simp [*], X2.out.below⟩
  · have q0 : (x.d.kind != y.d.kind) = true := by simp [hh0]
    have E : Hid (D = false) := HD.out.symm.trans (decide_eq_false (fun h => hh0 (by rw [h])))
    clear hh0
    go_enter Tryd.func19, Tryd.ntmps19
    go_wp2
    go_ret
    exact ⟨by rw [E.out]; first | rfl | simp [*], X2.out.below⟩
end Go.Proofs.YtfeihdmjcppbaaaDoor
