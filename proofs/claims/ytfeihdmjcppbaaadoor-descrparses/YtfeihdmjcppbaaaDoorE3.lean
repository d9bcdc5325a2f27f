/-
  What the document's twice answers. No condition but that names are bytes.
-/
import Derived.Test.YtfeihdmjcppbaaaDoorLOwn
import Derived.Test.YtfeihdmjcppbaaaDoorS1
import Derived.Test.YtfeihdmjcppbaaaDoorR2
import Derived.Deep.QuietTactic
namespace Go.Proofs.YtfeihdmjcppbaaaDoor
open Go.RowKit
set_option linter.unusedVariables false
set_option linter.unusedSimpArgs false
set_option maxRecDepth 100000

theorem dup_take_snoc {l : List De} {i : Nat} {y d : De} (h : l[i]? = some y) : dup (l.take (i + 1)) d = (dup (l.take i) d || decide (Like d y)) := by
  rw [take_snoc' h]
  simp [dup]
theorem dup_of_take {l : List De} {i : Nat} {d : De} (h : dup (l.take i) d = true) : dup l d = true := by
  unfold dup at h ⊢
  rw [List.any_eq_true] at h ⊢
  obtain ⟨y, hy, h1⟩ := h
  exact ⟨y, List.mem_of_mem_take hy, h1⟩
set_option maxHeartbeats 4000000 in
theorem rtwice_any (x : Dx) (A : Option Addr) (n cap : Nat) (xs : List Dx) (w : World) (hx : Fit 256 x.d.name) (hd : DL w A n xs) (hf : ∀ ad, A = some ad → ∃ g, ad = ⟨g, 0, none⟩) (hn : n ≤ 100000) :
    Calls Tryd.prog 30 #[.slice A n cap, x.val] w fun e w' => e = .returned (.bool (dup (des xs) x.d)) ∧ Below w.heap.size w w' := by
  unfold Dx.val
  obtain ⟨W, hW⟩ : ∃ W, w.alloc (.cells x.cells.toArray 28) = W := ⟨_, rfl⟩
  have X := Lib.hid (Bx.new hW)
  have HD := Lib.hid (hd.below X.out.below)
  have HX := Lib.hid hx
  have HF := Lib.hid hf
  have HLN : Hid ((des xs).length = n) := by show _ = _; rw [des, List.length_map, hd.len]
  obtain ⟨D, hD⟩ : ∃ D, dup (des xs) x.d = D := ⟨_, rfl⟩
  have HDD := Lib.hid hD
  rw [hD]
  clear hx hd hf hD
  go_enter Tryd.func30, Tryd.ntmps30
  go_wp2
  go_loopw [5] (fun o wr => ∃ i : Nat, i ≤ n ∧ o = .int .i64 (i : Int) ∧ Hid (dup ((des xs).take i) x.d = false) ∧ Hid (Below W.heap.size W wr)) (fun o _ => n - (intOf o).toNat)
  case atStart => exact ⟨0, Nat.zero_le _, rfl, rfl, Below.refl _ _⟩
  case round =>
    obtain ⟨i, hi, rfl, HT, HB⟩ := hrel
    by_cases hin : i < n
    · have hin2 : (i : Int) < (n : Int) := by omega
      obtain ⟨ad, y, hA, had, hy, hym, hAt, hok⟩ := (HD.out.below HB.out).get hin
      obtain ⟨g, rfl⟩ := HF.out ad hA
      subst hA
      have c0 : wr.cell? ⟨w.heap.size, 0, none⟩ = some (.int .i64 x.d.kind) := (X.out.next HB.out).blk.cell 0
      have c6 : wr.cell? ⟨w.heap.size, 6, none⟩ = some (.string (str x.d.name)) := (X.out.next HB.out).blk.cell 6
      have t0 : wr.cell? ⟨g, i * 11, none⟩ = some (.int .i64 y.d.kind) := by
        have := hAt 0 _ rfl
        rw [add_add, addr_add] at this
        simpa using this
      have t6 : wr.cell? ⟨g, i * 11 + 6, none⟩ = some (.string (str y.d.name)) := by
        have := hAt 6 _ rfl
        rw [add_add, addr_add] at this
        simpa using this
      have un := str_same hok.name HX.out
      have HSN := Lib.hid (dup_take_snoc (d := x.d) (des_get hy))
      rw [HT.out, Bool.false_or] at HSN
      have HLK : Hid (Like x.d y.d ↔ x.d.kind ≠ 3 ∧ y.d.kind = x.d.kind ∧ y.d.name = x.d.name) := by
        show _ ↔ _
        unfold Like
        constructor
        · rintro ⟨h1, h2, h3⟩; exact ⟨h1, h2.symm, h3.symm⟩
        · rintro ⟨h1, h2, h3⟩; exact ⟨h1, h2.symm, h3.symm⟩
      have HBD : Hid (Below w.heap.size w wr) := X.out.below.trans (HB.out.mono X.out.below.size)
      clear hAt hy hym hok had
      by_cases h3 : x.d.kind = 3
      · have e3 : (x.d.kind != 3) = false := by simp [h3]
        have HNX : Hid (dup ((des xs).take (i + 1)) x.d = false) := by
          show _ = _
          rw [HSN.out]
          exact decide_eq_false (fun h => (HLK.out.1 h).1 h3)
        clear h3 un
        go_wp2_with fail
        go_quiet (fail)
        go_wp2
        go_roundw
        case rel => exact ⟨i + 1, by omega, by go_num, HNX, (by first | exact HB.out | exact below_drew1 HB.out | exact below_drewN HB.out _)⟩
        case measure => simp [intOf]; omega
      · have e3 : (x.d.kind != 3) = true := by simp [h3]
        by_cases hk : y.d.kind = x.d.kind
        · have ek : (y.d.kind == x.d.kind) = true := by simp [hk]
          by_cases hnm : y.d.name = x.d.name
          · rw [decide_eq_true hnm] at un
            have HNX : Hid (D = true) := by
              show _ = _
              rw [← HDD.out]
              refine dup_of_take (i := i + 1) ?_
              rw [HSN.out]
              exact decide_eq_true (HLK.out.2 ⟨h3, hk, hnm⟩)
            clear h3 hk hnm
            go_wp2_with fail
            go_quiet (fail)
            go_wp2
            go_ret
            exact ⟨by rw [HNX.out]; rfl, (by first | exact HBD.out | exact below_drew1 HBD.out | exact below_drewN HBD.out _)⟩
          · rw [decide_eq_false hnm] at un
            have HNX : Hid (dup ((des xs).take (i + 1)) x.d = false) := by
              show _ = _
              rw [HSN.out]
              exact decide_eq_false (fun h => hnm (HLK.out.1 h).2.2)
            clear h3 hk hnm
            go_wp2_with fail
            go_quiet (fail)
            go_wp2
            go_roundw
            case rel => exact ⟨i + 1, by omega, by go_num, HNX, (by first | exact HB.out | exact below_drew1 HB.out | exact below_drewN HB.out _)⟩
            case measure => simp [intOf]; omega
        · have ek : (y.d.kind == x.d.kind) = false := by simp [hk]
          have HNX : Hid (dup ((des xs).take (i + 1)) x.d = false) := by
            show _ = _
            rw [HSN.out]
            exact decide_eq_false (fun h => hk (HLK.out.1 h).2.1)
          clear h3 hk un
          go_wp2_with fail
          go_quiet (fail)
          go_wp2
          go_roundw
          case rel => exact ⟨i + 1, by omega, by go_num, HNX, (by first | exact HB.out | exact below_drew1 HB.out | exact below_drewN HB.out _)⟩
          case measure => simp [intOf]; omega
    · obtain rfl : i = n := by omega
      have HNX : Hid (D = false) := by
        have := HT.out
        rw [List.take_of_length_le (by rw [HLN.out]; exact Nat.le_refl _), HDD.out] at this
        exact this
      have HBD : Hid (Below w.heap.size w wr) := X.out.below.trans (HB.out.mono X.out.below.size)
      go_wp2
      go_ret
      exact ⟨by rw [HNX.out]; rfl, HBD.out⟩
end Go.Proofs.YtfeihdmjcppbaaaDoor
