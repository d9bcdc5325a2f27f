/-
  What Descrs answers: the same list, of the document's type. No condition but that texts are bytes that fit.
-/
import Derived.Test.YtfeihdmjcppbaaaDoorS1
import Derived.Test.YtfeihdmjcppbaaaDoorP4
namespace Go.Proofs.YtfeihdmjcppbaaaDoor
open Go.RowKit
set_option linter.unusedVariables false
set_option linter.unusedSimpArgs false
set_option maxRecDepth 100000

set_option maxHeartbeats 4000000 in
theorem Descrs_any (A : Option Addr) (n cap : Nat) (xs : List Dx) (w : World) (hd : DL w A n xs) (hn : n ≤ 1000) :
    Calls Tryd.prog 15 #[.slice A n cap] w fun e w' => ∃ A2 c2, e = .returned (.slice A2 n c2) ∧ PL 28 w.heap.size w' A2 n c2 xs ∧ Below w.heap.size w w' := by
  obtain ⟨d0, hu0, hd0⟩ := uD
  have HD := Lib.hid hd
  clear hd
  go_enter Tryd.func15, Tryd.ntmps15
  go_wp2
  go_loopw [3, 8] (fun a o wr => ∃ i : Nat, i ≤ n ∧ o = .int .i64 (i : Int) ∧ ∃ A2 c2, a = .slice A2 i c2 ∧ Hid (Below w.heap.size w wr ∧ PL 28 w.heap.size wr A2 i c2 (xs.take i))) (fun _ o _ => n - (intOf o).toNat)
  case atStart => exact ⟨0, Nat.zero_le _, rfl, none, 0, rfl, Below.refl _ _, PL.nil _ _ _⟩
  case round =>
    obtain ⟨i, hi, rfl, A2, c2, rfl, HB⟩ := hrel
    by_cases hin : i < n
    · have hin2 : (i : Int) < (n : Int) := by omega
      obtain ⟨ad, y, hA, had, hy, hym, hAt, hok⟩ := (HD.out.below HB.out.1).get hin
      subst hA
      have HAT := Lib.hid hAt
      have hokw := HD.out.ok y hym
      have HNW : Hid (∀ s, (s = y.s1 ∨ s = y.s2 ∨ s = y.s3 ∨ s = y.s4) → 0 < s.n → ∀ ad, s.A = some ad → ∀ ad', A2 = some ad' → ad'.block ≠ ad.block) := fun s hs hn ad e ad' e' => by
        have h1 := (HB.out.2.ge ad' e').1
        have h2 : ad.block < w.heap.size := by
          rcases hs with rfl | rfl | rfl | rfl
          · exact hokw.salt.rd.lt hn ad e
          · exact hokw.digest.rd.lt hn ad e
          · exact hokw.key.rd.lt hn ad e
          · exact hokw.value.rd.lt hn ad e
        omega
      have hb1 : Below wr.heap.size wr (wr.alloc (.cells y.cells.toArray 27)) := (Below.refl _ _).alloc (Nat.le_refl _) _
      have hk1 : Blk (wr.alloc (.cells y.cells.toArray 27)) wr.heap.size 27 y.cells := Blk.new _ _ _
      obtain ⟨wz, hwz⟩ : ∃ wz, wr.alloc (.cells y.cells.toArray 27) = wz := ⟨_, rfl⟩
      rw [hwz] at hb1 hk1
      have HZ : Hid (Below w.heap.size w wz ∧ At wz ⟨wr.heap.size, 0, none⟩ y.cells ∧ PL 28 w.heap.size wz A2 i c2 (xs.take i) ∧ DxOk wz y) := ⟨HB.out.1.trans (hb1.mono HB.out.1.size), hk1.at, HB.out.2.below hb1, hok.below hb1⟩
      have HM := Lib.hid (MDescr_any y wz)
      have HY := Lib.hid (take_snoc' hy)
      clear hAt hy hym hok hokw had hb1 hk1
      go_wp2_with (first
        | ((with_reducible refine at_dst (some 11) ?_); refine wpList_loadAt (op := ⟨some 11, _, _, _, _, _⟩) rfl 27 (.tmp 10) rfl (ad.add (i * 11)) rfl y.cells d0 HAT.out hu0 hd0 iD ?_)
        | ((with_reducible refine at_dst none ?_); refine wpList_storeNew (w := wr) (op := ⟨none, _, _, _, _, _⟩) rfl 27 (.tmp 5) (.tmp 11) rfl zeroD y.cells rfl rfl rfl iD y.one ?_; rw [hwz])
        | ((with_reducible refine at_dst (some 13) ?_); refine wpList_loadAt (op := ⟨some 13, _, _, _, _, _⟩) rfl 27 (.tmp 5) rfl ⟨wr.heap.size, 0, none⟩ rfl y.cells d0 HZ.out.2.1 hu0 hd0 iD ?_))
      refine HM.out.mono ?_
      rintro e w5 ⟨rfl, hb5⟩
      have H5 : Hid (Below w.heap.size w w5 ∧ PL 28 w.heap.size w5 A2 i c2 (xs.take i) ∧ DxOk w5 y) := ⟨HZ.out.1.trans (hb5.mono HZ.out.1.size), HZ.out.2.2.1.below hb5, HZ.out.2.2.2.below hb5⟩
      have hb6 : Below w5.heap.size w5 (w5.alloc (.cells y.cells.toArray 28)) := (Below.refl _ _).alloc (Nat.le_refl _) _
      have hk6 : Blk (w5.alloc (.cells y.cells.toArray 28)) w5.heap.size 28 y.cells := Blk.new _ _ _
      obtain ⟨w6, hw6⟩ : ∃ w6, w5.alloc (.cells y.cells.toArray 28) = w6 := ⟨_, rfl⟩
      rw [hw6] at hb6 hk6
      have H6 : Hid (Below w.heap.size w w6 ∧ PL 28 w.heap.size w6 A2 i c2 (xs.take i) ∧ DxOk w6 y ∧ At w6 ⟨w5.heap.size, 0, none⟩ y.cells) := ⟨H5.out.1.trans (hb6.mono H5.out.1.size), H5.out.2.1.below hb6, H5.out.2.2.below hb6, hk6.at⟩
      have HI := Lib.hid hi
      have HAPP : Hid (∀ {ops : Array Oper} {rest : List Oper} {o : Oper} {a : Act} {Q : Exit → Act → World → Prop} (hgd : o.guard = none) (s y' : Operand) (ho : o.op = .call { callee := .builtin .append, args := #[s, y'], argTypes := #[35, 35] }) (hs : a.eval s = .slice A2 i c2) (hy : a.eval y' = .slice (some ⟨w5.heap.size, 0, none⟩) 1 1)
          (hk : ∀ A' c' w', Hid (PL 28 w.heap.size w' A' (i + 1) c' (xs.take i ++ [y])) → Below w.heap.size w6 w' → wpList Tryd.prog ops Q rest (a.put o.dst (.slice A' (i + 1) c')) w'), wpList Tryd.prog ops Q (o :: rest) a w6) :=
        fun hgd s y' ho hs hy hk => wpList_appD ltR hgd s y' ho H6.out.1.size hs H6.out.2.1 hy H6.out.2.2.2 H6.out.2.2.1 HNW.out (by have := HI.out; omega) (i + 1) rfl hk
      clear hb5 hb6 hk6
      go_wp2_with (first
        | ((with_reducible refine at_dst (some 15) ?_); refine wpList_build1 ltR (o := ⟨some 15, _, _, _, _, _⟩) rfl (.tmp 14) rfl y rfl ?_; rw [hw6])
        | ((with_reducible refine at_dst (some 16) ?_); refine HAPP.out (o := ⟨some 16, _, _, _, _, _⟩) rfl (.tmp 12) (.tmp 15) rfl rfl rfl ?_; intro A5 c5 w8 hpl8 hbe8))
      go_roundw
      case rel =>
        refine ⟨i + 1, by omega, by go_num, _, _, rfl, H6.out.1.trans hbe8, ?_⟩
        rw [HY.out]
        exact hpl8.out
      case measure => simp [intOf]; omega
    · obtain rfl : i = n := by omega
      have HE : Hid (xs.take i = xs) := List.take_of_length_le (by rw [HD.out.len]; exact Nat.le_refl _)
      go_wp2
      go_ret
      refine ⟨_, _, rfl, ?_, HB.out.1⟩
      have := HB.out.2
      rw [HE.out] at this
      exact this
end Go.Proofs.YtfeihdmjcppbaaaDoor
