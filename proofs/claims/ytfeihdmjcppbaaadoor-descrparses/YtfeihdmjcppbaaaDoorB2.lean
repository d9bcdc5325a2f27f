/-
  What bytes, like, ContainsFunc, allRight and anyTwice answer. No condition but that the texts are bytes that fit.
-/
import Derived.Test.YtfeihdmjcppbaaaDoorB1
namespace Go.Proofs.YtfeihdmjcppbaaaDoor
open Go.RowKit
set_option linter.unusedVariables false
set_option linter.unusedSimpArgs false
set_option maxRecDepth 100000

set_option maxHeartbeats 4000000 in
theorem bytes_any (x : Dx) (w : World) (hx : DxOk w x) (hr : Right x.d) : Calls Tryd.prog 29 #[x.val] w fun e w' => ∃ A n cap, e = .returned (.slice A n cap) ∧ Row w' w.heap.size 5 A n cap (cn .u8 (enc x.d)) ∧ Below w.heap.size w w' := by
  obtain ⟨d0, hu0, hd0⟩ := uD
  have HR := Lib.hid hr
  have hk := hr.bds.kind
  obtain ⟨i0, hi0, hz0, hz1, hz2⟩ := info_parts byteInfo
  have HI0 := Lib.hid (And.intro hi0 (And.intro hz0 (And.intro hz1 hz2)))
  obtain ⟨kd, hkd⟩ : ∃ kd : Nat, x.d.kind = (kd : Int) := ⟨x.d.kind.toNat, by omega⟩
  have hkt : x.d.kind.toNat = kd := by omega
  have HKT := Lib.hid hkt
  have hk5 : kd < 5 := by omega
  have hbl := body_length x.d
  have htl := hr.tlen_le
  have HBL : Hid ((body x.d).length ≤ 1500) := by show _ ≤ _; omega
  clear hi0 hz0 hz1 hz2 hr hk hkt hbl htl
  unfold Dx.val
  obtain ⟨W, hW⟩ : ∃ W, w.alloc (.cells x.cells.toArray 27) = W := ⟨_, rfl⟩
  have X := Lib.hid (Bx.new hW)
  have HX := Lib.hid hx
  clear hx
  go_enter Tryd.func29, Tryd.ntmps29
  go_wp2_with ((with_reducible refine at_dst (some 6) ?_); refine wpList_loadAt (op := ⟨some 6, _, _, _, _, _⟩) rfl 27 (.tmp 1) rfl ⟨w.heap.size, 0, none⟩ rfl x.cells d0 X.out.blk.at hu0 hd0 iD ?_)
  refine (body_any x W (HX.out.below X.out.below) HR.out).mono ?_
  rintro e w1 ⟨g1, M, rfl, hM, hg1, hB1, hb1⟩
  have X1 := Lib.hid (X.out.next hb1)
  have c0 : w1.cell? ⟨w.heap.size, 0, none⟩ = some (.int .i64 x.d.kind) := X1.out.blk.cell 0
  rw [hkd] at c0
  have HM := Lib.hid hM
  have HB1 := Lib.hid hB1
  have hM2 : M ≤ 1500 := by rw [← hM]; exact HBL.out
  have G1 : Hid (w.heap.size ≤ g1) := Nat.le_trans X.out.below.size hg1
  have HP1 := Lib.hid (Put_n none 0 0 [] 8 kd 8 _ rfl rfl (by omega) (by omega) (by omega) (by omega) w1 (Rd.nil _ _ _) (Fit.nil _) (by omega) 8 rfl)
  clear hM hB1 hb1 hg1
  go_wp2_with fail
  refine HP1.out.mono ?_
  rintro e w2 ⟨rfl, hB2, hb2⟩
  rw [List.nil_append] at hB2
  have X2 := Lib.hid (X1.out.next hb2)
  have HB12 := Lib.hid (HB1.out.below hb2 HB1.out.lt)
  have HP2 := Lib.hid (Put_n (some ⟨w1.heap.size, 0, none⟩) 8 8 (be 8 kd) 8 M 8 _ rfl rfl (by omega) (by omega) (by omega) (by omega) w2 (hB2.rd 8 (be_length _ _)) (be_fit _ _) (by omega) 16 rfl)
  clear hB2 hb2
  go_wp2_with fail
  refine HP2.out.mono ?_
  rintro e w3 ⟨rfl, hB3, hb3⟩
  have X3 := Lib.hid (X2.out.next hb3)
  have HB13 := Lib.hid (HB12.out.below hb3 HB12.out.lt)
  have hw2 : w.heap.size ≤ w2.heap.size := X2.out.below.size
  have HRow := Lib.hid (hB3.row hw2 16 (by rw [List.length_append, be_length, be_length]) (by omega))
  have HRD := Lib.hid (HB13.out.rd M HM.out)
  clear hB3 hb3 hw2
  have HAPP : Hid (∀ {ops : Array Oper} {rest : List Oper} {o : Oper} {a : Act} {Q : Exit → Act → World → Prop} (hgd : o.guard = none) (s y : Operand) (ho : o.op = .call { callee := .builtin .append, args := #[s, y], argTypes := #[25, 25] }) (hs : a.eval s = .slice (some ⟨w2.heap.size, 0, none⟩) 16 16) (hy : a.eval y = .slice (some ⟨g1, 0, none⟩) M M)
      (hk : ∀ A' c' w', Hid (Row w' w.heap.size 5 A' (16 + M) c' (cn .u8 (be 8 kd ++ be 8 M) ++ cn .u8 (body x.d))) → Below w.heap.size w3 w' → w.heap.size ≤ w'.heap.size → wpList Tryd.prog ops Q rest (a.put o.dst (.slice A' (16 + M) c')) w'), wpList Tryd.prog ops Q (o :: rest) a w3) :=
    fun hgd s y ho hs hy hk => wpList_app hgd s y 25 5 ho Tryd.underlying25 HI0.out.1 HI0.out.2.1 HI0.out.2.2.1 HI0.out.2.2.2 rfl (by omega) (Below.refl _ w3) X3.out.below.size hs HRow.out hy (by rw [cn_length, HM.out]) (HRD.out.srcs M (fun e => by cases e)) (cn_one _ _) (fun e => by cases e) (by omega) (16 + M) rfl hk
  go_wp2_with ((with_reducible refine at_dst (some 23) ?_); refine HAPP.out (o := ⟨some 23, _, _, _, _, _⟩) rfl (.tmp 21) (.tmp 22) rfl rfl rfl ?_; intro A5 c5 w5 hrow5 hbe5 hB5)
  go_ret
  refine ⟨A5, 16 + M, c5, rfl, ?_, X3.out.below.trans hbe5⟩
  have e : cn .u8 (be 8 kd ++ be 8 M) ++ cn .u8 (body x.d) = cn .u8 (enc x.d) := by rw [← cn_append, enc, HKT.out, HM.out, List.append_assoc]
  rw [← e]
  exact hrow5.out
theorem like_any (x y : Dx) (w : World) (hx : Fit 256 x.d.name) (hy : Fit 256 y.d.name) : Calls Tryd.prog 35 #[x.val, y.val] w fun e w' => e = .returned (.bool (decide (Like x.d y.d))) ∧ Below w.heap.size w w' := by
  have eS : decide (Like x.d y.d) = decide (x.d.kind ≠ 3 ∧ x.d.kind = y.d.kind ∧ x.d.name = y.d.name) := decide_eq_decide.2 (by unfold Like; exact Iff.rfl)
  rw [eS]
  clear eS
  unfold Dx.val
  obtain ⟨W, hW⟩ : ∃ W, w.alloc (.cells x.cells.toArray 27) = W := ⟨_, rfl⟩
  have X := Lib.hid (Bx.new hW)
  have hb2 : Below W.heap.size W (W.alloc (.cells y.cells.toArray 27)) := (Below.refl _ _).alloc (Nat.le_refl _) _
  obtain ⟨W2, hW2⟩ : ∃ W2, W.alloc (.cells y.cells.toArray 27) = W2 := ⟨_, rfl⟩
  have Y := Lib.hid (Bx.new hW2)
  rw [hW2] at hb2
  have X2 := Lib.hid (X.out.next hb2)
  have c0 : W2.cell? ⟨w.heap.size, 0, none⟩ = some (.int .i64 x.d.kind) := X2.out.blk.cell 0
  have c6 : W2.cell? ⟨w.heap.size, 6, none⟩ = some (.string (str x.d.name)) := X2.out.blk.cell 6
  have d0 : W2.cell? ⟨W.heap.size, 0, none⟩ = some (.int .i64 y.d.kind) := Y.out.blk.cell 0
  have d6 : W2.cell? ⟨W.heap.size, 6, none⟩ = some (.string (str y.d.name)) := Y.out.blk.cell 6
  have hss := str_same hx hy
  have HSS := Lib.hid hss
  clear hss hb2 hx hy
  generalize x.d.kind = kx at c0 ⊢
  generalize y.d.kind = ky at d0 ⊢
  by_cases h0 : kx = 3
  · have e0 : (kx != 3) = false := by simp [h0]
    have E := Lib.hid (decide_eq_false (p := kx ≠ 3 ∧ kx = ky ∧ x.d.name = y.d.name) (fun h => h.1 h0))
    clear h0
    go_enter Tryd.func35, Tryd.ntmps35
    go_wp2
    go_ret
    exact ⟨by rw [E.out]; first | rfl | simp [*], X2.out.below⟩
  · have e0 : (kx != 3) = true := by simp [h0]
    by_cases h1 : kx = ky
    · have e1 : (kx == ky) = true := by simp [h1]
      have HH1 := Lib.hid h1
      by_cases h2 : x.d.name = y.d.name
      · have e2 : ((str x.d.name).toList == (str y.d.name).toList) = true := by rw [HSS.out]; exact decide_eq_true h2
        have E := Lib.hid (decide_eq_true (p := kx ≠ 3 ∧ kx = ky ∧ x.d.name = y.d.name) ⟨h0, h1, h2⟩)
        clear h0 h1 h2
        go_enter Tryd.func35, Tryd.ntmps35
        go_wp2
        go_ret
        exact ⟨by rw [E.out]; first | rfl | simp [*], X2.out.below⟩
      · have e2 : ((str x.d.name).toList == (str y.d.name).toList) = false := by rw [HSS.out]; exact decide_eq_false h2
        have E := Lib.hid (decide_eq_false (p := kx ≠ 3 ∧ kx = ky ∧ x.d.name = y.d.name) (fun h => h2 h.2.2))
        clear h0 h1 h2
        go_enter Tryd.func35, Tryd.ntmps35
        go_wp2
        go_ret
        exact ⟨by rw [E.out]; first | rfl | simp [*], X2.out.below⟩
    · have e1 : (kx == ky) = false := by simp [h1]
      have E := Lib.hid (decide_eq_false (p := kx ≠ 3 ∧ kx = ky ∧ x.d.name = y.d.name) (fun h => h1 h.2.1))
      clear h0 h1
      go_enter Tryd.func35, Tryd.ntmps35
      go_wp2
      go_ret
      exact ⟨by rw [E.out]; first | rfl | simp [*], X2.out.below⟩
end Go.Proofs.YtfeihdmjcppbaaaDoor
