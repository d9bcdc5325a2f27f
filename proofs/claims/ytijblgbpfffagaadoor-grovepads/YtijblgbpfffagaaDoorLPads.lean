/-
  GrovePads returns true for every seed and number: its walk.
-/
import Derived.Test.YtijblgbpfffagaaDoorMd
import Derived.Test.YtijblgbpfffagaaDoorEd
import Derived.Test.YtijblgbpfffagaaDoorGp
import Derived.Test.YtijblgbpfffagaaDoorG7
import Derived.Test.YtijblgbpfffagaaDoorAn9
namespace Go.Proofs.YtijblgbpfffagaaDoor
open Go.RowKit
set_option linter.unusedVariables false
set_option linter.unusedSimpArgs false
set_option maxRecDepth 100000

/-- A slice of these bytes. -/
def VB (n : Nat) (l : List Nat) (v : Value) (u : World) : Prop := ∃ A c, v = .slice A n c ∧ Bs u A n c l
theorem VB.below {n : Nat} {l : List Nat} {v : Value} {u u' : World} (h : VB n l v u) (hb : Below u.heap.size u u') : VB n l v u' := by
  obtain ⟨A, c, e, hB⟩ := h
  exact ⟨A, c, e, hB.below hb⟩
/-- A row of these bytes. -/
def VR (q n : Nat) (l : List Nat) (v : Value) (u : World) : Prop := ∃ A c, v = .slice A n c ∧ Row u q 5 A n c (cn .u8 l)
theorem VR.below {q n : Nat} {l : List Nat} {v : Value} {u u' : World} (h : VR q n l v u) (hb : Below u.heap.size u u') : VR q n l v u' := by
  obtain ⟨A, c, e, hB⟩ := h
  exact ⟨A, c, e, hB.below hb⟩
/-- A tree and its root, and no error. -/
def VX (n : Nat) (l : List Nat) (D : Nat) (r : List Nat) (v : Value) (u : World) : Prop := ∃ A c A' c', v = .tuple #[.slice A n c, .slice A' D c', .int .i64 0] ∧ Bs u A n c l ∧ Bs u A' D c' r
theorem VX.below {n D : Nat} {l r : List Nat} {v : Value} {u u' : World} (h : VX n l D r v u) (hb : Below u.heap.size u u') : VX n l D r v u' := by
  obtain ⟨A, c, A', c', e, h1, h2⟩ := h
  exact ⟨A, c, A', c', e, h1.below hb, h2.below hb⟩
theorem upd_old {d : Nat → Bool} {i j : Nat} (h : d j = true) : Done.upd d i j = true := by unfold Done.upd; split <;> first | rfl | exact h
theorem upd_new (d : Nat → Bool) (i : Nat) : Done.upd d i i = true := by unfold Done.upd; rw [if_pos rfl]
set_option maxHeartbeats 16000000 in
theorem pads_walk (z b : Int) (A : Option Addr) (nA cA : Nat) (salt : List Nat) (Ad : Option Addr) (nd cd : Nat) (data : List Nat) (mo : Int) (w : World) (hz : I64 z) (hb : I64 b) (hs : Bs w A nA cA salt) (hd : Bs w Ad nd cd data) (hmo : I64 mo) (ht : Both w) : Calls Tryd.prog 9 #[.agg #[.int .i64 z, .int .i64 b, .slice A nA cA, .slice Ad nd cd], .int .i64 mo] w fun e w' => e = .returned (.bool true) ∧ Below w.heap.size w w' := by
  obtain ⟨D, hDD⟩ : ∃ D, sizeOfAlg z = D := ⟨_, rfl⟩
  have HDD := Lib.hid hDD
  have HZ := Lib.hid hz
  have HIB := Lib.hid hb
  have HB1 : Hid (Below w.heap.size w (w.alloc (.cells #[.int .i64 z, .int .i64 b, .slice A nA cA, .slice Ad nd cd] 24))) := (Below.refl _ _).alloc (Nat.le_refl _) _
  have HK := Lib.hid (Blk.new w 24 [.int .i64 z, .int .i64 b, .slice A nA cA, .slice Ad nd cd])
  have HS0 := Lib.hid hs
  have HD0 := Lib.hid hd
  have HTB := Lib.hid ht
  clear hDD hz hb hs hd ht
  go_enter Tryd.func9, Tryd.ntmps9
  go_wp2_with fail
  generalize w.alloc (.cells #[.int .i64 z, .int .i64 b, .slice A nA cA, .slice Ad nd cd] 24) = W at *
  refine (anchor9_any W (HTB.out.below HB1.out)).mono ?_
  rintro e w1 ⟨rfl, hb1⟩
  have BK1 := Lib.hid (HK.out.below hb1 HK.out.lt)
  have BEL1 := Lib.hid (below_then HB1.out hb1)
  have c10 : w1.cell? ⟨w.heap.size, 0, none⟩ = some (.int .i64 z) := BK1.out.cell 0
  have c11 : w1.cell? ⟨w.heap.size, 1, none⟩ = some (.int .i64 b) := BK1.out.cell 1
  have c12 : w1.cell? ⟨w.heap.size, 2, none⟩ = some (.slice A nA cA) := BK1.out.cell 2
  have c13 : w1.cell? ⟨w.heap.size, 3, none⟩ = some (.slice Ad nd cd) := BK1.out.cell 3
  clear hb1
  go_wp2_with fail
  refine (shape9_any z b A nA cA Ad nd cd D HDD.out w1).mono ?_
  obtain ⟨ok, hok⟩ : ∃ ok, decide (Rgt nd b D ∧ nA ≤ 64) = ok := ⟨_, rfl⟩
  rw [hok]
  have HOK := Lib.hid hok
  clear hok
  rintro e w2 ⟨rfl, hb2⟩
  have BK2 := Lib.hid (BK1.out.below hb2 BK1.out.lt)
  have BEL2 := Lib.hid (below_then BEL1.out hb2)
  have c20 : w2.cell? ⟨w.heap.size, 0, none⟩ = some (.int .i64 z) := BK2.out.cell 0
  have c21 : w2.cell? ⟨w.heap.size, 1, none⟩ = some (.int .i64 b) := BK2.out.cell 1
  have c22 : w2.cell? ⟨w.heap.size, 2, none⟩ = some (.slice A nA cA) := BK2.out.cell 2
  have c23 : w2.cell? ⟨w.heap.size, 3, none⟩ = some (.slice Ad nd cd) := BK2.out.cell 3
  clear hb2 c10 c11 c12 c13
  have hb3 : Below w2.heap.size w2 (w2.alloc (.cells #[.int .i64 (nd : Int), .int .i64 b, .int .i64 (D : Int)] 32)) := (Below.refl _ _).alloc (Nat.le_refl _) _
  have hsb := Blk.new w2 32 [.int .i64 (nd : Int), .int .i64 b, .int .i64 (D : Int)]
  have d30 : (w2.alloc (.cells #[.int .i64 (nd : Int), .int .i64 b, .int .i64 (D : Int)] 32)).cell? ⟨w.heap.size, 0, none⟩ = some (.int .i64 z) := (BK2.out.below hb3 BK2.out.lt).cell 0
  have d31 : (w2.alloc (.cells #[.int .i64 (nd : Int), .int .i64 b, .int .i64 (D : Int)] 32)).cell? ⟨w.heap.size, 1, none⟩ = some (.int .i64 b) := (BK2.out.below hb3 BK2.out.lt).cell 1
  have d32 : (w2.alloc (.cells #[.int .i64 (nd : Int), .int .i64 b, .int .i64 (D : Int)] 32)).cell? ⟨w.heap.size, 2, none⟩ = some (.slice A nA cA) := (BK2.out.below hb3 BK2.out.lt).cell 2
  have d33 : (w2.alloc (.cells #[.int .i64 (nd : Int), .int .i64 b, .int .i64 (D : Int)] 32)).cell? ⟨w.heap.size, 3, none⟩ = some (.slice Ad nd cd) := (BK2.out.below hb3 BK2.out.lt).cell 3
  have HB3 := Lib.hid hb3
  have HSB := Lib.hid hsb
  clear hb3 hsb c20 c21 c22 c23
  go_wp2_with fail
  rename_i hKx
  have hb3 := HB3.out
  have hsb := HSB.out
  clear HB3 HSB d30 d31 d32 d33
  generalize w2.alloc (.cells #[.int .i64 (nd : Int), .int .i64 b, .int .i64 (D : Int)] 32) = w3 at *
  obtain ⟨g, hg⟩ : ∃ g, w2.heap.size = g := ⟨_, rfl⟩
  have SB3 : Hid (Blk w3 g 32 [.int .i64 (nd : Int), .int .i64 b, .int .i64 (D : Int)]) := by rw [← hg]; exact hsb
  have BK3 := Lib.hid (BK2.out.below hb3 BK2.out.lt)
  have BEL3 := Lib.hid (below_then BEL2.out hb3)
  rw [hg]
  clear hb3 hsb hg
  have c30 : w3.cell? ⟨w.heap.size, 0, none⟩ = some (.int .i64 z) := BK3.out.cell 0
  have c31 : w3.cell? ⟨w.heap.size, 1, none⟩ = some (.int .i64 b) := BK3.out.cell 1
  have c32 : w3.cell? ⟨w.heap.size, 2, none⟩ = some (.slice A nA cA) := BK3.out.cell 2
  have c33 : w3.cell? ⟨w.heap.size, 3, none⟩ = some (.slice Ad nd cd) := BK3.out.cell 3
  have LW := Lib.hid BK3.out.lt
  obtain ⟨sm, hsm⟩ : ∃ sm, decide (nA ≤ 100 ∧ nd ≤ 1500) = sm := ⟨_, rfl⟩
  have HSMC : Hid (∀ u, Below w3.heap.size w3 u → Calls Tryd.prog 12 #[.agg #[.int .i64 z, .int .i64 b, .slice A nA cA, .slice Ad nd cd]] u fun e w' => e = .returned (.bool sm) ∧ Below u.heap.size u w') := fun u _ => by
    have := small_any z b A nA cA Ad nd cd u
    rw [hsm] at this
    exact this
  cases sm
  · refine wp_region_eachW (by kernel_rfl) (by kernel_rfl) (fun u u' => Below u.heap.size u u') (fun iX v u => match iX with
        | 0 => v = .agg #[.int .i64 z, .int .i64 b, .slice A nA cA, .slice Ad nd cd]
        | 1 => v = .bool false
        | 2 => v = .bool true
        | 3 => v = .bool true
        | 4 => True
        | 5 => True
        | 6 => v = .bool true
        | 7 => v = .bool true
        | 8 => True
        | 9 => True
        | 10 => v = .bool true
        | 11 => v = .bool true
        | 12 => True
        | 13 => True
        | 14 => True
        | 15 => True
        | 16 => True
        | 17 => True
        | 18 => True
        | 19 => True
        | 20 => True
        | 21 => True
        | 22 => True
        | 23 => True
        | 24 => True
        | 25 => True
        | 26 => v = .bool true
        | _ => True) (fun u => Below w3.heap.size w3 u) ?a1 (fun _ _ h1 h2 => h1.trans (h2.mono h1.size)) ⟨rfl, rfl, rfl, Nat.le_refl _, fun _ _ => rfl⟩ ?a2 ?a3
    case a1 =>
      intro iX v u u' h hr hb
      rcases iX with _ | _ | _ | _ | _ | _ | _ | _ | _ | _ | _ | _ | _ | _ | _ | _ | _ | _ | _ | _ | _ | _ | _ | _ | _ | _ | _ | iX
      · exact h
      · exact h
      · exact h
      · exact h
      · trivial
      · trivial
      · exact h
      · exact h
      · trivial
      · trivial
      · exact h
      · exact h
      · trivial
      · trivial
      · trivial
      · trivial
      · trivial
      · trivial
      · trivial
      · trivial
      · trivial
      · trivial
      · trivial
      · trivial
      · trivial
      · trivial
      · exact h
      · trivial
    case a2 =>
      intro iX o ho aX u hr hk hpre K hK
      have e2 : aX.tmps.getD 2 undef = .pointer (some ⟨w.heap.size, 0, none⟩) := hk.slot 2 (by simp)
      have e6 : aX.tmps.getD 6 undef = .bool ok := hk.slot 6 (by simp)
      have e1 : aX.tmps.getD 1 undef = .int .i64 mo := hk.slot 1 (by simp)
      have u0 : u.cell? ⟨w.heap.size, 0, none⟩ = some (.int .i64 z) := (hr.cell (p := ⟨w.heap.size, 0, none⟩) LW.out).trans c30
      have u1 : u.cell? ⟨w.heap.size, 1, none⟩ = some (.int .i64 b) := (hr.cell (p := ⟨w.heap.size, 1, none⟩) LW.out).trans c31
      have u2 : u.cell? ⟨w.heap.size, 2, none⟩ = some (.slice A nA cA) := (hr.cell (p := ⟨w.heap.size, 2, none⟩) LW.out).trans c32
      have u3 : u.cell? ⟨w.heap.size, 3, none⟩ = some (.slice Ad nd cd) := (hr.cell (p := ⟨w.heap.size, 3, none⟩) LW.out).trans c33
      have rf : Below u.heap.size u u := Below.refl _ _
      rcases iX with _ | _ | _ | _ | _ | _ | _ | _ | _ | _ | _ | _ | _ | _ | _ | _ | _ | _ | _ | _ | _ | _ | _ | _ | _ | _ | _ | iX
      · obtain rfl := Option.some.inj ho
        have y2 : aX.eval (.tmp 2) = .pointer (some ⟨w.heap.size, 0, none⟩) := e2
        refine st_run (want_none rfl) (.agg #[.int .i64 z, .int .i64 b, .slice A nA cA, .slice Ad nd cd]) (w' := u) ?_ (hK _ _ rfl rf)
        simp only [execOp, y2]
        go_simp
      · obtain rfl := Option.some.inj ho
        have x0 : aX.eval (.tmp 20) = .agg #[.int .i64 z, .int .i64 b, .slice A nA cA, .slice Ad nd cd] := (hpre 0 _ rfl ⟨⟨0, .data⟩, by simp, rfl, rfl⟩)
        exact st_callN 12 _ _ rfl (want_none rfl) #[.agg #[.int .i64 z, .int .i64 b, .slice A nA cA, .slice Ad nd cd]] (by simp [x0]) (by kernel_rfl) _ (HSMC.out u hr) (fun e u' he => ⟨_, he.1, hK _ _ rfl he.2⟩)
      · obtain rfl := Option.some.inj ho
        have y21 : aX.eval (.tmp 21) = .bool false := (hpre 1 _ rfl ⟨⟨1, .data⟩, by simp, rfl, rfl⟩)
        refine st_run (want_none rfl) (.bool true) (w' := u) ?_ (hK _ _ rfl rf)
        simp only [execOp, y21]
        go_simp
      · obtain rfl := Option.some.inj ho
        exact st_move (.tmp 22) rfl (want_none rfl) _ (hpre 2 _ rfl ⟨⟨2, .data⟩, by simp, rfl, rfl⟩) (hK _ _ rfl rf)
      · obtain rfl := Option.some.inj ho
        exact st_fall (want_fall rfl rfl rfl (hpre 3 _ rfl ⟨⟨3, .guard⟩, by simp, rfl, rfl⟩) (by decide)) (hK undef _ trivial rf)
      · obtain rfl := Option.some.inj ho
        exact st_fall (want_fall rfl rfl rfl (hpre 3 _ rfl ⟨⟨3, .guard⟩, by simp, rfl, rfl⟩) (by decide)) (hK undef _ trivial rf)
      · obtain rfl := Option.some.inj ho
        exact st_pick (.tmp 23) (.const (.bool true)) (.tmp 25) rfl (want_none rfl) true (hpre 3 _ rfl ⟨⟨3, .data⟩, by simp, rfl, rfl⟩) _ ((if_pos rfl).trans rfl) (hK _ _ rfl rf)
      · obtain rfl := Option.some.inj ho
        exact st_move (.tmp 26) rfl (want_none rfl) _ (hpre 6 _ rfl ⟨⟨6, .data⟩, by simp, rfl, rfl⟩) (hK _ _ rfl rf)
      · obtain rfl := Option.some.inj ho
        exact st_fall (want_fall rfl rfl rfl (hpre 7 _ rfl ⟨⟨7, .guard⟩, by simp, rfl, rfl⟩) (by decide)) (hK undef _ trivial rf)
      · obtain rfl := Option.some.inj ho
        exact st_fall (want_fall rfl rfl rfl (hpre 7 _ rfl ⟨⟨7, .guard⟩, by simp, rfl, rfl⟩) (by decide)) (hK undef _ trivial rf)
      · obtain rfl := Option.some.inj ho
        exact st_pick (.tmp 27) (.const (.bool true)) (.tmp 29) rfl (want_none rfl) true (hpre 7 _ rfl ⟨⟨7, .data⟩, by simp, rfl, rfl⟩) _ ((if_pos rfl).trans rfl) (hK _ _ rfl rf)
      · obtain rfl := Option.some.inj ho
        exact st_move (.tmp 30) rfl (want_none rfl) _ (hpre 10 _ rfl ⟨⟨10, .data⟩, by simp, rfl, rfl⟩) (hK _ _ rfl rf)
      · obtain rfl := Option.some.inj ho
        exact st_fall (want_fall rfl rfl rfl (hpre 11 _ rfl ⟨⟨11, .guard⟩, by simp, rfl, rfl⟩) (by decide)) (hK undef _ trivial rf)
      · obtain rfl := Option.some.inj ho
        exact st_fall (want_fall rfl rfl rfl (hpre 11 _ rfl ⟨⟨11, .guard⟩, by simp, rfl, rfl⟩) (by decide)) (hK undef _ trivial rf)
      · obtain rfl := Option.some.inj ho
        exact st_fall (want_fall rfl rfl rfl (hpre 11 _ rfl ⟨⟨11, .guard⟩, by simp, rfl, rfl⟩) (by decide)) (hK undef _ trivial rf)
      · obtain rfl := Option.some.inj ho
        exact st_fall (want_fall rfl rfl rfl (hpre 11 _ rfl ⟨⟨11, .guard⟩, by simp, rfl, rfl⟩) (by decide)) (hK undef _ trivial rf)
      · obtain rfl := Option.some.inj ho
        exact st_fall (want_fall rfl rfl rfl (hpre 11 _ rfl ⟨⟨11, .guard⟩, by simp, rfl, rfl⟩) (by decide)) (hK undef _ trivial rf)
      · obtain rfl := Option.some.inj ho
        exact st_fall (want_fall rfl rfl rfl (hpre 11 _ rfl ⟨⟨11, .guard⟩, by simp, rfl, rfl⟩) (by decide)) (hK undef _ trivial rf)
      · obtain rfl := Option.some.inj ho
        exact st_fall (want_fall rfl rfl rfl (hpre 11 _ rfl ⟨⟨11, .guard⟩, by simp, rfl, rfl⟩) (by decide)) (hK undef _ trivial rf)
      · obtain rfl := Option.some.inj ho
        exact st_fall (want_fall rfl rfl rfl (hpre 11 _ rfl ⟨⟨11, .guard⟩, by simp, rfl, rfl⟩) (by decide)) (hK undef _ trivial rf)
      · obtain rfl := Option.some.inj ho
        exact st_fall (want_fall rfl rfl rfl (hpre 11 _ rfl ⟨⟨11, .guard⟩, by simp, rfl, rfl⟩) (by decide)) (hK undef _ trivial rf)
      · obtain rfl := Option.some.inj ho
        exact st_fall (want_fall rfl rfl rfl (hpre 11 _ rfl ⟨⟨11, .guard⟩, by simp, rfl, rfl⟩) (by decide)) (hK undef _ trivial rf)
      · obtain rfl := Option.some.inj ho
        exact st_fall (want_fall rfl rfl rfl (hpre 11 _ rfl ⟨⟨11, .guard⟩, by simp, rfl, rfl⟩) (by decide)) (hK undef _ trivial rf)
      · obtain rfl := Option.some.inj ho
        exact st_fall (want_fall rfl rfl rfl (hpre 11 _ rfl ⟨⟨11, .guard⟩, by simp, rfl, rfl⟩) (by decide)) (hK undef _ trivial rf)
      · obtain rfl := Option.some.inj ho
        exact st_fall (want_fall rfl rfl rfl (hpre 11 _ rfl ⟨⟨11, .guard⟩, by simp, rfl, rfl⟩) (by decide)) (hK undef _ trivial rf)
      · obtain rfl := Option.some.inj ho
        exact st_fall (want_fall rfl rfl rfl (hpre 11 _ rfl ⟨⟨11, .guard⟩, by simp, rfl, rfl⟩) (by decide)) (hK undef _ trivial rf)
      · obtain rfl := Option.some.inj ho
        exact st_pick (.tmp 31) (.const (.bool true)) (.tmp 45) rfl (want_none rfl) true (hpre 11 _ rfl ⟨⟨11, .data⟩, by simp, rfl, rfl⟩) _ ((if_pos rfl).trans rfl) (hK _ _ rfl rf)
      · cases ho
    case a3 =>
      intro aX u hr hk hv
      have q46 : aX.tmps.getD 46 undef = .bool true := hv 26 _ rfl
      have hfr := keeps_frameP (fun s => decide ((20 ≤ s ∧ s ≤ 46))) hk (by simp)
      refine hKx aX u ?_
      rw [hfr]
      generalize hff : (fun s => aX.tmps.getD s undef) = ff
      have hf46 : ff 46 = .bool true := by rw [← hff]; exact q46
      simp only [mixP, hf46, decide_eq_true_eq, Nat.reduceAdd, Nat.reduceLeDiff, Nat.reduceEqDiff, false_or, true_or, or_false, or_true, and_true, and_false, true_and, false_and, and_self, if_true, if_false, Nat.zero_le]
      clear hfr hff hf46 q46 hv hk
      go_wp2
      go_ret
      exact ⟨rfl, below_then BEL3.out hr⟩
  have hsm2 := of_decide_eq_true hsm
  have HSM := Lib.hid hsm2
  clear hsm hsm2
  cases ok
  · refine wp_region_eachW (by kernel_rfl) (by kernel_rfl) (fun u u' => Below u.heap.size u u') (fun iX v u => match iX with
        | 0 => v = .agg #[.int .i64 z, .int .i64 b, .slice A nA cA, .slice Ad nd cd]
        | 1 => v = .bool true
        | 2 => v = .bool false
        | 3 => v = .bool false
        | 4 => v = .bool false
        | 5 => v = .bool true
        | 6 => v = .bool true
        | 7 => v = .bool true
        | 8 => True
        | 9 => True
        | 10 => v = .bool true
        | 11 => v = .bool true
        | 12 => True
        | 13 => True
        | 14 => True
        | 15 => True
        | 16 => True
        | 17 => True
        | 18 => True
        | 19 => True
        | 20 => True
        | 21 => True
        | 22 => True
        | 23 => True
        | 24 => True
        | 25 => True
        | 26 => v = .bool true
        | _ => True) (fun u => Below w3.heap.size w3 u) ?b1 (fun _ _ h1 h2 => h1.trans (h2.mono h1.size)) ⟨rfl, rfl, rfl, Nat.le_refl _, fun _ _ => rfl⟩ ?b2 ?b3
    case b1 =>
      intro iX v u u' h hr hb
      rcases iX with _ | _ | _ | _ | _ | _ | _ | _ | _ | _ | _ | _ | _ | _ | _ | _ | _ | _ | _ | _ | _ | _ | _ | _ | _ | _ | _ | iX
      · exact h
      · exact h
      · exact h
      · exact h
      · exact h
      · exact h
      · exact h
      · exact h
      · trivial
      · trivial
      · exact h
      · exact h
      · trivial
      · trivial
      · trivial
      · trivial
      · trivial
      · trivial
      · trivial
      · trivial
      · trivial
      · trivial
      · trivial
      · trivial
      · trivial
      · trivial
      · exact h
      · trivial
    case b2 =>
      intro iX o ho aX u hr hk hpre K hK
      have e2 : aX.tmps.getD 2 undef = .pointer (some ⟨w.heap.size, 0, none⟩) := hk.slot 2 (by simp)
      have e6 : aX.tmps.getD 6 undef = .bool false := hk.slot 6 (by simp)
      have e1 : aX.tmps.getD 1 undef = .int .i64 mo := hk.slot 1 (by simp)
      have u0 : u.cell? ⟨w.heap.size, 0, none⟩ = some (.int .i64 z) := (hr.cell (p := ⟨w.heap.size, 0, none⟩) LW.out).trans c30
      have u1 : u.cell? ⟨w.heap.size, 1, none⟩ = some (.int .i64 b) := (hr.cell (p := ⟨w.heap.size, 1, none⟩) LW.out).trans c31
      have u2 : u.cell? ⟨w.heap.size, 2, none⟩ = some (.slice A nA cA) := (hr.cell (p := ⟨w.heap.size, 2, none⟩) LW.out).trans c32
      have u3 : u.cell? ⟨w.heap.size, 3, none⟩ = some (.slice Ad nd cd) := (hr.cell (p := ⟨w.heap.size, 3, none⟩) LW.out).trans c33
      have rf : Below u.heap.size u u := Below.refl _ _
      rcases iX with _ | _ | _ | _ | _ | _ | _ | _ | _ | _ | _ | _ | _ | _ | _ | _ | _ | _ | _ | _ | _ | _ | _ | _ | _ | _ | _ | iX
      · obtain rfl := Option.some.inj ho
        have y2 : aX.eval (.tmp 2) = .pointer (some ⟨w.heap.size, 0, none⟩) := e2
        refine st_run (want_none rfl) (.agg #[.int .i64 z, .int .i64 b, .slice A nA cA, .slice Ad nd cd]) (w' := u) ?_ (hK _ _ rfl rf)
        simp only [execOp, y2]
        go_simp
      · obtain rfl := Option.some.inj ho
        have x0 : aX.eval (.tmp 20) = .agg #[.int .i64 z, .int .i64 b, .slice A nA cA, .slice Ad nd cd] := (hpre 0 _ rfl ⟨⟨0, .data⟩, by simp, rfl, rfl⟩)
        exact st_callN 12 _ _ rfl (want_none rfl) #[.agg #[.int .i64 z, .int .i64 b, .slice A nA cA, .slice Ad nd cd]] (by simp [x0]) (by kernel_rfl) _ (HSMC.out u hr) (fun e u' he => ⟨_, he.1, hK _ _ rfl he.2⟩)
      · obtain rfl := Option.some.inj ho
        have y21 : aX.eval (.tmp 21) = .bool true := (hpre 1 _ rfl ⟨⟨1, .data⟩, by simp, rfl, rfl⟩)
        refine st_run (want_none rfl) (.bool false) (w' := u) ?_ (hK _ _ rfl rf)
        simp only [execOp, y21]
        go_simp
      · obtain rfl := Option.some.inj ho
        exact st_move (.tmp 22) rfl (want_none rfl) _ (hpre 2 _ rfl ⟨⟨2, .data⟩, by simp, rfl, rfl⟩) (hK _ _ rfl rf)
      · obtain rfl := Option.some.inj ho
        exact st_move (.tmp 6) rfl (want_some rfl rfl rfl (hpre 3 _ rfl ⟨⟨3, .guard⟩, by simp, rfl, rfl⟩)) _ e6 (hK _ _ rfl rf)
      · obtain rfl := Option.some.inj ho
        have y24 : aX.eval (.tmp 24) = .bool false := (hpre 4 _ rfl ⟨⟨4, .data⟩, by simp, rfl, rfl⟩)
        refine st_run (want_some rfl rfl rfl (hpre 3 _ rfl ⟨⟨3, .guard⟩, by simp, rfl, rfl⟩)) (.bool true) (w' := u) ?_ (hK _ _ rfl rf)
        simp only [execOp, y24]
        go_simp
      · obtain rfl := Option.some.inj ho
        exact st_pick (.tmp 23) (.const (.bool true)) (.tmp 25) rfl (want_none rfl) false (hpre 3 _ rfl ⟨⟨3, .data⟩, by simp, rfl, rfl⟩) _ ((if_neg (by decide)).trans (hpre 5 _ rfl ⟨⟨5, .data⟩, by simp, rfl, rfl⟩)) (hK _ _ rfl rf)
      · obtain rfl := Option.some.inj ho
        exact st_move (.tmp 26) rfl (want_none rfl) _ (hpre 6 _ rfl ⟨⟨6, .data⟩, by simp, rfl, rfl⟩) (hK _ _ rfl rf)
      · obtain rfl := Option.some.inj ho
        exact st_fall (want_fall rfl rfl rfl (hpre 7 _ rfl ⟨⟨7, .guard⟩, by simp, rfl, rfl⟩) (by decide)) (hK undef _ trivial rf)
      · obtain rfl := Option.some.inj ho
        exact st_fall (want_fall rfl rfl rfl (hpre 7 _ rfl ⟨⟨7, .guard⟩, by simp, rfl, rfl⟩) (by decide)) (hK undef _ trivial rf)
      · obtain rfl := Option.some.inj ho
        exact st_pick (.tmp 27) (.const (.bool true)) (.tmp 29) rfl (want_none rfl) true (hpre 7 _ rfl ⟨⟨7, .data⟩, by simp, rfl, rfl⟩) _ ((if_pos rfl).trans rfl) (hK _ _ rfl rf)
      · obtain rfl := Option.some.inj ho
        exact st_move (.tmp 30) rfl (want_none rfl) _ (hpre 10 _ rfl ⟨⟨10, .data⟩, by simp, rfl, rfl⟩) (hK _ _ rfl rf)
      · obtain rfl := Option.some.inj ho
        exact st_fall (want_fall rfl rfl rfl (hpre 11 _ rfl ⟨⟨11, .guard⟩, by simp, rfl, rfl⟩) (by decide)) (hK undef _ trivial rf)
      · obtain rfl := Option.some.inj ho
        exact st_fall (want_fall rfl rfl rfl (hpre 11 _ rfl ⟨⟨11, .guard⟩, by simp, rfl, rfl⟩) (by decide)) (hK undef _ trivial rf)
      · obtain rfl := Option.some.inj ho
        exact st_fall (want_fall rfl rfl rfl (hpre 11 _ rfl ⟨⟨11, .guard⟩, by simp, rfl, rfl⟩) (by decide)) (hK undef _ trivial rf)
      · obtain rfl := Option.some.inj ho
        exact st_fall (want_fall rfl rfl rfl (hpre 11 _ rfl ⟨⟨11, .guard⟩, by simp, rfl, rfl⟩) (by decide)) (hK undef _ trivial rf)
      · obtain rfl := Option.some.inj ho
        exact st_fall (want_fall rfl rfl rfl (hpre 11 _ rfl ⟨⟨11, .guard⟩, by simp, rfl, rfl⟩) (by decide)) (hK undef _ trivial rf)
      · obtain rfl := Option.some.inj ho
        exact st_fall (want_fall rfl rfl rfl (hpre 11 _ rfl ⟨⟨11, .guard⟩, by simp, rfl, rfl⟩) (by decide)) (hK undef _ trivial rf)
      · obtain rfl := Option.some.inj ho
        exact st_fall (want_fall rfl rfl rfl (hpre 11 _ rfl ⟨⟨11, .guard⟩, by simp, rfl, rfl⟩) (by decide)) (hK undef _ trivial rf)
      · obtain rfl := Option.some.inj ho
        exact st_fall (want_fall rfl rfl rfl (hpre 11 _ rfl ⟨⟨11, .guard⟩, by simp, rfl, rfl⟩) (by decide)) (hK undef _ trivial rf)
      · obtain rfl := Option.some.inj ho
        exact st_fall (want_fall rfl rfl rfl (hpre 11 _ rfl ⟨⟨11, .guard⟩, by simp, rfl, rfl⟩) (by decide)) (hK undef _ trivial rf)
      · obtain rfl := Option.some.inj ho
        exact st_fall (want_fall rfl rfl rfl (hpre 11 _ rfl ⟨⟨11, .guard⟩, by simp, rfl, rfl⟩) (by decide)) (hK undef _ trivial rf)
      · obtain rfl := Option.some.inj ho
        exact st_fall (want_fall rfl rfl rfl (hpre 11 _ rfl ⟨⟨11, .guard⟩, by simp, rfl, rfl⟩) (by decide)) (hK undef _ trivial rf)
      · obtain rfl := Option.some.inj ho
        exact st_fall (want_fall rfl rfl rfl (hpre 11 _ rfl ⟨⟨11, .guard⟩, by simp, rfl, rfl⟩) (by decide)) (hK undef _ trivial rf)
      · obtain rfl := Option.some.inj ho
        exact st_fall (want_fall rfl rfl rfl (hpre 11 _ rfl ⟨⟨11, .guard⟩, by simp, rfl, rfl⟩) (by decide)) (hK undef _ trivial rf)
      · obtain rfl := Option.some.inj ho
        exact st_fall (want_fall rfl rfl rfl (hpre 11 _ rfl ⟨⟨11, .guard⟩, by simp, rfl, rfl⟩) (by decide)) (hK undef _ trivial rf)
      · obtain rfl := Option.some.inj ho
        exact st_pick (.tmp 31) (.const (.bool true)) (.tmp 45) rfl (want_none rfl) true (hpre 11 _ rfl ⟨⟨11, .data⟩, by simp, rfl, rfl⟩) _ ((if_pos rfl).trans rfl) (hK _ _ rfl rf)
      · cases ho
    case b3 =>
      intro aX u hr hk hv
      have q46 : aX.tmps.getD 46 undef = .bool true := hv 26 _ rfl
      have hfr := keeps_frameP (fun s => decide ((20 ≤ s ∧ s ≤ 46))) hk (by simp)
      refine hKx aX u ?_
      rw [hfr]
      generalize hff : (fun s => aX.tmps.getD s undef) = ff
      have hf46 : ff 46 = .bool true := by rw [← hff]; exact q46
      simp only [mixP, hf46, decide_eq_true_eq, Nat.reduceAdd, Nat.reduceLeDiff, Nat.reduceEqDiff, false_or, true_or, or_false, or_true, and_true, and_false, true_and, false_and, and_self, if_true, if_false, Nat.zero_le]
      clear hfr hff hf46 q46 hv hk
      go_wp2
      go_ret
      exact ⟨rfl, below_then BEL3.out hr⟩
  obtain ⟨hR, h64⟩ : Rgt nd b D ∧ nA ≤ 64 := of_decide_eq_true HOK.out
  by_cases hi0 : mo < 0
  · refine wp_region_eachW (by kernel_rfl) (by kernel_rfl) (fun u u' => Below u.heap.size u u') (fun iX v u => match iX with
        | 0 => v = .agg #[.int .i64 z, .int .i64 b, .slice A nA cA, .slice Ad nd cd]
        | 1 => v = .bool true
        | 2 => v = .bool false
        | 3 => v = .bool false
        | 4 => v = .bool true
        | 5 => v = .bool false
        | 6 => v = .bool false
        | 7 => v = .bool false
        | 8 => v = .int .i64 mo
        | 9 => v = .bool true
        | 10 => v = .bool true
        | 11 => v = .bool true
        | 12 => True
        | 13 => True
        | 14 => True
        | 15 => True
        | 16 => True
        | 17 => True
        | 18 => True
        | 19 => True
        | 20 => True
        | 21 => True
        | 22 => True
        | 23 => True
        | 24 => True
        | 25 => True
        | 26 => v = .bool true
        | _ => True) (fun u => Below w3.heap.size w3 u) ?c1 (fun _ _ h1 h2 => h1.trans (h2.mono h1.size)) ⟨rfl, rfl, rfl, Nat.le_refl _, fun _ _ => rfl⟩ ?c2 ?c3
    case c1 =>
      intro iX v u u' h hr hb
      rcases iX with _ | _ | _ | _ | _ | _ | _ | _ | _ | _ | _ | _ | _ | _ | _ | _ | _ | _ | _ | _ | _ | _ | _ | _ | _ | _ | _ | iX
      · exact h
      · exact h
      · exact h
      · exact h
      · exact h
      · exact h
      · exact h
      · exact h
      · exact h
      · exact h
      · exact h
      · exact h
      · trivial
      · trivial
      · trivial
      · trivial
      · trivial
      · trivial
      · trivial
      · trivial
      · trivial
      · trivial
      · trivial
      · trivial
      · trivial
      · trivial
      · exact h
      · trivial
    case c2 =>
      intro iX o ho aX u hr hk hpre K hK
      have e2 : aX.tmps.getD 2 undef = .pointer (some ⟨w.heap.size, 0, none⟩) := hk.slot 2 (by simp)
      have e6 : aX.tmps.getD 6 undef = .bool true := hk.slot 6 (by simp)
      have e1 : aX.tmps.getD 1 undef = .int .i64 mo := hk.slot 1 (by simp)
      have u0 : u.cell? ⟨w.heap.size, 0, none⟩ = some (.int .i64 z) := (hr.cell (p := ⟨w.heap.size, 0, none⟩) LW.out).trans c30
      have u1 : u.cell? ⟨w.heap.size, 1, none⟩ = some (.int .i64 b) := (hr.cell (p := ⟨w.heap.size, 1, none⟩) LW.out).trans c31
      have u2 : u.cell? ⟨w.heap.size, 2, none⟩ = some (.slice A nA cA) := (hr.cell (p := ⟨w.heap.size, 2, none⟩) LW.out).trans c32
      have u3 : u.cell? ⟨w.heap.size, 3, none⟩ = some (.slice Ad nd cd) := (hr.cell (p := ⟨w.heap.size, 3, none⟩) LW.out).trans c33
      have rf : Below u.heap.size u u := Below.refl _ _
      rcases iX with _ | _ | _ | _ | _ | _ | _ | _ | _ | _ | _ | _ | _ | _ | _ | _ | _ | _ | _ | _ | _ | _ | _ | _ | _ | _ | _ | iX
      · obtain rfl := Option.some.inj ho
        have y2 : aX.eval (.tmp 2) = .pointer (some ⟨w.heap.size, 0, none⟩) := e2
        refine st_run (want_none rfl) (.agg #[.int .i64 z, .int .i64 b, .slice A nA cA, .slice Ad nd cd]) (w' := u) ?_ (hK _ _ rfl rf)
        simp only [execOp, y2]
        go_simp
      · obtain rfl := Option.some.inj ho
        have x0 : aX.eval (.tmp 20) = .agg #[.int .i64 z, .int .i64 b, .slice A nA cA, .slice Ad nd cd] := (hpre 0 _ rfl ⟨⟨0, .data⟩, by simp, rfl, rfl⟩)
        exact st_callN 12 _ _ rfl (want_none rfl) #[.agg #[.int .i64 z, .int .i64 b, .slice A nA cA, .slice Ad nd cd]] (by simp [x0]) (by kernel_rfl) _ (HSMC.out u hr) (fun e u' he => ⟨_, he.1, hK _ _ rfl he.2⟩)
      · obtain rfl := Option.some.inj ho
        have y21 : aX.eval (.tmp 21) = .bool true := (hpre 1 _ rfl ⟨⟨1, .data⟩, by simp, rfl, rfl⟩)
        refine st_run (want_none rfl) (.bool false) (w' := u) ?_ (hK _ _ rfl rf)
        simp only [execOp, y21]
        go_simp
      · obtain rfl := Option.some.inj ho
        exact st_move (.tmp 22) rfl (want_none rfl) _ (hpre 2 _ rfl ⟨⟨2, .data⟩, by simp, rfl, rfl⟩) (hK _ _ rfl rf)
      · obtain rfl := Option.some.inj ho
        exact st_move (.tmp 6) rfl (want_some rfl rfl rfl (hpre 3 _ rfl ⟨⟨3, .guard⟩, by simp, rfl, rfl⟩)) _ e6 (hK _ _ rfl rf)
      · obtain rfl := Option.some.inj ho
        have y24 : aX.eval (.tmp 24) = .bool true := (hpre 4 _ rfl ⟨⟨4, .data⟩, by simp, rfl, rfl⟩)
        refine st_run (want_some rfl rfl rfl (hpre 3 _ rfl ⟨⟨3, .guard⟩, by simp, rfl, rfl⟩)) (.bool false) (w' := u) ?_ (hK _ _ rfl rf)
        simp only [execOp, y24]
        go_simp
      · obtain rfl := Option.some.inj ho
        exact st_pick (.tmp 23) (.const (.bool true)) (.tmp 25) rfl (want_none rfl) false (hpre 3 _ rfl ⟨⟨3, .data⟩, by simp, rfl, rfl⟩) _ ((if_neg (by decide)).trans (hpre 5 _ rfl ⟨⟨5, .data⟩, by simp, rfl, rfl⟩)) (hK _ _ rfl rf)
      · obtain rfl := Option.some.inj ho
        exact st_move (.tmp 26) rfl (want_none rfl) _ (hpre 6 _ rfl ⟨⟨6, .data⟩, by simp, rfl, rfl⟩) (hK _ _ rfl rf)
      · obtain rfl := Option.some.inj ho
        exact st_move (.tmp 1) rfl (want_some rfl rfl rfl (hpre 7 _ rfl ⟨⟨7, .guard⟩, by simp, rfl, rfl⟩)) _ e1 (hK _ _ rfl rf)
      · obtain rfl := Option.some.inj ho
        have y28 : aX.eval (.tmp 28) = .int .i64 mo := (hpre 8 _ rfl ⟨⟨8, .data⟩, by simp, rfl, rfl⟩)
        refine st_run (want_some rfl rfl rfl (hpre 7 _ rfl ⟨⟨7, .guard⟩, by simp, rfl, rfl⟩)) (.bool true) (w' := u) ?_ (hK _ _ rfl rf)
        simp only [execOp, y28]
        go_simp
      · obtain rfl := Option.some.inj ho
        exact st_pick (.tmp 27) (.const (.bool true)) (.tmp 29) rfl (want_none rfl) false (hpre 7 _ rfl ⟨⟨7, .data⟩, by simp, rfl, rfl⟩) _ ((if_neg (by decide)).trans (hpre 9 _ rfl ⟨⟨9, .data⟩, by simp, rfl, rfl⟩)) (hK _ _ rfl rf)
      · obtain rfl := Option.some.inj ho
        exact st_move (.tmp 30) rfl (want_none rfl) _ (hpre 10 _ rfl ⟨⟨10, .data⟩, by simp, rfl, rfl⟩) (hK _ _ rfl rf)
      · obtain rfl := Option.some.inj ho
        exact st_fall (want_fall rfl rfl rfl (hpre 11 _ rfl ⟨⟨11, .guard⟩, by simp, rfl, rfl⟩) (by decide)) (hK undef _ trivial rf)
      · obtain rfl := Option.some.inj ho
        exact st_fall (want_fall rfl rfl rfl (hpre 11 _ rfl ⟨⟨11, .guard⟩, by simp, rfl, rfl⟩) (by decide)) (hK undef _ trivial rf)
      · obtain rfl := Option.some.inj ho
        exact st_fall (want_fall rfl rfl rfl (hpre 11 _ rfl ⟨⟨11, .guard⟩, by simp, rfl, rfl⟩) (by decide)) (hK undef _ trivial rf)
      · obtain rfl := Option.some.inj ho
        exact st_fall (want_fall rfl rfl rfl (hpre 11 _ rfl ⟨⟨11, .guard⟩, by simp, rfl, rfl⟩) (by decide)) (hK undef _ trivial rf)
      · obtain rfl := Option.some.inj ho
        exact st_fall (want_fall rfl rfl rfl (hpre 11 _ rfl ⟨⟨11, .guard⟩, by simp, rfl, rfl⟩) (by decide)) (hK undef _ trivial rf)
      · obtain rfl := Option.some.inj ho
        exact st_fall (want_fall rfl rfl rfl (hpre 11 _ rfl ⟨⟨11, .guard⟩, by simp, rfl, rfl⟩) (by decide)) (hK undef _ trivial rf)
      · obtain rfl := Option.some.inj ho
        exact st_fall (want_fall rfl rfl rfl (hpre 11 _ rfl ⟨⟨11, .guard⟩, by simp, rfl, rfl⟩) (by decide)) (hK undef _ trivial rf)
      · obtain rfl := Option.some.inj ho
        exact st_fall (want_fall rfl rfl rfl (hpre 11 _ rfl ⟨⟨11, .guard⟩, by simp, rfl, rfl⟩) (by decide)) (hK undef _ trivial rf)
      · obtain rfl := Option.some.inj ho
        exact st_fall (want_fall rfl rfl rfl (hpre 11 _ rfl ⟨⟨11, .guard⟩, by simp, rfl, rfl⟩) (by decide)) (hK undef _ trivial rf)
      · obtain rfl := Option.some.inj ho
        exact st_fall (want_fall rfl rfl rfl (hpre 11 _ rfl ⟨⟨11, .guard⟩, by simp, rfl, rfl⟩) (by decide)) (hK undef _ trivial rf)
      · obtain rfl := Option.some.inj ho
        exact st_fall (want_fall rfl rfl rfl (hpre 11 _ rfl ⟨⟨11, .guard⟩, by simp, rfl, rfl⟩) (by decide)) (hK undef _ trivial rf)
      · obtain rfl := Option.some.inj ho
        exact st_fall (want_fall rfl rfl rfl (hpre 11 _ rfl ⟨⟨11, .guard⟩, by simp, rfl, rfl⟩) (by decide)) (hK undef _ trivial rf)
      · obtain rfl := Option.some.inj ho
        exact st_fall (want_fall rfl rfl rfl (hpre 11 _ rfl ⟨⟨11, .guard⟩, by simp, rfl, rfl⟩) (by decide)) (hK undef _ trivial rf)
      · obtain rfl := Option.some.inj ho
        exact st_fall (want_fall rfl rfl rfl (hpre 11 _ rfl ⟨⟨11, .guard⟩, by simp, rfl, rfl⟩) (by decide)) (hK undef _ trivial rf)
      · obtain rfl := Option.some.inj ho
        exact st_pick (.tmp 31) (.const (.bool true)) (.tmp 45) rfl (want_none rfl) true (hpre 11 _ rfl ⟨⟨11, .data⟩, by simp, rfl, rfl⟩) _ ((if_pos rfl).trans rfl) (hK _ _ rfl rf)
      · cases ho
    case c3 =>
      intro aX u hr hk hv
      have q46 : aX.tmps.getD 46 undef = .bool true := hv 26 _ rfl
      have hfr := keeps_frameP (fun s => decide ((20 ≤ s ∧ s ≤ 46))) hk (by simp)
      refine hKx aX u ?_
      rw [hfr]
      generalize hff : (fun s => aX.tmps.getD s undef) = ff
      have hf46 : ff 46 = .bool true := by rw [← hff]; exact q46
      simp only [mixP, hf46, decide_eq_true_eq, Nat.reduceAdd, Nat.reduceLeDiff, Nat.reduceEqDiff, false_or, true_or, or_false, or_true, and_true, and_false, true_and, false_and, and_self, if_true, if_false, Nat.zero_le]
      clear hfr hff hf46 q46 hv hk
      go_wp2
      go_ret
      exact ⟨rfl, below_then BEL3.out hr⟩
  obtain ⟨k, rfl⟩ : ∃ k : Nat, mo = k := ⟨mo.toNat, by omega⟩
  obtain ⟨s, rfl, hs12⟩ : ∃ s : Nat, z = s ∧ (s = 1 ∨ s = 2) := algYes (by rw [HDD.out]; obtain ⟨_, _, h, _⟩ := hR; omega)
  obtain ⟨S, B, D', a, n, eS, rfl, eD, hShp⟩ := hR.shp
  obtain rfl : nd = S := by omega
  obtain rfl : D = D' := by omega
  obtain ⟨m, hm⟩ : ∃ m, (cs a n).length = m := ⟨_, rfl⟩
  have HM := Lib.hid hm
  have HSHP := Lib.hid hShp
  have HS12 := Lib.hid hs12
  have hdig : sizeOfAlg (s : Int) = D := HDD.out
  have HDIG := Lib.hid hdig
  have hb := hShp.b
  have hsm3 := HSM.out
  obtain ⟨r, hr0⟩ : ∃ r, nd % B = r := ⟨_, rfl⟩
  have hrB : r < B := by rw [← hr0]; exact Nat.mod_lt _ (by omega)
  obtain ⟨tt, htt⟩ : ∃ tt, B - r = tt := ⟨_, rfl⟩
  obtain ⟨gp, hgp⟩ : ∃ gp, tt % B = gp := ⟨_, rfl⟩
  have hgB : gp < B := by rw [← hgp]; exact Nat.mod_lt _ (by omega)
  have hB0 : ¬ (B : Int) = 0 := by omega
  have hB00 : ¬ B = 0 := by omega
  have m1 : (nd : Int).tmod (B : Int) = (r : Int) := by rw [Int.tmod_eq_emod_of_nonneg (by omega), ← hr0]; rfl
  have m2 : (nd : Int) % (B : Int) = (r : Int) := by rw [← hr0]; rfl
  have m3 : IntKind.i64.wrap (r : Int) = (r : Int) := by rw [IntKind.wrap_i64]; omega
  have m4 : (B : Int) - (r : Int) = (tt : Int) := by omega
  have m5 : IntKind.i64.wrap (tt : Int) = (tt : Int) := by rw [IntKind.wrap_i64]; omega
  have m6 : (tt : Int).tmod (B : Int) = (gp : Int) := by rw [Int.tmod_eq_emod_of_nonneg (by omega), ← hgp]; rfl
  have m7 : (tt : Int) % (B : Int) = (gp : Int) := by rw [← hgp]; rfl
  have m8 : IntKind.i64.wrap (gp : Int) = (gp : Int) := by rw [IntKind.wrap_i64]; omega
  have HGAP : Hid (gp = (B - nd % B) % B) := by show gp = _; rw [hr0, htt, hgp]
  clear hm hShp hs12 hR eS eD hdig hr0 htt hgp hi0
  have zi0 : ¬ ((k : Int) < 0) := by omega
  by_cases hkg : gp < k
  · have zk : (gp : Int) < (k : Int) := by omega
    have zk2 : ¬ ((k : Int) ≤ (gp : Int)) := by omega
    refine wp_region_eachW (by kernel_rfl) (by kernel_rfl) (fun u u' => Below u.heap.size u u') (fun iX v u => match iX with
        | 0 => v = .agg #[.int .i64 (s : Int), .int .i64 (B : Int), .slice A nA cA, .slice Ad nd cd]
        | 1 => v = .bool true
        | 2 => v = .bool false
        | 3 => v = .bool false
        | 4 => v = .bool true
        | 5 => v = .bool false
        | 6 => v = .bool false
        | 7 => v = .bool false
        | 8 => v = .int .i64 (k : Int)
        | 9 => v = .bool false
        | 10 => v = .bool false
        | 11 => v = .bool false
        | 12 => v = .int .i64 (k : Int)
        | 13 => v = .pointer (some ⟨w.heap.size, 1, none⟩)
        | 14 => v = .int .i64 (B : Int)
        | 15 => v = .pointer (some ⟨w.heap.size, 3, none⟩)
        | 16 => v = .slice Ad nd cd
        | 17 => v = .int .i64 (nd : Int)
        | 18 => v = .pointer (some ⟨w.heap.size, 1, none⟩)
        | 19 => v = .int .i64 (B : Int)
        | 20 => v = .int .i64 (r : Int)
        | 21 => v = .int .i64 (tt : Int)
        | 22 => v = .pointer (some ⟨w.heap.size, 1, none⟩)
        | 23 => v = .int .i64 (B : Int)
        | 24 => v = .int .i64 (gp : Int)
        | 25 => v = .bool true
        | 26 => v = .bool true
        | _ => True) (fun u => Below w3.heap.size w3 u) ?d1 (fun _ _ h1 h2 => h1.trans (h2.mono h1.size)) ⟨rfl, rfl, rfl, Nat.le_refl _, fun _ _ => rfl⟩ ?d2 ?d3
    case d1 =>
      intro iX v u u' h hr hb
      rcases iX with _ | _ | _ | _ | _ | _ | _ | _ | _ | _ | _ | _ | _ | _ | _ | _ | _ | _ | _ | _ | _ | _ | _ | _ | _ | _ | _ | iX
      · exact h
      · exact h
      · exact h
      · exact h
      · exact h
      · exact h
      · exact h
      · exact h
      · exact h
      · exact h
      · exact h
      · exact h
      · exact h
      · exact h
      · exact h
      · exact h
      · exact h
      · exact h
      · exact h
      · exact h
      · exact h
      · exact h
      · exact h
      · exact h
      · exact h
      · exact h
      · exact h
      · trivial
    case d2 =>
      intro iX o ho aX u hr hk hpre K hK
      have e2 : aX.tmps.getD 2 undef = .pointer (some ⟨w.heap.size, 0, none⟩) := hk.slot 2 (by simp)
      have e6 : aX.tmps.getD 6 undef = .bool true := hk.slot 6 (by simp)
      have e1 : aX.tmps.getD 1 undef = .int .i64 (k : Int) := hk.slot 1 (by simp)
      have u0 : u.cell? ⟨w.heap.size, 0, none⟩ = some (.int .i64 (s : Int)) := (hr.cell (p := ⟨w.heap.size, 0, none⟩) LW.out).trans c30
      have u1 : u.cell? ⟨w.heap.size, 1, none⟩ = some (.int .i64 (B : Int)) := (hr.cell (p := ⟨w.heap.size, 1, none⟩) LW.out).trans c31
      have u2 : u.cell? ⟨w.heap.size, 2, none⟩ = some (.slice A nA cA) := (hr.cell (p := ⟨w.heap.size, 2, none⟩) LW.out).trans c32
      have u3 : u.cell? ⟨w.heap.size, 3, none⟩ = some (.slice Ad nd cd) := (hr.cell (p := ⟨w.heap.size, 3, none⟩) LW.out).trans c33
      have rf : Below u.heap.size u u := Below.refl _ _
      rcases iX with _ | _ | _ | _ | _ | _ | _ | _ | _ | _ | _ | _ | _ | _ | _ | _ | _ | _ | _ | _ | _ | _ | _ | _ | _ | _ | _ | iX
      · obtain rfl := Option.some.inj ho
        have y2 : aX.eval (.tmp 2) = .pointer (some ⟨w.heap.size, 0, none⟩) := e2
        refine st_run (want_none rfl) (.agg #[.int .i64 (s : Int), .int .i64 (B : Int), .slice A nA cA, .slice Ad nd cd]) (w' := u) ?_ (hK _ _ rfl rf)
        simp only [execOp, y2]
        go_simp
      · obtain rfl := Option.some.inj ho
        have x0 : aX.eval (.tmp 20) = .agg #[.int .i64 (s : Int), .int .i64 (B : Int), .slice A nA cA, .slice Ad nd cd] := (hpre 0 _ rfl ⟨⟨0, .data⟩, by simp, rfl, rfl⟩)
        exact st_callN 12 _ _ rfl (want_none rfl) #[.agg #[.int .i64 (s : Int), .int .i64 (B : Int), .slice A nA cA, .slice Ad nd cd]] (by simp [x0]) (by kernel_rfl) _ (HSMC.out u hr) (fun e u' he => ⟨_, he.1, hK _ _ rfl he.2⟩)
      · obtain rfl := Option.some.inj ho
        have y21 : aX.eval (.tmp 21) = .bool true := (hpre 1 _ rfl ⟨⟨1, .data⟩, by simp, rfl, rfl⟩)
        refine st_run (want_none rfl) (.bool false) (w' := u) ?_ (hK _ _ rfl rf)
        simp only [execOp, y21]
        go_simp
      · obtain rfl := Option.some.inj ho
        exact st_move (.tmp 22) rfl (want_none rfl) _ (hpre 2 _ rfl ⟨⟨2, .data⟩, by simp, rfl, rfl⟩) (hK _ _ rfl rf)
      · obtain rfl := Option.some.inj ho
        exact st_move (.tmp 6) rfl (want_some rfl rfl rfl (hpre 3 _ rfl ⟨⟨3, .guard⟩, by simp, rfl, rfl⟩)) _ e6 (hK _ _ rfl rf)
      · obtain rfl := Option.some.inj ho
        have y24 : aX.eval (.tmp 24) = .bool true := (hpre 4 _ rfl ⟨⟨4, .data⟩, by simp, rfl, rfl⟩)
        refine st_run (want_some rfl rfl rfl (hpre 3 _ rfl ⟨⟨3, .guard⟩, by simp, rfl, rfl⟩)) (.bool false) (w' := u) ?_ (hK _ _ rfl rf)
        simp only [execOp, y24]
        go_simp
      · obtain rfl := Option.some.inj ho
        exact st_pick (.tmp 23) (.const (.bool true)) (.tmp 25) rfl (want_none rfl) false (hpre 3 _ rfl ⟨⟨3, .data⟩, by simp, rfl, rfl⟩) _ ((if_neg (by decide)).trans (hpre 5 _ rfl ⟨⟨5, .data⟩, by simp, rfl, rfl⟩)) (hK _ _ rfl rf)
      · obtain rfl := Option.some.inj ho
        exact st_move (.tmp 26) rfl (want_none rfl) _ (hpre 6 _ rfl ⟨⟨6, .data⟩, by simp, rfl, rfl⟩) (hK _ _ rfl rf)
      · obtain rfl := Option.some.inj ho
        exact st_move (.tmp 1) rfl (want_some rfl rfl rfl (hpre 7 _ rfl ⟨⟨7, .guard⟩, by simp, rfl, rfl⟩)) _ e1 (hK _ _ rfl rf)
      · obtain rfl := Option.some.inj ho
        have y28 : aX.eval (.tmp 28) = .int .i64 (k : Int) := (hpre 8 _ rfl ⟨⟨8, .data⟩, by simp, rfl, rfl⟩)
        refine st_run (want_some rfl rfl rfl (hpre 7 _ rfl ⟨⟨7, .guard⟩, by simp, rfl, rfl⟩)) (.bool false) (w' := u) ?_ (hK _ _ rfl rf)
        simp only [execOp, y28]
        go_simp
      · obtain rfl := Option.some.inj ho
        exact st_pick (.tmp 27) (.const (.bool true)) (.tmp 29) rfl (want_none rfl) false (hpre 7 _ rfl ⟨⟨7, .data⟩, by simp, rfl, rfl⟩) _ ((if_neg (by decide)).trans (hpre 9 _ rfl ⟨⟨9, .data⟩, by simp, rfl, rfl⟩)) (hK _ _ rfl rf)
      · obtain rfl := Option.some.inj ho
        exact st_move (.tmp 30) rfl (want_none rfl) _ (hpre 10 _ rfl ⟨⟨10, .data⟩, by simp, rfl, rfl⟩) (hK _ _ rfl rf)
      · obtain rfl := Option.some.inj ho
        exact st_move (.tmp 1) rfl (want_some rfl rfl rfl (hpre 11 _ rfl ⟨⟨11, .guard⟩, by simp, rfl, rfl⟩)) _ e1 (hK _ _ rfl rf)
      · obtain rfl := Option.some.inj ho
        have y2 : aX.eval (.tmp 2) = .pointer (some ⟨w.heap.size, 0, none⟩) := e2
        refine st_run (want_some rfl rfl rfl (hpre 11 _ rfl ⟨⟨11, .guard⟩, by simp, rfl, rfl⟩)) (.pointer (some ⟨w.heap.size, 1, none⟩)) (w' := u) ?_ (hK _ _ rfl rf)
        simp only [execOp, y2]
        go_simp
      · obtain rfl := Option.some.inj ho
        have y33 : aX.eval (.tmp 33) = .pointer (some ⟨w.heap.size, 1, none⟩) := (hpre 13 _ rfl ⟨⟨13, .data⟩, by simp, rfl, rfl⟩)
        refine st_run (want_some rfl rfl rfl (hpre 11 _ rfl ⟨⟨11, .guard⟩, by simp, rfl, rfl⟩)) (.int .i64 (B : Int)) (w' := u) ?_ (hK _ _ rfl rf)
        simp only [execOp, y33]
        go_simp
      · obtain rfl := Option.some.inj ho
        have y2 : aX.eval (.tmp 2) = .pointer (some ⟨w.heap.size, 0, none⟩) := e2
        refine st_run (want_some rfl rfl rfl (hpre 11 _ rfl ⟨⟨11, .guard⟩, by simp, rfl, rfl⟩)) (.pointer (some ⟨w.heap.size, 3, none⟩)) (w' := u) ?_ (hK _ _ rfl rf)
        simp only [execOp, y2]
        go_simp
      · obtain rfl := Option.some.inj ho
        have y35 : aX.eval (.tmp 35) = .pointer (some ⟨w.heap.size, 3, none⟩) := (hpre 15 _ rfl ⟨⟨15, .data⟩, by simp, rfl, rfl⟩)
        refine st_run (want_some rfl rfl rfl (hpre 11 _ rfl ⟨⟨11, .guard⟩, by simp, rfl, rfl⟩)) (.slice Ad nd cd) (w' := u) ?_ (hK _ _ rfl rf)
        simp only [execOp, y35]
        go_simp
      · obtain rfl := Option.some.inj ho
        exact st_len (.tmp 36) rfl (want_some rfl rfl rfl (hpre 11 _ rfl ⟨⟨11, .guard⟩, by simp, rfl, rfl⟩)) _ _ _ (hpre 16 _ rfl ⟨⟨16, .data⟩, by simp, rfl, rfl⟩) (hK _ _ rfl rf)
      · obtain rfl := Option.some.inj ho
        have y2 : aX.eval (.tmp 2) = .pointer (some ⟨w.heap.size, 0, none⟩) := e2
        refine st_run (want_some rfl rfl rfl (hpre 11 _ rfl ⟨⟨11, .guard⟩, by simp, rfl, rfl⟩)) (.pointer (some ⟨w.heap.size, 1, none⟩)) (w' := u) ?_ (hK _ _ rfl rf)
        simp only [execOp, y2]
        go_simp
      · obtain rfl := Option.some.inj ho
        have y38 : aX.eval (.tmp 38) = .pointer (some ⟨w.heap.size, 1, none⟩) := (hpre 18 _ rfl ⟨⟨18, .data⟩, by simp, rfl, rfl⟩)
        refine st_run (want_some rfl rfl rfl (hpre 11 _ rfl ⟨⟨11, .guard⟩, by simp, rfl, rfl⟩)) (.int .i64 (B : Int)) (w' := u) ?_ (hK _ _ rfl rf)
        simp only [execOp, y38]
        go_simp
      · obtain rfl := Option.some.inj ho
        have y37 : aX.eval (.tmp 37) = .int .i64 (nd : Int) := (hpre 17 _ rfl ⟨⟨17, .data⟩, by simp, rfl, rfl⟩)
        have y39 : aX.eval (.tmp 39) = .int .i64 (B : Int) := (hpre 19 _ rfl ⟨⟨19, .data⟩, by simp, rfl, rfl⟩)
        refine st_run (want_some rfl rfl rfl (hpre 11 _ rfl ⟨⟨11, .guard⟩, by simp, rfl, rfl⟩)) (.int .i64 (r : Int)) (w' := u) ?_ (hK _ _ rfl rf)
        simp only [execOp, y37, y39]
        go_simp
      · obtain rfl := Option.some.inj ho
        have y34 : aX.eval (.tmp 34) = .int .i64 (B : Int) := (hpre 14 _ rfl ⟨⟨14, .data⟩, by simp, rfl, rfl⟩)
        have y40 : aX.eval (.tmp 40) = .int .i64 (r : Int) := (hpre 20 _ rfl ⟨⟨20, .data⟩, by simp, rfl, rfl⟩)
        refine st_run (want_some rfl rfl rfl (hpre 11 _ rfl ⟨⟨11, .guard⟩, by simp, rfl, rfl⟩)) (.int .i64 (tt : Int)) (w' := u) ?_ (hK _ _ rfl rf)
        simp only [execOp, y34, y40]
        go_simp
      · obtain rfl := Option.some.inj ho
        have y2 : aX.eval (.tmp 2) = .pointer (some ⟨w.heap.size, 0, none⟩) := e2
        refine st_run (want_some rfl rfl rfl (hpre 11 _ rfl ⟨⟨11, .guard⟩, by simp, rfl, rfl⟩)) (.pointer (some ⟨w.heap.size, 1, none⟩)) (w' := u) ?_ (hK _ _ rfl rf)
        simp only [execOp, y2]
        go_simp
      · obtain rfl := Option.some.inj ho
        have y42 : aX.eval (.tmp 42) = .pointer (some ⟨w.heap.size, 1, none⟩) := (hpre 22 _ rfl ⟨⟨22, .data⟩, by simp, rfl, rfl⟩)
        refine st_run (want_some rfl rfl rfl (hpre 11 _ rfl ⟨⟨11, .guard⟩, by simp, rfl, rfl⟩)) (.int .i64 (B : Int)) (w' := u) ?_ (hK _ _ rfl rf)
        simp only [execOp, y42]
        go_simp
      · obtain rfl := Option.some.inj ho
        have y41 : aX.eval (.tmp 41) = .int .i64 (tt : Int) := (hpre 21 _ rfl ⟨⟨21, .data⟩, by simp, rfl, rfl⟩)
        have y43 : aX.eval (.tmp 43) = .int .i64 (B : Int) := (hpre 23 _ rfl ⟨⟨23, .data⟩, by simp, rfl, rfl⟩)
        refine st_run (want_some rfl rfl rfl (hpre 11 _ rfl ⟨⟨11, .guard⟩, by simp, rfl, rfl⟩)) (.int .i64 (gp : Int)) (w' := u) ?_ (hK _ _ rfl rf)
        simp only [execOp, y41, y43]
        go_simp
      · obtain rfl := Option.some.inj ho
        have y32 : aX.eval (.tmp 32) = .int .i64 (k : Int) := (hpre 12 _ rfl ⟨⟨12, .data⟩, by simp, rfl, rfl⟩)
        have y44 : aX.eval (.tmp 44) = .int .i64 (gp : Int) := (hpre 24 _ rfl ⟨⟨24, .data⟩, by simp, rfl, rfl⟩)
        refine st_run (want_some rfl rfl rfl (hpre 11 _ rfl ⟨⟨11, .guard⟩, by simp, rfl, rfl⟩)) (.bool true) (w' := u) ?_ (hK _ _ rfl rf)
        simp only [execOp, y32, y44]
        go_simp
      · obtain rfl := Option.some.inj ho
        exact st_pick (.tmp 31) (.const (.bool true)) (.tmp 45) rfl (want_none rfl) false (hpre 11 _ rfl ⟨⟨11, .data⟩, by simp, rfl, rfl⟩) _ ((if_neg (by decide)).trans (hpre 25 _ rfl ⟨⟨25, .data⟩, by simp, rfl, rfl⟩)) (hK _ _ rfl rf)
      · cases ho
    case d3 =>
      intro aX u hr hk hv
      have q46 : aX.tmps.getD 46 undef = .bool true := hv 26 _ rfl
      have hfr := keeps_frameP (fun s => decide ((20 ≤ s ∧ s ≤ 46))) hk (by simp)
      refine hKx aX u ?_
      rw [hfr]
      generalize hff : (fun s => aX.tmps.getD s undef) = ff
      have hf46 : ff 46 = .bool true := by rw [← hff]; exact q46
      simp only [mixP, hf46, decide_eq_true_eq, Nat.reduceAdd, Nat.reduceLeDiff, Nat.reduceEqDiff, false_or, true_or, or_false, or_true, and_true, and_false, true_and, false_and, and_self, if_true, if_false, Nat.zero_le]
      clear hfr hff hf46 q46 hv hk
      go_wp2
      go_ret
      exact ⟨rfl, below_then BEL3.out hr⟩
  have zk : ¬ ((gp : Int) < (k : Int)) := by omega
  refine wp_region_eachW (by kernel_rfl) (by kernel_rfl) (fun u u' => Below u.heap.size u u') (fun iX v u => match iX with
      | 0 => v = .agg #[.int .i64 (s : Int), .int .i64 (B : Int), .slice A nA cA, .slice Ad nd cd]
      | 1 => v = .bool true
      | 2 => v = .bool false
      | 3 => v = .bool false
      | 4 => v = .bool true
      | 5 => v = .bool false
      | 6 => v = .bool false
      | 7 => v = .bool false
      | 8 => v = .int .i64 (k : Int)
      | 9 => v = .bool false
      | 10 => v = .bool false
      | 11 => v = .bool false
      | 12 => v = .int .i64 (k : Int)
      | 13 => v = .pointer (some ⟨w.heap.size, 1, none⟩)
      | 14 => v = .int .i64 (B : Int)
      | 15 => v = .pointer (some ⟨w.heap.size, 3, none⟩)
      | 16 => v = .slice Ad nd cd
      | 17 => v = .int .i64 (nd : Int)
      | 18 => v = .pointer (some ⟨w.heap.size, 1, none⟩)
      | 19 => v = .int .i64 (B : Int)
      | 20 => v = .int .i64 (r : Int)
      | 21 => v = .int .i64 (tt : Int)
      | 22 => v = .pointer (some ⟨w.heap.size, 1, none⟩)
      | 23 => v = .int .i64 (B : Int)
      | 24 => v = .int .i64 (gp : Int)
      | 25 => v = .bool false
      | 26 => v = .bool false
      | _ => True) (fun u => Below w3.heap.size w3 u) ?f1 (fun _ _ h1 h2 => h1.trans (h2.mono h1.size)) ⟨rfl, rfl, rfl, Nat.le_refl _, fun _ _ => rfl⟩ ?f2 ?f3
  case f1 =>
    intro iX v u u' h hr hb
    rcases iX with _ | _ | _ | _ | _ | _ | _ | _ | _ | _ | _ | _ | _ | _ | _ | _ | _ | _ | _ | _ | _ | _ | _ | _ | _ | _ | _ | iX
    · exact h
    · exact h
    · exact h
    · exact h
    · exact h
    · exact h
    · exact h
    · exact h
    · exact h
    · exact h
    · exact h
    · exact h
    · exact h
    · exact h
    · exact h
    · exact h
    · exact h
    · exact h
    · exact h
    · exact h
    · exact h
    · exact h
    · exact h
    · exact h
    · exact h
    · exact h
    · exact h
    · trivial
  case f2 =>
    intro iX o ho aX u hr hk hpre K hK
    have e2 : aX.tmps.getD 2 undef = .pointer (some ⟨w.heap.size, 0, none⟩) := hk.slot 2 (by simp)
    have e6 : aX.tmps.getD 6 undef = .bool true := hk.slot 6 (by simp)
    have e1 : aX.tmps.getD 1 undef = .int .i64 (k : Int) := hk.slot 1 (by simp)
    have u0 : u.cell? ⟨w.heap.size, 0, none⟩ = some (.int .i64 (s : Int)) := (hr.cell (p := ⟨w.heap.size, 0, none⟩) LW.out).trans c30
    have u1 : u.cell? ⟨w.heap.size, 1, none⟩ = some (.int .i64 (B : Int)) := (hr.cell (p := ⟨w.heap.size, 1, none⟩) LW.out).trans c31
    have u2 : u.cell? ⟨w.heap.size, 2, none⟩ = some (.slice A nA cA) := (hr.cell (p := ⟨w.heap.size, 2, none⟩) LW.out).trans c32
    have u3 : u.cell? ⟨w.heap.size, 3, none⟩ = some (.slice Ad nd cd) := (hr.cell (p := ⟨w.heap.size, 3, none⟩) LW.out).trans c33
    have rf : Below u.heap.size u u := Below.refl _ _
    rcases iX with _ | _ | _ | _ | _ | _ | _ | _ | _ | _ | _ | _ | _ | _ | _ | _ | _ | _ | _ | _ | _ | _ | _ | _ | _ | _ | _ | iX
    · obtain rfl := Option.some.inj ho
      have y2 : aX.eval (.tmp 2) = .pointer (some ⟨w.heap.size, 0, none⟩) := e2
      refine st_run (want_none rfl) (.agg #[.int .i64 (s : Int), .int .i64 (B : Int), .slice A nA cA, .slice Ad nd cd]) (w' := u) ?_ (hK _ _ rfl rf)
      simp only [execOp, y2]
      go_simp
    · obtain rfl := Option.some.inj ho
      have x0 : aX.eval (.tmp 20) = .agg #[.int .i64 (s : Int), .int .i64 (B : Int), .slice A nA cA, .slice Ad nd cd] := (hpre 0 _ rfl ⟨⟨0, .data⟩, by simp, rfl, rfl⟩)
      exact st_callN 12 _ _ rfl (want_none rfl) #[.agg #[.int .i64 (s : Int), .int .i64 (B : Int), .slice A nA cA, .slice Ad nd cd]] (by simp [x0]) (by kernel_rfl) _ (HSMC.out u hr) (fun e u' he => ⟨_, he.1, hK _ _ rfl he.2⟩)
    · obtain rfl := Option.some.inj ho
      have y21 : aX.eval (.tmp 21) = .bool true := (hpre 1 _ rfl ⟨⟨1, .data⟩, by simp, rfl, rfl⟩)
      refine st_run (want_none rfl) (.bool false) (w' := u) ?_ (hK _ _ rfl rf)
      simp only [execOp, y21]
      go_simp
    · obtain rfl := Option.some.inj ho
      exact st_move (.tmp 22) rfl (want_none rfl) _ (hpre 2 _ rfl ⟨⟨2, .data⟩, by simp, rfl, rfl⟩) (hK _ _ rfl rf)
    · obtain rfl := Option.some.inj ho
      exact st_move (.tmp 6) rfl (want_some rfl rfl rfl (hpre 3 _ rfl ⟨⟨3, .guard⟩, by simp, rfl, rfl⟩)) _ e6 (hK _ _ rfl rf)
    · obtain rfl := Option.some.inj ho
      have y24 : aX.eval (.tmp 24) = .bool true := (hpre 4 _ rfl ⟨⟨4, .data⟩, by simp, rfl, rfl⟩)
      refine st_run (want_some rfl rfl rfl (hpre 3 _ rfl ⟨⟨3, .guard⟩, by simp, rfl, rfl⟩)) (.bool false) (w' := u) ?_ (hK _ _ rfl rf)
      simp only [execOp, y24]
      go_simp
    · obtain rfl := Option.some.inj ho
      exact st_pick (.tmp 23) (.const (.bool true)) (.tmp 25) rfl (want_none rfl) false (hpre 3 _ rfl ⟨⟨3, .data⟩, by simp, rfl, rfl⟩) _ ((if_neg (by decide)).trans (hpre 5 _ rfl ⟨⟨5, .data⟩, by simp, rfl, rfl⟩)) (hK _ _ rfl rf)
    · obtain rfl := Option.some.inj ho
      exact st_move (.tmp 26) rfl (want_none rfl) _ (hpre 6 _ rfl ⟨⟨6, .data⟩, by simp, rfl, rfl⟩) (hK _ _ rfl rf)
    · obtain rfl := Option.some.inj ho
      exact st_move (.tmp 1) rfl (want_some rfl rfl rfl (hpre 7 _ rfl ⟨⟨7, .guard⟩, by simp, rfl, rfl⟩)) _ e1 (hK _ _ rfl rf)
    · obtain rfl := Option.some.inj ho
      have y28 : aX.eval (.tmp 28) = .int .i64 (k : Int) := (hpre 8 _ rfl ⟨⟨8, .data⟩, by simp, rfl, rfl⟩)
      refine st_run (want_some rfl rfl rfl (hpre 7 _ rfl ⟨⟨7, .guard⟩, by simp, rfl, rfl⟩)) (.bool false) (w' := u) ?_ (hK _ _ rfl rf)
      simp only [execOp, y28]
      go_simp
    · obtain rfl := Option.some.inj ho
      exact st_pick (.tmp 27) (.const (.bool true)) (.tmp 29) rfl (want_none rfl) false (hpre 7 _ rfl ⟨⟨7, .data⟩, by simp, rfl, rfl⟩) _ ((if_neg (by decide)).trans (hpre 9 _ rfl ⟨⟨9, .data⟩, by simp, rfl, rfl⟩)) (hK _ _ rfl rf)
    · obtain rfl := Option.some.inj ho
      exact st_move (.tmp 30) rfl (want_none rfl) _ (hpre 10 _ rfl ⟨⟨10, .data⟩, by simp, rfl, rfl⟩) (hK _ _ rfl rf)
    · obtain rfl := Option.some.inj ho
      exact st_move (.tmp 1) rfl (want_some rfl rfl rfl (hpre 11 _ rfl ⟨⟨11, .guard⟩, by simp, rfl, rfl⟩)) _ e1 (hK _ _ rfl rf)
    · obtain rfl := Option.some.inj ho
      have y2 : aX.eval (.tmp 2) = .pointer (some ⟨w.heap.size, 0, none⟩) := e2
      refine st_run (want_some rfl rfl rfl (hpre 11 _ rfl ⟨⟨11, .guard⟩, by simp, rfl, rfl⟩)) (.pointer (some ⟨w.heap.size, 1, none⟩)) (w' := u) ?_ (hK _ _ rfl rf)
      simp only [execOp, y2]
      go_simp
    · obtain rfl := Option.some.inj ho
      have y33 : aX.eval (.tmp 33) = .pointer (some ⟨w.heap.size, 1, none⟩) := (hpre 13 _ rfl ⟨⟨13, .data⟩, by simp, rfl, rfl⟩)
      refine st_run (want_some rfl rfl rfl (hpre 11 _ rfl ⟨⟨11, .guard⟩, by simp, rfl, rfl⟩)) (.int .i64 (B : Int)) (w' := u) ?_ (hK _ _ rfl rf)
      simp only [execOp, y33]
      go_simp
    · obtain rfl := Option.some.inj ho
      have y2 : aX.eval (.tmp 2) = .pointer (some ⟨w.heap.size, 0, none⟩) := e2
      refine st_run (want_some rfl rfl rfl (hpre 11 _ rfl ⟨⟨11, .guard⟩, by simp, rfl, rfl⟩)) (.pointer (some ⟨w.heap.size, 3, none⟩)) (w' := u) ?_ (hK _ _ rfl rf)
      simp only [execOp, y2]
      go_simp
    · obtain rfl := Option.some.inj ho
      have y35 : aX.eval (.tmp 35) = .pointer (some ⟨w.heap.size, 3, none⟩) := (hpre 15 _ rfl ⟨⟨15, .data⟩, by simp, rfl, rfl⟩)
      refine st_run (want_some rfl rfl rfl (hpre 11 _ rfl ⟨⟨11, .guard⟩, by simp, rfl, rfl⟩)) (.slice Ad nd cd) (w' := u) ?_ (hK _ _ rfl rf)
      simp only [execOp, y35]
      go_simp
    · obtain rfl := Option.some.inj ho
      exact st_len (.tmp 36) rfl (want_some rfl rfl rfl (hpre 11 _ rfl ⟨⟨11, .guard⟩, by simp, rfl, rfl⟩)) _ _ _ (hpre 16 _ rfl ⟨⟨16, .data⟩, by simp, rfl, rfl⟩) (hK _ _ rfl rf)
    · obtain rfl := Option.some.inj ho
      have y2 : aX.eval (.tmp 2) = .pointer (some ⟨w.heap.size, 0, none⟩) := e2
      refine st_run (want_some rfl rfl rfl (hpre 11 _ rfl ⟨⟨11, .guard⟩, by simp, rfl, rfl⟩)) (.pointer (some ⟨w.heap.size, 1, none⟩)) (w' := u) ?_ (hK _ _ rfl rf)
      simp only [execOp, y2]
      go_simp
    · obtain rfl := Option.some.inj ho
      have y38 : aX.eval (.tmp 38) = .pointer (some ⟨w.heap.size, 1, none⟩) := (hpre 18 _ rfl ⟨⟨18, .data⟩, by simp, rfl, rfl⟩)
      refine st_run (want_some rfl rfl rfl (hpre 11 _ rfl ⟨⟨11, .guard⟩, by simp, rfl, rfl⟩)) (.int .i64 (B : Int)) (w' := u) ?_ (hK _ _ rfl rf)
      simp only [execOp, y38]
      go_simp
    · obtain rfl := Option.some.inj ho
      have y37 : aX.eval (.tmp 37) = .int .i64 (nd : Int) := (hpre 17 _ rfl ⟨⟨17, .data⟩, by simp, rfl, rfl⟩)
      have y39 : aX.eval (.tmp 39) = .int .i64 (B : Int) := (hpre 19 _ rfl ⟨⟨19, .data⟩, by simp, rfl, rfl⟩)
      refine st_run (want_some rfl rfl rfl (hpre 11 _ rfl ⟨⟨11, .guard⟩, by simp, rfl, rfl⟩)) (.int .i64 (r : Int)) (w' := u) ?_ (hK _ _ rfl rf)
      simp only [execOp, y37, y39]
      go_simp
    · obtain rfl := Option.some.inj ho
      have y34 : aX.eval (.tmp 34) = .int .i64 (B : Int) := (hpre 14 _ rfl ⟨⟨14, .data⟩, by simp, rfl, rfl⟩)
      have y40 : aX.eval (.tmp 40) = .int .i64 (r : Int) := (hpre 20 _ rfl ⟨⟨20, .data⟩, by simp, rfl, rfl⟩)
      refine st_run (want_some rfl rfl rfl (hpre 11 _ rfl ⟨⟨11, .guard⟩, by simp, rfl, rfl⟩)) (.int .i64 (tt : Int)) (w' := u) ?_ (hK _ _ rfl rf)
      simp only [execOp, y34, y40]
      go_simp
    · obtain rfl := Option.some.inj ho
      have y2 : aX.eval (.tmp 2) = .pointer (some ⟨w.heap.size, 0, none⟩) := e2
      refine st_run (want_some rfl rfl rfl (hpre 11 _ rfl ⟨⟨11, .guard⟩, by simp, rfl, rfl⟩)) (.pointer (some ⟨w.heap.size, 1, none⟩)) (w' := u) ?_ (hK _ _ rfl rf)
      simp only [execOp, y2]
      go_simp
    · obtain rfl := Option.some.inj ho
      have y42 : aX.eval (.tmp 42) = .pointer (some ⟨w.heap.size, 1, none⟩) := (hpre 22 _ rfl ⟨⟨22, .data⟩, by simp, rfl, rfl⟩)
      refine st_run (want_some rfl rfl rfl (hpre 11 _ rfl ⟨⟨11, .guard⟩, by simp, rfl, rfl⟩)) (.int .i64 (B : Int)) (w' := u) ?_ (hK _ _ rfl rf)
      simp only [execOp, y42]
      go_simp
    · obtain rfl := Option.some.inj ho
      have y41 : aX.eval (.tmp 41) = .int .i64 (tt : Int) := (hpre 21 _ rfl ⟨⟨21, .data⟩, by simp, rfl, rfl⟩)
      have y43 : aX.eval (.tmp 43) = .int .i64 (B : Int) := (hpre 23 _ rfl ⟨⟨23, .data⟩, by simp, rfl, rfl⟩)
      refine st_run (want_some rfl rfl rfl (hpre 11 _ rfl ⟨⟨11, .guard⟩, by simp, rfl, rfl⟩)) (.int .i64 (gp : Int)) (w' := u) ?_ (hK _ _ rfl rf)
      simp only [execOp, y41, y43]
      go_simp
    · obtain rfl := Option.some.inj ho
      have y32 : aX.eval (.tmp 32) = .int .i64 (k : Int) := (hpre 12 _ rfl ⟨⟨12, .data⟩, by simp, rfl, rfl⟩)
      have y44 : aX.eval (.tmp 44) = .int .i64 (gp : Int) := (hpre 24 _ rfl ⟨⟨24, .data⟩, by simp, rfl, rfl⟩)
      refine st_run (want_some rfl rfl rfl (hpre 11 _ rfl ⟨⟨11, .guard⟩, by simp, rfl, rfl⟩)) (.bool false) (w' := u) ?_ (hK _ _ rfl rf)
      simp only [execOp, y32, y44]
      go_simp
    · obtain rfl := Option.some.inj ho
      exact st_pick (.tmp 31) (.const (.bool true)) (.tmp 45) rfl (want_none rfl) false (hpre 11 _ rfl ⟨⟨11, .data⟩, by simp, rfl, rfl⟩) _ ((if_neg (by decide)).trans (hpre 25 _ rfl ⟨⟨25, .data⟩, by simp, rfl, rfl⟩)) (hK _ _ rfl rf)
    · cases ho
  case f3 =>
    intro aX u hr hk hv
    have q46 : aX.tmps.getD 46 undef = .bool false := hv 26 _ rfl
    have hfr := keeps_frameP (fun s => decide ((20 ≤ s ∧ s ≤ 46))) hk (by simp)
    refine hKx aX u ?_
    rw [hfr]
    generalize hff : (fun s => aX.tmps.getD s undef) = ff
    have hf46 : ff 46 = .bool false := by rw [← hff]; exact q46
    simp only [mixP, hf46, decide_eq_true_eq, Nat.reduceAdd, Nat.reduceLeDiff, Nat.reduceEqDiff, false_or, true_or, or_false, or_true, and_true, and_false, true_and, false_and, and_self, if_true, if_false, Nat.zero_le]
    clear hfr hff hf46 q46 hv hk
    have BELu := Lib.hid (below_then BEL3.out hr)
    have BKu := Lib.hid (BK3.out.below hr BK3.out.lt)
    have cu0 : u.cell? ⟨w.heap.size, 0, none⟩ = some (.int .i64 (s : Int)) := BKu.out.cell 0
    have cu1 : u.cell? ⟨w.heap.size, 1, none⟩ = some (.int .i64 (B : Int)) := BKu.out.cell 1
    have cu2 : u.cell? ⟨w.heap.size, 2, none⟩ = some (.slice A nA cA) := BKu.out.cell 2
    have cu3 : u.cell? ⟨w.heap.size, 3, none⟩ = some (.slice Ad nd cd) := BKu.out.cell 3
    have HOV : Hid (∀ u : World, Below w.heap.size w u → Over u s nd B D a n A nA cA Ad cd salt data) := fun u hu => ⟨HSHP.out, HS12.out, HDIG.out, HS0.out.rd.below hu, HS0.out.fit, HS0.out.nil, by omega, HD0.out.rd.below hu, HD0.out.fit, HD0.out.le⟩
    obtain ⟨H, hH⟩ : ∃ H, hsh s salt = H := ⟨_, rfl⟩
    have HH := Lib.hid hH
    obtain ⟨T, hT⟩ : ∃ T, tree H B a n data m = T := ⟨_, rfl⟩
    obtain ⟨R, hR⟩ : ∃ R, H (blk H B a n data (m - 1) 0) = R := ⟨_, rfl⟩
    have HTT := Lib.hid hT
    have HRR := Lib.hid hR
    clear hT hR hr c30 c31 c32 c33 m1 m2 m3 m4 m5 m6 m7 m8
    go_wp2_with fail
    refine (Make_ok s nd B D a n A nA cA Ad cd salt data u m (HOV.out u BELu.out) (HS0.out.below BELu.out) (HD0.out.below BELu.out) h64 (by omega) (HTB.out.below BELu.out) HM.out).mono ?_
    rw [hH, HTT.out, HRR.out]
    rintro e w6 ⟨At, nt, ct, Ar, cr, rfl, hbt, hbr, hb6⟩
    have htl : T.length = nt := hbt.rd.1
    have BEL6 := Lib.hid (below_then BELu.out hb6)
    have BK6 := Lib.hid (BKu.out.below hb6 BKu.out.lt)
    have HBT := Lib.hid hbt
    have HBR := Lib.hid hbr
    have LW6 := Lib.hid BK6.out.lt
    have c60 : w6.cell? ⟨w.heap.size, 0, none⟩ = some (.int .i64 (s : Int)) := BK6.out.cell 0
    have c61 : w6.cell? ⟨w.heap.size, 1, none⟩ = some (.int .i64 (B : Int)) := BK6.out.cell 1
    have c62 : w6.cell? ⟨w.heap.size, 2, none⟩ = some (.slice A nA cA) := BK6.out.cell 2
    have c63 : w6.cell? ⟨w.heap.size, 3, none⟩ = some (.slice Ad nd cd) := BK6.out.cell 3
    obtain ⟨N, hN⟩ : ∃ N, nd + k = N := ⟨_, rfl⟩
    have hnd1 : 1 ≤ nd := by omega
    have hkk : k ≤ (B - nd % B) % B := by have := HGAP.out; omega
    have hone : lev a n (m - 1) = 1 := by rw [← HM.out]; exact HSHP.out.top1
    have HMK : Hid (∀ (u : World) (A5 : Option Addr) (c5 : Nat), Below w6.heap.size w6 u → Row u w6.heap.size 5 A5 N c5 (cn .u8 (data ++ List.replicate k 0)) → Calls Tryd.prog 13 #[.int .i64 (s : Int), .slice A nA cA, .int .i64 (B : Int), .slice A5 N c5] u fun e u' => ∃ v, e = .returned v ∧ VX nt T D R v u' ∧ Below u.heap.size u u') := fun u A5 c5 hu hrow => by
      obtain ⟨g5, rfl, _⟩ := hrow.cells (by omega)
      have hfit : Fit 256 (data ++ List.replicate k 0) := fun x hx => by
        rcases List.mem_append.1 hx with h | h
        · exact HD0.out.fit x h
        · rw [List.eq_of_mem_replicate h]; omega
      have hbs : Bs u (some ⟨g5, 0, none⟩) N c5 (data ++ List.replicate k 0) := ⟨hrow.rd, hfit, hrow.le.1, hrow.le.2, fun e => by cases e⟩
      have hsp : Shp N B D a n := by rw [← hN]; exact HSHP.out.pads hkk (by omega)
      have hBu := below_then BEL6.out hu
      have := Make_ok s N B D a n A nA cA (some ⟨g5, 0, none⟩) c5 salt (data ++ List.replicate k 0) u m ⟨hsp, HS12.out, HDIG.out, HS0.out.rd.below hBu, HS0.out.fit, HS0.out.nil, by omega, hbs.rd, hfit, hbs.le⟩ (HS0.out.below hBu) hbs h64 (by omega) (HTB.out.below hBu) HM.out
      rw [HH.out, tree_pads H HSHP.out HD0.out.rd.1 m, blk_pads H HSHP.out HD0.out.rd.1 (m - 1) 0 (by omega), HTT.out, HRR.out] at this
      refine this.mono ?_
      rintro e u' ⟨A1, n1, c1, A2, c2, rfl, h1, h2, h3⟩
      obtain rfl : n1 = nt := by have := h1.rd.1; omega
      exact ⟨_, rfl, ⟨A1, c1, A2, c2, rfl, h1, h2⟩, h3⟩
    clear hbt hbr hb6 cu0 cu1 cu2 cu3 hH
    go_wp2
    rename_i hKx
    refine Done.wp_region_eachD (by kernel_rfl) (by kernel_rfl) (fun d i0 u u' => (i0 = 9 ∧ Below w6.heap.size u u' ∧ d 11 = false ∧ ∀ j, 12 ≤ j → j < 20 → d j = false) ∨ (i0 = 11 ∧ Below w6.heap.size u u' ∧ d 9 = true ∧ ∀ j, 12 ≤ j → j < 20 → d j = false) ∨ Below u.heap.size u u') (fun d iX v u => match iX with
        | 0 => v = .pointer (some ⟨w.heap.size, 0, none⟩)
        | 1 => v = .int .i64 (s : Int)
        | 2 => v = .pointer (some ⟨w.heap.size, 2, none⟩)
        | 3 => v = .slice A nA cA
        | 4 => v = .pointer (some ⟨w.heap.size, 1, none⟩)
        | 5 => v = .int .i64 (B : Int)
        | 6 => d 9 = true ∨ VR w6.heap.size 0 [] v u
        | 7 => v = .pointer (some ⟨w.heap.size, 3, none⟩)
        | 8 => v = .slice Ad nd cd
        | 9 => d 11 = true ∨ VR w6.heap.size nd data v u
        | 10 => v = .int .i64 (k : Int)
        | 11 => VR w6.heap.size N (data ++ List.replicate k 0) v u
        | 12 => VX nt T D R v u
        | 13 => VX nt T D R v u
        | 14 => VB nt T v u
        | 15 => VB D R v u
        | 16 => v = .int .i64 0
        | 17 => VB nt T v u
        | 18 => VB D R v u
        | 19 => v = .int .i64 0
        | _ => True) (fun _ u => Below w6.heap.size w6 u) ?e1 (fun _ _ => ⟨rfl, rfl, rfl, Nat.le_refl _, fun _ _ => rfl⟩) ?e2 ?e3
    case e1 =>
      intro d i0 iX v u u' hdi hd0 h hr hb
      rcases hb with ⟨rfl, _, h11, hj⟩ | ⟨rfl, _, h9, hj⟩ | hb
      · rcases iX with _ | _ | _ | _ | _ | _ | _ | _ | _ | _ | _ | _ | _ | _ | _ | _ | _ | _ | _ | _ | iX
        · exact h
        · exact h
        · exact h
        · exact h
        · exact h
        · exact h
        · exact .inl (upd_new d 9)
        · exact h
        · exact h
        · rw [hdi] at hd0; cases hd0
        · exact h
        · rw [hdi] at h11; cases h11
        · have := hj 12 (by omega) (by omega); rw [hdi] at this; cases this
        · have := hj 13 (by omega) (by omega); rw [hdi] at this; cases this
        · have := hj 14 (by omega) (by omega); rw [hdi] at this; cases this
        · have := hj 15 (by omega) (by omega); rw [hdi] at this; cases this
        · exact h
        · have := hj 17 (by omega) (by omega); rw [hdi] at this; cases this
        · have := hj 18 (by omega) (by omega); rw [hdi] at this; cases this
        · exact h
        · trivial
      · rcases iX with _ | _ | _ | _ | _ | _ | _ | _ | _ | _ | _ | _ | _ | _ | _ | _ | _ | _ | _ | _ | iX
        · exact h
        · exact h
        · exact h
        · exact h
        · exact h
        · exact h
        · exact .inl (upd_old h9)
        · exact h
        · exact h
        · exact .inl (upd_new d 11)
        · exact h
        · rw [hdi] at hd0; cases hd0
        · have := hj 12 (by omega) (by omega); rw [hdi] at this; cases this
        · have := hj 13 (by omega) (by omega); rw [hdi] at this; cases this
        · have := hj 14 (by omega) (by omega); rw [hdi] at this; cases this
        · have := hj 15 (by omega) (by omega); rw [hdi] at this; cases this
        · exact h
        · have := hj 17 (by omega) (by omega); rw [hdi] at this; cases this
        · have := hj 18 (by omega) (by omega); rw [hdi] at this; cases this
        · exact h
        · trivial
      · rcases iX with _ | _ | _ | _ | _ | _ | _ | _ | _ | _ | _ | _ | _ | _ | _ | _ | _ | _ | _ | _ | iX
        · exact h
        · exact h
        · exact h
        · exact h
        · exact h
        · exact h
        · exact h.elim (fun h => .inl (upd_old h)) (fun h => .inr (h.below hb))
        · exact h
        · exact h
        · exact h.elim (fun h => .inl (upd_old h)) (fun h => .inr (h.below hb))
        · exact h
        · exact h.below hb
        · exact h.below hb
        · exact h.below hb
        · exact h.below hb
        · exact h.below hb
        · exact h
        · exact h.below hb
        · exact h.below hb
        · exact h
        · trivial
    case e2 =>
      intro iX o ho d aX u hr hdi hsh hall hk hpre K hK
      have e2 : aX.tmps.getD 2 undef = .pointer (some ⟨w.heap.size, 0, none⟩) := hk.slot 2 (by simp)
      have e1 : aX.tmps.getD 1 undef = .int .i64 (k : Int) := hk.slot 1 (by simp)
      have u0 : u.cell? ⟨w.heap.size, 0, none⟩ = some (.int .i64 (s : Int)) := (hr.cell (p := ⟨w.heap.size, 0, none⟩) LW6.out).trans c60
      have u1 : u.cell? ⟨w.heap.size, 1, none⟩ = some (.int .i64 (B : Int)) := (hr.cell (p := ⟨w.heap.size, 1, none⟩) LW6.out).trans c61
      have u2 : u.cell? ⟨w.heap.size, 2, none⟩ = some (.slice A nA cA) := (hr.cell (p := ⟨w.heap.size, 2, none⟩) LW6.out).trans c62
      have u3 : u.cell? ⟨w.heap.size, 3, none⟩ = some (.slice Ad nd cd) := (hr.cell (p := ⟨w.heap.size, 3, none⟩) LW6.out).trans c63
      have s11 : d 11 = true → d 9 = true := fun h => hsh 11 _ rfl h ⟨9, .data⟩ (by simp) rfl
      have s12 : d 12 = true → d 11 = true := fun h => hsh 12 _ rfl h ⟨11, .data⟩ (by simp) rfl
      have s13 : d 13 = true → d 12 = true := fun h => hsh 13 _ rfl h ⟨12, .data⟩ (by simp) rfl
      have s14 : d 14 = true → d 13 = true := fun h => hsh 14 _ rfl h ⟨13, .data⟩ (by simp) rfl
      have s15 : d 15 = true → d 13 = true := fun h => hsh 15 _ rfl h ⟨13, .data⟩ (by simp) rfl
      have s16 : d 16 = true → d 13 = true := fun h => hsh 16 _ rfl h ⟨13, .data⟩ (by simp) rfl
      have s17 : d 17 = true → d 14 = true := fun h => hsh 17 _ rfl h ⟨14, .data⟩ (by simp) rfl
      have s18 : d 18 = true → d 15 = true := fun h => hsh 18 _ rfl h ⟨15, .data⟩ (by simp) rfl
      have s19 : d 19 = true → d 16 = true := fun h => hsh 19 _ rfl h ⟨16, .data⟩ (by simp) rfl
      have nJ : d 11 = false → ∀ j, 12 ≤ j → j < 20 → d j = false := fun h11 j h1 h2 => by
        cases ej : d j with
        | false => rfl
        | true =>
          exfalso
          have : d 11 = true := by
            obtain rfl | rfl | rfl | rfl | rfl | rfl | rfl | rfl : j = 12 ∨ j = 13 ∨ j = 14 ∨ j = 15 ∨ j = 16 ∨ j = 17 ∨ j = 18 ∨ j = 19 := by omega
            · exact s12 ej
            · exact s12 (s13 ej)
            · exact s12 (s13 (s14 ej))
            · exact s12 (s13 (s15 ej))
            · exact s12 (s13 (s16 ej))
            · exact s12 (s13 (s14 (s17 ej)))
            · exact s12 (s13 (s15 (s18 ej)))
            · exact s12 (s13 (s16 (s19 ej)))
          rw [this] at h11
          cases h11
      have rf : Below u.heap.size u u := Below.refl _ _
      rcases iX with _ | _ | _ | _ | _ | _ | _ | _ | _ | _ | _ | _ | _ | _ | _ | _ | _ | _ | _ | _ | iX
      · obtain rfl := Option.some.inj ho
        have y2 : aX.eval (.tmp 2) = .pointer (some ⟨w.heap.size, 0, none⟩) := e2
        refine st_run (want_none rfl) (.pointer (some ⟨w.heap.size, 0, none⟩)) (w' := u) ?_ (hK _ _ rfl (.inr (.inr rf)) hr)
        simp only [execOp, y2]
        go_simp
      · obtain rfl := Option.some.inj ho
        have y61 : aX.eval (.tmp 61) = .pointer (some ⟨w.heap.size, 0, none⟩) := (hpre 0 _ rfl ⟨⟨0, .data⟩, by simp, rfl, rfl⟩)
        refine st_run (want_none rfl) (.int .i64 (s : Int)) (w' := u) ?_ (hK _ _ rfl (.inr (.inr rf)) hr)
        simp only [execOp, y61]
        go_simp
      · obtain rfl := Option.some.inj ho
        have y2 : aX.eval (.tmp 2) = .pointer (some ⟨w.heap.size, 0, none⟩) := e2
        refine st_run (want_none rfl) (.pointer (some ⟨w.heap.size, 2, none⟩)) (w' := u) ?_ (hK _ _ rfl (.inr (.inr rf)) hr)
        simp only [execOp, y2]
        go_simp
      · obtain rfl := Option.some.inj ho
        have y63 : aX.eval (.tmp 63) = .pointer (some ⟨w.heap.size, 2, none⟩) := (hpre 2 _ rfl ⟨⟨2, .data⟩, by simp, rfl, rfl⟩)
        refine st_run (want_none rfl) (.slice A nA cA) (w' := u) ?_ (hK _ _ rfl (.inr (.inr rf)) hr)
        simp only [execOp, y63]
        go_simp
      · obtain rfl := Option.some.inj ho
        have y2 : aX.eval (.tmp 2) = .pointer (some ⟨w.heap.size, 0, none⟩) := e2
        refine st_run (want_none rfl) (.pointer (some ⟨w.heap.size, 1, none⟩)) (w' := u) ?_ (hK _ _ rfl (.inr (.inr rf)) hr)
        simp only [execOp, y2]
        go_simp
      · obtain rfl := Option.some.inj ho
        have y65 : aX.eval (.tmp 65) = .pointer (some ⟨w.heap.size, 1, none⟩) := (hpre 4 _ rfl ⟨⟨4, .data⟩, by simp, rfl, rfl⟩)
        refine st_run (want_none rfl) (.int .i64 (B : Int)) (w' := u) ?_ (hK _ _ rfl (.inr (.inr rf)) hr)
        simp only [execOp, y65]
        go_simp
      · obtain rfl := Option.some.inj ho
        refine st_run (want_none rfl) (.slice (some ⟨u.heap.size, 0, none⟩) 0 0) (w' := u.alloc (.cells #[] 5)) ?_ (hK _ _ (.inr ⟨_, _, rfl, (own_empty u 5).mono hr.size⟩) (.inr (.inr ((Below.refl _ _).alloc (Nat.le_refl _) _))) (hr.alloc hr.size _))
        simp only [execOp]
        go_simp
      · obtain rfl := Option.some.inj ho
        have y2 : aX.eval (.tmp 2) = .pointer (some ⟨w.heap.size, 0, none⟩) := e2
        refine st_run (want_none rfl) (.pointer (some ⟨w.heap.size, 3, none⟩)) (w' := u) ?_ (hK _ _ rfl (.inr (.inr rf)) hr)
        simp only [execOp, y2]
        go_simp
      · obtain rfl := Option.some.inj ho
        have y68 : aX.eval (.tmp 68) = .pointer (some ⟨w.heap.size, 3, none⟩) := (hpre 7 _ rfl ⟨⟨7, .data⟩, by simp, rfl, rfl⟩)
        refine st_run (want_none rfl) (.slice Ad nd cd) (w' := u) ?_ (hK _ _ rfl (.inr (.inr rf)) hr)
        simp only [execOp, y68]
        go_simp
      · obtain rfl := Option.some.inj ho
        rcases (hpre 6 _ rfl ⟨⟨6, .data⟩, by simp, rfl, rfl⟩) with h67 | ⟨A4, c4, e67, h67⟩
        · rw [h67] at hdi; cases hdi
        have n11 : d 11 = false := by cases e11 : d 11 with | false => rfl | true => exact absurd (s11 e11) (by rw [hdi]; decide)
        obtain ⟨A5, c5, w5, hrun, hrow5, hb5⟩ := app_rd u w6.heap.size 0 c4 nd nd A4 [] data Ad cd h67 (HD0.out.rd.below (below_then BEL6.out hr)) hnd1 (by omega) (by omega) hr.size
        have y69 : aX.eval (.tmp 69) = .slice Ad nd cd := (hpre 8 _ rfl ⟨⟨8, .data⟩, by simp, rfl, rfl⟩)
        have y67 : aX.eval (.tmp 67) = .slice A4 0 c4 := e67
        refine st_run (want_none rfl) (.slice A5 nd c5) (w' := w5) ?_ (hK _ _ (.inr ⟨_, _, rfl, hrow5⟩) (.inl ⟨rfl, hb5, n11, nJ n11⟩) (hr.trans hb5))
        simp [execOp, resolve, invoke, builtin, y67, y69, hrun, Result.andThen]
      · obtain rfl := Option.some.inj ho
        exact st_move (.tmp 1) rfl (want_none rfl) _ e1 (hK _ _ rfl (.inr (.inr rf)) hr)
      · obtain rfl := Option.some.inj ho
        rcases (hpre 9 _ rfl ⟨⟨9, .data⟩, by simp, rfl, rfl⟩) with h70 | ⟨A4, c4, e70, h70⟩
        · rw [h70] at hdi; cases hdi
        have d9 : d 9 = true := hall ⟨9, .data⟩ (by simp) rfl
        obtain ⟨A5, c5, w5, hrun, hrow5, hb5⟩ := app_make u w6.heap.size nd c4 k N A4 data h70 hN (by omega) hr.size
        have y71 : aX.eval (.tmp 71) = .int .i64 (k : Int) := (hpre 10 _ rfl ⟨⟨10, .data⟩, by simp, rfl, rfl⟩)
        have y70 : aX.eval (.tmp 70) = .slice A4 nd c4 := e70
        refine st_run (want_none rfl) (.slice A5 N c5) (w' := w5) ?_ (hK _ _ ⟨_, _, rfl, hrow5⟩ (.inr (.inl ⟨rfl, hb5, d9, nJ hdi⟩)) (hr.trans hb5))
        simp [execOp, resolve, invoke, builtin, y70, y71, hrun, Result.andThen]
      · obtain rfl := Option.some.inj ho
        obtain ⟨A5, c5, e72, h72⟩ := (hpre 11 _ rfl ⟨⟨11, .data⟩, by simp, rfl, rfl⟩)
        have x0 : aX.eval (.tmp 62) = .int .i64 (s : Int) := (hpre 1 _ rfl ⟨⟨1, .data⟩, by simp, rfl, rfl⟩)
        have x1 : aX.eval (.tmp 64) = .slice A nA cA := (hpre 3 _ rfl ⟨⟨3, .data⟩, by simp, rfl, rfl⟩)
        have x2 : aX.eval (.tmp 66) = .int .i64 (B : Int) := (hpre 5 _ rfl ⟨⟨5, .data⟩, by simp, rfl, rfl⟩)
        have x3 : aX.eval (.tmp 72) = .slice A5 N c5 := e72
        exact st_callN 13 _ _ rfl (want_none rfl) #[.int .i64 (s : Int), .slice A nA cA, .int .i64 (B : Int), .slice A5 N c5] (by simp [x0, x1, x2, x3]) (by kernel_rfl) _ (HMK.out u A5 c5 hr h72) (fun e u' ⟨v, he, hx, hb⟩ => ⟨v, he, hK _ _ hx (.inr (.inr hb)) (below_then hr hb)⟩)
      · obtain rfl := Option.some.inj ho
        exact st_move (.tmp 73) rfl (want_none rfl) _ rfl (hK _ _ (hpre 12 _ rfl ⟨⟨12, .data⟩, by simp, rfl, rfl⟩) (.inr (.inr rf)) hr)
      · obtain rfl := Option.some.inj ho
        obtain ⟨A1, c1, A2, c2, e60, h1, h2⟩ := (hpre 13 _ rfl ⟨⟨13, .data⟩, by simp, rfl, rfl⟩)
        have y60 : aX.eval (.tmp 60) = .tuple #[.slice A1 nt c1, .slice A2 D c2, .int .i64 0] := e60
        refine st_run (want_none rfl) (.slice A1 nt c1) (w' := u) ?_ (hK _ _ ⟨A1, c1, rfl, h1⟩ (.inr (.inr rf)) hr)
        simp only [execOp, y60]
        go_simp
      · obtain rfl := Option.some.inj ho
        obtain ⟨A1, c1, A2, c2, e60, h1, h2⟩ := (hpre 13 _ rfl ⟨⟨13, .data⟩, by simp, rfl, rfl⟩)
        have y60 : aX.eval (.tmp 60) = .tuple #[.slice A1 nt c1, .slice A2 D c2, .int .i64 0] := e60
        refine st_run (want_none rfl) (.slice A2 D c2) (w' := u) ?_ (hK _ _ ⟨A2, c2, rfl, h2⟩ (.inr (.inr rf)) hr)
        simp only [execOp, y60]
        go_simp
      · obtain rfl := Option.some.inj ho
        obtain ⟨A1, c1, A2, c2, e60, h1, h2⟩ := (hpre 13 _ rfl ⟨⟨13, .data⟩, by simp, rfl, rfl⟩)
        have y60 : aX.eval (.tmp 60) = .tuple #[.slice A1 nt c1, .slice A2 D c2, .int .i64 0] := e60
        refine st_run (want_none rfl) (.int .i64 0) (w' := u) ?_ (hK _ _ rfl (.inr (.inr rf)) hr)
        simp only [execOp, y60]
        go_simp
      · obtain rfl := Option.some.inj ho
        exact st_assign (.tmp 74) rfl (want_none rfl) _ rfl (hK _ _ (hpre 14 _ rfl ⟨⟨14, .data⟩, by simp, rfl, rfl⟩) (.inr (.inr rf)) hr)
      · obtain rfl := Option.some.inj ho
        exact st_assign (.tmp 75) rfl (want_none rfl) _ rfl (hK _ _ (hpre 15 _ rfl ⟨⟨15, .data⟩, by simp, rfl, rfl⟩) (.inr (.inr rf)) hr)
      · obtain rfl := Option.some.inj ho
        exact st_assign (.tmp 76) rfl (want_none rfl) _ (hpre 16 _ rfl ⟨⟨16, .data⟩, by simp, rfl, rfl⟩) (hK _ _ rfl (.inr (.inr rf)) hr)
      · cases ho
    case e3 =>
      intro d aX u hdn hr hk hv
      have h17 := hv 17 _ rfl
      have h18 := hv 18 _ rfl
      obtain ⟨A1, c1, q10, hb1⟩ := h17
      obtain ⟨A2, c2, q11, hb2⟩ := h18
      have q12 : aX.tmps.getD 12 undef = .int .i64 0 := hv 19 _ rfl
      have hfr := keeps_frameP (fun s => decide ((10 ≤ s ∧ s ≤ 12) ∨ (60 ≤ s ∧ s ≤ 76))) hk (by simp)
      refine hKx aX u ?_
      rw [hfr]
      generalize hff : (fun s => aX.tmps.getD s undef) = ff
      have hf10 : ff 10 = .slice A1 nt c1 := by rw [← hff]; exact q10
      have hf11 : ff 11 = .slice A2 D c2 := by rw [← hff]; exact q11
      have hf12 : ff 12 = .int .i64 0 := by rw [← hff]; exact q12
      simp only [mixP, hf10, hf11, hf12, decide_eq_true_eq, Nat.reduceAdd, Nat.reduceLeDiff, Nat.reduceEqDiff, false_or, true_or, or_false, or_true, and_true, and_false, true_and, false_and, and_self, if_true, if_false, Nat.zero_le]
      clear hfr hff hf10 hf11 hf12 q10 q11 q12 hv hk
      have BEL7 := Lib.hid (below_then BEL6.out hr)
      have q1 : (convert 22 9 (.slice At nt ct)).run Tryd.prog u = .ok (.string (str T)) u := rd_str (HBT.out.rd.below hr) ct
      have q2 : (convert 22 9 (.slice Ar D cr)).run Tryd.prog u = .ok (.string (str R)) u := rd_str (HBR.out.rd.below hr) cr
      have q3 : (convert 22 9 (.slice A1 nt c1)).run Tryd.prog u = .ok (.string (str T)) u := rd_str hb1.rd c1
      have q4 : (convert 22 9 (.slice A2 D c2)).run Tryd.prog u = .ok (.string (str R)) u := rd_str hb2.rd c2
      clear hr hb1 hb2
      go_wp2
      go_ret
      exact ⟨rfl, BEL7.out⟩
end Go.Proofs.YtijblgbpfffagaaDoor
