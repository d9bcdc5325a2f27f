/-
  Of a seed: its shape, where it is not right.
-/
import Derived.Test.YtfoenafjaaidmaaDoorGf1
import Derived.Test.YtfoenafjaaidmaaDoorGf2
import Derived.Test.YtfoenafjaaidmaaDoorEw
namespace Go.Proofs.YtfoenafjaaidmaaDoor
open Go.RowKit
set_option linter.unusedVariables false
set_option linter.unusedSimpArgs false
set_option maxRecDepth 100000

theorem load_shape {w : World} {G : Nat} {x y z : Value} (h0 : w.cell? ⟨G, 0, none⟩ = some x) (h1 : w.cell? ⟨G, 1, none⟩ = some y) (h2 : w.cell? ⟨G, 2, none⟩ = some z) (ρ : Operand → Value) (p : Operand) (hp : ρ p = .pointer (some ⟨G, 0, none⟩)) (d : Option Nat) (ty : TypeId) (pos : String) (aft : Array Edge) (gd : Option (Nat × Bool)) :
    (execOp ρ ⟨d, .load 32 p, ty, pos, aft, gd⟩).run Tryd.prog w = .ok (.value (.agg #[x, y, z])) w := by
  simp only [execOp, hp]
  go_simp
theorem store_shape {w : World} {R : Nat} {u0 u1 u2 x y z : Int} (hb : Blk w R 32 [.int .i64 u0, .int .i64 u1, .int .i64 u2]) (ρ : Operand → Value) (p q : Operand) (hp : ρ p = .pointer (some ⟨R, 0, none⟩)) (hq : ρ q = .agg #[.int .i64 x, .int .i64 y, .int .i64 z]) (d : Option Nat) (ty : TypeId) (pos : String) (aft : Array Edge) (gd : Option (Nat × Bool)) :
    (execOp ρ ⟨d, .store 32 p q, ty, pos, aft, gd⟩).run Tryd.prog w = .ok .skip (((w.setCell ⟨R, 0, none⟩ (.int .i64 x)).setCell ⟨R, 1, none⟩ (.int .i64 y)).setCell ⟨R, 2, none⟩ (.int .i64 z)) := by
  have q0 : w.cell? ⟨R, 0, none⟩ = some (.int .i64 u0) := hb.cell 0
  have q1 : w.cell? ⟨R, 1, none⟩ = some (.int .i64 u1) := hb.cell 1
  have q2 : w.cell? ⟨R, 2, none⟩ = some (.int .i64 u2) := hb.cell 2
  have f0 := hb.frozen 0
  have f1 := hb.frozen 1
  have f2 := hb.frozen 2
  simp only [execOp, hp, hq]
  go_simp
section
variable {P : Program} {o : Oper} {a : Act} {w w' : World} {K : Act → World → Prop} {Q : Exit → Act → World → Prop} {E : Prop} {b : Bool}
theorem st_run (hw : b = true) (v : Value) (hr : (execOp a.eval o).run P w = .ok (.value v) w') (h : K (a.put o.dst v) w') : if b = true then o.wp P a w K Q else E := by
  rw [if_pos hw]
  unfold Oper.wp
  rw [hr]
  exact h
theorem st_skip (hw : b = true) (hr : (execOp a.eval o).run P w = .ok .skip w') (h : K (a.put o.dst undef) w') : if b = true then o.wp P a w K Q else E := by
  rw [if_pos hw]
  unfold Oper.wp
  rw [hr]
  exact h
theorem st_fall (hw : b = false) (h : E) : if b = true then o.wp P a w K Q else E := by
  rw [if_neg (by rw [hw]; exact Bool.false_ne_true)]
  exact h
end
theorem want_fall {l : List Oper} {o oj : Oper} {a : Act} {j d : Nat} {b c : Bool} (h : o.guard = some (j, b)) (hj : l[j]? = some oj) (hd : oj.dst = some d) (hv : a.tmps.getD d undef = .bool c) (hne : c ≠ b) : Region.wanted o (yielded l.toArray a.tmps) = false := by
  have ht : a.tmps[d]? = some (.bool c) := by
    rw [Array.getD_eq_getD_getElem?] at hv
    cases hq : a.tmps[d]? with
    | none => rw [hq] at hv; cases hv
    | some x => rw [hq] at hv; simp at hv; rw [hv]
  simp [Region.wanted, h, yielded, hj, hd, ht, hne]
theorem cfRight (v : Value) (w : World) : (callFunc 23 #[v]).run Tryd.prog w = .ok (.enter 23 #[v]) w := by
  simp [callFunc, go_sem, Tryd.func23, Result.andThen]
  rfl
/-- Three numbers in a block. -/
def Any3 (w : World) (R : Nat) : Prop := ∃ u0 u1 u2 : Int, Blk w R 32 [.int .i64 u0, .int .i64 u1, .int .i64 u2]
/-- Nothing but the block R was written, and what it has got it keeps. -/
structure SmR (R : Nat) (T0 : List Value) (w w' : World) : Prop where
  grown : w.grownBy w' (some R)
  kept : Blk w R 32 T0 → Blk w' R 32 T0
  any : Any3 w R → Any3 w' R
theorem SmR.refl (R : Nat) (T0 : List Value) (w : World) : SmR R T0 w w := ⟨⟨rfl, rfl, rfl, Nat.le_refl _, fun _ _ _ => rfl⟩, id, id⟩
theorem SmR.of_below {R : Nat} {T0 : List Value} {w w' : World} (h : Below w.heap.size w w') : SmR R T0 w w' :=
  ⟨only_of_below h _, fun k => k.below h k.lt, fun ⟨u0, u1, u2, k⟩ => ⟨u0, u1, u2, k.below h k.lt⟩⟩
set_option maxHeartbeats 4000000 in
theorem shape9_no (z b : Int) (A : Option Addr) (nA cA : Nat) (Ad : Option Addr) (nd cd : Nat) (D : Nat) (hD : sizeOfAlg z = D) (w : World) (hRg : ¬ Rgt nd b D) : Calls Tryd.prog 15 #[.agg #[.int .i64 z, .int .i64 b, .slice A nA cA, .slice Ad nd cd]] w fun e w' => e = .returned (.tuple #[.agg #[.int .i64 (nd : Int), .int .i64 b, .int .i64 (D : Int)], .bool false]) ∧ Below w.heap.size w w' := by
  have HSZ : Hid (∀ w : World, Calls Tryd.prog 16 #[.int .i64 z] w fun e w' => e = .returned (.int .i64 (D : Int)) ∧ w = w') := fun w => by have := RefSize_any z w; rwa [hD] at this
  have HRT : Hid (∀ w : World, Calls Tryd.prog 23 #[.agg #[.int .i64 (nd : Int), .int .i64 b, .int .i64 (D : Int)]] w fun e w' => e = .returned (.bool false) ∧ Below w.heap.size w w') := fun w => by have := RefRight_any (nd : Int) b (D : Int) w; rwa [decide_eq_false hRg] at this
  clear hD
  go_enter Tryd.func15, Tryd.ntmps15
  go_wp2
  go_region_held3 (fun w' => w'.cell? ⟨w.heap.size, 3, none⟩ = some (.slice Ad nd cd) ∧ w'.cell? ⟨w.heap.size, 1, none⟩ = some (.int .i64 b) ∧ w'.cell? ⟨w.heap.size, 0, none⟩ = some (.int .i64 z)) (first | (refine ⟨?_, ?_, ?_⟩ <;> go_keep) | assumption) (first | (go_at_call 16; refine (HSZ.out _).mono ?_; rintro e w2 ⟨rfl, rfl⟩))
  all_goals
    have HB1 : Hid (Below w.heap.size w (((w.alloc (.cells #[.int .i64 z, .int .i64 b, .slice A nA cA, .slice Ad nd cd] 24)).alloc (.cells #[.int .i64 0, .int .i64 0, .int .i64 0] 32)).alloc (.cells #[.int .i64 (nd : Int), .int .i64 b, .int .i64 (D : Int)] 32)).drew) := below_drew1 ((((Below.refl _ _).alloc (Nat.le_refl _) _).alloc (by simp) _).alloc (by simp; omega) _)
    have HK0 : Hid (Blk (((w.alloc (.cells #[.int .i64 z, .int .i64 b, .slice A nA cA, .slice Ad nd cd] 24)).alloc (.cells #[.int .i64 0, .int .i64 0, .int .i64 0] 32)).alloc (.cells #[.int .i64 (nd : Int), .int .i64 b, .int .i64 (D : Int)] 32)).drew w.heap.size 24 [.int .i64 z, .int .i64 b, .slice A nA cA, .slice Ad nd cd]) := ((Blk.new w 24 [.int .i64 z, .int .i64 b, .slice A nA cA, .slice Ad nd cd]).alloc _).alloc _
    have HK1 : Hid (Blk (((w.alloc (.cells #[.int .i64 z, .int .i64 b, .slice A nA cA, .slice Ad nd cd] 24)).alloc (.cells #[.int .i64 0, .int .i64 0, .int .i64 0] 32)).alloc (.cells #[.int .i64 (nd : Int), .int .i64 b, .int .i64 (D : Int)] 32)).drew (w.heap.size + 1) 32 [.int .i64 0, .int .i64 0, .int .i64 0]) := Blk.alloc (heap_alloc2_new w _ _) _
    have HK2 : Hid (Blk (((w.alloc (.cells #[.int .i64 z, .int .i64 b, .slice A nA cA, .slice Ad nd cd] 24)).alloc (.cells #[.int .i64 0, .int .i64 0, .int .i64 0] 32)).alloc (.cells #[.int .i64 (nd : Int), .int .i64 b, .int .i64 (D : Int)] 32)).drew (w.heap.size + 1 + 1) 32 [.int .i64 (nd : Int), .int .i64 b, .int .i64 (D : Int)]) := by
      have := Blk.new ((w.alloc (.cells #[.int .i64 z, .int .i64 b, .slice A nA cA, .slice Ad nd cd] 24)).alloc (.cells #[.int .i64 0, .int .i64 0, .int .i64 0] 32)) 32 [.int .i64 (nd : Int), .int .i64 b, .int .i64 (D : Int)]
      rw [World.size_alloc, World.size_alloc] at this
      exact this
    generalize (((w.alloc (.cells #[.int .i64 z, .int .i64 b, .slice A nA cA, .slice Ad nd cd] 24)).alloc (.cells #[.int .i64 0, .int .i64 0, .int .i64 0] 32)).alloc (.cells #[.int .i64 (nd : Int), .int .i64 b, .int .i64 (D : Int)] 32)).drew = W at *
    obtain ⟨G, hG⟩ : ∃ G, w.heap.size + 1 + 1 = G := ⟨_, rfl⟩
    rw [hG] at HK2 ⊢
    have HGG := Lib.hid hG
    clear hG
    obtain ⟨R, hR⟩ : ∃ R, w.heap.size + 1 = R := ⟨_, rfl⟩
    rw [hR] at HK1 ⊢
    have HRR := Lib.hid hR
    clear hR
    have k0 : W.cell? ⟨G, 0, none⟩ = some (.int .i64 (nd : Int)) := HK2.out.cell 0
    have k1 : W.cell? ⟨G, 1, none⟩ = some (.int .i64 b) := HK2.out.cell 1
    have k2 : W.cell? ⟨G, 2, none⟩ = some (.int .i64 (D : Int)) := HK2.out.cell 2
    have k3 : W.cell? ⟨w.heap.size, 2, none⟩ = some (.slice A nA cA) := HK0.out.cell 2
    have HBR : Hid (∀ (w3 : World), Below W.drew.heap.size W.drew w3 → (w3.cell? ⟨G, 0, none⟩ = some (.int .i64 (nd : Int)) ∧ w3.cell? ⟨G, 1, none⟩ = some (.int .i64 b) ∧ w3.cell? ⟨G, 2, none⟩ = some (.int .i64 (D : Int)) ∧ w3.cell? ⟨w.heap.size, 2, none⟩ = some (.slice A nA cA))) := fun w3 hb => by
      have h2 := Blk.below (w := W.drew) HK2.out hb HK2.out.lt
      have h0 := Blk.below (w := W.drew) HK0.out hb HK0.out.lt
      exact ⟨h2.cell 0, h2.cell 1, h2.cell 2, h0.cell 2⟩
    have HBO : Hid (∀ (w3 : World), Below W.drew.heap.size W.drew w3 → Blk w3 R 32 [.int .i64 0, .int .i64 0, .int .i64 0]) := fun w3 hb => Blk.below (w := W.drew) HK1.out hb HK1.out.lt
    have NE1 : Hid (G ≠ R) := by show _ ≠ _; have := HGG.out; have := HRR.out; omega
    have NE2 : Hid (w.heap.size ≠ R) := by show _ ≠ _; have := HRR.out; omega
    go_wp2
    have HT0 : Hid (∀ (w : World), Blk w G 32 [.int .i64 (nd : Int), .int .i64 b, .int .i64 (D : Int)] → (w.cell? ⟨G, 0, none⟩ = some (.int .i64 (nd : Int)) ∧ w.cell? ⟨G, 1, none⟩ = some (.int .i64 b) ∧ w.cell? ⟨G, 2, none⟩ = some (.int .i64 (D : Int)))) := fun w h => ⟨h.cell 0, h.cell 1, h.cell 2⟩
    have hRw : w.heap.size ≤ R := by have := HRR.out; omega
    rename_i hKx
    refine wp_region_eachW (by kernel_rfl) (by kernel_rfl) (SmR R [.int .i64 (nd : Int), .int .i64 b, .int .i64 (D : Int)]) (fun iX v u => match iX with
        | 0 => v = .agg #[.int .i64 (nd : Int), .int .i64 b, .int .i64 (D : Int)]
        | 1 => v = .agg #[.int .i64 (nd : Int), .int .i64 b, .int .i64 (D : Int)]
        | 2 => v = .bool false
        | 3 => v = .bool false
        | 8 => v = .bool false
        | 9 => Blk u R 32 [.int .i64 (nd : Int), .int .i64 b, .int .i64 (D : Int)]
        | 10 => v = .bool false
        | _ => True) (fun u => Blk u G 32 [.int .i64 (nd : Int), .int .i64 b, .int .i64 (D : Int)] ∧ Any3 u R ∧ Below w.heap.size w u) ?m1 ?m4 ⟨HK2.out, ⟨0, 0, 0, HK1.out⟩, below_drew1 HB1.out⟩ ?m2 ?m3
    case m1 =>
      intro iX v u u' h hr hb
      rcases iX with _ | _ | _ | _ | _ | _ | _ | _ | _ | _ | _ | iX
      · exact h
      · exact h
      · exact h
      · exact h
      · trivial
      · trivial
      · trivial
      · trivial
      · exact h
      · exact hb.kept h
      · exact h
      · trivial
    case m4 =>
      rintro u u' ⟨h1, h2, h3⟩ hb
      exact ⟨h1.grown hb.grown (fun e => NE1.out (by injection e)), hb.any h2, h3.grown hb.grown h3.size (fun k e => by injection e with e; omega)⟩
    case m2 =>
      intro iX o ho a u hr hk hpre K hK
      have e4 : a.tmps.getD 4 undef = .pointer (some ⟨G, 0, none⟩) := hk.slot 4 (by simp)
      have e2 : a.tmps.getD 2 undef = .pointer (some ⟨R, 0, none⟩) := hk.slot 2 (by simp)
      obtain ⟨t0, t1, t2⟩ := HT0.out u hr.1
      rcases iX with _ | _ | _ | _ | _ | _ | _ | _ | _ | _ | _ | iX
      · obtain rfl := Option.some.inj ho
        exact st_run (want_none rfl) _ (load_shape t0 t1 t2 a.eval (.tmp 4) e4 _ _ _ _ _) (hK _ _ rfl (SmR.refl _ _ _))
      · obtain rfl := Option.some.inj ho
        exact st_run (want_none rfl) _ (load_shape t0 t1 t2 a.eval (.tmp 4) e4 _ _ _ _ _) (hK _ _ rfl (SmR.refl _ _ _))
      · obtain rfl := Option.some.inj ho
        exact st_call1 23 (.tmp 15) 32 rfl (want_none rfl) _ (hpre 1 _ rfl ⟨⟨1, .data⟩, by simp, rfl, rfl⟩) (cfRight _ _) _ (HRT.out u) (fun e u' ⟨he, hb⟩ => ⟨_, he, hK _ _ rfl (SmR.of_below hb)⟩)
      · obtain rfl := Option.some.inj ho
        exact st_move (.tmp 16) rfl (want_none rfl) _ (hpre 2 _ rfl ⟨⟨2, .data⟩, by simp, rfl, rfl⟩) (hK _ _ rfl (SmR.refl _ _ _))
      · obtain rfl := Option.some.inj ho
        exact st_fall (want_fall rfl rfl rfl (hpre 3 _ rfl ⟨⟨3, .guard⟩, by simp, rfl, rfl⟩) (by decide)) (hK _ _ trivial (SmR.refl _ _ _))
      · obtain rfl := Option.some.inj ho
        exact st_fall (want_fall rfl rfl rfl (hpre 3 _ rfl ⟨⟨3, .guard⟩, by simp, rfl, rfl⟩) (by decide)) (hK _ _ trivial (SmR.refl _ _ _))
      · obtain rfl := Option.some.inj ho
        exact st_fall (want_fall rfl rfl rfl (hpre 3 _ rfl ⟨⟨3, .guard⟩, by simp, rfl, rfl⟩) (by decide)) (hK _ _ trivial (SmR.refl _ _ _))
      · obtain rfl := Option.some.inj ho
        exact st_fall (want_fall rfl rfl rfl (hpre 3 _ rfl ⟨⟨3, .guard⟩, by simp, rfl, rfl⟩) (by decide)) (hK _ _ trivial (SmR.refl _ _ _))
      · obtain rfl := Option.some.inj ho
        exact st_pick (.tmp 17) (.tmp 21) (.const (.bool false)) rfl (want_none rfl) false (hpre 3 _ rfl ⟨⟨3, .data⟩, by simp, rfl, rfl⟩) _ (if_neg (by decide)) (hK _ _ rfl (SmR.refl _ _ _))
      · obtain rfl := Option.some.inj ho
        obtain ⟨u0, u1, u2, hB3⟩ := hr.2.1
        have hnew : Blk (((u.setCell ⟨R, 0, none⟩ (.int .i64 (nd : Int))).setCell ⟨R, 1, none⟩ (.int .i64 b)).setCell ⟨R, 2, none⟩ (.int .i64 (D : Int))) R 32 [.int .i64 (nd : Int), .int .i64 b, .int .i64 (D : Int)] := ((hB3.set_ 0 _).set_ 1 _).set_ 2 _
        exact st_skip (want_none rfl) (store_shape hB3 a.eval (.tmp 2) (.tmp 14) e2 (hpre 0 _ rfl ⟨⟨0, .data⟩, by simp, rfl, rfl⟩) _ _ _ _ _) (hK _ _ hnew ⟨only_setCell (only_setCell (only_setCell (SmR.refl R [] u).grown (.inl rfl) _) (.inl rfl) _) (.inl rfl) _, fun _ => hnew, fun _ => ⟨_, _, _, hnew⟩⟩)
      · obtain rfl := Option.some.inj ho
        exact st_assign (.tmp 22) rfl (want_none rfl) _ (hpre 8 _ rfl ⟨⟨8, .data⟩, by simp, rfl, rfl⟩) (hK _ _ rfl (SmR.refl _ _ _))
      · cases ho
    case m3 =>
      intro a u hr hk hv
      have h9 : Blk u R 32 [.int .i64 (nd : Int), .int .i64 b, .int .i64 (D : Int)] := hv 9 _ rfl
      have h10 : a.tmps.getD 3 undef = .bool false := hv 10 _ rfl
      have e2 : a.tmps.getD 2 undef = .pointer (some ⟨R, 0, none⟩) := hk.slot 2 (by simp)
      have r0 : u.cell? ⟨R, 0, none⟩ = some (.int .i64 (nd : Int)) := h9.cell 0
      have r1 : u.cell? ⟨R, 1, none⟩ = some (.int .i64 b) := h9.cell 1
      have r2 : u.cell? ⟨R, 2, none⟩ = some (.int .i64 (D : Int)) := h9.cell 2
      refine hKx a u (wp_ret (bodyPost_ret (v := .tuple #[.agg #[.int .i64 (nd : Int), .int .i64 b, .int .i64 (D : Int)], .bool false]) ?_ hk.defers ⟨rfl, hr.2.2⟩))
      rw [results_cell_tmp rfl]
      go_simp
end Go.Proofs.YtfoenafjaaidmaaDoor
