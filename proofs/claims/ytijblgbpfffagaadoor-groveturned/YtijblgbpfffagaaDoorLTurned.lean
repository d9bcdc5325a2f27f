/-
  GroveTurned returns true for every seed and numbers: its walk.
-/
import Derived.Test.YtijblgbpfffagaaDoorGs
namespace Go.Proofs.YtijblgbpfffagaaDoor
open Go.RowKit
set_option linter.unusedVariables false
set_option linter.unusedSimpArgs false
set_option maxRecDepth 100000

/-- A slice of these bytes. -/
def VB (n : Nat) (l : List Nat) (v : Value) (u : World) : Prop := ∃ A c, v = .slice A n c ∧ Bs u A n c l
theorem VB.below {n : Nat} {l : List Nat} {v : Value} {u u' : World} (h : VB n l v u) (hb : Below u.heap.size u u') : VB n l v u' := by
  obtain ⟨A, c, e, hB⟩ := h
  exact ⟨A, c, e, hB.below hb⟩
/-- A list of these texts. -/
def VL (m : Nat) (L : List (List Nat)) (v : Value) (u : World) : Prop := ∃ A c ps, v = .slice A m c ∧ Ls u A m c ps ∧ ps.map (·.l) = L
theorem VL.below {m : Nat} {L : List (List Nat)} {v : Value} {u u' : World} (h : VL m L v u) (hb : Below u.heap.size u u') : VL m L v u' := by
  obtain ⟨A, c, ps, e, hL, hm⟩ := h
  exact ⟨A, c, ps, e, hL.below hb, hm⟩
/-- Two texts, and that they were found. -/
def VT (n : Nat) (x y : List Nat) (v : Value) (u : World) : Prop := ∃ A1 c1 A2 c2, v = .tuple #[.slice A1 n c1, .slice A2 n c2, .bool true] ∧ Bs u A1 n c1 x ∧ Bs u A2 n c2 y
theorem VT.below {n : Nat} {x y : List Nat} {v : Value} {u u' : World} (h : VT n x y v u) (hb : Below u.heap.size u u') : VT n x y v u' := by
  obtain ⟨A1, c1, A2, c2, e, h1, h2⟩ := h
  exact ⟨A1, c1, A2, c2, e, h1.below hb, h2.below hb⟩
/-- The blocks of a way up, as a list of texts. -/
theorem blocks_ls {z S B D a n : Nat} {A : Option Addr} {nA cA : Nat} {Ad : Option Addr} {cd : Nat} {salt data : List Nat} (b : Int) (i : Nat) (w : World) (h : Over w z S B D a n A nA cA Ad cd salt data) (hi : i < n) (m : Nat) (hm : (cs a n).length = m) :
    Calls Tryd.prog 19 #[.agg #[.int .i64 (z : Int), .int .i64 b, .slice A nA cA, .slice Ad S cd], .agg #[.int .i64 (S : Int), .int .i64 (B : Int), .int .i64 (D : Int)], .int .i64 (i : Int)] w fun e w' => ∃ v, e = .returned v ∧ VL m (way (hsh z salt) B a n data i m) v w' ∧ Below w.heap.size w w' := by
  refine (blocks_any b i w h hi m hm).mono ?_
  rintro e w' ⟨Al, cl, qs, rfl, hrow, hpt, hb⟩
  have hHl : ∀ t, (hsh z salt t).length = D := fun t => hsh_length h.alg h.dig salt t
  have hql : Ls w' Al m cl qs := way_ls hrow hpt (fun j => blk_length hHl h.shp.aD _ _) (fun j => blk_fit h.dataFit _ _ _ _ _) h.shp.b.2.1
  exact ⟨_, rfl, ⟨Al, cl, qs, rfl, hql, way_map hql.1.1 hpt⟩, hb⟩
set_option maxHeartbeats 16000000 in
theorem pair_any (s nd B D a n k m : Nat) (A : Option Addr) (nA cA : Nat) (Ad : Option Addr) (cd : Nat) (Ae : Option Addr) (ce : Nat) (salt data data' : List Nat) (RT : List Nat) (w : World) (hs12 : s = 1 ∨ s = 2) (hD : sizeOfAlg (s : Int) = D) (hO : Over w s nd B D a n A nA cA Ad cd salt data) (hO' : Over w s nd B D a n A nA cA Ae ce salt data') (h64 : nA ≤ 64) (hs : Bs w A nA cA salt) (hk : k < n) (hm : (cs a n).length = m) (hr1 : hsh s salt (blk (hsh s salt) B a n data (m - 1) 0) = RT) (hr2 : hsh s salt (blk (hsh s salt) B a n data' (m - 1) 0) = RT) (hne : blk (hsh s salt) B a n data 0 k ≠ blk (hsh s salt) B a n data' 0 k) :
    Calls Tryd.prog 25 #[.agg #[.int .i64 (s : Int), .int .i64 (B : Int), .slice A nA cA, .slice Ad nd cd], .agg #[.int .i64 (s : Int), .int .i64 (B : Int), .slice A nA cA, .slice Ae nd ce], .int .i64 (k : Int)] w fun e w' => e = .returned (.bool true) ∧ Below w.heap.size w w' := by
  have hHl : ∀ t, (hsh s salt t).length = D := fun t => hsh_length hs12 hD salt t
  have hpos : 1 ≤ m := by rw [← hm]; exact List.length_pos_iff.2 (cnts_ne a 40 n)
  have hone : lev a n (m - 1) = 1 := by rw [← hm]; exact hO.shp.top1
  have hb4k : B ≤ 4096 := hO.shp.b.2.1
  have h41 : m ≤ 41 := by rw [← hm]; exact cnts_len _ _ _
  have hw1 := way_climbs (data := data) hHl hO.shp.aD (by have := hO.shp.a2; omega) hk (m := m) (by omega) hone
  have hw2 := way_climbs (data := data') hHl hO.shp.aD (by have := hO.shp.a2; omega) hk (m := m) (by omega) hone
  rw [hr1] at hw1
  rw [hr2] at hw2
  obtain ⟨x, y, hxy, hxne, hlen, hH⟩ := two_ways hw1 hw2 (by omega) (by
    rw [way_get (by omega), way_get (by omega), Nat.pow_zero, Nat.div_one]
    exact fun e => hne (by injection e))
  have hxf : x.length = B := hw1.form x (by
    obtain ⟨q, hq, _⟩ := parting_some _ _ _ _ hxy
    have := List.mem_of_getElem? hq
    rwa [List.mem_reverse] at this)
  have hyf : y.length = B := by omega
  obtain ⟨Zd, hZd⟩ : ∃ Zd, hsh s salt x = Zd := ⟨_, rfl⟩
  have HRG : Hid (Rgt nd B D ∧ nA ≤ 64) := ⟨hO.shp.rgt, h64⟩
  have HB1 : Hid (Below w.heap.size w ((w.alloc (.cells #[.int .i64 (s : Int), .int .i64 (B : Int), .slice A nA cA, .slice Ad nd cd] 24)).alloc (.cells #[.int .i64 (s : Int), .int .i64 (B : Int), .slice A nA cA, .slice Ae nd ce] 24))) := ((Below.refl _ _).alloc (Nat.le_refl _) _).alloc (by simp) _
  have HKA : Hid (Blk ((w.alloc (.cells #[.int .i64 (s : Int), .int .i64 (B : Int), .slice A nA cA, .slice Ad nd cd] 24)).alloc (.cells #[.int .i64 (s : Int), .int .i64 (B : Int), .slice A nA cA, .slice Ae nd ce] 24)) w.heap.size 24 [.int .i64 (s : Int), .int .i64 (B : Int), .slice A nA cA, .slice Ad nd cd]) := (Blk.new w 24 [.int .i64 (s : Int), .int .i64 (B : Int), .slice A nA cA, .slice Ad nd cd]).alloc _
  have HKB : Hid (Blk ((w.alloc (.cells #[.int .i64 (s : Int), .int .i64 (B : Int), .slice A nA cA, .slice Ad nd cd] 24)).alloc (.cells #[.int .i64 (s : Int), .int .i64 (B : Int), .slice A nA cA, .slice Ae nd ce] 24)) (w.heap.size + 1) 24 [.int .i64 (s : Int), .int .i64 (B : Int), .slice A nA cA, .slice Ae nd ce]) := heap_alloc2_new w _ _
  have HO := Lib.hid hO
  have HO' := Lib.hid hO'
  have HS := Lib.hid hs
  have HM := Lib.hid hm
  have HDIG := Lib.hid hD
  have HXY := Lib.hid hxy
  clear hO hO' hs hm hD hxy hr1 hr2 hne hw1 hw2 hHl hone hlen
  go_enter Tryd.func25, Tryd.ntmps25
  go_wp2_with fail
  generalize ((w.alloc (.cells #[.int .i64 (s : Int), .int .i64 (B : Int), .slice A nA cA, .slice Ad nd cd] 24)).alloc (.cells #[.int .i64 (s : Int), .int .i64 (B : Int), .slice A nA cA, .slice Ae nd ce] 24)) = W at *
  refine (shape9_any (s : Int) (B : Int) A nA cA Ad nd cd D HDIG.out W).mono ?_
  rw [decide_eq_true HRG.out]
  rintro e w2 ⟨rfl, hb2⟩
  have hb3 : Below w2.heap.size w2 (w2.alloc (.cells #[.int .i64 (nd : Int), .int .i64 (B : Int), .int .i64 (D : Int)] 32)) := (Below.refl _ _).alloc (Nat.le_refl _) _
  have hsb := Blk.new w2 32 [.int .i64 (nd : Int), .int .i64 (B : Int), .int .i64 (D : Int)]
  have HB3 := Lib.hid (below_then hb2 hb3)
  have HSB := Lib.hid hsb
  clear hb3 hsb hb2
  go_wp2
  rename_i hKx
  have hb3 := HB3.out
  have hsb := HSB.out
  clear HB3 HSB
  generalize w2.alloc (.cells #[.int .i64 (nd : Int), .int .i64 (B : Int), .int .i64 (D : Int)] 32) = w3 at *
  obtain ⟨g, hg⟩ : ∃ g, w2.heap.size = g := ⟨_, rfl⟩
  rw [hg] at hsb ⊢
  have BEL3 := Lib.hid (below_then HB1.out hb3)
  have KA := Lib.hid (HKA.out.below hb3 HKA.out.lt)
  have KB := Lib.hid (HKB.out.below hb3 HKB.out.lt)
  have LA := Lib.hid KA.out.lt
  have LB := Lib.hid KB.out.lt
  have LG := Lib.hid hsb.lt
  have c0 : w3.cell? ⟨w.heap.size, 0, none⟩ = some (.int .i64 (s : Int)) := KA.out.cell 0
  have c1 : w3.cell? ⟨w.heap.size, 1, none⟩ = some (.int .i64 (B : Int)) := KA.out.cell 1
  have c2 : w3.cell? ⟨w.heap.size, 2, none⟩ = some (.slice A nA cA) := KA.out.cell 2
  have c3 : w3.cell? ⟨w.heap.size, 3, none⟩ = some (.slice Ad nd cd) := KA.out.cell 3
  have f0 : w3.cell? ⟨w.heap.size + 1, 0, none⟩ = some (.int .i64 (s : Int)) := KB.out.cell 0
  have f1 : w3.cell? ⟨w.heap.size + 1, 1, none⟩ = some (.int .i64 (B : Int)) := KB.out.cell 1
  have f2 : w3.cell? ⟨w.heap.size + 1, 2, none⟩ = some (.slice A nA cA) := KB.out.cell 2
  have f3 : w3.cell? ⟨w.heap.size + 1, 3, none⟩ = some (.slice Ae nd ce) := KB.out.cell 3
  have s0 : w3.cell? ⟨g, 0, none⟩ = some (.int .i64 (nd : Int)) := hsb.cell 0
  have s1 : w3.cell? ⟨g, 1, none⟩ = some (.int .i64 (B : Int)) := hsb.cell 1
  have s2 : w3.cell? ⟨g, 2, none⟩ = some (.int .i64 (D : Int)) := hsb.cell 2
  have HBL1 : Hid (∀ u, Below w3.heap.size w3 u → _) := fun u hu => blocks_ls (B : Int) k u (HO.out.below (below_then BEL3.out hu)) hk m HM.out
  have HBL2 : Hid (∀ u, Below w3.heap.size w3 u → _) := fun u hu => blocks_ls (B : Int) k u (HO'.out.below (below_then BEL3.out hu)) hk m HM.out
  clear hsb hg hb3
  have HF1 : Hid (∀ l ∈ way (hsh s salt) B a n data k m, l.length = B) := fun l hl => by
    obtain ⟨j, _, rfl⟩ := List.mem_map.1 hl
    exact blk_length (fun t => hsh_length hs12 HDIG.out salt t) HO.out.shp.aD _ _
  have HF2 : Hid (∀ l ∈ way (hsh s salt) B a n data' k m, l.length = B) := fun l hl => by
    obtain ⟨j, _, rfl⟩ := List.mem_map.1 hl
    exact blk_length (fun t => hsh_length hs12 HDIG.out salt t) HO.out.shp.aD _ _
  refine wp_region_eachW (by kernel_rfl) (by kernel_rfl) (fun u u' => Below u.heap.size u u') (fun iX v u => match iX with
      | 0 => v = .agg #[.int .i64 (s : Int), .int .i64 (B : Int), .slice A nA cA, .slice Ad nd cd]
      | 1 => v = .agg #[.int .i64 (nd : Int), .int .i64 (B : Int), .int .i64 (D : Int)]
      | 2 => v = .int .i64 (k : Int)
      | 3 => VL m (way (hsh s salt) B a n data k m) v u
      | 4 => v = .agg #[.int .i64 (s : Int), .int .i64 (B : Int), .slice A nA cA, .slice Ae nd ce]
      | 5 => v = .agg #[.int .i64 (nd : Int), .int .i64 (B : Int), .int .i64 (D : Int)]
      | 6 => v = .int .i64 (k : Int)
      | 7 => VL m (way (hsh s salt) B a n data' k m) v u
      | 8 => VT B x y v u
      | 9 => VT B x y v u
      | 10 => VB B x v u
      | 11 => VB B y v u
      | 12 => v = .bool true
      | 13 => VB B x v u
      | 14 => VB B y v u
      | 15 => v = .bool true
      | _ => True) (fun u => Below w3.heap.size w3 u) ?m1 (fun _ _ h1 h2 => h1.trans (h2.mono h1.size)) ⟨rfl, rfl, rfl, Nat.le_refl _, fun _ _ => rfl⟩ ?m2 ?m3
  case m1 =>
    intro iX v u u' h hr hb
    rcases iX with _ | _ | _ | _ | _ | _ | _ | _ | _ | _ | _ | _ | _ | _ | _ | _ | iX
    · exact h
    · exact h
    · exact h
    · exact VL.below h hb
    · exact h
    · exact h
    · exact h
    · exact VL.below h hb
    · exact VT.below h hb
    · exact VT.below h hb
    · exact VB.below h hb
    · exact VB.below h hb
    · exact h
    · exact VB.below h hb
    · exact VB.below h hb
    · exact h
    · trivial
  case m2 =>
    intro iX o ho aX u hr hk hpre K hK
    have e3 : aX.tmps.getD 3 undef = .pointer (some ⟨w.heap.size, 0, none⟩) := hk.slot 3 (by simp)
    have e4 : aX.tmps.getD 4 undef = .pointer (some ⟨w.heap.size + 1, 0, none⟩) := hk.slot 4 (by simp)
    have e7 : aX.tmps.getD 7 undef = .pointer (some ⟨g, 0, none⟩) := hk.slot 7 (by simp)
    have e2 : aX.tmps.getD 2 undef = .int .i64 (k : Int) := hk.slot 2 (by simp)
    have u0 : u.cell? ⟨w.heap.size, 0, none⟩ = some (.int .i64 (s : Int)) := (hr.cell (p := ⟨w.heap.size, 0, none⟩) LA.out).trans c0
    have u1 : u.cell? ⟨w.heap.size, 1, none⟩ = some (.int .i64 (B : Int)) := (hr.cell (p := ⟨w.heap.size, 1, none⟩) LA.out).trans c1
    have u2 : u.cell? ⟨w.heap.size, 2, none⟩ = some (.slice A nA cA) := (hr.cell (p := ⟨w.heap.size, 2, none⟩) LA.out).trans c2
    have u3 : u.cell? ⟨w.heap.size, 3, none⟩ = some (.slice Ad nd cd) := (hr.cell (p := ⟨w.heap.size, 3, none⟩) LA.out).trans c3
    have t0 : u.cell? ⟨w.heap.size + 1, 0, none⟩ = some (.int .i64 (s : Int)) := (hr.cell (p := ⟨w.heap.size + 1, 0, none⟩) LB.out).trans f0
    have t1 : u.cell? ⟨w.heap.size + 1, 1, none⟩ = some (.int .i64 (B : Int)) := (hr.cell (p := ⟨w.heap.size + 1, 1, none⟩) LB.out).trans f1
    have t2 : u.cell? ⟨w.heap.size + 1, 2, none⟩ = some (.slice A nA cA) := (hr.cell (p := ⟨w.heap.size + 1, 2, none⟩) LB.out).trans f2
    have t3 : u.cell? ⟨w.heap.size + 1, 3, none⟩ = some (.slice Ae nd ce) := (hr.cell (p := ⟨w.heap.size + 1, 3, none⟩) LB.out).trans f3
    have r0 : u.cell? ⟨g, 0, none⟩ = some (.int .i64 (nd : Int)) := (hr.cell (p := ⟨g, 0, none⟩) LG.out).trans s0
    have r1 : u.cell? ⟨g, 1, none⟩ = some (.int .i64 (B : Int)) := (hr.cell (p := ⟨g, 1, none⟩) LG.out).trans s1
    have r2 : u.cell? ⟨g, 2, none⟩ = some (.int .i64 (D : Int)) := (hr.cell (p := ⟨g, 2, none⟩) LG.out).trans s2
    have rf : Below u.heap.size u u := Below.refl _ _
    rcases iX with _ | _ | _ | _ | _ | _ | _ | _ | _ | _ | _ | _ | _ | _ | _ | _ | iX
    · obtain rfl := Option.some.inj ho
      have y3 : aX.eval (.tmp 3) = .pointer (some ⟨w.heap.size, 0, none⟩) := e3
      refine st_run (want_none rfl) (.agg #[.int .i64 (s : Int), .int .i64 (B : Int), .slice A nA cA, .slice Ad nd cd]) (w' := u) ?_ (hK _ _ rfl rf)
      simp only [execOp, y3]
      go_simp
    · obtain rfl := Option.some.inj ho
      have y7 : aX.eval (.tmp 7) = .pointer (some ⟨g, 0, none⟩) := e7
      refine st_run (want_none rfl) (.agg #[.int .i64 (nd : Int), .int .i64 (B : Int), .int .i64 (D : Int)]) (w' := u) ?_ (hK _ _ rfl rf)
      simp only [execOp, y7]
      go_simp
    · obtain rfl := Option.some.inj ho
      exact st_move (.tmp 2) rfl (want_none rfl) _ e2 (hK _ _ rfl rf)
    · obtain rfl := Option.some.inj ho
      have x0 : aX.eval (.tmp 20) = .agg #[.int .i64 (s : Int), .int .i64 (B : Int), .slice A nA cA, .slice Ad nd cd] := (hpre 0 _ rfl ⟨⟨0, .data⟩, by simp, rfl, rfl⟩)
      have x1 : aX.eval (.tmp 21) = .agg #[.int .i64 (nd : Int), .int .i64 (B : Int), .int .i64 (D : Int)] := (hpre 1 _ rfl ⟨⟨1, .data⟩, by simp, rfl, rfl⟩)
      have x2 : aX.eval (.tmp 22) = .int .i64 (k : Int) := (hpre 2 _ rfl ⟨⟨2, .data⟩, by simp, rfl, rfl⟩)
      exact st_callN 19 _ _ rfl (want_none rfl) #[.agg #[.int .i64 (s : Int), .int .i64 (B : Int), .slice A nA cA, .slice Ad nd cd], .agg #[.int .i64 (nd : Int), .int .i64 (B : Int), .int .i64 (D : Int)], .int .i64 (k : Int)] (by simp [x0, x1, x2]) (by kernel_rfl) _ (HBL1.out u hr) (fun e u' ⟨v', he, hv', hb'⟩ => ⟨_, he, hK _ _ hv' hb'⟩)
    · obtain rfl := Option.some.inj ho
      have y4 : aX.eval (.tmp 4) = .pointer (some ⟨w.heap.size + 1, 0, none⟩) := e4
      refine st_run (want_none rfl) (.agg #[.int .i64 (s : Int), .int .i64 (B : Int), .slice A nA cA, .slice Ae nd ce]) (w' := u) ?_ (hK _ _ rfl rf)
      simp only [execOp, y4]
      go_simp
    · obtain rfl := Option.some.inj ho
      have y7 : aX.eval (.tmp 7) = .pointer (some ⟨g, 0, none⟩) := e7
      refine st_run (want_none rfl) (.agg #[.int .i64 (nd : Int), .int .i64 (B : Int), .int .i64 (D : Int)]) (w' := u) ?_ (hK _ _ rfl rf)
      simp only [execOp, y7]
      go_simp
    · obtain rfl := Option.some.inj ho
      exact st_move (.tmp 2) rfl (want_none rfl) _ e2 (hK _ _ rfl rf)
    · obtain rfl := Option.some.inj ho
      have x0 : aX.eval (.tmp 24) = .agg #[.int .i64 (s : Int), .int .i64 (B : Int), .slice A nA cA, .slice Ae nd ce] := (hpre 4 _ rfl ⟨⟨4, .data⟩, by simp, rfl, rfl⟩)
      have x1 : aX.eval (.tmp 25) = .agg #[.int .i64 (nd : Int), .int .i64 (B : Int), .int .i64 (D : Int)] := (hpre 5 _ rfl ⟨⟨5, .data⟩, by simp, rfl, rfl⟩)
      have x2 : aX.eval (.tmp 26) = .int .i64 (k : Int) := (hpre 6 _ rfl ⟨⟨6, .data⟩, by simp, rfl, rfl⟩)
      exact st_callN 19 _ _ rfl (want_none rfl) #[.agg #[.int .i64 (s : Int), .int .i64 (B : Int), .slice A nA cA, .slice Ae nd ce], .agg #[.int .i64 (nd : Int), .int .i64 (B : Int), .int .i64 (D : Int)], .int .i64 (k : Int)] (by simp [x0, x1, x2]) (by kernel_rfl) _ (HBL2.out u hr) (fun e u' ⟨v', he, hv', hb'⟩ => ⟨_, he, hK _ _ hv' hb'⟩)
    · obtain rfl := Option.some.inj ho
      obtain ⟨P1, k1, ps, e1, l1, m1⟩ := (hpre 3 _ rfl ⟨⟨3, .data⟩, by simp, rfl, rfl⟩)
      obtain ⟨P2, k2, qs, e2, l2, m2⟩ := (hpre 7 _ rfl ⟨⟨7, .data⟩, by simp, rfl, rfl⟩)
      have x0 : aX.eval (.tmp 23) = .slice P1 m k1 := e1
      have x1 : aX.eval (.tmp 27) = .slice P2 m k2 := e2
      have hcon := Differ_any P1 m k1 ps P2 m k2 qs u l1 l2 (by omega) (by omega) (fun p hp => by have h1 := (l1.1.2.2 p hp).1.1; have h2 : p.l ∈ ps.map (·.l) := List.mem_map.2 ⟨p, hp, rfl⟩; rw [m1] at h2; have h3 := HF1.out _ h2; omega) (fun p hp => by have h1 := (l2.1.2.2 p hp).1.1; have h2 : p.l ∈ qs.map (·.l) := List.mem_map.2 ⟨p, hp, rfl⟩; rw [m2] at h2; have h3 := HF2.out _ h2; omega)
      rw [m1, m2, HXY.out] at hcon
      refine st_callN 24 _ _ rfl (want_none rfl) #[.slice P1 m k1, .slice P2 m k2] (by simp [x0, x1]) (by kernel_rfl) _ hcon (fun e u' he => ?_)
      obtain ⟨A1, n1, c1', A2, n2, c2', he, hb', hx1, hx2⟩ := he
      obtain rfl : n1 = B := by rw [← hx1.rd.1]; exact hxf
      obtain rfl : n2 = n1 := by rw [← hx2.rd.1]; exact hyf
      exact ⟨_, he, hK _ _ ⟨A1, c1', A2, c2', rfl, hx1, hx2⟩ hb'⟩
    · obtain rfl := Option.some.inj ho
      have h9 := (hpre 8 _ rfl ⟨⟨8, .data⟩, by simp, rfl, rfl⟩)
      exact st_move (.tmp 28) rfl (want_none rfl) _ rfl (hK _ _ h9 rf)
    · obtain rfl := Option.some.inj ho
      obtain ⟨A1, c1', A2, c2', e9, hx1, hx2⟩ := (hpre 9 _ rfl ⟨⟨9, .data⟩, by simp, rfl, rfl⟩)
      have y9 : aX.eval (.tmp 19) = .tuple #[.slice A1 B c1', .slice A2 B c2', .bool true] := e9
      refine st_run (want_none rfl) (.slice A1 B c1') (w' := u) ?_ (hK _ _ ⟨A1, c1', rfl, hx1⟩ rf)
      simp only [execOp, y9]
      go_simp
    · obtain rfl := Option.some.inj ho
      obtain ⟨A1, c1', A2, c2', e9, hx1, hx2⟩ := (hpre 9 _ rfl ⟨⟨9, .data⟩, by simp, rfl, rfl⟩)
      have y9 : aX.eval (.tmp 19) = .tuple #[.slice A1 B c1', .slice A2 B c2', .bool true] := e9
      refine st_run (want_none rfl) (.slice A2 B c2') (w' := u) ?_ (hK _ _ ⟨A2, c2', rfl, hx2⟩ rf)
      simp only [execOp, y9]
      go_simp
    · obtain rfl := Option.some.inj ho
      obtain ⟨A1, c1', A2, c2', e9, hx1, hx2⟩ := (hpre 9 _ rfl ⟨⟨9, .data⟩, by simp, rfl, rfl⟩)
      have y9 : aX.eval (.tmp 19) = .tuple #[.slice A1 B c1', .slice A2 B c2', .bool true] := e9
      refine st_run (want_none rfl) (.bool true) (w' := u) ?_ (hK _ _ rfl rf)
      simp only [execOp, y9]
      go_simp
    · obtain rfl := Option.some.inj ho
      have h9 := (hpre 10 _ rfl ⟨⟨10, .data⟩, by simp, rfl, rfl⟩)
      exact st_assign (.tmp 29) rfl (want_none rfl) _ rfl (hK _ _ h9 rf)
    · obtain rfl := Option.some.inj ho
      have h9 := (hpre 11 _ rfl ⟨⟨11, .data⟩, by simp, rfl, rfl⟩)
      exact st_assign (.tmp 30) rfl (want_none rfl) _ rfl (hK _ _ h9 rf)
    · obtain rfl := Option.some.inj ho
      exact st_assign (.tmp 31) rfl (want_none rfl) _ (hpre 12 _ rfl ⟨⟨12, .data⟩, by simp, rfl, rfl⟩) (hK _ _ rfl rf)
    · cases ho
  case m3 =>
    intro aX u hr hk hv
    obtain ⟨A1, c1', e13, hx1⟩ := hv 13 _ rfl
    obtain ⟨A2, c2', e14, hx2⟩ := hv 14 _ rfl
    have q11 : aX.tmps.getD 11 undef = .bool true := hv 15 _ rfl
    have hfr := keeps_frameP (fun s => decide ((9 ≤ s ∧ s ≤ 11) ∨ (19 ≤ s ∧ s ≤ 31))) hk (by simp)
    refine hKx aX u ?_
    rw [hfr]
    generalize hff : (fun s => aX.tmps.getD s undef) = ff
    have hf9 : ff 9 = .slice A1 B c1' := by rw [← hff]; exact e13
    have hf10 : ff 10 = .slice A2 B c2' := by rw [← hff]; exact e14
    have hf11 : ff 11 = .bool true := by rw [← hff]; exact q11
    simp only [mixP, hf9, hf10, hf11, decide_eq_true_eq, Nat.reduceAdd, Nat.reduceLeDiff, Nat.reduceEqDiff, false_or, true_or, or_false, or_true, and_true, and_false, true_and, false_and, and_self, if_true, if_false, Nat.zero_le]
    clear hfr hff hf9 hf10 hf11 q11 e13 e14 hv hk
    have HX1 := Lib.hid hx1
    have HX2 := Lib.hid hx2
    have BEL5 := Lib.hid (below_then BEL3.out hr)
    have KU := KA.out.below hr LA.out
    have LU := Lib.hid KU.lt
    have d0 : u.cell? ⟨w.heap.size, 0, none⟩ = some (.int .i64 (s : Int)) := KU.cell 0
    have d2 : u.cell? ⟨w.heap.size, 2, none⟩ = some (.slice A nA cA) := KU.cell 2
    have es : ((str x).toList == (str y).toList) = false := by rw [str_same hx1.fit hx2.fit, decide_eq_false hxne]
    have HDG1 : Hid (∀ u', Below u.heap.size u u' → Calls Tryd.prog 22 #[.int .i64 (s : Int), .slice A nA cA, .slice A1 B c1'] u' (GivesRd u' D Zd)) := fun u' hu' => by
      rw [← hZd]
      exact RefDigest_z s D hs12 HDIG.out A nA cA salt A1 B c1' x u' ((HS.out.below BEL5.out).rd.below hu') HS.out.fit HS.out.nil (by omega) (HX1.out.rd.below hu') HX1.out.fit HX1.out.nil (by omega)
    have HDG2 : Hid (∀ u', Below u.heap.size u u' → Calls Tryd.prog 22 #[.int .i64 (s : Int), .slice A nA cA, .slice A2 B c2'] u' (GivesRd u' D Zd)) := fun u' hu' => by
      rw [← hZd, hH]
      exact RefDigest_z s D hs12 HDIG.out A nA cA salt A2 B c2' y u' ((HS.out.below BEL5.out).rd.below hu') HS.out.fit HS.out.nil (by omega) (HX2.out.rd.below hu') HX2.out.fit HX2.out.nil (by omega)
    have ez : ((str Zd).toList == (str Zd).toList) = true := by simp
    clear hx1 hx2 hr KU hKx
    revert hZd
    intro hZd
    generalize u = w5 at *
    go_wp2
    rename_i hKx
    refine wp_region_eachW (by kernel_rfl) (by kernel_rfl) (fun u u' => Below u.heap.size u u') (fun iX v u => match iX with
        | 0 => v = .bool true
        | 1 => v = .bool true
        | 2 => v = .slice A1 B c1'
        | 3 => v = .string (str x)
        | 4 => v = .slice A2 B c2'
        | 5 => v = .string (str y)
        | 6 => v = .bool true
        | 7 => v = .bool true
        | 8 => v = .bool true
        | 9 => v = .slice A1 B c1'
        | 10 => v = .int .i64 (B : Int)
        | 11 => v = .slice A2 B c2'
        | 12 => v = .int .i64 (B : Int)
        | 13 => v = .bool true
        | 14 => v = .bool true
        | 15 => v = .bool true
        | 16 => v = .pointer (some ⟨w.heap.size, 0, none⟩)
        | 17 => v = .int .i64 (s : Int)
        | 18 => v = .pointer (some ⟨w.heap.size, 2, none⟩)
        | 19 => v = .slice A nA cA
        | 20 => v = .slice A1 B c1'
        | 21 => ∃ A9 c9, v = .slice A9 D c9 ∧ Rd .u8 u A9 D Zd
        | 22 => v = .string (str Zd)
        | 23 => v = .pointer (some ⟨w.heap.size, 0, none⟩)
        | 24 => v = .int .i64 (s : Int)
        | 25 => v = .pointer (some ⟨w.heap.size, 2, none⟩)
        | 26 => v = .slice A nA cA
        | 27 => v = .slice A2 B c2'
        | 28 => ∃ A9 c9, v = .slice A9 D c9 ∧ Rd .u8 u A9 D Zd
        | 29 => v = .string (str Zd)
        | 30 => v = .bool true
        | 31 => v = .bool true
        | 32 => v = .bool true
        | _ => True) (fun u => Below w5.heap.size w5 u) ?d1 (fun _ _ h1 h2 => h1.trans (h2.mono h1.size)) ⟨rfl, rfl, rfl, Nat.le_refl _, fun _ _ => rfl⟩ ?d2 ?d3
    case d1 =>
      intro iX v u u' h hr hb
      rcases iX with _ | _ | _ | _ | _ | _ | _ | _ | _ | _ | _ | _ | _ | _ | _ | _ | _ | _ | _ | _ | _ | _ | _ | _ | _ | _ | _ | _ | _ | _ | _ | _ | _ | iX
      · exact h
      · exact h
      · exact h
      · exact h
      · exact h
      · exact h
      · exact h
      · exact h
      · exact h
      · exact h
      · exact h
      · exact h
      · exact h
      · exact h
      · exact h
      · exact h
      · exact h
      · exact h
      · exact h
      · exact h
      · exact h
      · (obtain ⟨A9, c9, e9, h9⟩ := h; exact ⟨A9, c9, e9, h9.below hb⟩)
      · exact h
      · exact h
      · exact h
      · exact h
      · exact h
      · exact h
      · (obtain ⟨A9, c9, e9, h9⟩ := h; exact ⟨A9, c9, e9, h9.below hb⟩)
      · exact h
      · exact h
      · exact h
      · exact h
      · trivial
    case d2 =>
      intro iX o ho aX u hr hk hpre K hK
      have e3 : aX.tmps.getD 3 undef = .pointer (some ⟨w.heap.size, 0, none⟩) := hk.slot 3 (by simp)
      have e9 : aX.tmps.getD 9 undef = .slice A1 B c1' := hk.slot 9 (by simp)
      have e10 : aX.tmps.getD 10 undef = .slice A2 B c2' := hk.slot 10 (by simp)
      have e11 : aX.tmps.getD 11 undef = .bool true := hk.slot 11 (by simp)
      have u0 : u.cell? ⟨w.heap.size, 0, none⟩ = some (.int .i64 (s : Int)) := (hr.cell (p := ⟨w.heap.size, 0, none⟩) LU.out).trans d0
      have u2 : u.cell? ⟨w.heap.size, 2, none⟩ = some (.slice A nA cA) := (hr.cell (p := ⟨w.heap.size, 2, none⟩) LU.out).trans d2
      have rf : Below u.heap.size u u := Below.refl _ _
      rcases iX with _ | _ | _ | _ | _ | _ | _ | _ | _ | _ | _ | _ | _ | _ | _ | _ | _ | _ | _ | _ | _ | _ | _ | _ | _ | _ | _ | _ | _ | _ | _ | _ | _ | iX
      · obtain rfl := Option.some.inj ho
        exact st_move (.tmp 11) rfl (want_none rfl) _ e11 (hK _ _ rfl rf)
      · obtain rfl := Option.some.inj ho
        exact st_move (.tmp 32) rfl (want_none rfl) _ (hpre 0 _ rfl ⟨⟨0, .data⟩, by simp, rfl, rfl⟩) (hK _ _ rfl rf)
      · obtain rfl := Option.some.inj ho
        exact st_move (.tmp 9) rfl (want_some rfl rfl rfl (hpre 1 _ rfl ⟨⟨1, .guard⟩, by simp, rfl, rfl⟩)) _ e9 (hK _ _ rfl rf)
      · obtain rfl := Option.some.inj ho
        exact st_conv (.tmp 34) rfl (want_some rfl rfl rfl (hpre 1 _ rfl ⟨⟨1, .guard⟩, by simp, rfl, rfl⟩)) _ _ _ _ (hpre 2 _ rfl ⟨⟨2, .data⟩, by simp, rfl, rfl⟩) (HX1.out.rd.below hr) (hK _ _ rfl rf)
      · obtain rfl := Option.some.inj ho
        exact st_move (.tmp 10) rfl (want_some rfl rfl rfl (hpre 1 _ rfl ⟨⟨1, .guard⟩, by simp, rfl, rfl⟩)) _ e10 (hK _ _ rfl rf)
      · obtain rfl := Option.some.inj ho
        exact st_conv (.tmp 36) rfl (want_some rfl rfl rfl (hpre 1 _ rfl ⟨⟨1, .guard⟩, by simp, rfl, rfl⟩)) _ _ _ _ (hpre 4 _ rfl ⟨⟨4, .data⟩, by simp, rfl, rfl⟩) (HX2.out.rd.below hr) (hK _ _ rfl rf)
      · obtain rfl := Option.some.inj ho
        have y35 : aX.eval (.tmp 35) = .string (str x) := (hpre 3 _ rfl ⟨⟨3, .data⟩, by simp, rfl, rfl⟩)
        have y37 : aX.eval (.tmp 37) = .string (str y) := (hpre 5 _ rfl ⟨⟨5, .data⟩, by simp, rfl, rfl⟩)
        refine st_run (want_some rfl rfl rfl (hpre 1 _ rfl ⟨⟨1, .guard⟩, by simp, rfl, rfl⟩)) (.bool true) (w' := u) ?_ (hK _ _ rfl rf)
        simp only [execOp, y35, y37]
        go_simp
      · obtain rfl := Option.some.inj ho
        exact st_pick (.tmp 33) (.tmp 38) (.const (.bool false)) rfl (want_none rfl) true (hpre 1 _ rfl ⟨⟨1, .data⟩, by simp, rfl, rfl⟩) _ ((if_pos rfl).trans (hpre 6 _ rfl ⟨⟨6, .data⟩, by simp, rfl, rfl⟩)) (hK _ _ rfl rf)
      · obtain rfl := Option.some.inj ho
        exact st_move (.tmp 39) rfl (want_none rfl) _ (hpre 7 _ rfl ⟨⟨7, .data⟩, by simp, rfl, rfl⟩) (hK _ _ rfl rf)
      · obtain rfl := Option.some.inj ho
        exact st_move (.tmp 9) rfl (want_some rfl rfl rfl (hpre 8 _ rfl ⟨⟨8, .guard⟩, by simp, rfl, rfl⟩)) _ e9 (hK _ _ rfl rf)
      · obtain rfl := Option.some.inj ho
        exact st_len (.tmp 41) rfl (want_some rfl rfl rfl (hpre 8 _ rfl ⟨⟨8, .guard⟩, by simp, rfl, rfl⟩)) _ _ _ (hpre 9 _ rfl ⟨⟨9, .data⟩, by simp, rfl, rfl⟩) (hK _ _ rfl rf)
      · obtain rfl := Option.some.inj ho
        exact st_move (.tmp 10) rfl (want_some rfl rfl rfl (hpre 8 _ rfl ⟨⟨8, .guard⟩, by simp, rfl, rfl⟩)) _ e10 (hK _ _ rfl rf)
      · obtain rfl := Option.some.inj ho
        exact st_len (.tmp 43) rfl (want_some rfl rfl rfl (hpre 8 _ rfl ⟨⟨8, .guard⟩, by simp, rfl, rfl⟩)) _ _ _ (hpre 11 _ rfl ⟨⟨11, .data⟩, by simp, rfl, rfl⟩) (hK _ _ rfl rf)
      · obtain rfl := Option.some.inj ho
        have y42 : aX.eval (.tmp 42) = .int .i64 (B : Int) := (hpre 10 _ rfl ⟨⟨10, .data⟩, by simp, rfl, rfl⟩)
        have y44 : aX.eval (.tmp 44) = .int .i64 (B : Int) := (hpre 12 _ rfl ⟨⟨12, .data⟩, by simp, rfl, rfl⟩)
        refine st_run (want_some rfl rfl rfl (hpre 8 _ rfl ⟨⟨8, .guard⟩, by simp, rfl, rfl⟩)) (.bool true) (w' := u) ?_ (hK _ _ rfl rf)
        simp only [execOp, y42, y44]
        go_simp
      · obtain rfl := Option.some.inj ho
        exact st_pick (.tmp 40) (.tmp 45) (.const (.bool false)) rfl (want_none rfl) true (hpre 8 _ rfl ⟨⟨8, .data⟩, by simp, rfl, rfl⟩) _ ((if_pos rfl).trans (hpre 13 _ rfl ⟨⟨13, .data⟩, by simp, rfl, rfl⟩)) (hK _ _ rfl rf)
      · obtain rfl := Option.some.inj ho
        exact st_move (.tmp 46) rfl (want_none rfl) _ (hpre 14 _ rfl ⟨⟨14, .data⟩, by simp, rfl, rfl⟩) (hK _ _ rfl rf)
      · obtain rfl := Option.some.inj ho
        have y3 : aX.eval (.tmp 3) = .pointer (some ⟨w.heap.size, 0, none⟩) := e3
        refine st_run (want_some rfl rfl rfl (hpre 15 _ rfl ⟨⟨15, .guard⟩, by simp, rfl, rfl⟩)) (.pointer (some ⟨w.heap.size, 0, none⟩)) (w' := u) ?_ (hK _ _ rfl rf)
        simp only [execOp, y3]
        go_simp
      · obtain rfl := Option.some.inj ho
        have y48 : aX.eval (.tmp 48) = .pointer (some ⟨w.heap.size, 0, none⟩) := (hpre 16 _ rfl ⟨⟨16, .data⟩, by simp, rfl, rfl⟩)
        refine st_run (want_some rfl rfl rfl (hpre 15 _ rfl ⟨⟨15, .guard⟩, by simp, rfl, rfl⟩)) (.int .i64 (s : Int)) (w' := u) ?_ (hK _ _ rfl rf)
        simp only [execOp, y48]
        go_simp
      · obtain rfl := Option.some.inj ho
        have y3 : aX.eval (.tmp 3) = .pointer (some ⟨w.heap.size, 0, none⟩) := e3
        refine st_run (want_some rfl rfl rfl (hpre 15 _ rfl ⟨⟨15, .guard⟩, by simp, rfl, rfl⟩)) (.pointer (some ⟨w.heap.size, 2, none⟩)) (w' := u) ?_ (hK _ _ rfl rf)
        simp only [execOp, y3]
        go_simp
      · obtain rfl := Option.some.inj ho
        have y50 : aX.eval (.tmp 50) = .pointer (some ⟨w.heap.size, 2, none⟩) := (hpre 18 _ rfl ⟨⟨18, .data⟩, by simp, rfl, rfl⟩)
        refine st_run (want_some rfl rfl rfl (hpre 15 _ rfl ⟨⟨15, .guard⟩, by simp, rfl, rfl⟩)) (.slice A nA cA) (w' := u) ?_ (hK _ _ rfl rf)
        simp only [execOp, y50]
        go_simp
      · obtain rfl := Option.some.inj ho
        exact st_move (.tmp 9) rfl (want_some rfl rfl rfl (hpre 15 _ rfl ⟨⟨15, .guard⟩, by simp, rfl, rfl⟩)) _ e9 (hK _ _ rfl rf)
      · obtain rfl := Option.some.inj ho
        have x0 : aX.eval (.tmp 49) = .int .i64 (s : Int) := (hpre 17 _ rfl ⟨⟨17, .data⟩, by simp, rfl, rfl⟩)
        have x1 : aX.eval (.tmp 51) = .slice A nA cA := (hpre 19 _ rfl ⟨⟨19, .data⟩, by simp, rfl, rfl⟩)
        have x2 : aX.eval (.tmp 52) = .slice A1 B c1' := (hpre 20 _ rfl ⟨⟨20, .data⟩, by simp, rfl, rfl⟩)
        exact st_callN 22 _ _ rfl (want_some rfl rfl rfl (hpre 15 _ rfl ⟨⟨15, .guard⟩, by simp, rfl, rfl⟩)) #[.int .i64 (s : Int), .slice A nA cA, .slice A1 B c1'] (by simp [x0, x1, x2]) (by kernel_rfl) _ (HDG1.out u hr) (fun e u' ⟨A9, c9, he, hrd, _, _, _, hb⟩ => ⟨_, he, hK _ _ ⟨A9, c9, rfl, hrd⟩ hb⟩)
      · obtain rfl := Option.some.inj ho
        obtain ⟨A9, c9, e9, h9⟩ := (hpre 21 _ rfl ⟨⟨21, .data⟩, by simp, rfl, rfl⟩)
        exact st_conv (.tmp 53) rfl (want_some rfl rfl rfl (hpre 15 _ rfl ⟨⟨15, .guard⟩, by simp, rfl, rfl⟩)) _ _ _ _ e9 h9 (hK _ _ rfl rf)
      · obtain rfl := Option.some.inj ho
        have y3 : aX.eval (.tmp 3) = .pointer (some ⟨w.heap.size, 0, none⟩) := e3
        refine st_run (want_some rfl rfl rfl (hpre 15 _ rfl ⟨⟨15, .guard⟩, by simp, rfl, rfl⟩)) (.pointer (some ⟨w.heap.size, 0, none⟩)) (w' := u) ?_ (hK _ _ rfl rf)
        simp only [execOp, y3]
        go_simp
      · obtain rfl := Option.some.inj ho
        have y55 : aX.eval (.tmp 55) = .pointer (some ⟨w.heap.size, 0, none⟩) := (hpre 23 _ rfl ⟨⟨23, .data⟩, by simp, rfl, rfl⟩)
        refine st_run (want_some rfl rfl rfl (hpre 15 _ rfl ⟨⟨15, .guard⟩, by simp, rfl, rfl⟩)) (.int .i64 (s : Int)) (w' := u) ?_ (hK _ _ rfl rf)
        simp only [execOp, y55]
        go_simp
      · obtain rfl := Option.some.inj ho
        have y3 : aX.eval (.tmp 3) = .pointer (some ⟨w.heap.size, 0, none⟩) := e3
        refine st_run (want_some rfl rfl rfl (hpre 15 _ rfl ⟨⟨15, .guard⟩, by simp, rfl, rfl⟩)) (.pointer (some ⟨w.heap.size, 2, none⟩)) (w' := u) ?_ (hK _ _ rfl rf)
        simp only [execOp, y3]
        go_simp
      · obtain rfl := Option.some.inj ho
        have y57 : aX.eval (.tmp 57) = .pointer (some ⟨w.heap.size, 2, none⟩) := (hpre 25 _ rfl ⟨⟨25, .data⟩, by simp, rfl, rfl⟩)
        refine st_run (want_some rfl rfl rfl (hpre 15 _ rfl ⟨⟨15, .guard⟩, by simp, rfl, rfl⟩)) (.slice A nA cA) (w' := u) ?_ (hK _ _ rfl rf)
        simp only [execOp, y57]
        go_simp
      · obtain rfl := Option.some.inj ho
        exact st_move (.tmp 10) rfl (want_some rfl rfl rfl (hpre 15 _ rfl ⟨⟨15, .guard⟩, by simp, rfl, rfl⟩)) _ e10 (hK _ _ rfl rf)
      · obtain rfl := Option.some.inj ho
        have x0 : aX.eval (.tmp 56) = .int .i64 (s : Int) := (hpre 24 _ rfl ⟨⟨24, .data⟩, by simp, rfl, rfl⟩)
        have x1 : aX.eval (.tmp 58) = .slice A nA cA := (hpre 26 _ rfl ⟨⟨26, .data⟩, by simp, rfl, rfl⟩)
        have x2 : aX.eval (.tmp 59) = .slice A2 B c2' := (hpre 27 _ rfl ⟨⟨27, .data⟩, by simp, rfl, rfl⟩)
        exact st_callN 22 _ _ rfl (want_some rfl rfl rfl (hpre 15 _ rfl ⟨⟨15, .guard⟩, by simp, rfl, rfl⟩)) #[.int .i64 (s : Int), .slice A nA cA, .slice A2 B c2'] (by simp [x0, x1, x2]) (by kernel_rfl) _ (HDG2.out u hr) (fun e u' ⟨A9, c9, he, hrd, _, _, _, hb⟩ => ⟨_, he, hK _ _ ⟨A9, c9, rfl, hrd⟩ hb⟩)
      · obtain rfl := Option.some.inj ho
        obtain ⟨A9, c9, e9, h9⟩ := (hpre 28 _ rfl ⟨⟨28, .data⟩, by simp, rfl, rfl⟩)
        exact st_conv (.tmp 60) rfl (want_some rfl rfl rfl (hpre 15 _ rfl ⟨⟨15, .guard⟩, by simp, rfl, rfl⟩)) _ _ _ _ e9 h9 (hK _ _ rfl rf)
      · obtain rfl := Option.some.inj ho
        have y54 : aX.eval (.tmp 54) = .string (str Zd) := (hpre 22 _ rfl ⟨⟨22, .data⟩, by simp, rfl, rfl⟩)
        have y61 : aX.eval (.tmp 61) = .string (str Zd) := (hpre 29 _ rfl ⟨⟨29, .data⟩, by simp, rfl, rfl⟩)
        refine st_run (want_some rfl rfl rfl (hpre 15 _ rfl ⟨⟨15, .guard⟩, by simp, rfl, rfl⟩)) (.bool true) (w' := u) ?_ (hK _ _ rfl rf)
        simp only [execOp, y54, y61]
        go_simp
      · obtain rfl := Option.some.inj ho
        exact st_pick (.tmp 47) (.tmp 62) (.const (.bool false)) rfl (want_none rfl) true (hpre 15 _ rfl ⟨⟨15, .data⟩, by simp, rfl, rfl⟩) _ ((if_pos rfl).trans (hpre 30 _ rfl ⟨⟨30, .data⟩, by simp, rfl, rfl⟩)) (hK _ _ rfl rf)
      · obtain rfl := Option.some.inj ho
        exact st_assign (.tmp 63) rfl (want_none rfl) _ (hpre 31 _ rfl ⟨⟨31, .data⟩, by simp, rfl, rfl⟩) (hK _ _ rfl rf)
      · cases ho
    case d3 =>
      intro aX u hr hk hv
      have h6 := hv 32 _ rfl
      refine hKx aX u (wp_ret (bodyPost_ret (results_tmp rfl _ _ _) hk.defers ⟨?_, below_then BEL5.out hr⟩))
      exact congrArg Ending.returned h6
theorem blk_turned (H : List Nat → List Nat) {B a n : Nat} {data data' : List Nat} (hB : 0 < B) {p x y : Nat} (h1 : data[p]? = some x) (h2 : data'[p]? = some y) (hne : x ≠ y) : blk H B a n data 0 (p / B) ≠ blk H B a n data' 0 (p / B) := by
  have hm := Nat.mod_lt p hB
  have hd : p / B * B + p % B = p := by rw [Nat.mul_comm]; exact Nat.div_add_mod p B
  have key : ∀ (l : List Nat) (v : Nat), l[p]? = some v → (blk H B a n l 0 (p / B))[p % B]? = some v := by
    intro l v hv
    have hp := (List.getElem?_eq_some_iff.1 hv).1
    rw [blk, pad, List.getElem?_append_left (by rw [List.length_take, List.length_drop]; omega), List.getElem?_take, if_pos hm, List.getElem?_drop, hd]
    exact hv
  intro e
  have k1 := key data x h1
  rw [e, key data' y h2] at k1
  injection k1 with k1
  exact hne k1.symm
theorem cell_far {w : World} {x y i j : Nat} {v : Value} (h : x ≠ y) : (w.setCell ⟨y, i, none⟩ v).cell? ⟨x, j, none⟩ = w.cell? ⟨x, j, none⟩ := World.cell?_setCell_other w _ _ v (fun e => h (by injection e with e1; exact e1.symm))
set_option maxHeartbeats 16000000 in
theorem turned_walk (z b : Int) (A : Option Addr) (nA cA : Nat) (salt : List Nat) (Ad : Option Addr) (nd cd : Nat) (data : List Nat) (at_ x : Int) (w : World) (hz : I64 z) (hb : I64 b) (hs : Bs w A nA cA salt) (hd : Bs w Ad nd cd data) (hat : I64 at_) (hx : I64 x) (ht : Both w) : Calls Tryd.prog 8 #[.agg #[.int .i64 z, .int .i64 b, .slice A nA cA, .slice Ad nd cd], .int .i64 at_, .int .i64 x] w fun e w' => e = .returned (.bool true) ∧ Below w.heap.size w w' := by
  obtain ⟨D, hDD⟩ : ∃ D, sizeOfAlg z = D := ⟨_, rfl⟩
  have HDD := Lib.hid hDD
  have HZ := Lib.hid hz
  have HIB := Lib.hid hb
  have HB1 : Hid (Below w.heap.size w (w.alloc (.cells #[.int .i64 z, .int .i64 b, .slice A nA cA, .slice Ad nd cd] 24))) := (Below.refl _ _).alloc (Nat.le_refl _) _
  have HK := Lib.hid (Blk.new w 24 [.int .i64 z, .int .i64 b, .slice A nA cA, .slice Ad nd cd])
  have HS0 := Lib.hid hs
  have HD0 := Lib.hid hd
  have HTB := Lib.hid ht
  clear hDD hz hb hs hd ht
  go_enter Tryd.func8, Tryd.ntmps8
  go_wp2_with fail
  generalize w.alloc (.cells #[.int .i64 z, .int .i64 b, .slice A nA cA, .slice Ad nd cd] 24) = W at *
  refine (anchor9_any W (HTB.out.below HB1.out)).mono ?_
  rintro e w1 ⟨rfl, hb1⟩
  have BK1 := Lib.hid (HK.out.below hb1 HK.out.lt)
  have BEL1 := Lib.hid (below_then HB1.out hb1)
  have c10 : w1.cell? ⟨w.heap.size, 0, none⟩ = some (.int .i64 z) := BK1.out.cell 0
  have c11 : w1.cell? ⟨w.heap.size, 1, none⟩ = some (.int .i64 b) := BK1.out.cell 1
  have c12 : w1.cell? ⟨w.heap.size, 2, none⟩ = some (.slice A nA cA) := BK1.out.cell 2
  have c13 : w1.cell? ⟨w.heap.size, 3, none⟩ = some (.slice Ad nd cd) := BK1.out.cell 3
  clear hb1
  go_wp2_with fail
  refine (shape9_any z b A nA cA Ad nd cd D HDD.out w1).mono ?_
  obtain ⟨ok, hok⟩ : ∃ ok, decide (Rgt nd b D ∧ nA ≤ 64) = ok := ⟨_, rfl⟩
  rw [hok]
  have HOK := Lib.hid hok
  clear hok
  rintro e w2 ⟨rfl, hb2⟩
  have BK2 := Lib.hid (BK1.out.below hb2 BK1.out.lt)
  have BEL2 := Lib.hid (below_then BEL1.out hb2)
  have c20 : w2.cell? ⟨w.heap.size, 0, none⟩ = some (.int .i64 z) := BK2.out.cell 0
  have c21 : w2.cell? ⟨w.heap.size, 1, none⟩ = some (.int .i64 b) := BK2.out.cell 1
  have c22 : w2.cell? ⟨w.heap.size, 2, none⟩ = some (.slice A nA cA) := BK2.out.cell 2
  have c23 : w2.cell? ⟨w.heap.size, 3, none⟩ = some (.slice Ad nd cd) := BK2.out.cell 3
  clear hb2 c10 c11 c12 c13
  have hb3 : Below w2.heap.size w2 (w2.alloc (.cells #[.int .i64 (nd : Int), .int .i64 b, .int .i64 (D : Int)] 32)) := (Below.refl _ _).alloc (Nat.le_refl _) _
  have hsb := Blk.new w2 32 [.int .i64 (nd : Int), .int .i64 b, .int .i64 (D : Int)]
  have d30 : (w2.alloc (.cells #[.int .i64 (nd : Int), .int .i64 b, .int .i64 (D : Int)] 32)).cell? ⟨w.heap.size, 0, none⟩ = some (.int .i64 z) := (BK2.out.below hb3 BK2.out.lt).cell 0
  have d31 : (w2.alloc (.cells #[.int .i64 (nd : Int), .int .i64 b, .int .i64 (D : Int)] 32)).cell? ⟨w.heap.size, 1, none⟩ = some (.int .i64 b) := (BK2.out.below hb3 BK2.out.lt).cell 1
  have d32 : (w2.alloc (.cells #[.int .i64 (nd : Int), .int .i64 b, .int .i64 (D : Int)] 32)).cell? ⟨w.heap.size, 2, none⟩ = some (.slice A nA cA) := (BK2.out.below hb3 BK2.out.lt).cell 2
  have d33 : (w2.alloc (.cells #[.int .i64 (nd : Int), .int .i64 b, .int .i64 (D : Int)] 32)).cell? ⟨w.heap.size, 3, none⟩ = some (.slice Ad nd cd) := (BK2.out.below hb3 BK2.out.lt).cell 3
  have HB3 := Lib.hid hb3
  have HSB := Lib.hid hsb
  clear hb3 hsb c20 c21 c22 c23
  go_wp2_with fail
  have hb3 := HB3.out
  have hsb := HSB.out
  clear HB3 HSB d30 d31 d32 d33
  generalize w2.alloc (.cells #[.int .i64 (nd : Int), .int .i64 b, .int .i64 (D : Int)] 32) = w3 at *
  obtain ⟨g, hg⟩ : ∃ g, w2.heap.size = g := ⟨_, rfl⟩
  have SB3 : Hid (Blk w3 g 32 [.int .i64 (nd : Int), .int .i64 b, .int .i64 (D : Int)]) := by rw [← hg]; exact hsb
  have BK3 := Lib.hid (BK2.out.below hb3 BK2.out.lt)
  have BEL3 := Lib.hid (below_then BEL2.out hb3)
  rw [hg]
  clear hb3 hsb hg
  refine (small_any z b A nA cA Ad nd cd w3).mono ?_
  obtain ⟨sm, hsm⟩ : ∃ sm, decide (nA ≤ 100 ∧ nd ≤ 1500) = sm := ⟨_, rfl⟩
  rw [hsm]
  rintro e w4 ⟨rfl, hb4⟩
  have BK4 := Lib.hid (BK3.out.below hb4 BK3.out.lt)
  have BEL4 := Lib.hid (below_then BEL3.out hb4)
  have SB4 := Lib.hid (SB3.out.below hb4 SB3.out.lt)
  have c40 : w4.cell? ⟨w.heap.size, 0, none⟩ = some (.int .i64 z) := BK4.out.cell 0
  have c41 : w4.cell? ⟨w.heap.size, 1, none⟩ = some (.int .i64 b) := BK4.out.cell 1
  have c42 : w4.cell? ⟨w.heap.size, 2, none⟩ = some (.slice A nA cA) := BK4.out.cell 2
  have c43 : w4.cell? ⟨w.heap.size, 3, none⟩ = some (.slice Ad nd cd) := BK4.out.cell 3
  have s40 : w4.cell? ⟨g, 0, none⟩ = some (.int .i64 (nd : Int)) := SB4.out.cell 0
  have s41 : w4.cell? ⟨g, 1, none⟩ = some (.int .i64 b) := SB4.out.cell 1
  have s42 : w4.cell? ⟨g, 2, none⟩ = some (.int .i64 (D : Int)) := SB4.out.cell 2
  clear hb4
  cases sm
  · go_wp2
    go_ret
    exact ⟨rfl, BEL4.out⟩
  have hsm2 := of_decide_eq_true hsm
  have HSM := Lib.hid hsm2
  clear hsm hsm2
  cases ok
  · go_wp2
    go_ret
    exact ⟨rfl, BEL4.out⟩
  obtain ⟨hR, h64⟩ : Rgt nd b D ∧ nA ≤ 64 := of_decide_eq_true HOK.out
  by_cases hi0 : at_ < 0
  · go_wp2
    go_ret
    exact ⟨rfl, BEL4.out⟩
  obtain ⟨p, rfl⟩ : ∃ p : Nat, at_ = p := ⟨at_.toNat, by omega⟩
  by_cases hp0 : nd ≤ p
  · have zp : (nd : Int) ≤ p := by omega
    go_wp2
    go_ret
    exact ⟨rfl, BEL4.out⟩
  have zp : ¬ (nd : Int) ≤ p := by omega
  by_cases hx1 : x < 1
  · go_wp2
    go_ret
    exact ⟨rfl, BEL4.out⟩
  by_cases hx2 : 255 < x
  · go_wp2
    go_ret
    exact ⟨rfl, BEL4.out⟩
  obtain ⟨yb, rfl⟩ : ∃ y : Nat, x = y := ⟨x.toNat, by omega⟩
  obtain ⟨s, rfl, hs12⟩ : ∃ s : Nat, z = s ∧ (s = 1 ∨ s = 2) := algYes (by rw [HDD.out]; obtain ⟨_, _, h, _⟩ := hR; omega)
  obtain ⟨S, B, D', a, n, eS, rfl, eD, hShp⟩ := hR.shp
  obtain rfl : nd = S := by omega
  obtain rfl : D = D' := by omega
  obtain ⟨m, hm⟩ : ∃ m, (cs a n).length = m := ⟨_, rfl⟩
  have HM := Lib.hid hm
  have HSHP := Lib.hid hShp
  have HS12 := Lib.hid hs12
  have hdig : sizeOfAlg (s : Int) = D := HDD.out
  have HDIG := Lib.hid hdig
  have hplt : p < nd := by omega
  have hb := hShp.b
  obtain ⟨o, ho⟩ : ∃ o, data[p]? = some o := get_some (by rw [HD0.out.rd.1]; exact hplt)
  have hob : o < 256 := HD0.out.fit.get ho
  obtain ⟨v, hv⟩ : ∃ v, o ^^^ yb = v := ⟨_, rfl⟩
  have hvb : v < 256 := by rw [← hv]; exact Nat.xor_lt_two_pow (n := 8) hob (by omega)
  have hxo : bits .xor .u8 (o : Int) (yb : Int) = (v : Int) := by rw [← hv]; exact u8_xor_nat o yb hob (by omega)
  have hvo : v ≠ o := by rw [← hv]; exact xor_ne (by omega)
  have hnd1 : 1 ≤ nd := by omega
  have hsm3 := HSM.out
  have HOo := Lib.hid ho
  have HVO := Lib.hid hvo
  clear hm hShp hs12 hR eS eD hdig ho hv hvo hp0
  have hwz : IntKind.u8.wrap (yb : Int) = (yb : Int) := by simp only [IntKind.wrap, IntKind.bits, IntKind.signed]; simp; omega
  -- the copy of the seed, and its own data
  have hb5 : Below w4.heap.size w4 (w4.alloc (.cells #[.int .i64 (s : Int), .int .i64 (B : Int), .slice A nA cA, .slice Ad nd cd] 24)) := (Below.refl _ _).alloc (Nat.le_refl _) _
  have HTB5 := Lib.hid (Blk.new w4 24 [.int .i64 (s : Int), .int .i64 (B : Int), .slice A nA cA, .slice Ad nd cd])
  have HB5 := Lib.hid hb5
  have HEMP : Hid (Row ((w4.alloc (.cells #[.int .i64 (s : Int), .int .i64 (B : Int), .slice A nA cA, .slice Ad nd cd] 24)).alloc (.cells #[] 5)) (w4.heap.size + 1) 5 (some ⟨w4.heap.size + 1, 0, none⟩) 0 0 (cn .u8 [])) := by
    have := own_empty (w4.alloc (.cells #[.int .i64 (s : Int), .int .i64 (B : Int), .slice A nA cA, .slice Ad nd cd] 24)) 5
    rwa [World.size_alloc] at this
  have HRD5 : Hid (Rd .u8 ((w4.alloc (.cells #[.int .i64 (s : Int), .int .i64 (B : Int), .slice A nA cA, .slice Ad nd cd] 24)).alloc (.cells #[] 5)) Ad nd data) := ((HD0.out.rd.below BEL4.out).below hb5).below ((Below.refl _ _).alloc (Nat.le_refl _) _)
  have hb56 : Below (w4.heap.size + 1) (w4.alloc (.cells #[.int .i64 (s : Int), .int .i64 (B : Int), .slice A nA cA, .slice Ad nd cd] 24)) ((w4.alloc (.cells #[.int .i64 (s : Int), .int .i64 (B : Int), .slice A nA cA, .slice Ad nd cd] 24)).alloc (.cells #[] 5)) := (Below.refl _ _).alloc (by simp) _
  have HB56 := Lib.hid hb56
  have e53 : ((w4.alloc (.cells #[.int .i64 (s : Int), .int .i64 (B : Int), .slice A nA cA, .slice Ad nd cd] 24)).alloc (.cells #[] 5)).cell? ⟨w.heap.size, 3, none⟩ = some (.slice Ad nd cd) := ((BK4.out.alloc _).alloc _).cell 3
  clear hb5 hb56
  go_wp2_with (first
    | ((with_reducible refine at_dst (some 51) ?_); refine wpList_appBs (o := ⟨some 51, _, _, _, _, _⟩) rfl (.tmp 48) (.tmp 50) rfl HB56.out (by simp) rfl HEMP.out rfl HRD5.out hnd1 (by omega) nd (by omega) ?_; intro A6 c6 w6 HRow6 hb6 hle6 HG6; obtain ⟨g6, rfl, hg6, hlt6, hcs6⟩ := HRow6.out.cells (by omega); have hk6 := HTB5.out.below hb6 (Nat.lt_succ_self _); have HK6 := Lib.hid hk6; have HBB6 := Lib.hid hb6; have t63 := hk6.cell 3; have tf6 := hk6.frozen 3; have hne6 : g6 ≠ w4.heap.size := (by omega); have o6 := hcs6 p _ (cn_get HOo.out); have of6 : w6.frozen? ⟨g6, p, none⟩ = false := HRow6.out.fz p; have o7 : (w6.setCell ⟨w4.heap.size, 3, none⟩ (.slice (some ⟨g6, 0, none⟩) nd c6)).cell? ⟨g6, p, none⟩ = some (.int .u8 (o : Int)) := (cell_far hne6).trans o6; have of7 : (w6.setCell ⟨w4.heap.size, 3, none⟩ (.slice (some ⟨g6, 0, none⟩) nd c6)).frozen? ⟨g6, p, none⟩ = false := (by rw [World.frozen?_setCell]; exact of6); have lw4 : w.heap.size < w4.heap.size := BK4.out.lt; have k6 := ((BK4.out.below HB5.out BK4.out.lt).below hb6 (by omega)); have k60 : ((w6.setCell ⟨w4.heap.size, 3, none⟩ (.slice (some ⟨g6, 0, none⟩) nd c6)).setCell ⟨g6, p, none⟩ (.int .u8 (v : Int))).cell? ⟨w.heap.size, 0, none⟩ = some (.int .i64 (s : Int)) := (cell_far (by omega)).trans ((cell_far (by omega)).trans (k6.cell 0)); have k61 : ((w6.setCell ⟨w4.heap.size, 3, none⟩ (.slice (some ⟨g6, 0, none⟩) nd c6)).setCell ⟨g6, p, none⟩ (.int .u8 (v : Int))).cell? ⟨w.heap.size, 1, none⟩ = some (.int .i64 (B : Int)) := (cell_far (by omega)).trans ((cell_far (by omega)).trans (k6.cell 1)); have k62 : ((w6.setCell ⟨w4.heap.size, 3, none⟩ (.slice (some ⟨g6, 0, none⟩) nd c6)).setCell ⟨g6, p, none⟩ (.int .u8 (v : Int))).cell? ⟨w.heap.size, 2, none⟩ = some (.slice A nA cA) := (cell_far (by omega)).trans ((cell_far (by omega)).trans (k6.cell 2)); have k63 : ((w6.setCell ⟨w4.heap.size, 3, none⟩ (.slice (some ⟨g6, 0, none⟩) nd c6)).setCell ⟨g6, p, none⟩ (.int .u8 (v : Int))).cell? ⟨w.heap.size, 3, none⟩ = some (.slice Ad nd cd) := (cell_far (by omega)).trans ((cell_far (by omega)).trans (k6.cell 3)); clear k6 hb6 hle6 HG6 hcs6 hk6 hlt6))
  have F7 : Below w4.heap.size w4 ((w6.setCell ⟨w4.heap.size, 3, none⟩ (.slice (some ⟨g6, 0, none⟩) nd c6)).setCell ⟨g6, p, none⟩ (.int .u8 (v : Int))) ∧ Blk ((w6.setCell ⟨w4.heap.size, 3, none⟩ (.slice (some ⟨g6, 0, none⟩) nd c6)).setCell ⟨g6, p, none⟩ (.int .u8 (v : Int))) w4.heap.size 24 [.int .i64 (s : Int), .int .i64 (B : Int), .slice A nA cA, .slice (some ⟨g6, 0, none⟩) nd c6] ∧ Row ((w6.setCell ⟨w4.heap.size, 3, none⟩ (.slice (some ⟨g6, 0, none⟩) nd c6)).setCell ⟨g6, p, none⟩ (.int .u8 (v : Int))) (w4.heap.size + 1) 5 (some ⟨g6, 0, none⟩) nd c6 (cn .u8 (data.set p v)) := by
    refine ⟨?_, ?_, ?_⟩
    · exact ((HB5.out.trans (HBB6.out.mono (by simp))).setCell (p := ⟨w4.heap.size, 3, none⟩) (Nat.le_refl _) _).setCell (p := ⟨g6, p, none⟩) (by simp only; omega) _
    · exact (HK6.out.set_ 3 (.slice (some ⟨g6, 0, none⟩) nd c6)).far (p := ⟨g6, p, none⟩) (by simp only; omega) _
    · exact (HRow6.out.setFar (p := ⟨w4.heap.size, 3, none⟩) (by simp only; omega) _).put p v
  generalize (w6.setCell ⟨w4.heap.size, 3, none⟩ (.slice (some ⟨g6, 0, none⟩) nd c6)).setCell ⟨g6, p, none⟩ (.int .u8 (v : Int)) = w7 at *
  obtain ⟨hb7, htb7, hrow7⟩ := F7
  have BEL7 := Lib.hid (BEL4.out.trans (hb7.mono BEL4.out.size))
  have BK7 := Lib.hid (BK4.out.below hb7 BK4.out.lt)
  have TB7 := Lib.hid htb7
  have HDN7 : Hid (Bs w7 (some ⟨g6, 0, none⟩) nd c6 (data.set p v)) := ⟨hrow7.rd, HD0.out.fit.set p v hvb, hrow7.le.1, hrow7.le.2, fun e => by cases e⟩
  have HOV : Hid (∀ u : World, Below w.heap.size w u → Over u s nd B D a n A nA cA Ad cd salt data) := fun u hu => ⟨HSHP.out, HS12.out, HDIG.out, HS0.out.rd.below hu, HS0.out.fit, HS0.out.nil, by omega, HD0.out.rd.below hu, HD0.out.fit, HD0.out.le⟩
  have HOV' : Hid (∀ u : World, Below w7.heap.size w7 u → Over u s nd B D a n A nA cA (some ⟨g6, 0, none⟩) c6 salt (data.set p v)) := fun u hu => ⟨HSHP.out, HS12.out, HDIG.out, (HS0.out.rd.below BEL7.out).below hu, HS0.out.fit, HS0.out.nil, by omega, HDN7.out.rd.below hu, HDN7.out.fit, HDN7.out.le⟩
  obtain ⟨h, hh⟩ : ∃ h, w4.heap.size = h := ⟨_, rfl⟩
  rw [hh] at TB7 ⊢
  clear k60 k61 k62 k63 hb7 htb7 hrow7 hh t63 tf6 o6 of6 o7 of7 c40 c41 c42 c43 s40 s41 s42 e53 HK6 HBB6 HRow6 HB5 HB56 HTB5 HEMP HRD5
  obtain ⟨R1, hR1⟩ : ∃ R, hsh s salt (blk (hsh s salt) B a n data (m - 1) 0) = R := ⟨_, rfl⟩
  obtain ⟨R2, hR2⟩ : ∃ R, hsh s salt (blk (hsh s salt) B a n (data.set p v) (m - 1) 0) = R := ⟨_, rfl⟩
  have HR1 := Lib.hid hR1
  have HR2 := Lib.hid hR2
  have c70 : w7.cell? ⟨w.heap.size, 0, none⟩ = some (.int .i64 (s : Int)) := BK7.out.cell 0
  have c71 : w7.cell? ⟨w.heap.size, 1, none⟩ = some (.int .i64 (B : Int)) := BK7.out.cell 1
  have c72 : w7.cell? ⟨w.heap.size, 2, none⟩ = some (.slice A nA cA) := BK7.out.cell 2
  have c73 : w7.cell? ⟨w.heap.size, 3, none⟩ = some (.slice Ad nd cd) := BK7.out.cell 3
  refine (Root_ok s nd B D a n A nA cA Ad cd salt data w7 m (HOV.out w7 BEL7.out) (HS0.out.below BEL7.out) (HD0.out.below BEL7.out) h64 (by omega) (HTB.out.below BEL7.out) HM.out).mono ?_
  rw [hR1]
  clear hR1 hR2
  rintro e w8 ⟨A8, c8, rfl, hB8, hb8⟩
  have BEL8 := Lib.hid (below_then BEL7.out hb8)
  have BK8 := Lib.hid (BK7.out.below hb8 BK7.out.lt)
  have TB8 := Lib.hid (TB7.out.below hb8 TB7.out.lt)
  have HB8 := Lib.hid hB8
  have HB78 := Lib.hid hb8
  have t80 : w8.cell? ⟨h, 0, none⟩ = some (.int .i64 (s : Int)) := TB8.out.cell 0
  have t81 : w8.cell? ⟨h, 1, none⟩ = some (.int .i64 (B : Int)) := TB8.out.cell 1
  have t82 : w8.cell? ⟨h, 2, none⟩ = some (.slice A nA cA) := TB8.out.cell 2
  have t83 : w8.cell? ⟨h, 3, none⟩ = some (.slice (some ⟨g6, 0, none⟩) nd c6) := TB8.out.cell 3
  clear c70 c71 c72 c73 hB8 hb8
  go_wp2_with fail
  refine (Root_ok s nd B D a n A nA cA (some ⟨g6, 0, none⟩) c6 salt (data.set p v) w8 m (HOV'.out w8 HB78.out) (HS0.out.below BEL8.out) (HDN7.out.below HB78.out) h64 (by omega) (HTB.out.below BEL8.out) HM.out).mono ?_
  rw [HR2.out]
  rintro e w9 ⟨A9, c9, rfl, hB9, hb9⟩
  have BEL9 := Lib.hid (below_then BEL8.out hb9)
  have BK9 := Lib.hid (BK8.out.below hb9 BK8.out.lt)
  have TB9 := Lib.hid (TB8.out.below hb9 TB8.out.lt)
  have HB9 := Lib.hid hB9
  have HB89 := Lib.hid (HB8.out.below hb9)
  have HB79 := Lib.hid (below_then HB78.out hb9)
  have LW := Lib.hid BK9.out.lt
  have LT := Lib.hid TB9.out.lt
  have c90 : w9.cell? ⟨w.heap.size, 0, none⟩ = some (.int .i64 (s : Int)) := BK9.out.cell 0
  have c91 : w9.cell? ⟨w.heap.size, 1, none⟩ = some (.int .i64 (B : Int)) := BK9.out.cell 1
  have c92 : w9.cell? ⟨w.heap.size, 2, none⟩ = some (.slice A nA cA) := BK9.out.cell 2
  have c93 : w9.cell? ⟨w.heap.size, 3, none⟩ = some (.slice Ad nd cd) := BK9.out.cell 3
  have t90 : w9.cell? ⟨h, 0, none⟩ = some (.int .i64 (s : Int)) := TB9.out.cell 0
  have t91 : w9.cell? ⟨h, 1, none⟩ = some (.int .i64 (B : Int)) := TB9.out.cell 1
  have t92 : w9.cell? ⟨h, 2, none⟩ = some (.slice A nA cA) := TB9.out.cell 2
  have t93 : w9.cell? ⟨h, 3, none⟩ = some (.slice (some ⟨g6, 0, none⟩) nd c6) := TB9.out.cell 3
  clear t80 t81 t82 t83 hB9 hb9
  by_cases hrr : R1 = R2
  · subst hrr
    have hfr1 : Fit 256 R1 := by rw [← HR1.out]; exact hsh_fit _ _ _
    have es : ((str R1).toList == (str R1).toList) = true := by simp
    obtain ⟨k, hk⟩ : ∃ k, p / B = k := ⟨_, rfl⟩
    have hkn : k < n := by
      rw [← hk]
      obtain ⟨k1, k2⟩ := up_spec (a := nd) (b := B) (by omega)
      rw [HSHP.out.low] at k1
      exact (Nat.div_lt_iff_lt_mul (by omega)).2 (by omega)
    have hbne : blk (hsh s salt) B a n data 0 k ≠ blk (hsh s salt) B a n (data.set p v) 0 k := by
      rw [← hk]
      have hl : p < data.length := by rw [HD0.out.rd.1]; exact hplt
      exact blk_turned (hsh s salt) (by omega) HOo.out (by simp [hl]) (fun e => HVO.out e.symm)
    have HPR : Hid (∀ u, Below w9.heap.size w9 u → Calls Tryd.prog 25 #[.agg #[.int .i64 (s : Int), .int .i64 (B : Int), .slice A nA cA, .slice Ad nd cd], .agg #[.int .i64 (s : Int), .int .i64 (B : Int), .slice A nA cA, .slice (some ⟨g6, 0, none⟩) nd c6], .int .i64 (k : Int)] u fun e w' => e = .returned (.bool true) ∧ Below u.heap.size u w') := fun u hu => pair_any s nd B D a n k m A nA cA Ad cd (some ⟨g6, 0, none⟩) c6 salt data (data.set p v) R1 u HS12.out HDIG.out (HOV.out u (below_then BEL9.out hu)) (HOV'.out u (below_then HB79.out hu)) h64 ((HS0.out.below BEL9.out).below hu) hkn HM.out HR1.out HR2.out hbne
    have hkz : (p : Int).tdiv (B : Int) = (k : Int) := by rw [Int.tdiv_eq_ediv_of_nonneg (by omega), ← hk]; rfl
    have hB0 : ¬ (B : Int) = 0 := by omega
    have hB00 : ¬ B = 0 := by omega
    have hkz2 : (p : Int) / (B : Int) = (k : Int) := by rw [← hk]; rfl
    have hkp : k ≤ p := by rw [← hk]; exact Nat.div_le_self _ _
    have hwk : IntKind.i64.wrap (k : Int) = (k : Int) := by rw [IntKind.wrap_i64]; omega
    clear hk hbne
    go_wp2
    rename_i hKx
    refine wp_region_eachW (by kernel_rfl) (by kernel_rfl) (fun u u' => Below u.heap.size u u') (fun iX v u => match iX with
        | 0 => v = .slice A8 D c8
        | 1 => v = .string (str R1)
        | 2 => v = .slice A9 D c9
        | 3 => v = .string (str R1)
        | 4 => v = .bool false
        | 5 => v = .bool false
        | 6 => v = .agg #[.int .i64 (s : Int), .int .i64 (B : Int), .slice A nA cA, .slice Ad nd cd]
        | 7 => v = .agg #[.int .i64 (s : Int), .int .i64 (B : Int), .slice A nA cA, .slice (some ⟨g6, 0, none⟩) nd c6]
        | 8 => v = .int .i64 (p : Int)
        | 9 => v = .pointer (some ⟨w.heap.size, 1, none⟩)
        | 10 => v = .int .i64 (B : Int)
        | 11 => v = .int .i64 (k : Int)
        | 12 => v = .bool true
        | 13 => v = .bool true
        | 14 => v = .bool true
        | _ => True) (fun u => Below w9.heap.size w9 u) ?b1 (fun _ _ h1 h2 => h1.trans (h2.mono h1.size)) ⟨rfl, rfl, rfl, Nat.le_refl _, fun _ _ => rfl⟩ ?b2 ?b3
    case b1 =>
      intro iX v u u' h hr hb
      rcases iX with _ | _ | _ | _ | _ | _ | _ | _ | _ | _ | _ | _ | _ | _ | _ | iX
      · exact h
      · exact h
      · exact h
      · exact h
      · exact h
      · exact h
      · exact h
      · exact h
      · exact h
      · exact h
      · exact h
      · exact h
      · exact h
      · exact h
      · exact h
      · trivial
    case b2 =>
      intro iX o ho aX u hr hk hpre K hK
      have e10 : aX.tmps.getD 10 undef = .slice A8 D c8 := hk.slot 10 (by simp)
      have e12 : aX.tmps.getD 12 undef = .slice A9 D c9 := hk.slot 12 (by simp)
      have e3 : aX.tmps.getD 3 undef = .pointer (some ⟨w.heap.size, 0, none⟩) := hk.slot 3 (by simp)
      have e9 : aX.tmps.getD 9 undef = .pointer (some ⟨h, 0, none⟩) := hk.slot 9 (by simp)
      have e1 : aX.tmps.getD 1 undef = .int .i64 (p : Int) := hk.slot 1 (by simp)
      have u0 : u.cell? ⟨w.heap.size, 0, none⟩ = some (.int .i64 (s : Int)) := (hr.cell (p := ⟨w.heap.size, 0, none⟩) LW.out).trans c90
      have u1 : u.cell? ⟨w.heap.size, 1, none⟩ = some (.int .i64 (B : Int)) := (hr.cell (p := ⟨w.heap.size, 1, none⟩) LW.out).trans c91
      have u2 : u.cell? ⟨w.heap.size, 2, none⟩ = some (.slice A nA cA) := (hr.cell (p := ⟨w.heap.size, 2, none⟩) LW.out).trans c92
      have u3 : u.cell? ⟨w.heap.size, 3, none⟩ = some (.slice Ad nd cd) := (hr.cell (p := ⟨w.heap.size, 3, none⟩) LW.out).trans c93
      have q0 : u.cell? ⟨h, 0, none⟩ = some (.int .i64 (s : Int)) := (hr.cell (p := ⟨h, 0, none⟩) LT.out).trans t90
      have q1 : u.cell? ⟨h, 1, none⟩ = some (.int .i64 (B : Int)) := (hr.cell (p := ⟨h, 1, none⟩) LT.out).trans t91
      have q2 : u.cell? ⟨h, 2, none⟩ = some (.slice A nA cA) := (hr.cell (p := ⟨h, 2, none⟩) LT.out).trans t92
      have q3 : u.cell? ⟨h, 3, none⟩ = some (.slice (some ⟨g6, 0, none⟩) nd c6) := (hr.cell (p := ⟨h, 3, none⟩) LT.out).trans t93
      have rf : Below u.heap.size u u := Below.refl _ _
      rcases iX with _ | _ | _ | _ | _ | _ | _ | _ | _ | _ | _ | _ | _ | _ | _ | iX
      · obtain rfl := Option.some.inj ho
        exact st_move (.tmp 10) rfl (want_none rfl) _ e10 (hK _ _ rfl rf)
      · obtain rfl := Option.some.inj ho
        exact st_conv (.tmp 92) rfl (want_none rfl) _ _ _ _ (hpre 0 _ rfl ⟨⟨0, .data⟩, by simp, rfl, rfl⟩) (HB89.out.rd.below hr) (hK _ _ rfl rf)
      · obtain rfl := Option.some.inj ho
        exact st_move (.tmp 12) rfl (want_none rfl) _ e12 (hK _ _ rfl rf)
      · obtain rfl := Option.some.inj ho
        exact st_conv (.tmp 94) rfl (want_none rfl) _ _ _ _ (hpre 2 _ rfl ⟨⟨2, .data⟩, by simp, rfl, rfl⟩) (HB9.out.rd.below hr) (hK _ _ rfl rf)
      · obtain rfl := Option.some.inj ho
        have y93 : aX.eval (.tmp 93) = .string (str R1) := (hpre 1 _ rfl ⟨⟨1, .data⟩, by simp, rfl, rfl⟩)
        have y95 : aX.eval (.tmp 95) = .string (str R1) := (hpre 3 _ rfl ⟨⟨3, .data⟩, by simp, rfl, rfl⟩)
        refine st_run (want_none rfl) (.bool false) (w' := u) ?_ (hK _ _ rfl rf)
        simp only [execOp, y93, y95]
        go_simp
      · obtain rfl := Option.some.inj ho
        exact st_move (.tmp 96) rfl (want_none rfl) _ (hpre 4 _ rfl ⟨⟨4, .data⟩, by simp, rfl, rfl⟩) (hK _ _ rfl rf)
      · obtain rfl := Option.some.inj ho
        have y3 : aX.eval (.tmp 3) = .pointer (some ⟨w.heap.size, 0, none⟩) := e3
        refine st_run (want_some rfl rfl rfl (hpre 5 _ rfl ⟨⟨5, .guard⟩, by simp, rfl, rfl⟩)) (.agg #[.int .i64 (s : Int), .int .i64 (B : Int), .slice A nA cA, .slice Ad nd cd]) (w' := u) ?_ (hK _ _ rfl rf)
        simp only [execOp, y3]
        go_simp
      · obtain rfl := Option.some.inj ho
        have y9 : aX.eval (.tmp 9) = .pointer (some ⟨h, 0, none⟩) := e9
        refine st_run (want_some rfl rfl rfl (hpre 5 _ rfl ⟨⟨5, .guard⟩, by simp, rfl, rfl⟩)) (.agg #[.int .i64 (s : Int), .int .i64 (B : Int), .slice A nA cA, .slice (some ⟨g6, 0, none⟩) nd c6]) (w' := u) ?_ (hK _ _ rfl rf)
        simp only [execOp, y9]
        go_simp
      · obtain rfl := Option.some.inj ho
        exact st_move (.tmp 1) rfl (want_some rfl rfl rfl (hpre 5 _ rfl ⟨⟨5, .guard⟩, by simp, rfl, rfl⟩)) _ e1 (hK _ _ rfl rf)
      · obtain rfl := Option.some.inj ho
        have y3 : aX.eval (.tmp 3) = .pointer (some ⟨w.heap.size, 0, none⟩) := e3
        refine st_run (want_some rfl rfl rfl (hpre 5 _ rfl ⟨⟨5, .guard⟩, by simp, rfl, rfl⟩)) (.pointer (some ⟨w.heap.size, 1, none⟩)) (w' := u) ?_ (hK _ _ rfl rf)
        simp only [execOp, y3]
        go_simp
      · obtain rfl := Option.some.inj ho
        have y101 : aX.eval (.tmp 101) = .pointer (some ⟨w.heap.size, 1, none⟩) := (hpre 9 _ rfl ⟨⟨9, .data⟩, by simp, rfl, rfl⟩)
        refine st_run (want_some rfl rfl rfl (hpre 5 _ rfl ⟨⟨5, .guard⟩, by simp, rfl, rfl⟩)) (.int .i64 (B : Int)) (w' := u) ?_ (hK _ _ rfl rf)
        simp only [execOp, y101]
        go_simp
      · obtain rfl := Option.some.inj ho
        have y100 : aX.eval (.tmp 100) = .int .i64 (p : Int) := (hpre 8 _ rfl ⟨⟨8, .data⟩, by simp, rfl, rfl⟩)
        have y102 : aX.eval (.tmp 102) = .int .i64 (B : Int) := (hpre 10 _ rfl ⟨⟨10, .data⟩, by simp, rfl, rfl⟩)
        refine st_run (want_some rfl rfl rfl (hpre 5 _ rfl ⟨⟨5, .guard⟩, by simp, rfl, rfl⟩)) (.int .i64 (k : Int)) (w' := u) ?_ (hK _ _ rfl rf)
        simp only [execOp, y100, y102]
        go_simp
      · obtain rfl := Option.some.inj ho
        have x0 : aX.eval (.tmp 98) = .agg #[.int .i64 (s : Int), .int .i64 (B : Int), .slice A nA cA, .slice Ad nd cd] := (hpre 6 _ rfl ⟨⟨6, .data⟩, by simp, rfl, rfl⟩)
        have x1 : aX.eval (.tmp 99) = .agg #[.int .i64 (s : Int), .int .i64 (B : Int), .slice A nA cA, .slice (some ⟨g6, 0, none⟩) nd c6] := (hpre 7 _ rfl ⟨⟨7, .data⟩, by simp, rfl, rfl⟩)
        have x2 : aX.eval (.tmp 103) = .int .i64 (k : Int) := (hpre 11 _ rfl ⟨⟨11, .data⟩, by simp, rfl, rfl⟩)
        exact st_callN 25 _ _ rfl (want_some rfl rfl rfl (hpre 5 _ rfl ⟨⟨5, .guard⟩, by simp, rfl, rfl⟩)) #[.agg #[.int .i64 (s : Int), .int .i64 (B : Int), .slice A nA cA, .slice Ad nd cd], .agg #[.int .i64 (s : Int), .int .i64 (B : Int), .slice A nA cA, .slice (some ⟨g6, 0, none⟩) nd c6], .int .i64 (k : Int)] (by simp [x0, x1, x2]) (by kernel_rfl) _ (HPR.out u hr) (fun e u' he => ⟨_, he.1, hK _ _ rfl he.2⟩)
      · obtain rfl := Option.some.inj ho
        exact st_pick (.tmp 97) (.const (.bool true)) (.tmp 104) rfl (want_none rfl) false (hpre 5 _ rfl ⟨⟨5, .data⟩, by simp, rfl, rfl⟩) _ ((if_neg (by decide)).trans (hpre 12 _ rfl ⟨⟨12, .data⟩, by simp, rfl, rfl⟩)) (hK _ _ rfl rf)
      · obtain rfl := Option.some.inj ho
        exact st_assign (.tmp 105) rfl (want_none rfl) _ (hpre 13 _ rfl ⟨⟨13, .data⟩, by simp, rfl, rfl⟩) (hK _ _ rfl rf)
      · cases ho
    case b3 =>
      intro aX u hr hk hv
      have h6 := hv 14 _ rfl
      refine hKx aX u (wp_ret (bodyPost_ret (results_tmp rfl _ _ _) hk.defers ⟨?_, below_then BEL9.out hr⟩))
      exact congrArg Ending.returned h6
  · have hf1 : Fit 256 R1 := by rw [← HR1.out]; exact hsh_fit _ _ _
    have hf2 : Fit 256 R2 := by rw [← HR2.out]; exact hsh_fit _ _ _
    have es : ((str R1).toList == (str R2).toList) = false := by rw [str_same hf1 hf2, decide_eq_false hrr]
    go_wp2
    rename_i hKx
    refine wp_region_eachW (by kernel_rfl) (by kernel_rfl) (fun u u' => Below u.heap.size u u') (fun iX v u => match iX with
        | 0 => v = .slice A8 D c8
        | 1 => v = .string (str R1)
        | 2 => v = .slice A9 D c9
        | 3 => v = .string (str R2)
        | 4 => v = .bool true
        | 5 => v = .bool true
        | 6 => True
        | 7 => True
        | 8 => True
        | 9 => True
        | 10 => True
        | 11 => True
        | 12 => True
        | 13 => v = .bool true
        | 14 => v = .bool true
        | _ => True) (fun u => Below w9.heap.size w9 u) ?a1 (fun _ _ h1 h2 => h1.trans (h2.mono h1.size)) ⟨rfl, rfl, rfl, Nat.le_refl _, fun _ _ => rfl⟩ ?a2 ?a3
    case a1 =>
      intro iX v u u' h hr hb
      rcases iX with _ | _ | _ | _ | _ | _ | _ | _ | _ | _ | _ | _ | _ | _ | _ | iX
      · exact h
      · exact h
      · exact h
      · exact h
      · exact h
      · exact h
      · trivial
      · trivial
      · trivial
      · trivial
      · trivial
      · trivial
      · trivial
      · exact h
      · exact h
      · trivial
    case a2 =>
      intro iX o ho aX u hr hk hpre K hK
      have e10 : aX.tmps.getD 10 undef = .slice A8 D c8 := hk.slot 10 (by simp)
      have e12 : aX.tmps.getD 12 undef = .slice A9 D c9 := hk.slot 12 (by simp)
      have e3 : aX.tmps.getD 3 undef = .pointer (some ⟨w.heap.size, 0, none⟩) := hk.slot 3 (by simp)
      have e9 : aX.tmps.getD 9 undef = .pointer (some ⟨h, 0, none⟩) := hk.slot 9 (by simp)
      have e1 : aX.tmps.getD 1 undef = .int .i64 (p : Int) := hk.slot 1 (by simp)
      have rf : Below u.heap.size u u := Below.refl _ _
      rcases iX with _ | _ | _ | _ | _ | _ | _ | _ | _ | _ | _ | _ | _ | _ | _ | iX
      · obtain rfl := Option.some.inj ho
        exact st_move (.tmp 10) rfl (want_none rfl) _ e10 (hK _ _ rfl rf)
      · obtain rfl := Option.some.inj ho
        exact st_conv (.tmp 92) rfl (want_none rfl) _ _ _ _ (hpre 0 _ rfl ⟨⟨0, .data⟩, by simp, rfl, rfl⟩) (HB89.out.rd.below hr) (hK _ _ rfl rf)
      · obtain rfl := Option.some.inj ho
        exact st_move (.tmp 12) rfl (want_none rfl) _ e12 (hK _ _ rfl rf)
      · obtain rfl := Option.some.inj ho
        exact st_conv (.tmp 94) rfl (want_none rfl) _ _ _ _ (hpre 2 _ rfl ⟨⟨2, .data⟩, by simp, rfl, rfl⟩) (HB9.out.rd.below hr) (hK _ _ rfl rf)
      · obtain rfl := Option.some.inj ho
        have y93 : aX.eval (.tmp 93) = .string (str R1) := (hpre 1 _ rfl ⟨⟨1, .data⟩, by simp, rfl, rfl⟩)
        have y95 : aX.eval (.tmp 95) = .string (str R2) := (hpre 3 _ rfl ⟨⟨3, .data⟩, by simp, rfl, rfl⟩)
        refine st_run (want_none rfl) (.bool true) (w' := u) ?_ (hK _ _ rfl rf)
        simp only [execOp, y93, y95]
        go_simp
      · obtain rfl := Option.some.inj ho
        exact st_move (.tmp 96) rfl (want_none rfl) _ (hpre 4 _ rfl ⟨⟨4, .data⟩, by simp, rfl, rfl⟩) (hK _ _ rfl rf)
      · obtain rfl := Option.some.inj ho
        exact st_fall (want_fall rfl rfl rfl (hpre 5 _ rfl ⟨⟨5, .guard⟩, by simp, rfl, rfl⟩) (by decide)) (hK undef _ trivial rf)
      · obtain rfl := Option.some.inj ho
        exact st_fall (want_fall rfl rfl rfl (hpre 5 _ rfl ⟨⟨5, .guard⟩, by simp, rfl, rfl⟩) (by decide)) (hK undef _ trivial rf)
      · obtain rfl := Option.some.inj ho
        exact st_fall (want_fall rfl rfl rfl (hpre 5 _ rfl ⟨⟨5, .guard⟩, by simp, rfl, rfl⟩) (by decide)) (hK undef _ trivial rf)
      · obtain rfl := Option.some.inj ho
        exact st_fall (want_fall rfl rfl rfl (hpre 5 _ rfl ⟨⟨5, .guard⟩, by simp, rfl, rfl⟩) (by decide)) (hK undef _ trivial rf)
      · obtain rfl := Option.some.inj ho
        exact st_fall (want_fall rfl rfl rfl (hpre 5 _ rfl ⟨⟨5, .guard⟩, by simp, rfl, rfl⟩) (by decide)) (hK undef _ trivial rf)
      · obtain rfl := Option.some.inj ho
        exact st_fall (want_fall rfl rfl rfl (hpre 5 _ rfl ⟨⟨5, .guard⟩, by simp, rfl, rfl⟩) (by decide)) (hK undef _ trivial rf)
      · obtain rfl := Option.some.inj ho
        exact st_fall (want_fall rfl rfl rfl (hpre 5 _ rfl ⟨⟨5, .guard⟩, by simp, rfl, rfl⟩) (by decide)) (hK undef _ trivial rf)
      · obtain rfl := Option.some.inj ho
        exact st_pick (.tmp 97) (.const (.bool true)) (.tmp 104) rfl (want_none rfl) true (hpre 5 _ rfl ⟨⟨5, .data⟩, by simp, rfl, rfl⟩) _ ((if_pos rfl).trans rfl) (hK _ _ rfl rf)
      · obtain rfl := Option.some.inj ho
        exact st_assign (.tmp 105) rfl (want_none rfl) _ (hpre 13 _ rfl ⟨⟨13, .data⟩, by simp, rfl, rfl⟩) (hK _ _ rfl rf)
      · cases ho
    case a3 =>
      intro aX u hr hk hv
      have h6 := hv 14 _ rfl
      refine hKx aX u (wp_ret (bodyPost_ret (results_tmp rfl _ _ _) hk.defers ⟨?_, below_then BEL9.out hr⟩))
      exact congrArg Ending.returned h6
end Go.Proofs.YtijblgbpfffagaaDoor
