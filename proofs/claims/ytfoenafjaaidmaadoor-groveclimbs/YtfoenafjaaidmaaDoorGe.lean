/-
  The blocks of a way up, as a list.
-/
import Derived.Test.YtfoenafjaaidmaaDoorGd
import Derived.Test.YtfoenafjaaidmaaDoorCg
namespace Go.Proofs.YtfoenafjaaidmaaDoor
open Go.RowKit
set_option linter.unusedVariables false
set_option linter.unusedSimpArgs false
set_option maxRecDepth 100000

theorem run_app24 {t ty e : TypeId} {i : TypeInfo} {z : Value} {bytes : Nat} (ht : Tryd.prog.underlying t = some (.slice e)) (hi : Tryd.prog.info? e = some i) (hz : i.zero = some z) (hsize : i.size = 1) (hby : i.bytes = bytes) (hzs : z.cells.size = 1) (hb8 : bytes ≤ 24)
    {B : Nat} {w0 w : World} (hbel : Below B w0 w) (hB : B ≤ w.heap.size) {A : Option Addr} {n cap : Nat} {xs : List Value} (hrow : Row w B e A n cap xs) {ad : Addr} {m c2 : Nat} {news : List Value} (hl : news.length = m)
    (hc : ∀ j u, news[j]? = some u → w.cell? (ad.add j) = some u) (h1 : ∀ u ∈ news, u.oneCell' = true) (hnm : n + m ≤ 1000000) :
    ∃ A' cap' w', (Builtin.append_ #[t, t] ty #[.slice A n cap, .slice (some ad) m c2]).run Tryd.prog w = .ok (.slice A' (n + m) cap') w' ∧ Row w' B e A' (n + m) cap' (xs ++ news) ∧ Below B w0 w' ∧ w.heap.size ≤ w'.heap.size ∧ w.grownBy w' (Value.slice A n cap).ownBlock := by
  obtain ⟨v', w', hrun, hown, hg, hnil, hat⟩ := run_append_own_at (P := Tryd.prog) w B t ty e i z 1 bytes ht hi hz hsize hby hzs (by omega) _ n xs hrow ad m c2 news (by omega) hc h1 (by unfold maxLen; omega) (by
    have : (n + m) * bytes ≤ 1000000 * 24 := Nat.mul_le_mul hnm hb8
    omega) hB
  have hform : ∃ A' cap', v' = .slice A' (n + m) cap' := by
    rcases hown.2 with ⟨rfl, h0⟩ | ⟨g, cap', cur, rfl, _⟩
    · exact ⟨none, 0, by rw [h0]⟩
    · exact ⟨_, _, rfl⟩
  obtain ⟨A', cap', rfl⟩ := hform
  exact ⟨A', cap', w', hrun, hown, below_only hbel hg hB (fun j hj => (World.ownsRow.lt hrow j hj).1), hg.size, hg⟩
/-- One block more. -/
theorem wpList_appSl {ops : Array Oper} {rest : List Oper} {o : Oper} {a : Act} {w : World} {Q : Exit → Act → World → Prop} (hgd : o.guard = none) (s x : Operand) (ho : o.op = .call { callee := .builtin .append, args := #[s, x], argTypes := #[41, 41] })
    {B : Nat} {w0 : World} (hbel : Below B w0 w) (hB : B ≤ w.heap.size) {A : Option Addr} {n cap : Nat} {xs : List Value} (A2 : Option Addr) (n2 c2 : Nat) (hs : a.eval s = .slice A n cap) (hrow : Row w B 22 A n cap xs) (hx : a.eval x = .slice (some ⟨w.heap.size, 0, none⟩) 1 1) (hn : n < 1000000) (N : Nat) (hN : n + 1 = N)
    (h : ∀ A' cap' w', Hid (Row w' B 22 A' N cap' (xs ++ [.slice A2 n2 c2])) → Below B w0 w' → B ≤ w'.heap.size → Hid ((w.alloc (.cells #[.slice A2 n2 c2] 22)).grownBy w' (Value.slice A n cap).ownBlock) → wpList Tryd.prog ops Q rest (a.put o.dst (.slice A' N cap')) w') : wpList Tryd.prog ops Q (o :: rest) a (w.alloc (.cells #[.slice A2 n2 c2] 22)) := by
  subst hN
  obtain ⟨i0, hi, hz0, hz1, hz2⟩ := info_parts slInfo
  obtain ⟨A', cap', w', hrun, hr, hb, hsz, hg⟩ := run_app24 (w := w.alloc (.cells #[.slice A2 n2 c2] 22)) (ty := o.type) (c2 := 1) (m := 1) (ad := ⟨w.heap.size, 0, none⟩) (news := [.slice A2 n2 c2]) Tryd.underlying41 hi hz0 hz1 hz2 rfl (by omega) (hbel.alloc hB _) (by simp; omega) (World.ownsRow.alloc hrow _) rfl (cell_one_new w _ _) (by intro u hu; rw [List.mem_singleton.1 hu]; rfl) (by omega)
  refine wpList_plain hgd fun K hK => ?_
  unfold Oper.wp
  simp [execOp, ho, resolve, invoke, builtin, hs, hx, hrun, Result.andThen]
  exact hK _ _ (h A' cap' w' hr hb (by simp at hsz; omega) hg)
/-- The parts of a list are blocks of a way up, each in a block of its own above P. -/
def Parts_ (w : World) (P B : Nat) (f : Nat → List Nat) (ps : List Bt) : Prop := ∀ k p, ps[k]? = some p → p.n = B ∧ p.cap = B ∧ p.l = f k ∧ ∃ g, p.A = some ⟨g, 0, none⟩ ∧ P < g ∧ Blk w g 5 (cn .u8 (f k))
theorem Parts_.nil (w : World) (P B : Nat) (f : Nat → List Nat) : Parts_ w P B f [] := fun k p h => by simp at h
theorem Parts_.map {w w' : World} {P B : Nat} {f : Nat → List Nat} {ps : List Bt} (h : Parts_ w P B f ps) (hk : ∀ k p g, ps[k]? = some p → p.A = some ⟨g, 0, none⟩ → P < g → Blk w g 5 (cn .u8 (f k)) → Blk w' g 5 (cn .u8 (f k))) : Parts_ w' P B f ps := by
  intro k p hp
  obtain ⟨h1, h2, h3, g, h4, h5, h6⟩ := h k p hp
  exact ⟨h1, h2, h3, g, h4, h5, hk k p g hp h4 h5 h6⟩
theorem Parts_.below {w w' : World} {P B : Nat} {f : Nat → List Nat} {ps : List Bt} (h : Parts_ w P B f ps) (hb : Below w.heap.size w w') : Parts_ w' P B f ps := h.map fun k p g _ _ _ hB => hB.below hb hB.lt
theorem Parts_.snoc {w : World} {P B j g : Nat} {f : Nat → List Nat} {ps : List Bt} (h : Parts_ w P B f ps) (hl : ps.length = j) (hg : P < g) (hB : Blk w g 5 (cn .u8 (f j))) : Parts_ w P B f (ps ++ [⟨some ⟨g, 0, none⟩, B, B, f j⟩]) := by
  intro k p hp
  by_cases hk : k < ps.length
  · rw [List.getElem?_append_left hk] at hp
    exact h k p hp
  · rw [List.getElem?_append_right (by omega)] at hp
    have hk2 : k - ps.length = 0 := by
      have := (List.getElem?_eq_some_iff.1 hp).1
      simp at this
      omega
    rw [hk2] at hp
    simp at hp
    obtain rfl : k = j := by omega
    rw [← hp]
    exact ⟨rfl, rfl, rfl, g, rfl, hg, hB⟩
/-- A row of slices is no block of bytes. -/
theorem Row.notBytes {w : World} {b g n cap : Nat} {A : Option Addr} {ps : List Bt} {l : List Nat} (hr : Row w b 22 A n cap (cells_ ps)) (hn : 0 < n) (hl : 0 < l.length) (hB : Blk w g 5 (cn .u8 l)) : some g ≠ (Value.slice A n cap).ownBlock := by
  obtain ⟨g', rfl, h1, h2, h3⟩ := hr.cells hn
  intro e
  have e' : g = g' := by simpa [Value.ownBlock] using e
  subst e'
  have hlen := hr.length
  obtain ⟨p, hp⟩ : ∃ p, ps[0]? = some p := ⟨_, List.getElem?_eq_getElem (by rw [cells_, List.length_map] at hlen; omega)⟩
  have c1 := h3 0 (.slice p.A p.n p.cap) (by rw [cells_, List.getElem?_map, hp]; rfl)
  obtain ⟨x, hx⟩ := get_some hl
  rw [hB.cell 0, cn_get hx] at c1
  cases c1
/-- An answer: the blocks of a way up. -/
def GivesWay (w : World) (m B : Nat) (f : Nat → List Nat) (e : Ending) (w' : World) : Prop := ∃ A c ps, e = .returned (.slice A m c) ∧ Row w' w.heap.size 22 A m c (cells_ ps) ∧ Parts_ w' w.heap.size B f ps ∧ Below w.heap.size w w'
set_option maxHeartbeats 4000000 in
theorem blocks_any {z S B D a n : Nat} {A : Option Addr} {nA cA : Nat} {Ad : Option Addr} {cd : Nat} {salt data : List Nat} (b : Int) (i : Nat) (w : World) (h : Over w z S B D a n A nA cA Ad cd salt data) (hi : i < n) (m : Nat) (hm : (cs a n).length = m) :
    Calls Tryd.prog 19 #[.agg #[.int .i64 (z : Int), .int .i64 b, .slice A nA cA, .slice Ad S cd], .agg #[.int .i64 (S : Int), .int .i64 (B : Int), .int .i64 (D : Int)], .int .i64 (i : Int)] w (GivesWay w m B (fun j => blk (hsh z salt) B a n data j (i / a ^ j))) := by
  have HCT : Hid (∀ w : World, _) := fun w => RefCounts_any S B D a n w h.shp
  have hb := h.shp.b
  have ha := h.shp.a2
  have hn := h.shp.n1
  have hm2 : m ≤ 41 := by rw [← hm]; exact cnts_len _ _ _
  have HM := Lib.hid hm
  have HO := Lib.hid h
  have HHL : Hid (∀ t, (hsh z salt t).length = D) := hsh_length h.alg h.dig salt
  have HAD := Lib.hid h.shp.aD
  have HSH := Lib.hid h.shp
  have HLT : Hid (∀ j, i / a ^ j < lev a n j) := fun j => above_lt (by omega) hi j
  have HB1 : Hid (Below w.heap.size w (((w.alloc (.cells #[.int .i64 (z : Int), .int .i64 b, .slice A nA cA, .slice Ad S cd] 24)).alloc (.cells #[.int .i64 (S : Int), .int .i64 (B : Int), .int .i64 (D : Int)] 32)).alloc (.cells #[.int .i64 (i : Int), .int .i64 0] 46))) := (((Below.refl _ _).alloc (Nat.le_refl _) _).alloc (by simp) _).alloc (by simp; omega) _
  have HK0 : Hid (Blk (((w.alloc (.cells #[.int .i64 (z : Int), .int .i64 b, .slice A nA cA, .slice Ad S cd] 24)).alloc (.cells #[.int .i64 (S : Int), .int .i64 (B : Int), .int .i64 (D : Int)] 32)).alloc (.cells #[.int .i64 (i : Int), .int .i64 0] 46)) w.heap.size 24 [.int .i64 (z : Int), .int .i64 b, .slice A nA cA, .slice Ad S cd]) := ((Blk.new w 24 [.int .i64 (z : Int), .int .i64 b, .slice A nA cA, .slice Ad S cd]).alloc _).alloc _
  have HK1 : Hid (Blk (((w.alloc (.cells #[.int .i64 (z : Int), .int .i64 b, .slice A nA cA, .slice Ad S cd] 24)).alloc (.cells #[.int .i64 (S : Int), .int .i64 (B : Int), .int .i64 (D : Int)] 32)).alloc (.cells #[.int .i64 (i : Int), .int .i64 0] 46)) (w.heap.size + 1) 32 [.int .i64 (S : Int), .int .i64 (B : Int), .int .i64 (D : Int)]) := Blk.alloc (heap_alloc2_new w _ _) _
  have HKP : Hid (Blk (((w.alloc (.cells #[.int .i64 (z : Int), .int .i64 b, .slice A nA cA, .slice Ad S cd] 24)).alloc (.cells #[.int .i64 (S : Int), .int .i64 (B : Int), .int .i64 (D : Int)] 32)).alloc (.cells #[.int .i64 (i : Int), .int .i64 0] 46)) (w.heap.size + 1 + 1) 46 [.int .i64 (i : Int), .int .i64 0]) := by
    have := Blk.new ((w.alloc (.cells #[.int .i64 (z : Int), .int .i64 b, .slice A nA cA, .slice Ad S cd] 24)).alloc (.cells #[.int .i64 (S : Int), .int .i64 (B : Int), .int .i64 (D : Int)] 32)) 46 [.int .i64 (i : Int), .int .i64 0]
    rw [World.size_alloc, World.size_alloc] at this
    exact this
  obtain ⟨P, hP⟩ : ∃ P, w.heap.size + 1 + 1 = P := ⟨_, rfl⟩
  rw [hP] at HKP
  have HPP := Lib.hid hP
  clear h hm hP
  go_enter Tryd.func19, Tryd.ntmps19
  go_wp2_with fail
  rw [HPP.out]
  generalize ((w.alloc (.cells #[.int .i64 (z : Int), .int .i64 b, .slice A nA cA, .slice Ad S cd] 24)).alloc (.cells #[.int .i64 (S : Int), .int .i64 (B : Int), .int .i64 (D : Int)] 32)).alloc (.cells #[.int .i64 (i : Int), .int .i64 0] 46) = W at *
  refine (HCT.out W).mono ?_
  rintro e w1 ⟨Ac, mm, cc, rfl, hrow, hb1⟩
  obtain rfl : mm = m := by have := hrow.rd.1; have := HM.out; omega
  have HPW : Hid (P < W.heap.size) := HKP.out.lt
  have HBP : Hid (Below P W w1) := hb1.mono (Nat.le_of_lt HPW.out)
  have HPL : Hid (Blk w1 P 46 [.int .i64 ((i / a ^ 0 : Nat) : Int), .int .i64 ((0 : Nat) : Int)]) := by
    have := HKP.out.below hb1 HPW.out
    show Blk _ _ _ _
    rw [Nat.pow_zero, Nat.div_one]
    exact this
  have HR0 : Hid (Row w1 (P + 1) 22 none 0 0 (cells_ [])) := Row.nil _ _ _
  have HSZ : Hid (P + 1 ≤ w1.heap.size) := by show _ ≤ _; have := HPW.out; have := hb1.size; omega
  clear hrow hb1
  go_wp2
  go_loopw [7, 14] (fun v o wr => ∃ (j : Nat) (A3 : Option Addr) (c3 : Nat) (ps : List Bt), j ≤ mm ∧ o = .int .i64 (j : Int) ∧ v = .slice A3 j c3 ∧ Hid (Row wr (P + 1) 22 A3 j c3 (cells_ ps)) ∧ Hid (Parts_ wr P B (fun j => blk (hsh z salt) B a n data j (i / a ^ j)) ps) ∧ Hid (Blk wr P 46 [.int .i64 ((i / a ^ j : Nat) : Int), .int .i64 (j : Int)]) ∧ Hid (Below P W wr) ∧ Hid (P + 1 ≤ wr.heap.size)) (fun _ o _ => mm - (intOf o).toNat)
  case atStart => exact ⟨0, none, 0, [], Nat.zero_le _, rfl, rfl, HR0, Parts_.nil _ _ _ _, HPL, HBP, HSZ⟩
  case round =>
    obtain ⟨j, A3, c3, ps, hjm, rfl, rfl, HR3, HPS, HPj, HBW, HZ3⟩ := hrel
    have hwP : w.heap.size ≤ P := by have := HPP.out; omega
    have HBEL : Hid (Below w.heap.size w wr) := HB1.out.trans (HBW.out.mono hwP)
    by_cases hj : j < mm
    · have z1 : (j : Int) < mm := by omega
      have ks := HK0.out.below HBW.out (by have := HPP.out; omega)
      have kr := HK1.out.below HBW.out (by have := HPP.out; omega)
      have s0 : wr.cell? ⟨w.heap.size, 0, none⟩ = some (.int .i64 (z : Int)) := ks.cell 0
      have s2 : wr.cell? ⟨w.heap.size, 2, none⟩ = some (.slice A nA cA) := ks.cell 2
      have s3 : wr.cell? ⟨w.heap.size, 3, none⟩ = some (.slice Ad S cd) := ks.cell 3
      have c0 : wr.cell? ⟨w.heap.size + 1, 0, none⟩ = some (.int .i64 (S : Int)) := kr.cell 0
      have c1 : wr.cell? ⟨w.heap.size + 1, 1, none⟩ = some (.int .i64 (B : Int)) := kr.cell 1
      have c2 : wr.cell? ⟨w.heap.size + 1, 2, none⟩ = some (.int .i64 (D : Int)) := kr.cell 2
      obtain ⟨q, hq⟩ : ∃ q, i / a ^ j = q := ⟨_, rfl⟩
      rw [hq] at HPj
      have p0 : wr.cell? ⟨P, 0, none⟩ = some (.int .i64 (q : Int)) := HPj.out.cell 0
      have p1 : wr.cell? ⟨P, 1, none⟩ = some (.int .i64 (j : Int)) := HPj.out.cell 1
      have hql : q < lev a n j := by rw [← hq]; exact HLT.out j
      have hqi : q ≤ i := by rw [← hq]; exact Nat.div_le_self _ _
      have HJC : Hid (j < (cs a n).length) := by show _ < _; rw [HM.out]; exact hj
      have HOr := Lib.hid (HO.out.below HBEL.out)
      have HQ := Lib.hid hq
      obtain ⟨N, hN⟩ : ∃ N, j + 1 = N := ⟨_, rfl⟩
      have HN := Lib.hid hN
      have HJl : Hid (ps.length = j) := by have := HR3.out.length; rw [cells_, List.length_map] at this; exact this
      have HKR := Lib.hid kr
      have HQI : Hid (q ≤ 1099511627776 ∧ j ≤ 100) := by show _ ∧ _; omega
      have hwP1 : w.heap.size + 1 < P + 1 := by have := HPP.out; omega
      clear ks kr hq hN
      go_wp2_with (first
        | (go_at_call 32; refine (RBlock_any j q _ HOr.out HJC.out hql).mono ?_; rintro e w4 ⟨g4, rfl, hg4, hB4, hb4⟩; have HR4 := Lib.hid (HR3.out.below hb4); have HB4 := Lib.hid hB4; have hbw : Below (P + 1) wr w4 := hb4.mono HZ3.out; have hsw : P + 1 ≤ w4.heap.size := Nat.le_trans HZ3.out hb4.size; have HG4 := Lib.hid hg4; have HP4 := Lib.hid (HPS.out.below hb4); clear hB4 hb4 hg4)
        | ((with_reducible refine at_dst (some 27) ?_); refine wpList_appSl (o := ⟨some 27, _, _, _, _, _⟩) rfl (.tmp 16) (.tmp 26) rfl hbw hsw (some ⟨g4, 0, none⟩) B B rfl HR4.out rfl (by omega) N HN.out ?_; intro A6 c6 w6 HR6 hbe6 hB6 HG6; have KR6 := Lib.hid (HKR.out.below hbe6 hwP1); have KP6 := Lib.hid (HPj.out.below hbe6 (Nat.lt_succ_self _)); have d0 : w6.cell? ⟨w.heap.size + 1, 0, none⟩ = some (.int .i64 (S : Int)) := KR6.out.cell 0; have d1 : w6.cell? ⟨w.heap.size + 1, 1, none⟩ = some (.int .i64 (B : Int)) := KR6.out.cell 1; have d2 : w6.cell? ⟨w.heap.size + 1, 2, none⟩ = some (.int .i64 (D : Int)) := KR6.out.cell 2; have d3 : w6.cell? ⟨P, 0, none⟩ = some (.int .i64 (q : Int)) := KP6.out.cell 0; have d4 : w6.cell? ⟨P, 1, none⟩ = some (.int .i64 (j : Int)) := KP6.out.cell 1)
        | (go_at_call 21; refine (RefAbove_any S B D a n q j _ HSH.out HQI.out.1 HQI.out.2).mono ?_; rintro e w7 ⟨rfl, hb7⟩; have HB7 := Lib.hid hb7; have KP7 := Lib.hid (KP6.out.below hb7 KP6.out.lt); have k0 : w7.cell? ⟨P, 0, none⟩ = some (.int .i64 (q : Int)) := KP7.out.cell 0; have k1 : w7.cell? ⟨P, 1, none⟩ = some (.int .i64 (j : Int)) := KP7.out.cell 1; have f0 : w7.frozen? ⟨P, 0, none⟩ = false := KP7.out.frozen 0; have f1 : w7.frozen? ⟨P, 1, none⟩ = false := KP7.out.frozen 1; clear d0 d1 d2 d3 d4 hb7))
      have HPA : Hid (Parts_ w6 P B (fun j => blk (hsh z salt) B a n data j (i / a ^ j)) (ps ++ [⟨some ⟨g4, 0, none⟩, B, B, blk (hsh z salt) B a n data j (i / a ^ j)⟩])) := by
        have hlt4 : P < g4 := by have := HG4.out; have := HZ3.out; omega
        have hblk : Blk w4 g4 5 (cn .u8 (blk (hsh z salt) B a n data j (i / a ^ j))) := by rw [HQ.out]; exact HB4.out
        have hpos : ∀ k, 0 < (blk (hsh z salt) B a n data k (i / a ^ k)).length := fun k => by rw [blk_length HHL.out HAD.out]; omega
        have hRA : Row (w4.alloc (.cells #[.slice (some ⟨g4, 0, none⟩) B B] 22)) (P + 1) 22 A3 j c3 (cells_ ps) := World.ownsRow.alloc HR4.out _
        refine Parts_.snoc ?_ HJl.out hlt4 ?_
        · refine HP4.out.map fun k p g hp hA hg hB => ?_
          have hBa := hB.alloc (.cells #[.slice (some ⟨g4, 0, none⟩) B B] 22)
          refine hBa.grown HG6.out (Row.notBytes hRA ?_ (hpos k) hBa)
          have := (List.getElem?_eq_some_iff.1 hp).1
          have := HJl.out
          omega
        · have hBa := hblk.alloc (.cells #[.slice (some ⟨g4, 0, none⟩) B B] 22)
          refine hBa.grown HG6.out (fun e => ?_)
          have := (World.ownsRow.lt HR3.out g4 e.symm).2
          have := HG4.out
          omega
      have HR6' : Hid (Row w6 (P + 1) 22 A6 N c6 (cells_ (ps ++ [⟨some ⟨g4, 0, none⟩, B, B, blk (hsh z salt) B a n data j (i / a ^ j)⟩]))) := by
        have := HR6.out
        show Row _ _ _ _ _ _ _
        rw [cells_, List.map_append]
        exact this
      have HBW7 : Hid (Below P W w7) := (HBW.out.trans (hbe6.mono (by omega))).trans (HB7.out.mono (by omega))
      have hne : ∀ g, P < g → g ≠ P := fun g h => by omega
      go_roundw
      case rel =>
        refine ⟨N, A6, c6, ps ++ [⟨some ⟨g4, 0, none⟩, B, B, blk (hsh z salt) B a n data j (i / a ^ j)⟩], by have := HN.out; omega, by rw [← HN.out]; go_num, rfl, ?_, ?_, ?_, (HBW7.out.setCell (p := ⟨P, 0, none⟩) (Nat.le_refl _) _).setCell (p := ⟨P, 1, none⟩) (Nat.le_refl _) _, ?_⟩
        · have h7 := HR6'.out.below HB7.out
          refine World.ownsRow.kept h7 (only_setCell (only_setCell (g := P) ⟨rfl, rfl, rfl, Nat.le_refl _, fun _ _ _ => rfl⟩ (.inl rfl) _) (.inl rfl) _) (.inr fun e => ?_)
          have := (World.ownsRow.lt h7 P e).1
          omega
        · exact (HPA.out.below HB7.out).map fun k p g _ _ hg hB => (hB.far (p := ⟨P, 0, none⟩) (hne g hg) _).far (p := ⟨P, 1, none⟩) (hne g hg) _
        · have := (KP7.out.set_ 0 (.int .i64 ((q : Int) / (a : Int)))).set_ 1 (.int .i64 ((j : Int) + 1))
          show Blk _ _ _ _
          rw [← HN.out, Nat.pow_succ, ← Nat.div_div_eq_div_mul, HQ.out, Int.natCast_ediv, Int.natCast_add]
          exact this
        · show _ ≤ _
          have := HB7.out.size
          simpa [World.setCell] using (show P + 1 ≤ w7.heap.size by omega)
      case measure => simp [intOf]; have := HN.out; omega
    · obtain rfl : j = mm := by omega
      have z1 : ¬ (j : Int) < j := by omega
      go_wp2
      go_ret
      refine ⟨A3, c3, ps, rfl, Row.mono HR3.out (by omega), ?_, HBEL.out⟩
      intro k p hp
      obtain ⟨h1, h2, h3, g, h4, h5, h6⟩ := HPS.out k p hp
      exact ⟨h1, h2, h3, g, h4, by omega, h6⟩
end Go.Proofs.YtfoenafjaaidmaaDoor
