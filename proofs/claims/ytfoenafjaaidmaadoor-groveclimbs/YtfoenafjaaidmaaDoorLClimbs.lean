/-
  GroveClimbs returns true for every seed and numbers: its walk.
-/
import Derived.Test.YtfoenafjaaidmaaDoorGs
import Derived.Deep.CutBlock
import Derived.Deep.DeepCutAuto
namespace Go.Proofs.YtfoenafjaaidmaaDoor
open Go.RowKit
set_option linter.unusedVariables false
set_option linter.unusedSimpArgs false
set_option maxRecDepth 100000

theorem cellFar {w : World} {x y i j : Nat} {v : Value} (h : x ≠ y) : (w.setCell ⟨y, i, none⟩ v).cell? ⟨x, j, none⟩ = w.cell? ⟨x, j, none⟩ := World.cell?_setCell_other w _ _ v (fun e => h (by injection e with e1; exact e1.symm))
theorem Row.blkV {w : World} {B : Nat} {e : TypeId} {g n cap : Nat} {xs : List Value} (h : Row w B e (some ⟨g, 0, none⟩) n cap xs) : B ≤ g ∧ ∃ cs, Blk w g e cs ∧ cs.length = cap ∧ cs.take n = xs := by
  rcases h.2 with ⟨e, _⟩ | ⟨g', cap', cur, e, hB, hg, h1, h2, h3, h4⟩
  · cases e
  · injection e with e1 e2 e3
    injection e1 with e1
    injection e1 with e1
    subst e1
    subst e3
    refine ⟨hB, cur.toList, ?_, by simpa using h3, by simpa using h4⟩
    unfold Blk
    rw [hg]
/-- A list of texts, one of which is put in. -/
theorem ls_set {w : World} {b P m B c gl q : Nat} {f : Nat → List Nat} {qs : List Bt} (hr : Row w b 22 (some ⟨gl, 0, none⟩) m c (cells_ qs)) (hp : Parts_ w P B f qs) (hl : ∀ k, (f k).length = B) (hB0 : 0 < B) (hf : ∀ k, Fit 256 (f k)) (hB : B ≤ 4096) {g9 c9 : Nat} {l' : List Nat} (h9 : Bs w (some ⟨g9, 0, none⟩) B c9 l') (hne : g9 ≠ gl) (hq : q < m) :
    Ls (w.setCell ⟨gl, q, none⟩ (.slice (some ⟨g9, 0, none⟩) B c9)) (some ⟨gl, 0, none⟩) m c (qs.set q ⟨some ⟨g9, 0, none⟩, B, c9, l'⟩) := by
  have h0 := way_ls hr hp hl hf hB
  have hlen := h0.1.1
  have far : ∀ p ∈ qs, ∀ ad, p.A = some ad → ad.block ≠ gl := fun p hpm ad e => by
    obtain ⟨k, hk⟩ := List.mem_iff_getElem?.1 hpm
    obtain ⟨_, _, _, g, h4, _, h5⟩ := hp k p hk
    rw [h4] at e
    injection e with e
    subst e
    have := hr.notBytes (by omega) (by rw [hl]; exact hB0) h5
    intro e
    refine this ?_
    have e' : g = gl := e
    rw [e']
    rfl
  obtain ⟨_, cs, hb, hc, ht⟩ := hr.blkV
  have hle := hr.le.1
  have hcell : ∀ j, j < m → (w.setCell ⟨gl, q, none⟩ (.slice (some ⟨g9, 0, none⟩) B c9)).cell? ⟨gl, j, none⟩ = (cs.set q (.slice (some ⟨g9, 0, none⟩) B c9))[j]? := fun j _ => (hb.set_ q (.slice (some ⟨g9, 0, none⟩) B c9)).cell j
  refine ⟨⟨by rw [List.length_set]; exact hlen, fun hn => ⟨⟨gl, 0, none⟩, rfl, ?_, fun j p hj => ?_⟩, fun p hpm => ?_⟩, h0.2.1, h0.2.2.1, (fun e => by cases e), fun p hpm => ?_⟩
  · have := (hr.lt ⟨gl, 0, none⟩ rfl).2
    simpa [World.setCell] using this
  · have hjm : j < m := by have := (List.getElem?_eq_some_iff.1 hj).1; rw [List.length_set] at this; omega
    rw [addr_add, Nat.zero_add, hcell j hjm]
    by_cases e : q = j
    · subst e
      rw [List.getElem?_set_self (by omega)] at hj
      injection hj with hj
      subst hj
      rw [List.getElem?_set_self (by omega)]
    · rw [List.getElem?_set_ne e] at hj ⊢
      have h1 : (cs.take m)[j]? = cs[j]? := by rw [List.getElem?_take, if_pos hjm]
      rw [← h1, ht, cells_, List.getElem?_map, hj]
      rfl
  · rcases List.mem_or_eq_of_mem_set hpm with h1 | rfl
    · have := h0.1.2.2 p h1
      exact ⟨this.1.setFar (fun ad e => far p h1 ad e) _, this.2.1, this.2.2⟩
    · exact ⟨h9.rd.setFar (fun ad e => by injection e with e; rw [← e]; exact hne) _, h9.fit, h9.le⟩
  · rcases List.mem_or_eq_of_mem_set hpm with h1 | rfl
    · exact h0.2.2.2.2 p h1
    · exact ⟨h9.max, fun e => by cases e⟩
theorem st_len41 {o : Oper} {a : Act} {w : World} {K : Act → World → Prop} {Q : Exit → Act → World → Prop} {E : Prop} {b : Bool} (x : Operand) (ho : o.op = .call { callee := .builtin .len, args := #[x], argTypes := #[41] }) (hw : b = true) (A : Option Addr) (n cap : Nat) (hx : a.eval x = .slice A n cap) (h : K (a.put o.dst (.int .i64 (n : Int))) w) : if b = true then o.wp Tryd.prog a w K Q else E := by
  rw [if_pos hw]; unfold Oper.wp execOp
  simp [ho, resolve, invoke, builtin, hx, Builtin.len_, run_underlying Tryd.underlying41, Builtin.lenOf, Result.andThen, goInt]
  exact h
/-- One text's digest stands in the next one. -/
def LinkAt (H : List Nat → List Nat) (D a i : Nat) (l : List (List Nat)) (j : Nat) : Prop := ∀ x y, l[j]? = some x → l[j + 1]? = some y → (y.drop (i / a ^ j % a * D)).take D = H x
def Inv (H : List Nat → List Nat) (D a i : Nat) (l : List (List Nat)) (wt : Int) (j : Nat) : Prop := (wt = 0 ∧ ∀ j', j' < j → LinkAt H D a i l j') ∨ (wt = 54 ∧ ¬ Linked H D a i l)
theorem linked_all {H : List Nat → List Nat} {D a i m : Nat} {l : List (List Nat)} (hl : l.length = m) (h : ∀ j, j + 1 < m → LinkAt H D a i l j) : Linked H D a i l := fun j x y hx hy => by
  have := (List.getElem?_eq_some_iff.1 hy).1
  exact h j (by omega) x y hx hy
set_option maxHeartbeats 16000000 in
theorem climbs_walk (z b : Int) (A : Option Addr) (nA cA : Nat) (salt : List Nat) (Ad : Option Addr) (nd cd : Nat) (data : List Nat) (i wh at_ : Int) (w : World) (hz : I64 z) (hb : I64 b) (hs : Bs w A nA cA salt) (hd : Bs w Ad nd cd data) (hi : I64 i) (hwh : I64 wh) (hat : I64 at_) (ht : Both w) :
    Calls Tryd.prog 4 #[.agg #[.int .i64 z, .int .i64 b, .slice A nA cA, .slice Ad nd cd], .int .i64 i, .int .i64 wh, .int .i64 at_] w fun e w' => e = .returned (.bool true) ∧ Below w.heap.size w w' := by
  obtain ⟨D, hDD⟩ : ∃ D, sizeOfAlg z = D := ⟨_, rfl⟩
  have HDD := Lib.hid hDD
  have HZ := Lib.hid hz
  have HIB := Lib.hid hb
  have HB1 : Hid (Below w.heap.size w (w.alloc (.cells #[.int .i64 z, .int .i64 b, .slice A nA cA, .slice Ad nd cd] 24))) := (Below.refl _ _).alloc (Nat.le_refl _) _
  have HK := Lib.hid (Blk.new w 24 [.int .i64 z, .int .i64 b, .slice A nA cA, .slice Ad nd cd])
  have HS0 := Lib.hid hs
  have HD0 := Lib.hid hd
  have HTB := Lib.hid ht
  have HI := Lib.hid hi
  have HWH := Lib.hid hwh
  have HAT := Lib.hid hat
  clear hDD hz hb hs hd ht hi hwh hat
  go_enter Tryd.func4, Tryd.ntmps4
  go_wp2_with fail
  generalize w.alloc (.cells #[.int .i64 z, .int .i64 b, .slice A nA cA, .slice Ad nd cd] 24) = W at *
  refine (anchor9_any W (HTB.out.below HB1.out)).mono ?_
  rintro e w1 ⟨rfl, hb1⟩
  have BK1 := Lib.hid (HK.out.below hb1 HK.out.lt)
  have BEL1 := Lib.hid (below_then HB1.out hb1)
  have c10 : w1.cell? ⟨w.heap.size, 0, none⟩ = some (.int .i64 z) := BK1.out.cell 0
  have c11 : w1.cell? ⟨w.heap.size, 1, none⟩ = some (.int .i64 b) := BK1.out.cell 1
  have c12 : w1.cell? ⟨w.heap.size, 2, none⟩ = some (.slice A nA cA) := BK1.out.cell 2
  have c13 : w1.cell? ⟨w.heap.size, 3, none⟩ = some (.slice Ad nd cd) := BK1.out.cell 3
  clear hb1
  go_wp2_with fail
  refine (shape9_any z b A nA cA Ad nd cd D HDD.out w1).mono ?_
  obtain ⟨ok, hok⟩ : ∃ ok, decide (Rgt nd b D ∧ nA ≤ 64) = ok := ⟨_, rfl⟩
  rw [hok]
  have HOK := Lib.hid hok
  clear hok
  rintro e w2 ⟨rfl, hb2⟩
  have BK2 := Lib.hid (BK1.out.below hb2 BK1.out.lt)
  have BEL2 := Lib.hid (below_then BEL1.out hb2)
  have c20 : w2.cell? ⟨w.heap.size, 0, none⟩ = some (.int .i64 z) := BK2.out.cell 0
  have c21 : w2.cell? ⟨w.heap.size, 1, none⟩ = some (.int .i64 b) := BK2.out.cell 1
  have c22 : w2.cell? ⟨w.heap.size, 2, none⟩ = some (.slice A nA cA) := BK2.out.cell 2
  have c23 : w2.cell? ⟨w.heap.size, 3, none⟩ = some (.slice Ad nd cd) := BK2.out.cell 3
  clear hb2 c10 c11 c12 c13
  have hb3 : Below w2.heap.size w2 (w2.alloc (.cells #[.int .i64 (nd : Int), .int .i64 b, .int .i64 (D : Int)] 32)) := (Below.refl _ _).alloc (Nat.le_refl _) _
  have hsb := Blk.new w2 32 [.int .i64 (nd : Int), .int .i64 b, .int .i64 (D : Int)]
  have d30 : (w2.alloc (.cells #[.int .i64 (nd : Int), .int .i64 b, .int .i64 (D : Int)] 32)).cell? ⟨w.heap.size, 0, none⟩ = some (.int .i64 z) := (BK2.out.below hb3 BK2.out.lt).cell 0
  have d31 : (w2.alloc (.cells #[.int .i64 (nd : Int), .int .i64 b, .int .i64 (D : Int)] 32)).cell? ⟨w.heap.size, 1, none⟩ = some (.int .i64 b) := (BK2.out.below hb3 BK2.out.lt).cell 1
  have d32 : (w2.alloc (.cells #[.int .i64 (nd : Int), .int .i64 b, .int .i64 (D : Int)] 32)).cell? ⟨w.heap.size, 2, none⟩ = some (.slice A nA cA) := (BK2.out.below hb3 BK2.out.lt).cell 2
  have d33 : (w2.alloc (.cells #[.int .i64 (nd : Int), .int .i64 b, .int .i64 (D : Int)] 32)).cell? ⟨w.heap.size, 3, none⟩ = some (.slice Ad nd cd) := (BK2.out.below hb3 BK2.out.lt).cell 3
  have HB3 := Lib.hid hb3
  have HSB := Lib.hid hsb
  clear hb3 hsb c20 c21 c22 c23
  go_wp2_with fail
  have hb3 := HB3.out
  have hsb := HSB.out
  clear HB3 HSB d30 d31 d32 d33
  generalize w2.alloc (.cells #[.int .i64 (nd : Int), .int .i64 b, .int .i64 (D : Int)] 32) = w3 at *
  obtain ⟨g, hg⟩ : ∃ g, w2.heap.size = g := ⟨_, rfl⟩
  have SB3 : Hid (Blk w3 g 32 [.int .i64 (nd : Int), .int .i64 b, .int .i64 (D : Int)]) := by rw [← hg]; exact hsb
  have BK3 := Lib.hid (BK2.out.below hb3 BK2.out.lt)
  have BEL3 := Lib.hid (below_then BEL2.out hb3)
  rw [hg]
  clear hb3 hsb hg
  refine (small_any z b A nA cA Ad nd cd w3).mono ?_
  obtain ⟨sm, hsm⟩ : ∃ sm, decide (nA ≤ 100 ∧ nd ≤ 1500) = sm := ⟨_, rfl⟩
  rw [hsm]
  rintro e w4 ⟨rfl, hb4⟩
  have BK4 := Lib.hid (BK3.out.below hb4 BK3.out.lt)
  have BEL4 := Lib.hid (below_then BEL3.out hb4)
  have SB4 := Lib.hid (SB3.out.below hb4 SB3.out.lt)
  have c40 : w4.cell? ⟨w.heap.size, 0, none⟩ = some (.int .i64 z) := BK4.out.cell 0
  have c41 : w4.cell? ⟨w.heap.size, 1, none⟩ = some (.int .i64 b) := BK4.out.cell 1
  have c42 : w4.cell? ⟨w.heap.size, 2, none⟩ = some (.slice A nA cA) := BK4.out.cell 2
  have c43 : w4.cell? ⟨w.heap.size, 3, none⟩ = some (.slice Ad nd cd) := BK4.out.cell 3
  have s40 : w4.cell? ⟨g, 0, none⟩ = some (.int .i64 (nd : Int)) := SB4.out.cell 0
  have s41 : w4.cell? ⟨g, 1, none⟩ = some (.int .i64 b) := SB4.out.cell 1
  have s42 : w4.cell? ⟨g, 2, none⟩ = some (.int .i64 (D : Int)) := SB4.out.cell 2
  clear hb4
  cases sm
  · go_wp2
    go_ret
    exact ⟨rfl, BEL4.out⟩
  have hsm2 := of_decide_eq_true hsm
  have HSM := Lib.hid hsm2
  clear hsm hsm2
  cases ok
  · go_wp2
    go_ret
    exact ⟨rfl, BEL4.out⟩
  obtain ⟨hR, h64⟩ : Rgt nd b D ∧ nA ≤ 64 := of_decide_eq_true HOK.out
  by_cases hi0 : i < 0
  · go_wp2
    go_ret
    exact ⟨rfl, BEL4.out⟩
  obtain ⟨k, rfl⟩ : ∃ k : Nat, i = k := ⟨i.toNat, by omega⟩
  obtain ⟨s, rfl, hs12⟩ : ∃ s : Nat, z = s ∧ (s = 1 ∨ s = 2) := algYes (by rw [HDD.out]; obtain ⟨_, _, h, _⟩ := hR; omega)
  obtain ⟨S, B, D', a, n, eS, rfl, eD, hShp⟩ := hR.shp
  obtain rfl : nd = S := by omega
  obtain rfl : D = D' := by omega
  obtain ⟨m, hm⟩ : ∃ m, (cs a n).length = m := ⟨_, rfl⟩
  have HM := Lib.hid hm
  have HSHP := Lib.hid hShp
  have HS12 := Lib.hid hs12
  have hpos : 1 ≤ m := by rw [← hm]; exact List.length_pos_iff.2 (cnts_ne a 40 n)
  have h41 : m ≤ 41 := by rw [← hm]; exact cnts_len _ _ _
  clear hm hShp hs12 hR eS eD hi0
  go_wp2_with fail
  refine (RefCounts_any nd B D a n w4 HSHP.out).mono ?_
  rintro e w5 ⟨A5, m5, c5, rfl, hrow5, hb5⟩
  have hm5 : m5 = m := by rw [← HM.out]; have := hrow5.length; rw [cn_length] at this; exact this.symm
  subst hm5
  obtain ⟨g5, rfl, _, _, hcs5⟩ := hrow5.cells (by omega)
  have hn5 : w5.cell? ⟨g5, 0, none⟩ = some (.int .i64 (n : Int)) := hcs5 0 _ (cn_get (cs_get (by rw [HM.out]; omega)))
  have BK5 := Lib.hid (BK4.out.below hb5 BK4.out.lt)
  have BEL5 := Lib.hid (below_then BEL4.out hb5)
  have SB5 := Lib.hid (SB4.out.below hb5 SB4.out.lt)
  have c50 : w5.cell? ⟨w.heap.size, 0, none⟩ = some (.int .i64 (s : Int)) := BK5.out.cell 0
  have c51 : w5.cell? ⟨w.heap.size, 1, none⟩ = some (.int .i64 (B : Int)) := BK5.out.cell 1
  have c52 : w5.cell? ⟨w.heap.size, 2, none⟩ = some (.slice A nA cA) := BK5.out.cell 2
  have c53 : w5.cell? ⟨w.heap.size, 3, none⟩ = some (.slice Ad nd cd) := BK5.out.cell 3
  have s50 : w5.cell? ⟨g, 0, none⟩ = some (.int .i64 (nd : Int)) := SB5.out.cell 0
  have s51 : w5.cell? ⟨g, 1, none⟩ = some (.int .i64 (B : Int)) := SB5.out.cell 1
  have s52 : w5.cell? ⟨g, 2, none⟩ = some (.int .i64 (D : Int)) := SB5.out.cell 2
  clear c40 c41 c42 c43 s40 s41 s42
  clear hb5 hrow5 hcs5
  by_cases hin : n ≤ k
  · have zin : (n : Int) ≤ k := by omega
    go_wp2
    go_ret
    exact ⟨rfl, BEL5.out⟩
  have zin : ¬ (n : Int) ≤ k := by omega
  by_cases hw0 : wh < 0
  · go_wp2
    go_ret
    exact ⟨rfl, BEL5.out⟩
  by_cases ha0 : at_ < 0
  · go_wp2
    go_ret
    exact ⟨rfl, BEL5.out⟩
  obtain ⟨wn, rfl⟩ : ∃ wn : Nat, wh = wn := ⟨wh.toNat, by omega⟩
  obtain ⟨t, rfl⟩ : ∃ t : Nat, at_ = t := ⟨at_.toNat, by omega⟩
  have ht63 : t ≤ 9223372036854775807 := by have := HAT.out.2; omega
  have HOV : Hid (∀ u : World, Below w.heap.size w u → Over u s nd B D a n A nA cA Ad cd salt data) := fun u hu => ⟨HSHP.out, HS12.out, HDD.out, HS0.out.rd.below hu, HS0.out.fit, HS0.out.nil, by omega, HD0.out.rd.below hu, HD0.out.fit, HD0.out.le⟩
  have hdig : sizeOfAlg (s : Int) = D := HDD.out
  have HDIG := Lib.hid hdig
  have hb4k : B ≤ 4096 := HSHP.out.b.2.1
  have hb64 : 64 ≤ B := HSHP.out.b.1
  have hkn : k < n := by omega
  clear hdig hin
  go_wp2_with fail
  refine (Make_ok s nd B D a n A nA cA Ad cd salt data w5 m5 (HOV.out w5 BEL5.out) (HS0.out.below BEL5.out) (HD0.out.below BEL5.out) h64 (by have := HSM.out; omega) (HTB.out.below BEL5.out) HM.out).mono ?_
  obtain ⟨RT, hRT⟩ : ∃ RT, hsh s salt (blk (hsh s salt) B a n data (m5 - 1) 0) = RT := ⟨_, rfl⟩
  have HRT := Lib.hid hRT
  rw [hRT]
  clear hRT
  rintro e w6 ⟨At, nt, ct, Ar, cr, rfl, _, hbr, hb6⟩
  have HBR := Lib.hid hbr
  have BK6 := Lib.hid (BK5.out.below hb6 BK5.out.lt)
  have BEL6 := Lib.hid (below_then BEL5.out hb6)
  have SB6 := Lib.hid (SB5.out.below hb6 SB5.out.lt)
  have c60 : w6.cell? ⟨w.heap.size, 0, none⟩ = some (.int .i64 (s : Int)) := BK6.out.cell 0
  have c61 : w6.cell? ⟨w.heap.size, 1, none⟩ = some (.int .i64 (B : Int)) := BK6.out.cell 1
  have c62 : w6.cell? ⟨w.heap.size, 2, none⟩ = some (.slice A nA cA) := BK6.out.cell 2
  have c63 : w6.cell? ⟨w.heap.size, 3, none⟩ = some (.slice Ad nd cd) := BK6.out.cell 3
  have s60 : w6.cell? ⟨g, 0, none⟩ = some (.int .i64 (nd : Int)) := SB6.out.cell 0
  have s61 : w6.cell? ⟨g, 1, none⟩ = some (.int .i64 (B : Int)) := SB6.out.cell 1
  have s62 : w6.cell? ⟨g, 2, none⟩ = some (.int .i64 (D : Int)) := SB6.out.cell 2
  clear c50 c51 c52 c53 s50 s51 s52
  clear hb6 hbr
  go_wp2_with fail
  refine (blocks_any (B : Int) k w6 (HOV.out w6 BEL6.out) hkn m5 HM.out).mono ?_
  rintro e w7 ⟨Al, cl, qs, rfl, hrow7, hpt7, hb7⟩
  have HHL : Hid (∀ t, (hsh s salt t).length = D) := fun t => hsh_length HS12.out HDIG.out salt t
  have HFL : Hid (∀ j, (blk (hsh s salt) B a n data j (k / a ^ j)).length = B) := fun j => blk_length HHL.out HSHP.out.aD _ _
  have HFF : Hid (∀ j, Fit 256 (blk (hsh s salt) B a n data j (k / a ^ j))) := fun j => blk_fit HD0.out.fit _ _ _ _ _
  have hql : Ls w7 Al m5 cl qs := way_ls hrow7 hpt7 HFL.out HFF.out hb4k
  have hqm : qs.map (·.l) = way (hsh s salt) B a n data k m5 := way_map (hql.1.1) hpt7
  have HROW7 := Lib.hid hrow7
  have HPT7 := Lib.hid hpt7
  have HB67 := Lib.hid hb7
  have HQL := Lib.hid hql
  have HBR7 := Lib.hid (HBR.out.below hb7)
  have BK7 := Lib.hid (BK6.out.below hb7 BK6.out.lt)
  have BEL7 := Lib.hid (below_then BEL6.out hb7)
  have SB7 := Lib.hid (SB6.out.below hb7 SB6.out.lt)
  have c70 : w7.cell? ⟨w.heap.size, 0, none⟩ = some (.int .i64 (s : Int)) := BK7.out.cell 0
  have c71 : w7.cell? ⟨w.heap.size, 1, none⟩ = some (.int .i64 (B : Int)) := BK7.out.cell 1
  have c72 : w7.cell? ⟨w.heap.size, 2, none⟩ = some (.slice A nA cA) := BK7.out.cell 2
  have c73 : w7.cell? ⟨w.heap.size, 3, none⟩ = some (.slice Ad nd cd) := BK7.out.cell 3
  have s70 : w7.cell? ⟨g, 0, none⟩ = some (.int .i64 (nd : Int)) := SB7.out.cell 0
  have s71 : w7.cell? ⟨g, 1, none⟩ = some (.int .i64 (B : Int)) := SB7.out.cell 1
  have s72 : w7.cell? ⟨g, 2, none⟩ = some (.int .i64 (D : Int)) := SB7.out.cell 2
  clear c60 c61 c62 c63 s60 s61 s62
  have HWAY : Hid (Climbs (hsh s salt) B D a k m5 (way (hsh s salt) B a n data k m5) RT) := by
    have := way_climbs (data := data) HHL.out HSHP.out.aD (by have := HSHP.out.a2; omega) hkn (m := m5) (by omega) (by rw [← HM.out]; exact HSHP.out.top1)
    rw [HRT.out] at this
    exact this
  have HQN : Hid (∀ p ∈ qs, p.n = B) := fun p hp => by
    obtain ⟨j, hj⟩ := List.mem_iff_getElem?.1 hp
    exact (HPT7.out j p hj).1
  obtain ⟨er, hE1, hE2, hce, hcall⟩ := climb_any s nd B D a n k A nA cA salt Al m5 cl qs Ar D cr RT w7 HSHP.out HS12.out HDIG.out (HS0.out.below BEL7.out) h64 HQL.out HBR7.out hkn (by omega) (HTB.out.below BEL7.out)
  have her0 : er = 0 := by
    rcases hce HM.out.symm HQN.out with ⟨h1, _⟩ | ⟨_, ⟨x, hx, h1⟩, _⟩ | ⟨_, _, h1⟩
    · exact absurd (by rw [hqm]; exact HWAY.out.linked) h1
    · exact absurd (HWAY.out.top x (by rw [← hqm]; exact hx)) h1
    · exact h1
  subst her0
  clear hE1 hE2
  have HCALL := Lib.hid (hcall w7 (Below.refl _ _))
  have HQM := Lib.hid hqm
  clear hce hcall hrow7 hpt7 hb7 hql hqm
  go_wp2_with fail
  refine HCALL.out.mono ?_
  rintro e w8 ⟨rfl, hb8⟩
  obtain ⟨gl, rfl, hgl1, hgl2, _⟩ := HROW7.out.cells (by omega)
  have HROW8 := Lib.hid (HROW7.out.below hb8)
  have HPT8 : Hid (Parts_ w8 w6.heap.size B (fun j => blk (hsh s salt) B a n data j (k / a ^ j)) qs) := HPT7.out.below hb8
  have HB68 : Hid (Below w6.heap.size w6 w8) := below_then HB67.out hb8
  have HLN : Hid (qs.length = m5) := HQL.out.1.1
  clear c70 c71 c72 c73 s70 s71 s72 HCALL HROW7 HPT7 HB67 HBR7 BK7 BEL7 SB7 HQL
  -- the text that is turned
  obtain ⟨q, hq⟩ : ∃ q, wn % m5 = q := ⟨_, rfl⟩
  have hqm5 : q < m5 := by rw [← hq]; exact Nat.mod_lt _ (by omega)
  have q1 : (wn : Int).tmod (m5 : Int) = (q : Int) := by rw [Int.tmod_eq_emod_of_nonneg (by omega), ← hq, Int.natCast_emod]
  have mz1 : ¬ (m5 : Int) = 0 := by omega
  have mz2 : ((m5 : Int) == 0) = false := by simp; omega
  have mz3 : ¬ m5 = 0 := by omega
  have zq : (q : Int) < (m5 : Int) := by omega
  have zq0 : (0 : Int) ≤ (q : Int) := by omega
  obtain ⟨p0, hp0⟩ : ∃ p, qs[q]? = some p := ⟨_, List.getElem?_eq_getElem (by rw [HLN.out]; exact hqm5)⟩
  obtain ⟨en, ec, el, gq, eA, hgq, hBq⟩ := HPT8.out q p0 hp0
  obtain ⟨lq, hlq⟩ : ∃ lq, blk (hsh s salt) B a n data q (k / a ^ q) = lq := ⟨_, rfl⟩
  have HLQ : Hid (lq.length = B ∧ Fit 256 lq) := by rw [← hlq]; exact ⟨HFL.out q, HFF.out q⟩
  have hBq : Blk w8 gq 5 (cn .u8 lq) := by rw [← hlq]; exact hBq
  have cq : w8.cell? ⟨gl, q, none⟩ = some (.slice (some ⟨gq, 0, none⟩) B B) := by
    obtain ⟨g', e', _, _, hc⟩ := HROW8.out.cells (by omega)
    injection e' with e'
    injection e' with e'
    subst e'
    have := hc q (.slice p0.A p0.n p0.cap) (by rw [cells_, List.getElem?_map, hp0]; rfl)
    rw [this, eA, en, ec]
  have hgl8 : gl < w8.heap.size := Nat.lt_of_lt_of_le hgl2 hb8.size
  have cq' : (w8.alloc (.cells #[] 5)).cell? ⟨gl, q, none⟩ = some (.slice (some ⟨gq, 0, none⟩) B B) := (World.cell?_alloc_lt _ _ _ hgl8).trans cq
  have HEMP : Hid (Row (w8.alloc (.cells #[] 5)) w8.heap.size 5 (some ⟨w8.heap.size, 0, none⟩) 0 0 (cn .u8 [])) := own_empty w8 5
  have HRQ : Hid (Rd .u8 (w8.alloc (.cells #[] 5)) (some ⟨gq, 0, none⟩) B lq) := (hBq.alloc _).rd B HLQ.out.1
  clear hq hp0 en ec el eA hgq hBq hlq hb8
  go_wp2_with (first
    | ((with_reducible refine at_dst (some 97) ?_); refine wpList_appBs0 (o := ⟨some 97, _, _, _, _, _⟩) rfl (.tmp 92) (.tmp 96) rfl ((Below.refl w8.heap.size w8).alloc (Nat.le_refl _) _) (by simp) rfl HEMP.out rfl HRQ.out (fun e => by cases e) (by omega) B (by omega) ?_; intro A9 c9 w9 HRow9 hb9 hle9 HG9))
  have hrow9 := HRow9.out
  rw [List.nil_append] at hrow9
  obtain ⟨g9, rfl, hg9, hlt9, _⟩ := hrow9.cells (by omega)
  obtain ⟨qt, hqt⟩ : ∃ q, q = t / 8 := ⟨_, rfl⟩
  obtain ⟨p, hp⟩ : ∃ p, p = qt % B := ⟨_, rfl⟩
  obtain ⟨r, hr⟩ : ∃ r, r = t % 8 := ⟨_, rfl⟩
  have hpB : p < B := by rw [hp]; exact Nat.mod_lt _ (by omega)
  have hr8 : r < 8 := by omega
  have r1 : (t : Int) / 8 = (qt : Int) := by omega
  have wq : IntKind.i64.wrap (qt : Int) = (qt : Int) := by rw [IntKind.wrap_i64]; omega
  have r1' : (t : Int).tdiv 8 = (qt : Int) := by rw [Int.tdiv_eq_ediv_of_nonneg (by omega)]; exact r1
  have r2 : (qt : Int) % (B : Int) = (p : Int) := by rw [hp, Int.natCast_emod]
  have r2' : (qt : Int).tmod (B : Int) = (p : Int) := by rw [Int.tmod_eq_emod_of_nonneg (by omega)]; exact r2
  have r3 : (t : Int) % 8 = (r : Int) := by omega
  have r3' : (t : Int).tmod 8 = (r : Int) := by rw [Int.tmod_eq_emod_of_nonneg (by omega)]; exact r3
  obtain ⟨bb, hbb0⟩ := get_some (l := lq) (i := p) (by rw [HLQ.out.1]; exact hpB)
  have hbb := HLQ.out.2.get hbb0
  have hcell := hrow9.at_ hpB hbb0
  have hfz := hrow9.fz p
  have kz1 : ¬ (B : Int) = 0 := by omega
  have kz2 : ((B : Int) == 0) = false := by simp; omega
  have kz3 : ¬ B = 0 := by omega
  have kp1 : (p : Int) < B := by omega
  have kp2 : (0 : Int) ≤ p := by omega
  obtain ⟨yb, hyb⟩ : ∃ yb : Nat, yb = 2 ^ r := ⟨_, rfl⟩
  have hyb1 : 1 ≤ yb ∧ yb < 256 := by
    rw [hyb]
    exact ⟨Nat.pow_pos (by omega), Nat.pow_lt_pow_right (by omega) hr8⟩
  have hyw : IntKind.u8.wrap (2 ^ r) = (yb : Int) := by
    have e : ((2 : Int) ^ r) = (yb : Int) := by rw [hyb]; push_cast; rfl
    rw [e, IntKind.wrap_u8']
    omega
  obtain ⟨v, hv⟩ : ∃ v, v = bb ^^^ yb := ⟨_, rfl⟩
  have hvb : v < 256 := by rw [hv]; exact Nat.xor_lt_two_pow (n := 8) hbb (by omega)
  have hx : bits .xor .u8 (bb : Int) (yb : Int) = (v : Int) := by rw [hv]; exact u8_xor_nat bb yb hbb (by omega)
  obtain ⟨l', hl'⟩ : ∃ l', lq.set p v = l' := ⟨_, rfl⟩
  have HL' : Hid (l'.length = B ∧ Fit 256 l') := by rw [← hl']; exact ⟨by rw [List.length_set]; exact HLQ.out.1, HLQ.out.2.set p v hvb⟩
  have hne : g9 ≠ gl := by omega
  have HROW10 : Hid (Row (w9.setCell ⟨g9, p, none⟩ (.int .u8 (v : Int))).drew w8.heap.size 5 (some ⟨g9, 0, none⟩) B c9 (cn .u8 l')) := by rw [← hl']; exact hrow9.put p v
  have HBE : Hid (Below w8.heap.size w8 (w9.setCell ⟨g9, p, none⟩ (.int .u8 (v : Int))).drew) := below_drew1 (hb9.setCell hg9 _)
  clear hrow9 hbb0 hv hyb HRow9 HG9 HEMP HRQ hl' hqt hp hr cq'
  go_still_tail 12, (by kernel_rfl)
  change wpList _ _ _ _ _ w9.drew
  go_upto_region 13 with fail
  generalize (w9.setCell ⟨g9, p, none⟩ (.int .u8 (v : Int))).drew = w10 at *
  have HROWL := Lib.hid (HROW8.out.below HBE.out)
  have HPTL : Hid (Parts_ w10 w6.heap.size B (fun j => blk (hsh s salt) B a n data j (k / a ^ j)) qs) := HPT8.out.below HBE.out
  have hgf : w10.frozen? ⟨gl, q, none⟩ = false := by
    obtain ⟨_, cs, hb, _⟩ := HROWL.out.blkV
    exact hb.frozen q
  have hgc : w10.cell? ⟨gl, q, none⟩ = some (.slice (some ⟨gq, 0, none⟩) B B) := (HBE.out.cell (p := ⟨gl, q, none⟩) hgl8).trans cq
  have HBS : Hid (Bs w10 (some ⟨g9, 0, none⟩) B c9 l') := ⟨HROW10.out.rd, HL'.out.2, HROW10.out.le.1, HROW10.out.le.2, fun e => by cases e⟩
  have HLS : Hid (Ls (w10.setCell ⟨gl, q, none⟩ (.slice (some ⟨g9, 0, none⟩) B c9)) (some ⟨gl, 0, none⟩) m5 cl (qs.set q ⟨some ⟨g9, 0, none⟩, B, c9, l'⟩)) := ls_set HROWL.out HPTL.out HFL.out (by omega) HFF.out hb4k HBS.out hne hqm5
  have HB6A : Hid (Below w6.heap.size w6 (w10.setCell ⟨gl, q, none⟩ (.slice (some ⟨g9, 0, none⟩) B c9))) := (below_then HB68.out HBE.out).setCell (p := ⟨gl, q, none⟩) hgl1 _
  clear hcell hfz hx hyw cq
  go_upto_region 14 with fail
  generalize w10.setCell ⟨gl, q, none⟩ (.slice (some ⟨g9, 0, none⟩) B c9) = wa at *
  have BKa := Lib.hid (BK6.out.below HB6A.out BK6.out.lt)
  have SBa := Lib.hid (SB6.out.below HB6A.out SB6.out.lt)
  have BELa : Hid (Below w.heap.size w wa) := below_then BEL6.out HB6A.out
  have HBRa := Lib.hid (HBR.out.below HB6A.out)
  have ca0 : wa.cell? ⟨w.heap.size, 0, none⟩ = some (.int .i64 (s : Int)) := BKa.out.cell 0
  have ca2 : wa.cell? ⟨w.heap.size, 2, none⟩ = some (.slice A nA cA) := BKa.out.cell 2
  have sa0 : wa.cell? ⟨g, 0, none⟩ = some (.int .i64 (nd : Int)) := SBa.out.cell 0
  have sa1 : wa.cell? ⟨g, 1, none⟩ = some (.int .i64 (B : Int)) := SBa.out.cell 1
  have sa2 : wa.cell? ⟨g, 2, none⟩ = some (.int .i64 (D : Int)) := SBa.out.cell 2
  obtain ⟨ps, hps⟩ : ∃ ps, qs.set q ⟨some ⟨g9, 0, none⟩, B, c9, l'⟩ = ps := ⟨_, rfl⟩
  rw [hps] at HLS
  have HPN : Hid (∀ p ∈ ps, p.n = B) := fun p hp => by
    rw [← hps] at hp
    rcases List.mem_or_eq_of_mem_set hp with h1 | rfl
    · exact HQN.out p h1
    · rfl
  obtain ⟨er, hE1, hE2, hce, hcall⟩ := climb_any s nd B D a n k A nA cA salt (some ⟨gl, 0, none⟩) m5 cl ps Ar D cr RT wa HSHP.out HS12.out HDIG.out (HS0.out.below BELa.out) h64 HLS.out HBRa.out hkn (by omega) (HTB.out.below BELa.out)
  clear hE1 hE2
  have HER : Hid (climbEr (hsh s salt) D a k m5 (ps.map (·.l)) RT er) := hce HM.out.symm HPN.out
  have HCALL := Lib.hid (hcall wa (Below.refl _ _))
  clear hce hcall hps hgf hgc HROWL HPTL HBS HROW10 HBE HPT8 HROW8 HLN HQM HQN HWAY HB68 HB6A HFL HFF BK6 SB6 BEL6 HBR HL' HLQ hne hg9 hlt9 hb9 hle9 r1 r1' r2 r2' r3 r3' wq kz1 kz2 kz3 kp1 kp2 q1 mz1 mz2 mz3 zq zq0 hyb1 hvb
  go_wp2_with fail
  refine HCALL.out.mono ?_
  rintro e wb ⟨rfl, hbb⟩
  have BKb := Lib.hid (BKa.out.below hbb BKa.out.lt)
  have SBb := Lib.hid (SBa.out.below hbb SBa.out.lt)
  have BELb : Hid (Below w.heap.size w wb) := below_then BELa.out hbb
  have HBRb := Lib.hid (HBRa.out.below hbb)
  have HLSb := Lib.hid (HLS.out.below hbb)
  have HPW : Hid (Blk (wb.alloc (.cells #[.int .i64 (k : Int), .int .i64 0] 46)) wb.heap.size 46 [.int .i64 ((k / a ^ 0 : Nat) : Int), .int .i64 ((0 : Nat) : Int)]) := by
    have := Blk.new wb 46 [.int .i64 (k : Int), .int .i64 0]
    show Blk _ _ _ _
    rw [Nat.pow_zero, Nat.div_one]
    exact this
  have HBW : Hid (Below wb.heap.size wb (wb.alloc (.cells #[.int .i64 (k : Int), .int .i64 0] 46))) := (Below.refl _ _).alloc (Nat.le_refl _) _
  clear hbb HCALL ca0 ca2 sa0 sa1 sa2 HLS HBRa BELa SBa BKa
  go_wp2
  go_loopw [18, 20] (fun sw sj wr => ∃ (j : Nat) (wt : Int), sw = .int .i64 wt ∧ sj = .int .i64 (j : Int) ∧ j + 1 ≤ m5 ∧ Hid (Inv (hsh s salt) D a k (ps.map (·.l)) wt j) ∧ Hid (Blk wr wb.heap.size 46 [.int .i64 ((k / a ^ j : Nat) : Int), .int .i64 (j : Int)]) ∧ Hid (Below wb.heap.size wb wr)) (fun _ i _ => m5 - (intOf i).toNat)
  case atStart => exact ⟨0, 0, rfl, rfl, by omega, .inl ⟨rfl, fun j' h => absurd h (Nat.not_lt_zero _)⟩, HPW, HBW⟩
  case round =>
    obtain ⟨j, wt, rfl, rfl, hjm, HINV, HPj, HBr⟩ := hrel
    clear HPW HBW
    have BKr := Lib.hid (BKb.out.below HBr.out BKb.out.lt)
    have SBr := Lib.hid (SBb.out.below HBr.out SBb.out.lt)
    have BELr : Hid (Below w.heap.size w wr) := below_then BELb.out HBr.out
    have HBRr := Lib.hid (HBRb.out.below HBr.out)
    have HLSr := Lib.hid (HLSb.out.below HBr.out)
    have cr0 : wr.cell? ⟨w.heap.size, 0, none⟩ = some (.int .i64 (s : Int)) := BKr.out.cell 0
    have cr2 : wr.cell? ⟨w.heap.size, 2, none⟩ = some (.slice A nA cA) := BKr.out.cell 2
    have sr0 : wr.cell? ⟨g, 0, none⟩ = some (.int .i64 (nd : Int)) := SBr.out.cell 0
    have sr1 : wr.cell? ⟨g, 1, none⟩ = some (.int .i64 (B : Int)) := SBr.out.cell 1
    have sr2 : wr.cell? ⟨g, 2, none⟩ = some (.int .i64 (D : Int)) := SBr.out.cell 2
    have LTS : Hid (w.heap.size < wr.heap.size) := BKr.out.lt
    have LTG : Hid (g < wr.heap.size) := SBr.out.lt
    have LTL : Hid (gl < wr.heap.size) := by
      obtain ⟨ad, e, hlt, _⟩ := HLSr.out.1.2.1 (by omega)
      injection e with e
      rw [← e] at hlt
      exact hlt
    obtain ⟨N1, hN1⟩ : ∃ N1, j + 1 = N1 := ⟨_, rfl⟩
    have HN1 := Lib.hid hN1
    have wj : IntKind.i64.wrap ((j : Int) + 1) = (N1 : Int) := by rw [IntKind.wrap_i64]; omega
    have hNm : N1 ≤ m5 := by omega
    have hjN : j < N1 := by omega
    have zj : (j : Int) < (m5 : Int) := by omega
    have zj2 : j < m5 := by omega
    clear hN1 hjm
    by_cases hj : N1 < m5
    · have zN : (N1 : Int) < (m5 : Int) := by omega
      rcases HINV.out with ⟨h0, hall⟩ | ⟨h54, hnl⟩
      · subst h0
        have HALL := Lib.hid hall
        clear hall HINV
        obtain ⟨q, hq⟩ : ∃ q, k / a ^ j = q := ⟨_, rfl⟩
        rw [hq] at HPj
        obtain ⟨q2, hq2⟩ : ∃ q2, q / a = q2 := ⟨_, rfl⟩
        obtain ⟨ofs, ho⟩ : ∃ ofs, q % a * D = ofs := ⟨_, rfl⟩
        have HQ2 : Hid (k / a ^ N1 = q2) := by
          show _ = _
          rw [← HN1.out, Nat.pow_succ, ← Nat.div_div_eq_div_mul, hq, hq2]
        have hn1 := HSHP.out.n1
        have hqk : q ≤ k := by rw [← hq]; exact Nat.div_le_self _ _
        have ha2 := HSHP.out.a2
        have hoB : ofs + D ≤ B := by
          rw [← ho, ← HSHP.out.aD]
          have h1 : q % a < a := Nat.mod_lt _ (by omega)
          calc q % a * D + D = (q % a + 1) * D := by rw [Nat.add_mul, Nat.one_mul]
            _ ≤ a * D := Nat.mul_le_mul_right _ h1
        have HAB : Hid (Calls Tryd.prog 21 #[.agg #[.int .i64 (nd : Int), .int .i64 (B : Int), .int .i64 (D : Int)], .agg #[.int .i64 (q : Int), .int .i64 (j : Int)]] wr fun e w' => e = .returned (.tuple #[.agg #[.int .i64 (q2 : Int), .int .i64 (N1 : Int)], .int .i64 (ofs : Int)]) ∧ Below wr.heap.size wr w') := by
          have := RefAbove_any nd B D a n q j wr HSHP.out (by omega) (by omega)
          rw [hq2, ho, HN1.out] at this
          exact this
        have HO : Hid (k / a ^ j % a * D = ofs) := by show _ = _; rw [hq, ho]
        have p0 : wr.cell? ⟨wb.heap.size, 0, none⟩ = some (.int .i64 (q : Int)) := HPj.out.cell 0
        have p1 : wr.cell? ⟨wb.heap.size, 1, none⟩ = some (.int .i64 (j : Int)) := HPj.out.cell 1
        clear hq hq2 ho
        go_wp2_with fail
        refine HAB.out.mono ?_
        rintro e w7 ⟨rfl, hb7⟩
        obtain ⟨W8, hW8⟩ : ∃ W8, w7.alloc (.cells #[.int .i64 (q2 : Int), .int .i64 (N1 : Int)] 46) = W8 := ⟨_, rfl⟩
        have hb8 : Below w7.heap.size w7 W8 := by rw [← hW8]; exact (Below.refl _ _).alloc (Nat.le_refl _) _
        have HX8 : Hid (Blk W8 w7.heap.size 46 [.int .i64 (q2 : Int), .int .i64 (N1 : Int)]) := by rw [← hW8]; exact Blk.new w7 46 [.int .i64 (q2 : Int), .int .i64 (N1 : Int)]
        have HBr8 : Hid (Below wb.heap.size wb W8) := below_then (below_then HBr.out hb7) hb8
        have hbr8 : Below wr.heap.size wr W8 := below_then hb7 hb8
        have HP8 := Lib.hid (HPj.out.below hbr8 HPj.out.lt)
        have BEL8 : Hid (Below w.heap.size w W8) := below_then BELr.out hbr8
        have HLS8 := Lib.hid (HLSr.out.below hbr8)
        have LT8 : Hid (w.heap.size < W8.heap.size ∧ g < W8.heap.size ∧ gl < W8.heap.size) := ⟨Nat.lt_of_lt_of_le LTS.out hbr8.size, Nat.lt_of_lt_of_le LTG.out hbr8.size, Nat.lt_of_lt_of_le LTL.out hbr8.size⟩
        have bk8 := BKr.out.below hbr8 BKr.out.lt
        have sb8 := SBr.out.below hbr8 SBr.out.lt
        have cw0 : W8.cell? ⟨w.heap.size, 0, none⟩ = some (.int .i64 (s : Int)) := bk8.cell 0
        have cw2 : W8.cell? ⟨w.heap.size, 2, none⟩ = some (.slice A nA cA) := bk8.cell 2
        have sw2 : W8.cell? ⟨g, 2, none⟩ = some (.int .i64 (D : Int)) := sb8.cell 2
        obtain ⟨adx, px, ex, hpx, hcx, hrx, hfx⟩ := HLS8.out.get (show j < m5 by omega)
        injection ex with ex
        subst ex
        have hnx := HPN.out px (List.mem_of_getElem? hpx)
        have hmx := HLS8.out.2.2.2.2 px (List.mem_of_getElem? hpx)
        have hqx := (HLS8.out.1.2.2 px (List.mem_of_getElem? hpx)).2.2
        obtain ⟨xA, xn, xc, xl⟩ := px
        simp only at hcx hrx hfx hnx hmx hqx
        replace hnx := hnx.symm
        subst hnx
        rw [addr_add, Nat.zero_add] at hcx
        have HPx : Hid ((ps.map (·.l))[j]? = some xl) := by show _ = _; rw [List.getElem?_map, hpx]; rfl
        have HRx := Lib.hid hrx
        have HFx := Lib.hid hfx
        have HMx := Lib.hid hmx
        clear hpx hrx hfx hmx
        obtain ⟨ady, py, ey, hpy, hcy, hry, hfy⟩ := HLS8.out.get (show N1 < m5 by omega)
        injection ey with ey
        subst ey
        have hny := HPN.out py (List.mem_of_getElem? hpy)
        have hmy := HLS8.out.2.2.2.2 py (List.mem_of_getElem? hpy)
        have hqy := (HLS8.out.1.2.2 py (List.mem_of_getElem? hpy)).2.2
        obtain ⟨yA, yn, yc, yl⟩ := py
        simp only at hcy hry hfy hny hmy hqy
        replace hny := hny.symm
        subst hny
        rw [addr_add, Nat.zero_add] at hcy
        have HPy : Hid ((ps.map (·.l))[N1]? = some yl) := by show _ = _; rw [List.getElem?_map, hpy]; rfl
        have HRy := Lib.hid hry
        have HFy := Lib.hid hfy
        have HMy := Lib.hid hmy
        clear hpy hry hfy hmy
        clear hb7 hb8 hbr8 bk8 sb8 HAB
        obtain ⟨oD, hoD⟩ : ∃ oD, ofs + D = oD := ⟨_, rfl⟩
        have woD : IntKind.i64.wrap ((ofs : Int) + (D : Int)) = (oD : Int) := by rw [IntKind.wrap_i64]; omega
        obtain ⟨A8, hA8⟩ : ∃ A8, (if yc = ofs then yA else yA.map (·.add ofs)) = A8 := ⟨_, rfl⟩
        obtain ⟨c8, hc8⟩ : ∃ c8, yc - ofs = c8 := ⟨_, rfl⟩
        have hsl : ∀ u : World, (Instr.slice 22 (.slice yA B yc) (some (.int .i64 (ofs : Int))) (some (.int .i64 (oD : Int))) none).run Tryd.prog u = .ok (.slice A8 D c8) u := fun u => by
          have := run_mid8 yA B yc ofs (ofs + D) (by omega) (by omega) (ofs : Int) (oD : Int) rfl (by omega) u
          rw [hA8, hc8, Nat.add_sub_cancel_left] at this
          exact this
        have HSA : Hid (∀ u : World, (Instr.sliceAt 22 (.slice yA B yc) (some (.int .i64 (ofs : Int))) (some (.int .i64 (oD : Int))) none).run Tryd.prog u = .ok (.slice A8 D c8) u) := fun u => by
          rw [run_sliceAt_slice]
          · exact hsl u
          · kernel_rfl
        have hmid : Rd .u8 W8 A8 D ((yl.drop ofs).take D) := by
          have := HRy.out.mid ofs D yc (by omega) (by omega)
          rw [hA8] at this
          exact this
        obtain ⟨X, hX⟩ : ∃ X, (yl.drop ofs).take D = X := ⟨_, rfl⟩
        rw [hX] at hmid
        have hXf : Fit 256 X := by rw [← hX]; exact fit_take (fit_drop HFy.out _) _
        obtain ⟨Z, hZ⟩ : ∃ Z, hsh s salt xl = Z := ⟨_, rfl⟩
        have hZf : Fit 256 Z := by rw [← hZ]; exact hsh_fit _ _ _
        have hlk : (X = Z → LinkAt (hsh s salt) D a k (ps.map (·.l)) j) ∧ (LinkAt (hsh s salt) D a k (ps.map (·.l)) j → X = Z) := by
          constructor
          · intro e x y hx hy
            rw [HPx.out] at hx
            rw [HN1.out, HPy.out] at hy
            injection hx with hx
            injection hy with hy
            rw [← hx, ← hy, HO.out, hX, hZ, e]
          · intro h
            have := h xl yl HPx.out (by rw [HN1.out]; exact HPy.out)
            rw [HO.out, hX, hZ] at this
            exact this
        have HDG : Hid (∀ u : World, Below W8.heap.size W8 u → Calls Tryd.prog 22 #[.int .i64 (s : Int), .slice A nA cA, .slice xA B xc] u (GivesRd u D Z)) := fun u hbu => by
          rw [← hZ]
          exact RefDigest_z s D HS12.out HDIG.out A nA cA salt xA B xc xl u ((HS0.out.below BEL8.out).rd.below hbu) HS0.out.fit HS0.out.nil (by omega) (HRx.out.below hbu) HFx.out HMx.out.2 (by omega)
        have HMID := Lib.hid hmid
        clear hmid hX hZ hA8 hc8 hsl hoD
        by_cases hXZ : X = Z
        · have HI2 : Hid (Inv (hsh s salt) D a k (ps.map (·.l)) 0 N1) := .inl ⟨rfl, fun j' h => by
            by_cases e : j' = j
            · subst e
              exact hlk.1 hXZ
            · exact HALL.out j' (by have := HN1.out; omega)⟩
          have es : ((str X).toList == (str Z).toList) = true := by rw [str_same hXf hZf, decide_eq_true hXZ]
          clear hlk hXZ
          go_wp2
          rename_i hKx
          refine wp_region_eachW (by kernel_rfl) (by kernel_rfl) (fun u u' => Below u.heap.size u u') (fun iX v u => match iX with
              | 0 => v = .slice (some ⟨gl, 0, none⟩) m5 cl
              | 1 => v = .int .i64 (j : Int)
              | 2 => v = .int .i64 (N1 : Int)
              | 3 => v = .pointer (some ⟨gl, N1, none⟩)
              | 4 => v = .slice yA B yc
              | 5 => v = .int .i64 (ofs : Int)
              | 6 => v = .int .i64 (ofs : Int)
              | 7 => v = .pointer (some ⟨g, 2, none⟩)
              | 8 => v = .int .i64 (D : Int)
              | 9 => v = .int .i64 (oD : Int)
              | 10 => v = .slice A8 D c8
              | 11 => v = .string (str X)
              | 12 => v = .pointer (some ⟨w.heap.size, 0, none⟩)
              | 13 => v = .int .i64 (s : Int)
              | 14 => v = .pointer (some ⟨w.heap.size, 2, none⟩)
              | 15 => v = .slice A nA cA
              | 16 => v = .slice (some ⟨gl, 0, none⟩) m5 cl
              | 17 => v = .int .i64 (j : Int)
              | 18 => v = .pointer (some ⟨gl, j, none⟩)
              | 19 => v = .slice xA B xc
              | 20 => ∃ A9 c9, v = .slice A9 D c9 ∧ Rd .u8 u A9 D Z
              | 21 => v = .string (str Z)
              | 22 => v = .bool false
              | _ => True) (fun u => Below W8.heap.size W8 u) ?x1 (fun _ _ h1 h2 => h1.trans (h2.mono h1.size)) ⟨rfl, rfl, rfl, Nat.le_refl _, fun _ _ => rfl⟩ ?x2 ?x3
          case x1 =>
            intro iX v u u' h hr hb
            rcases iX with _ | _ | _ | _ | _ | _ | _ | _ | _ | _ | _ | _ | _ | _ | _ | _ | _ | _ | _ | _ | _ | _ | _ | iX
            · exact h
            · exact h
            · exact h
            · exact h
            · exact h
            · exact h
            · exact h
            · exact h
            · exact h
            · exact h
            · exact h
            · exact h
            · exact h
            · exact h
            · exact h
            · exact h
            · exact h
            · exact h
            · exact h
            · exact h
            · (obtain ⟨A9, c9, e9, h9⟩ := h; exact ⟨A9, c9, e9, h9.below hb⟩)
            · exact h
            · exact h
            · trivial
          case x2 =>
            intro iX o ho aX u hr hk hpre K hK
            have e4 : aX.tmps.getD 4 undef = .pointer (some ⟨w.heap.size, 0, none⟩) := hk.slot 4 (by simp)
            have e9 : aX.tmps.getD 9 undef = .pointer (some ⟨g, 0, none⟩) := hk.slot 9 (by simp)
            have e14 : aX.tmps.getD 14 undef = .slice (some ⟨gl, 0, none⟩) m5 cl := hk.slot 14 (by simp)
            have e20 : aX.tmps.getD 20 undef = .int .i64 (j : Int) := hk.slot 20 (by simp)
            have e22 : aX.tmps.getD 22 undef = .int .i64 (ofs : Int) := hk.slot 22 (by simp)
            have u0 : u.cell? ⟨w.heap.size, 0, none⟩ = some (.int .i64 (s : Int)) := (hr.cell (p := ⟨w.heap.size, 0, none⟩) LT8.out.1).trans cw0
            have u2 : u.cell? ⟨w.heap.size, 2, none⟩ = some (.slice A nA cA) := (hr.cell (p := ⟨w.heap.size, 2, none⟩) LT8.out.1).trans cw2
            have u3 : u.cell? ⟨g, 2, none⟩ = some (.int .i64 (D : Int)) := (hr.cell (p := ⟨g, 2, none⟩) LT8.out.2.1).trans sw2
            have u4 : u.cell? ⟨gl, j, none⟩ = some (.slice xA B xc) := (hr.cell (p := ⟨gl, j, none⟩) LT8.out.2.2).trans hcx
            have u5 : u.cell? ⟨gl, N1, none⟩ = some (.slice yA B yc) := (hr.cell (p := ⟨gl, N1, none⟩) LT8.out.2.2).trans hcy
            have rf : Below u.heap.size u u := Below.refl _ _
            rcases iX with _ | _ | _ | _ | _ | _ | _ | _ | _ | _ | _ | _ | _ | _ | _ | _ | _ | _ | _ | _ | _ | _ | _ | iX
            · obtain rfl := Option.some.inj ho
              exact st_move (.tmp 14) rfl (want_none rfl) _ e14 (hK _ _ rfl rf)
            · obtain rfl := Option.some.inj ho
              exact st_move (.tmp 20) rfl (want_none rfl) _ e20 (hK _ _ rfl rf)
            · obtain rfl := Option.some.inj ho
              have y144 : aX.eval (.tmp 144) = .int .i64 (j : Int) := (hpre 1 _ rfl ⟨⟨1, .data⟩, by simp, rfl, rfl⟩)
              refine st_run (want_none rfl) (.int .i64 (N1 : Int)) (w' := u) ?_ (hK _ _ rfl rf)
              simp only [execOp, y144]
              go_simp
            · obtain rfl := Option.some.inj ho
              have y143 : aX.eval (.tmp 143) = .slice (some ⟨gl, 0, none⟩) m5 cl := (hpre 0 _ rfl ⟨⟨0, .data⟩, by simp, rfl, rfl⟩)
              have y145 : aX.eval (.tmp 145) = .int .i64 (N1 : Int) := (hpre 2 _ rfl ⟨⟨2, .data⟩, by simp, rfl, rfl⟩)
              refine st_run (want_none rfl) (.pointer (some ⟨gl, N1, none⟩)) (w' := u) ?_ (hK _ _ rfl rf)
              simp only [execOp, y143, y145]
              go_simp
            · obtain rfl := Option.some.inj ho
              have y146 : aX.eval (.tmp 146) = .pointer (some ⟨gl, N1, none⟩) := (hpre 3 _ rfl ⟨⟨3, .data⟩, by simp, rfl, rfl⟩)
              refine st_run (want_none rfl) (.slice yA B yc) (w' := u) ?_ (hK _ _ rfl rf)
              simp only [execOp, y146]
              go_simp
            · obtain rfl := Option.some.inj ho
              exact st_move (.tmp 22) rfl (want_none rfl) _ e22 (hK _ _ rfl rf)
            · obtain rfl := Option.some.inj ho
              exact st_move (.tmp 22) rfl (want_none rfl) _ e22 (hK _ _ rfl rf)
            · obtain rfl := Option.some.inj ho
              have y9 : aX.eval (.tmp 9) = .pointer (some ⟨g, 0, none⟩) := e9
              refine st_run (want_none rfl) (.pointer (some ⟨g, 2, none⟩)) (w' := u) ?_ (hK _ _ rfl rf)
              simp only [execOp, y9]
              go_simp
            · obtain rfl := Option.some.inj ho
              have y150 : aX.eval (.tmp 150) = .pointer (some ⟨g, 2, none⟩) := (hpre 7 _ rfl ⟨⟨7, .data⟩, by simp, rfl, rfl⟩)
              refine st_run (want_none rfl) (.int .i64 (D : Int)) (w' := u) ?_ (hK _ _ rfl rf)
              simp only [execOp, y150]
              go_simp
            · obtain rfl := Option.some.inj ho
              have y149 : aX.eval (.tmp 149) = .int .i64 (ofs : Int) := (hpre 6 _ rfl ⟨⟨6, .data⟩, by simp, rfl, rfl⟩)
              have y151 : aX.eval (.tmp 151) = .int .i64 (D : Int) := (hpre 8 _ rfl ⟨⟨8, .data⟩, by simp, rfl, rfl⟩)
              refine st_run (want_none rfl) (.int .i64 (oD : Int)) (w' := u) ?_ (hK _ _ rfl rf)
              simp only [execOp, y149, y151]
              go_simp
            · obtain rfl := Option.some.inj ho
              have y147 : aX.eval (.tmp 147) = .slice yA B yc := (hpre 4 _ rfl ⟨⟨4, .data⟩, by simp, rfl, rfl⟩)
              have y148 : aX.eval (.tmp 148) = .int .i64 (ofs : Int) := (hpre 5 _ rfl ⟨⟨5, .data⟩, by simp, rfl, rfl⟩)
              have y152 : aX.eval (.tmp 152) = .int .i64 (oD : Int) := (hpre 9 _ rfl ⟨⟨9, .data⟩, by simp, rfl, rfl⟩)
              refine st_run (want_none rfl) (.slice A8 D c8) (w' := u) ?_ (hK _ _ rfl rf)
              simp [execOp, y147, y148, y152, HSA.out u, Result.andThen]
            · obtain rfl := Option.some.inj ho
              exact st_conv (.tmp 153) rfl (want_none rfl) _ _ _ _ (hpre 10 _ rfl ⟨⟨10, .data⟩, by simp, rfl, rfl⟩) (HMID.out.below hr) (hK _ _ rfl rf)
            · obtain rfl := Option.some.inj ho
              have y4 : aX.eval (.tmp 4) = .pointer (some ⟨w.heap.size, 0, none⟩) := e4
              refine st_run (want_none rfl) (.pointer (some ⟨w.heap.size, 0, none⟩)) (w' := u) ?_ (hK _ _ rfl rf)
              simp only [execOp, y4]
              go_simp
            · obtain rfl := Option.some.inj ho
              have y155 : aX.eval (.tmp 155) = .pointer (some ⟨w.heap.size, 0, none⟩) := (hpre 12 _ rfl ⟨⟨12, .data⟩, by simp, rfl, rfl⟩)
              refine st_run (want_none rfl) (.int .i64 (s : Int)) (w' := u) ?_ (hK _ _ rfl rf)
              simp only [execOp, y155]
              go_simp
            · obtain rfl := Option.some.inj ho
              have y4 : aX.eval (.tmp 4) = .pointer (some ⟨w.heap.size, 0, none⟩) := e4
              refine st_run (want_none rfl) (.pointer (some ⟨w.heap.size, 2, none⟩)) (w' := u) ?_ (hK _ _ rfl rf)
              simp only [execOp, y4]
              go_simp
            · obtain rfl := Option.some.inj ho
              have y157 : aX.eval (.tmp 157) = .pointer (some ⟨w.heap.size, 2, none⟩) := (hpre 14 _ rfl ⟨⟨14, .data⟩, by simp, rfl, rfl⟩)
              refine st_run (want_none rfl) (.slice A nA cA) (w' := u) ?_ (hK _ _ rfl rf)
              simp only [execOp, y157]
              go_simp
            · obtain rfl := Option.some.inj ho
              exact st_move (.tmp 14) rfl (want_none rfl) _ e14 (hK _ _ rfl rf)
            · obtain rfl := Option.some.inj ho
              exact st_move (.tmp 20) rfl (want_none rfl) _ e20 (hK _ _ rfl rf)
            · obtain rfl := Option.some.inj ho
              have y159 : aX.eval (.tmp 159) = .slice (some ⟨gl, 0, none⟩) m5 cl := (hpre 16 _ rfl ⟨⟨16, .data⟩, by simp, rfl, rfl⟩)
              have y160 : aX.eval (.tmp 160) = .int .i64 (j : Int) := (hpre 17 _ rfl ⟨⟨17, .data⟩, by simp, rfl, rfl⟩)
              refine st_run (want_none rfl) (.pointer (some ⟨gl, j, none⟩)) (w' := u) ?_ (hK _ _ rfl rf)
              simp only [execOp, y159, y160]
              go_simp
            · obtain rfl := Option.some.inj ho
              have y161 : aX.eval (.tmp 161) = .pointer (some ⟨gl, j, none⟩) := (hpre 18 _ rfl ⟨⟨18, .data⟩, by simp, rfl, rfl⟩)
              refine st_run (want_none rfl) (.slice xA B xc) (w' := u) ?_ (hK _ _ rfl rf)
              simp only [execOp, y161]
              go_simp
            · obtain rfl := Option.some.inj ho
              have x0 : aX.eval (.tmp 156) = .int .i64 (s : Int) := (hpre 13 _ rfl ⟨⟨13, .data⟩, by simp, rfl, rfl⟩)
              have x1 : aX.eval (.tmp 158) = .slice A nA cA := (hpre 15 _ rfl ⟨⟨15, .data⟩, by simp, rfl, rfl⟩)
              have x2 : aX.eval (.tmp 162) = .slice xA B xc := (hpre 19 _ rfl ⟨⟨19, .data⟩, by simp, rfl, rfl⟩)
              exact st_callN 22 _ _ rfl (want_none rfl) #[.int .i64 (s : Int), .slice A nA cA, .slice xA B xc] (by simp [x0, x1, x2]) (by kernel_rfl) _ (HDG.out u hr) (fun e u' ⟨A9, c9, he, hrd, _, _, _, hb⟩ => ⟨_, he, hK _ _ ⟨A9, c9, rfl, hrd⟩ hb⟩)
            · obtain rfl := Option.some.inj ho
              obtain ⟨A9, c9, e9, h9⟩ := (hpre 20 _ rfl ⟨⟨20, .data⟩, by simp, rfl, rfl⟩)
              exact st_conv (.tmp 163) rfl (want_none rfl) _ _ _ _ e9 h9 (hK _ _ rfl rf)
            · obtain rfl := Option.some.inj ho
              have y154 : aX.eval (.tmp 154) = .string (str X) := (hpre 11 _ rfl ⟨⟨11, .data⟩, by simp, rfl, rfl⟩)
              have y164 : aX.eval (.tmp 164) = .string (str Z) := (hpre 21 _ rfl ⟨⟨21, .data⟩, by simp, rfl, rfl⟩)
              refine st_run (want_none rfl) (.bool false) (w' := u) ?_ (hK _ _ rfl rf)
              simp only [execOp, y154, y164]
              go_simp
            · cases ho
          case x3 =>
            intro aX u hr hk hv
            have q165 : aX.tmps.getD 165 undef = .bool false := hv 22 _ rfl
            have hfr := keeps_frameP (fun s => decide ((143 ≤ s ∧ s ≤ 165))) hk (by simp)
            refine hKx aX u ?_
            rw [hfr]
            generalize hff : (fun s => aX.tmps.getD s undef) = ff
            have hf165 : ff 165 = .bool false := by rw [← hff]; exact q165
            simp only [mixP, hf165, decide_eq_true_eq, Nat.reduceAdd, Nat.reduceLeDiff, Nat.reduceEqDiff, false_or, true_or, or_false, or_true, and_true, and_false, true_and, false_and, and_self, if_true, if_false, Nat.zero_le]
            clear hfr hff hf165 q165 hv hk
            have PU := HP8.out.below hr HP8.out.lt
            have XU := HX8.out.below hr HX8.out.lt
            have HBu : Hid (Below wb.heap.size wb u) := below_then HBr8.out hr
            have t0 : u.cell? ⟨w7.heap.size, 0, none⟩ = some (.int .i64 (q2 : Int)) := XU.cell 0
            have t1 : u.cell? ⟨w7.heap.size, 1, none⟩ = some (.int .i64 (N1 : Int)) := XU.cell 1
            have v0 : u.cell? ⟨wb.heap.size, 0, none⟩ = some (.int .i64 (q : Int)) := PU.cell 0
            have v1 : u.cell? ⟨wb.heap.size, 1, none⟩ = some (.int .i64 (j : Int)) := PU.cell 1
            have f0 : u.frozen? ⟨wb.heap.size, 0, none⟩ = false := PU.frozen 0
            have f1 : u.frozen? ⟨wb.heap.size, 1, none⟩ = false := PU.frozen 1
            have RELB : Hid (Blk ((u.setCell ⟨wb.heap.size, 0, none⟩ (.int .i64 (q2 : Int))).setCell ⟨wb.heap.size, 1, none⟩ (.int .i64 (N1 : Int))) wb.heap.size 46 [.int .i64 ((k / a ^ N1 : Nat) : Int), .int .i64 (N1 : Int)]) := by
              rw [HQ2.out]
              exact (PU.set_ 0 (.int .i64 (q2 : Int))).set_ 1 (.int .i64 (N1 : Int))
            have RELW : Hid (Below wb.heap.size wb ((u.setCell ⟨wb.heap.size, 0, none⟩ (.int .i64 (q2 : Int))).setCell ⟨wb.heap.size, 1, none⟩ (.int .i64 (N1 : Int)))) := (HBu.out.setCell (p := ⟨wb.heap.size, 0, none⟩) (Nat.le_refl _) _).setCell (p := ⟨wb.heap.size, 1, none⟩) (Nat.le_refl _) _
            clear PU XU hr hKx
            go_wp2
            go_roundw
            case rel => exact ⟨N1, 0, rfl, by first | rfl | (rw [← HN1.out]; go_num), by omega, HI2, RELB, RELW⟩
            case measure => have := HN1.out; simp [intOf]; omega
        · have HI2 : Hid (Inv (hsh s salt) D a k (ps.map (·.l)) 54 N1) := .inr ⟨rfl, fun h => hXZ (hlk.2 (h j))⟩
          have es : ((str X).toList == (str Z).toList) = false := by rw [str_same hXf hZf, decide_eq_false hXZ]
          clear hlk hXZ
          go_wp2
          rename_i hKx
          refine wp_region_eachW (by kernel_rfl) (by kernel_rfl) (fun u u' => Below u.heap.size u u') (fun iX v u => match iX with
              | 0 => v = .slice (some ⟨gl, 0, none⟩) m5 cl
              | 1 => v = .int .i64 (j : Int)
              | 2 => v = .int .i64 (N1 : Int)
              | 3 => v = .pointer (some ⟨gl, N1, none⟩)
              | 4 => v = .slice yA B yc
              | 5 => v = .int .i64 (ofs : Int)
              | 6 => v = .int .i64 (ofs : Int)
              | 7 => v = .pointer (some ⟨g, 2, none⟩)
              | 8 => v = .int .i64 (D : Int)
              | 9 => v = .int .i64 (oD : Int)
              | 10 => v = .slice A8 D c8
              | 11 => v = .string (str X)
              | 12 => v = .pointer (some ⟨w.heap.size, 0, none⟩)
              | 13 => v = .int .i64 (s : Int)
              | 14 => v = .pointer (some ⟨w.heap.size, 2, none⟩)
              | 15 => v = .slice A nA cA
              | 16 => v = .slice (some ⟨gl, 0, none⟩) m5 cl
              | 17 => v = .int .i64 (j : Int)
              | 18 => v = .pointer (some ⟨gl, j, none⟩)
              | 19 => v = .slice xA B xc
              | 20 => ∃ A9 c9, v = .slice A9 D c9 ∧ Rd .u8 u A9 D Z
              | 21 => v = .string (str Z)
              | 22 => v = .bool true
              | _ => True) (fun u => Below W8.heap.size W8 u) ?x1 (fun _ _ h1 h2 => h1.trans (h2.mono h1.size)) ⟨rfl, rfl, rfl, Nat.le_refl _, fun _ _ => rfl⟩ ?x2 ?x3
          case x1 =>
            intro iX v u u' h hr hb
            rcases iX with _ | _ | _ | _ | _ | _ | _ | _ | _ | _ | _ | _ | _ | _ | _ | _ | _ | _ | _ | _ | _ | _ | _ | iX
            · exact h
            · exact h
            · exact h
            · exact h
            · exact h
            · exact h
            · exact h
            · exact h
            · exact h
            · exact h
            · exact h
            · exact h
            · exact h
            · exact h
            · exact h
            · exact h
            · exact h
            · exact h
            · exact h
            · exact h
            · (obtain ⟨A9, c9, e9, h9⟩ := h; exact ⟨A9, c9, e9, h9.below hb⟩)
            · exact h
            · exact h
            · trivial
          case x2 =>
            intro iX o ho aX u hr hk hpre K hK
            have e4 : aX.tmps.getD 4 undef = .pointer (some ⟨w.heap.size, 0, none⟩) := hk.slot 4 (by simp)
            have e9 : aX.tmps.getD 9 undef = .pointer (some ⟨g, 0, none⟩) := hk.slot 9 (by simp)
            have e14 : aX.tmps.getD 14 undef = .slice (some ⟨gl, 0, none⟩) m5 cl := hk.slot 14 (by simp)
            have e20 : aX.tmps.getD 20 undef = .int .i64 (j : Int) := hk.slot 20 (by simp)
            have e22 : aX.tmps.getD 22 undef = .int .i64 (ofs : Int) := hk.slot 22 (by simp)
            have u0 : u.cell? ⟨w.heap.size, 0, none⟩ = some (.int .i64 (s : Int)) := (hr.cell (p := ⟨w.heap.size, 0, none⟩) LT8.out.1).trans cw0
            have u2 : u.cell? ⟨w.heap.size, 2, none⟩ = some (.slice A nA cA) := (hr.cell (p := ⟨w.heap.size, 2, none⟩) LT8.out.1).trans cw2
            have u3 : u.cell? ⟨g, 2, none⟩ = some (.int .i64 (D : Int)) := (hr.cell (p := ⟨g, 2, none⟩) LT8.out.2.1).trans sw2
            have u4 : u.cell? ⟨gl, j, none⟩ = some (.slice xA B xc) := (hr.cell (p := ⟨gl, j, none⟩) LT8.out.2.2).trans hcx
            have u5 : u.cell? ⟨gl, N1, none⟩ = some (.slice yA B yc) := (hr.cell (p := ⟨gl, N1, none⟩) LT8.out.2.2).trans hcy
            have rf : Below u.heap.size u u := Below.refl _ _
            rcases iX with _ | _ | _ | _ | _ | _ | _ | _ | _ | _ | _ | _ | _ | _ | _ | _ | _ | _ | _ | _ | _ | _ | _ | iX
            · obtain rfl := Option.some.inj ho
              exact st_move (.tmp 14) rfl (want_none rfl) _ e14 (hK _ _ rfl rf)
            · obtain rfl := Option.some.inj ho
              exact st_move (.tmp 20) rfl (want_none rfl) _ e20 (hK _ _ rfl rf)
            · obtain rfl := Option.some.inj ho
              have y144 : aX.eval (.tmp 144) = .int .i64 (j : Int) := (hpre 1 _ rfl ⟨⟨1, .data⟩, by simp, rfl, rfl⟩)
              refine st_run (want_none rfl) (.int .i64 (N1 : Int)) (w' := u) ?_ (hK _ _ rfl rf)
              simp only [execOp, y144]
              go_simp
            · obtain rfl := Option.some.inj ho
              have y143 : aX.eval (.tmp 143) = .slice (some ⟨gl, 0, none⟩) m5 cl := (hpre 0 _ rfl ⟨⟨0, .data⟩, by simp, rfl, rfl⟩)
              have y145 : aX.eval (.tmp 145) = .int .i64 (N1 : Int) := (hpre 2 _ rfl ⟨⟨2, .data⟩, by simp, rfl, rfl⟩)
              refine st_run (want_none rfl) (.pointer (some ⟨gl, N1, none⟩)) (w' := u) ?_ (hK _ _ rfl rf)
              simp only [execOp, y143, y145]
              go_simp
            · obtain rfl := Option.some.inj ho
              have y146 : aX.eval (.tmp 146) = .pointer (some ⟨gl, N1, none⟩) := (hpre 3 _ rfl ⟨⟨3, .data⟩, by simp, rfl, rfl⟩)
              refine st_run (want_none rfl) (.slice yA B yc) (w' := u) ?_ (hK _ _ rfl rf)
              simp only [execOp, y146]
              go_simp
            · obtain rfl := Option.some.inj ho
              exact st_move (.tmp 22) rfl (want_none rfl) _ e22 (hK _ _ rfl rf)
            · obtain rfl := Option.some.inj ho
              exact st_move (.tmp 22) rfl (want_none rfl) _ e22 (hK _ _ rfl rf)
            · obtain rfl := Option.some.inj ho
              have y9 : aX.eval (.tmp 9) = .pointer (some ⟨g, 0, none⟩) := e9
              refine st_run (want_none rfl) (.pointer (some ⟨g, 2, none⟩)) (w' := u) ?_ (hK _ _ rfl rf)
              simp only [execOp, y9]
              go_simp
            · obtain rfl := Option.some.inj ho
              have y150 : aX.eval (.tmp 150) = .pointer (some ⟨g, 2, none⟩) := (hpre 7 _ rfl ⟨⟨7, .data⟩, by simp, rfl, rfl⟩)
              refine st_run (want_none rfl) (.int .i64 (D : Int)) (w' := u) ?_ (hK _ _ rfl rf)
              simp only [execOp, y150]
              go_simp
            · obtain rfl := Option.some.inj ho
              have y149 : aX.eval (.tmp 149) = .int .i64 (ofs : Int) := (hpre 6 _ rfl ⟨⟨6, .data⟩, by simp, rfl, rfl⟩)
              have y151 : aX.eval (.tmp 151) = .int .i64 (D : Int) := (hpre 8 _ rfl ⟨⟨8, .data⟩, by simp, rfl, rfl⟩)
              refine st_run (want_none rfl) (.int .i64 (oD : Int)) (w' := u) ?_ (hK _ _ rfl rf)
              simp only [execOp, y149, y151]
              go_simp
            · obtain rfl := Option.some.inj ho
              have y147 : aX.eval (.tmp 147) = .slice yA B yc := (hpre 4 _ rfl ⟨⟨4, .data⟩, by simp, rfl, rfl⟩)
              have y148 : aX.eval (.tmp 148) = .int .i64 (ofs : Int) := (hpre 5 _ rfl ⟨⟨5, .data⟩, by simp, rfl, rfl⟩)
              have y152 : aX.eval (.tmp 152) = .int .i64 (oD : Int) := (hpre 9 _ rfl ⟨⟨9, .data⟩, by simp, rfl, rfl⟩)
              refine st_run (want_none rfl) (.slice A8 D c8) (w' := u) ?_ (hK _ _ rfl rf)
              simp [execOp, y147, y148, y152, HSA.out u, Result.andThen]
            · obtain rfl := Option.some.inj ho
              exact st_conv (.tmp 153) rfl (want_none rfl) _ _ _ _ (hpre 10 _ rfl ⟨⟨10, .data⟩, by simp, rfl, rfl⟩) (HMID.out.below hr) (hK _ _ rfl rf)
            · obtain rfl := Option.some.inj ho
              have y4 : aX.eval (.tmp 4) = .pointer (some ⟨w.heap.size, 0, none⟩) := e4
              refine st_run (want_none rfl) (.pointer (some ⟨w.heap.size, 0, none⟩)) (w' := u) ?_ (hK _ _ rfl rf)
              simp only [execOp, y4]
              go_simp
            · obtain rfl := Option.some.inj ho
              have y155 : aX.eval (.tmp 155) = .pointer (some ⟨w.heap.size, 0, none⟩) := (hpre 12 _ rfl ⟨⟨12, .data⟩, by simp, rfl, rfl⟩)
              refine st_run (want_none rfl) (.int .i64 (s : Int)) (w' := u) ?_ (hK _ _ rfl rf)
              simp only [execOp, y155]
              go_simp
            · obtain rfl := Option.some.inj ho
              have y4 : aX.eval (.tmp 4) = .pointer (some ⟨w.heap.size, 0, none⟩) := e4
              refine st_run (want_none rfl) (.pointer (some ⟨w.heap.size, 2, none⟩)) (w' := u) ?_ (hK _ _ rfl rf)
              simp only [execOp, y4]
              go_simp
            · obtain rfl := Option.some.inj ho
              have y157 : aX.eval (.tmp 157) = .pointer (some ⟨w.heap.size, 2, none⟩) := (hpre 14 _ rfl ⟨⟨14, .data⟩, by simp, rfl, rfl⟩)
              refine st_run (want_none rfl) (.slice A nA cA) (w' := u) ?_ (hK _ _ rfl rf)
              simp only [execOp, y157]
              go_simp
            · obtain rfl := Option.some.inj ho
              exact st_move (.tmp 14) rfl (want_none rfl) _ e14 (hK _ _ rfl rf)
            · obtain rfl := Option.some.inj ho
              exact st_move (.tmp 20) rfl (want_none rfl) _ e20 (hK _ _ rfl rf)
            · obtain rfl := Option.some.inj ho
              have y159 : aX.eval (.tmp 159) = .slice (some ⟨gl, 0, none⟩) m5 cl := (hpre 16 _ rfl ⟨⟨16, .data⟩, by simp, rfl, rfl⟩)
              have y160 : aX.eval (.tmp 160) = .int .i64 (j : Int) := (hpre 17 _ rfl ⟨⟨17, .data⟩, by simp, rfl, rfl⟩)
              refine st_run (want_none rfl) (.pointer (some ⟨gl, j, none⟩)) (w' := u) ?_ (hK _ _ rfl rf)
              simp only [execOp, y159, y160]
              go_simp
            · obtain rfl := Option.some.inj ho
              have y161 : aX.eval (.tmp 161) = .pointer (some ⟨gl, j, none⟩) := (hpre 18 _ rfl ⟨⟨18, .data⟩, by simp, rfl, rfl⟩)
              refine st_run (want_none rfl) (.slice xA B xc) (w' := u) ?_ (hK _ _ rfl rf)
              simp only [execOp, y161]
              go_simp
            · obtain rfl := Option.some.inj ho
              have x0 : aX.eval (.tmp 156) = .int .i64 (s : Int) := (hpre 13 _ rfl ⟨⟨13, .data⟩, by simp, rfl, rfl⟩)
              have x1 : aX.eval (.tmp 158) = .slice A nA cA := (hpre 15 _ rfl ⟨⟨15, .data⟩, by simp, rfl, rfl⟩)
              have x2 : aX.eval (.tmp 162) = .slice xA B xc := (hpre 19 _ rfl ⟨⟨19, .data⟩, by simp, rfl, rfl⟩)
              exact st_callN 22 _ _ rfl (want_none rfl) #[.int .i64 (s : Int), .slice A nA cA, .slice xA B xc] (by simp [x0, x1, x2]) (by kernel_rfl) _ (HDG.out u hr) (fun e u' ⟨A9, c9, he, hrd, _, _, _, hb⟩ => ⟨_, he, hK _ _ ⟨A9, c9, rfl, hrd⟩ hb⟩)
            · obtain rfl := Option.some.inj ho
              obtain ⟨A9, c9, e9, h9⟩ := (hpre 20 _ rfl ⟨⟨20, .data⟩, by simp, rfl, rfl⟩)
              exact st_conv (.tmp 163) rfl (want_none rfl) _ _ _ _ e9 h9 (hK _ _ rfl rf)
            · obtain rfl := Option.some.inj ho
              have y154 : aX.eval (.tmp 154) = .string (str X) := (hpre 11 _ rfl ⟨⟨11, .data⟩, by simp, rfl, rfl⟩)
              have y164 : aX.eval (.tmp 164) = .string (str Z) := (hpre 21 _ rfl ⟨⟨21, .data⟩, by simp, rfl, rfl⟩)
              refine st_run (want_none rfl) (.bool true) (w' := u) ?_ (hK _ _ rfl rf)
              simp only [execOp, y154, y164]
              go_simp
            · cases ho
          case x3 =>
            intro aX u hr hk hv
            have q165 : aX.tmps.getD 165 undef = .bool true := hv 22 _ rfl
            have hfr := keeps_frameP (fun s => decide ((143 ≤ s ∧ s ≤ 165))) hk (by simp)
            refine hKx aX u ?_
            rw [hfr]
            generalize hff : (fun s => aX.tmps.getD s undef) = ff
            have hf165 : ff 165 = .bool true := by rw [← hff]; exact q165
            simp only [mixP, hf165, decide_eq_true_eq, Nat.reduceAdd, Nat.reduceLeDiff, Nat.reduceEqDiff, false_or, true_or, or_false, or_true, and_true, and_false, true_and, false_and, and_self, if_true, if_false, Nat.zero_le]
            clear hfr hff hf165 q165 hv hk
            have PU := HP8.out.below hr HP8.out.lt
            have XU := HX8.out.below hr HX8.out.lt
            have HBu : Hid (Below wb.heap.size wb u) := below_then HBr8.out hr
            have t0 : u.cell? ⟨w7.heap.size, 0, none⟩ = some (.int .i64 (q2 : Int)) := XU.cell 0
            have t1 : u.cell? ⟨w7.heap.size, 1, none⟩ = some (.int .i64 (N1 : Int)) := XU.cell 1
            have v0 : u.cell? ⟨wb.heap.size, 0, none⟩ = some (.int .i64 (q : Int)) := PU.cell 0
            have v1 : u.cell? ⟨wb.heap.size, 1, none⟩ = some (.int .i64 (j : Int)) := PU.cell 1
            have f0 : u.frozen? ⟨wb.heap.size, 0, none⟩ = false := PU.frozen 0
            have f1 : u.frozen? ⟨wb.heap.size, 1, none⟩ = false := PU.frozen 1
            have RELB : Hid (Blk ((u.setCell ⟨wb.heap.size, 0, none⟩ (.int .i64 (q2 : Int))).setCell ⟨wb.heap.size, 1, none⟩ (.int .i64 (N1 : Int))) wb.heap.size 46 [.int .i64 ((k / a ^ N1 : Nat) : Int), .int .i64 (N1 : Int)]) := by
              rw [HQ2.out]
              exact (PU.set_ 0 (.int .i64 (q2 : Int))).set_ 1 (.int .i64 (N1 : Int))
            have RELW : Hid (Below wb.heap.size wb ((u.setCell ⟨wb.heap.size, 0, none⟩ (.int .i64 (q2 : Int))).setCell ⟨wb.heap.size, 1, none⟩ (.int .i64 (N1 : Int)))) := (HBu.out.setCell (p := ⟨wb.heap.size, 0, none⟩) (Nat.le_refl _) _).setCell (p := ⟨wb.heap.size, 1, none⟩) (Nat.le_refl _) _
            clear PU XU hr hKx
            go_wp2
            go_roundw
            case rel => exact ⟨N1, 54, rfl, by first | rfl | (rw [← HN1.out]; go_num), by omega, HI2, RELB, RELW⟩
            case measure => have := HN1.out; simp [intOf]; omega
      · subst h54
        obtain rfl : er = 54 := by
          rcases HER.out with ⟨_, h⟩ | ⟨h, _⟩ | ⟨h, _⟩
          · exact h
          · exact absurd h hnl
          · exact absurd h hnl
        clear hnl HINV
        go_wp2
        rename_i hKx
        refine wp_region_eachW (by kernel_rfl) (by kernel_rfl) (fun u u' => Below u.heap.size u u') (fun iX v u => match iX with
            | 0 => v = .int .i64 54
            | 1 => v = .bool false
            | 2 => v = .bool false
            | 3 => True
            | 4 => True
            | 5 => True
            | 6 => True
            | 7 => True
            | 8 => True
            | 9 => True
            | 10 => True
            | 11 => True
            | 12 => True
            | 13 => True
            | 14 => True
            | 15 => True
            | 16 => True
            | 17 => True
            | 18 => v = .bool false
            | _ => True) (fun u => Below wr.heap.size wr u) ?z1 (fun _ _ h1 h2 => h1.trans (h2.mono h1.size)) ⟨rfl, rfl, rfl, Nat.le_refl _, fun _ _ => rfl⟩ ?z2 ?z3
        case z1 =>
          intro iX v u u' h hr hb
          rcases iX with _ | _ | _ | _ | _ | _ | _ | _ | _ | _ | _ | _ | _ | _ | _ | _ | _ | _ | _ | iX
          · exact h
          · exact h
          · exact h
          · trivial
          · trivial
          · trivial
          · trivial
          · trivial
          · trivial
          · trivial
          · trivial
          · trivial
          · trivial
          · trivial
          · trivial
          · trivial
          · trivial
          · trivial
          · exact h
          · trivial
        case z2 =>
          intro iX o ho aX u hr hk hpre K hK
          have e18 : aX.tmps.getD 18 undef = .int .i64 54 := hk.slot 18 (by simp)
          have e4 : aX.tmps.getD 4 undef = .pointer (some ⟨w.heap.size, 0, none⟩) := hk.slot 4 (by simp)
          have e14 : aX.tmps.getD 14 undef = .slice (some ⟨gl, 0, none⟩) m5 cl := hk.slot 14 (by simp)
          have e12 : aX.tmps.getD 12 undef = .slice Ar D cr := hk.slot 12 (by simp)
          have rf : Below u.heap.size u u := Below.refl _ _
          rcases iX with _ | _ | _ | _ | _ | _ | _ | _ | _ | _ | _ | _ | _ | _ | _ | _ | _ | _ | _ | iX
          · obtain rfl := Option.some.inj ho
            exact st_move (.tmp 18) rfl (want_none rfl) _ e18 (hK _ _ rfl rf)
          · obtain rfl := Option.some.inj ho
            have y167 : aX.eval (.tmp 167) = .int .i64 54 := (hpre 0 _ rfl ⟨⟨0, .data⟩, by simp, rfl, rfl⟩)
            refine st_run (want_none rfl) (.bool false) (w' := u) ?_ (hK _ _ rfl rf)
            simp only [execOp, y167]
            go_simp
          · obtain rfl := Option.some.inj ho
            exact st_move (.tmp 168) rfl (want_none rfl) _ (hpre 1 _ rfl ⟨⟨1, .data⟩, by simp, rfl, rfl⟩) (hK _ _ rfl rf)
          · obtain rfl := Option.some.inj ho
            exact st_fall (want_fall rfl rfl rfl (hpre 2 _ rfl ⟨⟨2, .guard⟩, by simp, rfl, rfl⟩) (by decide)) (hK undef _ trivial rf)
          · obtain rfl := Option.some.inj ho
            exact st_fall (want_fall rfl rfl rfl (hpre 2 _ rfl ⟨⟨2, .guard⟩, by simp, rfl, rfl⟩) (by decide)) (hK undef _ trivial rf)
          · obtain rfl := Option.some.inj ho
            exact st_fall (want_fall rfl rfl rfl (hpre 2 _ rfl ⟨⟨2, .guard⟩, by simp, rfl, rfl⟩) (by decide)) (hK undef _ trivial rf)
          · obtain rfl := Option.some.inj ho
            exact st_fall (want_fall rfl rfl rfl (hpre 2 _ rfl ⟨⟨2, .guard⟩, by simp, rfl, rfl⟩) (by decide)) (hK undef _ trivial rf)
          · obtain rfl := Option.some.inj ho
            exact st_fall (want_fall rfl rfl rfl (hpre 2 _ rfl ⟨⟨2, .guard⟩, by simp, rfl, rfl⟩) (by decide)) (hK undef _ trivial rf)
          · obtain rfl := Option.some.inj ho
            exact st_fall (want_fall rfl rfl rfl (hpre 2 _ rfl ⟨⟨2, .guard⟩, by simp, rfl, rfl⟩) (by decide)) (hK undef _ trivial rf)
          · obtain rfl := Option.some.inj ho
            exact st_fall (want_fall rfl rfl rfl (hpre 2 _ rfl ⟨⟨2, .guard⟩, by simp, rfl, rfl⟩) (by decide)) (hK undef _ trivial rf)
          · obtain rfl := Option.some.inj ho
            exact st_fall (want_fall rfl rfl rfl (hpre 2 _ rfl ⟨⟨2, .guard⟩, by simp, rfl, rfl⟩) (by decide)) (hK undef _ trivial rf)
          · obtain rfl := Option.some.inj ho
            exact st_fall (want_fall rfl rfl rfl (hpre 2 _ rfl ⟨⟨2, .guard⟩, by simp, rfl, rfl⟩) (by decide)) (hK undef _ trivial rf)
          · obtain rfl := Option.some.inj ho
            exact st_fall (want_fall rfl rfl rfl (hpre 2 _ rfl ⟨⟨2, .guard⟩, by simp, rfl, rfl⟩) (by decide)) (hK undef _ trivial rf)
          · obtain rfl := Option.some.inj ho
            exact st_fall (want_fall rfl rfl rfl (hpre 2 _ rfl ⟨⟨2, .guard⟩, by simp, rfl, rfl⟩) (by decide)) (hK undef _ trivial rf)
          · obtain rfl := Option.some.inj ho
            exact st_fall (want_fall rfl rfl rfl (hpre 2 _ rfl ⟨⟨2, .guard⟩, by simp, rfl, rfl⟩) (by decide)) (hK undef _ trivial rf)
          · obtain rfl := Option.some.inj ho
            exact st_fall (want_fall rfl rfl rfl (hpre 2 _ rfl ⟨⟨2, .guard⟩, by simp, rfl, rfl⟩) (by decide)) (hK undef _ trivial rf)
          · obtain rfl := Option.some.inj ho
            exact st_fall (want_fall rfl rfl rfl (hpre 2 _ rfl ⟨⟨2, .guard⟩, by simp, rfl, rfl⟩) (by decide)) (hK undef _ trivial rf)
          · obtain rfl := Option.some.inj ho
            exact st_fall (want_fall rfl rfl rfl (hpre 2 _ rfl ⟨⟨2, .guard⟩, by simp, rfl, rfl⟩) (by decide)) (hK undef _ trivial rf)
          · obtain rfl := Option.some.inj ho
            exact st_pick (.tmp 169) (.tmp 184) (.const (.bool false)) rfl (want_none rfl) false (hpre 2 _ rfl ⟨⟨2, .data⟩, by simp, rfl, rfl⟩) _ ((if_neg (by decide)).trans rfl) (hK _ _ rfl rf)
          · cases ho
        case z3 =>
          intro aX u hr hk hv
          have q185 : aX.tmps.getD 185 undef = .bool false := hv 18 _ rfl
          have hfr := keeps_frameP (fun s => decide ((167 ≤ s ∧ s ≤ 185))) hk (by simp)
          refine hKx aX u ?_
          rw [hfr]
          generalize hff : (fun s => aX.tmps.getD s undef) = ff
          have hf185 : ff 185 = .bool false := by rw [← hff]; exact q185
          simp only [mixP, hf185, decide_eq_true_eq, Nat.reduceAdd, Nat.reduceLeDiff, Nat.reduceEqDiff, false_or, true_or, or_false, or_true, and_true, and_false, true_and, false_and, and_self, if_true, if_false, Nat.zero_le]
          clear hfr hff hf185 q185 hv hk
          have BELu : Hid (Below w.heap.size w u) := below_then BELr.out hr
          clear hr hKx
          go_wp2
          go_ret
          exact ⟨rfl, BELu.out⟩
    · have zN : ¬ (N1 : Int) < (m5 : Int) := by omega
      rcases HINV.out with ⟨h0, hall⟩ | ⟨h54, hnl⟩
      · subst h0
        have hlk : Linked (hsh s salt) D a k (ps.map (·.l)) := linked_all (m := m5) (by rw [List.length_map]; exact HLSr.out.1.1) (fun j' h => hall j' (by have := HN1.out; omega))
        clear hall HINV
        obtain ⟨m1, hm1⟩ : ∃ m1, m5 - 1 = m1 := ⟨_, rfl⟩
        have HM1 := Lib.hid hm1
        have wm : IntKind.i64.wrap ((m5 : Int) - 1) = (m1 : Int) := by rw [IntKind.wrap_i64]; omega
        have zm1 : (m1 : Int) < (m5 : Int) := by omega
        obtain ⟨adx, px, ex, hpx, hcx, hrx, hfx⟩ := HLSr.out.get (show m1 < m5 by omega)
        injection ex with ex
        subst ex
        have hnx := HPN.out px (List.mem_of_getElem? hpx)
        have hmx := HLSr.out.2.2.2.2 px (List.mem_of_getElem? hpx)
        have hqx := (HLSr.out.1.2.2 px (List.mem_of_getElem? hpx)).2.2
        obtain ⟨xA, xn, xc, xl⟩ := px
        simp only at hcx hrx hfx hnx hmx hqx
        replace hnx := hnx.symm
        subst hnx
        rw [addr_add, Nat.zero_add] at hcx
        have HPx : Hid ((ps.map (·.l))[m1]? = some xl) := by show _ = _; rw [List.getElem?_map, hpx]; rfl
        have HRx := Lib.hid hrx
        have HFx := Lib.hid hfx
        have HMx := Lib.hid hmx
        clear hpx hrx hfx hmx
        clear hm1
        obtain ⟨Z, hZ⟩ : ∃ Z, hsh s salt xl = Z := ⟨_, rfl⟩
        have hZf : Fit 256 Z := by rw [← hZ]; exact hsh_fit _ _ _
        have HDG : Hid (∀ u : World, Below wr.heap.size wr u → Calls Tryd.prog 22 #[.int .i64 (s : Int), .slice A nA cA, .slice xA B xc] u (GivesRd u D Z)) := fun u hbu => by
          rw [← hZ]
          exact RefDigest_z s D HS12.out HDIG.out A nA cA salt xA B xc xl u ((HS0.out.below BELr.out).rd.below hbu) HS0.out.fit HS0.out.nil (by omega) (HRx.out.below hbu) HFx.out HMx.out.2 (by omega)
        by_cases hZR : Z = RT
        · obtain rfl : er = 0 := by
            rcases HER.out with ⟨h, _⟩ | ⟨_, ⟨x, hx, h⟩, h2⟩ | ⟨_, h, h2⟩
            · exact absurd hlk h
            · rw [HM1.out, HPx.out] at hx; injection hx with hx; rw [← hx, hZ] at h; exact absurd hZR h
            · exact h2
          have es : ((str Z).toList == (str RT).toList) = true := by rw [str_same hZf HBRr.out.fit, decide_eq_true hZR]
          clear hlk hZ hZR
          go_wp2
          rename_i hKx
          refine wp_region_eachW (by kernel_rfl) (by kernel_rfl) (fun u u' => Below u.heap.size u u') (fun iX v u => match iX with
              | 0 => v = .int .i64 0
              | 1 => v = .bool true
              | 2 => v = .bool true
              | 3 => v = .pointer (some ⟨w.heap.size, 0, none⟩)
              | 4 => v = .int .i64 (s : Int)
              | 5 => v = .pointer (some ⟨w.heap.size, 2, none⟩)
              | 6 => v = .slice A nA cA
              | 7 => v = .slice (some ⟨gl, 0, none⟩) m5 cl
              | 8 => v = .slice (some ⟨gl, 0, none⟩) m5 cl
              | 9 => v = .int .i64 (m5 : Int)
              | 10 => v = .int .i64 (m1 : Int)
              | 11 => v = .pointer (some ⟨gl, m1, none⟩)
              | 12 => v = .slice xA B xc
              | 13 => ∃ A9 c9, v = .slice A9 D c9 ∧ Rd .u8 u A9 D Z
              | 14 => v = .string (str Z)
              | 15 => v = .slice Ar D cr
              | 16 => v = .string (str RT)
              | 17 => v = .bool false
              | 18 => v = .bool false
              | _ => True) (fun u => Below wr.heap.size wr u) ?y1 (fun _ _ h1 h2 => h1.trans (h2.mono h1.size)) ⟨rfl, rfl, rfl, Nat.le_refl _, fun _ _ => rfl⟩ ?y2 ?y3
          case y1 =>
            intro iX v u u' h hr hb
            rcases iX with _ | _ | _ | _ | _ | _ | _ | _ | _ | _ | _ | _ | _ | _ | _ | _ | _ | _ | _ | iX
            · exact h
            · exact h
            · exact h
            · exact h
            · exact h
            · exact h
            · exact h
            · exact h
            · exact h
            · exact h
            · exact h
            · exact h
            · exact h
            · (obtain ⟨A9, c9, e9, h9⟩ := h; exact ⟨A9, c9, e9, h9.below hb⟩)
            · exact h
            · exact h
            · exact h
            · exact h
            · exact h
            · trivial
          case y2 =>
            intro iX o ho aX u hr hk hpre K hK
            have e18 : aX.tmps.getD 18 undef = .int .i64 0 := hk.slot 18 (by simp)
            have e4 : aX.tmps.getD 4 undef = .pointer (some ⟨w.heap.size, 0, none⟩) := hk.slot 4 (by simp)
            have e14 : aX.tmps.getD 14 undef = .slice (some ⟨gl, 0, none⟩) m5 cl := hk.slot 14 (by simp)
            have e12 : aX.tmps.getD 12 undef = .slice Ar D cr := hk.slot 12 (by simp)
            have u0 : u.cell? ⟨w.heap.size, 0, none⟩ = some (.int .i64 (s : Int)) := (hr.cell (p := ⟨w.heap.size, 0, none⟩) LTS.out).trans cr0
            have u2 : u.cell? ⟨w.heap.size, 2, none⟩ = some (.slice A nA cA) := (hr.cell (p := ⟨w.heap.size, 2, none⟩) LTS.out).trans cr2
            have u4 : u.cell? ⟨gl, m1, none⟩ = some (.slice xA B xc) := (hr.cell (p := ⟨gl, m1, none⟩) LTL.out).trans hcx
            have rf : Below u.heap.size u u := Below.refl _ _
            rcases iX with _ | _ | _ | _ | _ | _ | _ | _ | _ | _ | _ | _ | _ | _ | _ | _ | _ | _ | _ | iX
            · obtain rfl := Option.some.inj ho
              exact st_move (.tmp 18) rfl (want_none rfl) _ e18 (hK _ _ rfl rf)
            · obtain rfl := Option.some.inj ho
              have y167 : aX.eval (.tmp 167) = .int .i64 0 := (hpre 0 _ rfl ⟨⟨0, .data⟩, by simp, rfl, rfl⟩)
              refine st_run (want_none rfl) (.bool true) (w' := u) ?_ (hK _ _ rfl rf)
              simp only [execOp, y167]
              go_simp
            · obtain rfl := Option.some.inj ho
              exact st_move (.tmp 168) rfl (want_none rfl) _ (hpre 1 _ rfl ⟨⟨1, .data⟩, by simp, rfl, rfl⟩) (hK _ _ rfl rf)
            · obtain rfl := Option.some.inj ho
              have y4 : aX.eval (.tmp 4) = .pointer (some ⟨w.heap.size, 0, none⟩) := e4
              refine st_run (want_some rfl rfl rfl (hpre 2 _ rfl ⟨⟨2, .guard⟩, by simp, rfl, rfl⟩)) (.pointer (some ⟨w.heap.size, 0, none⟩)) (w' := u) ?_ (hK _ _ rfl rf)
              simp only [execOp, y4]
              go_simp
            · obtain rfl := Option.some.inj ho
              have y170 : aX.eval (.tmp 170) = .pointer (some ⟨w.heap.size, 0, none⟩) := (hpre 3 _ rfl ⟨⟨3, .data⟩, by simp, rfl, rfl⟩)
              refine st_run (want_some rfl rfl rfl (hpre 2 _ rfl ⟨⟨2, .guard⟩, by simp, rfl, rfl⟩)) (.int .i64 (s : Int)) (w' := u) ?_ (hK _ _ rfl rf)
              simp only [execOp, y170]
              go_simp
            · obtain rfl := Option.some.inj ho
              have y4 : aX.eval (.tmp 4) = .pointer (some ⟨w.heap.size, 0, none⟩) := e4
              refine st_run (want_some rfl rfl rfl (hpre 2 _ rfl ⟨⟨2, .guard⟩, by simp, rfl, rfl⟩)) (.pointer (some ⟨w.heap.size, 2, none⟩)) (w' := u) ?_ (hK _ _ rfl rf)
              simp only [execOp, y4]
              go_simp
            · obtain rfl := Option.some.inj ho
              have y172 : aX.eval (.tmp 172) = .pointer (some ⟨w.heap.size, 2, none⟩) := (hpre 5 _ rfl ⟨⟨5, .data⟩, by simp, rfl, rfl⟩)
              refine st_run (want_some rfl rfl rfl (hpre 2 _ rfl ⟨⟨2, .guard⟩, by simp, rfl, rfl⟩)) (.slice A nA cA) (w' := u) ?_ (hK _ _ rfl rf)
              simp only [execOp, y172]
              go_simp
            · obtain rfl := Option.some.inj ho
              exact st_move (.tmp 14) rfl (want_some rfl rfl rfl (hpre 2 _ rfl ⟨⟨2, .guard⟩, by simp, rfl, rfl⟩)) _ e14 (hK _ _ rfl rf)
            · obtain rfl := Option.some.inj ho
              exact st_move (.tmp 14) rfl (want_some rfl rfl rfl (hpre 2 _ rfl ⟨⟨2, .guard⟩, by simp, rfl, rfl⟩)) _ e14 (hK _ _ rfl rf)
            · obtain rfl := Option.some.inj ho
              exact st_len41 (.tmp 175) rfl (want_some rfl rfl rfl (hpre 2 _ rfl ⟨⟨2, .guard⟩, by simp, rfl, rfl⟩)) _ _ _ (hpre 8 _ rfl ⟨⟨8, .data⟩, by simp, rfl, rfl⟩) (hK _ _ rfl rf)
            · obtain rfl := Option.some.inj ho
              have y176 : aX.eval (.tmp 176) = .int .i64 (m5 : Int) := (hpre 9 _ rfl ⟨⟨9, .data⟩, by simp, rfl, rfl⟩)
              refine st_run (want_some rfl rfl rfl (hpre 2 _ rfl ⟨⟨2, .guard⟩, by simp, rfl, rfl⟩)) (.int .i64 (m1 : Int)) (w' := u) ?_ (hK _ _ rfl rf)
              simp only [execOp, y176]
              go_simp
            · obtain rfl := Option.some.inj ho
              have y174 : aX.eval (.tmp 174) = .slice (some ⟨gl, 0, none⟩) m5 cl := (hpre 7 _ rfl ⟨⟨7, .data⟩, by simp, rfl, rfl⟩)
              have y177 : aX.eval (.tmp 177) = .int .i64 (m1 : Int) := (hpre 10 _ rfl ⟨⟨10, .data⟩, by simp, rfl, rfl⟩)
              refine st_run (want_some rfl rfl rfl (hpre 2 _ rfl ⟨⟨2, .guard⟩, by simp, rfl, rfl⟩)) (.pointer (some ⟨gl, m1, none⟩)) (w' := u) ?_ (hK _ _ rfl rf)
              simp only [execOp, y174, y177]
              go_simp
            · obtain rfl := Option.some.inj ho
              have y178 : aX.eval (.tmp 178) = .pointer (some ⟨gl, m1, none⟩) := (hpre 11 _ rfl ⟨⟨11, .data⟩, by simp, rfl, rfl⟩)
              refine st_run (want_some rfl rfl rfl (hpre 2 _ rfl ⟨⟨2, .guard⟩, by simp, rfl, rfl⟩)) (.slice xA B xc) (w' := u) ?_ (hK _ _ rfl rf)
              simp only [execOp, y178]
              go_simp
            · obtain rfl := Option.some.inj ho
              have x0 : aX.eval (.tmp 171) = .int .i64 (s : Int) := (hpre 4 _ rfl ⟨⟨4, .data⟩, by simp, rfl, rfl⟩)
              have x1 : aX.eval (.tmp 173) = .slice A nA cA := (hpre 6 _ rfl ⟨⟨6, .data⟩, by simp, rfl, rfl⟩)
              have x2 : aX.eval (.tmp 179) = .slice xA B xc := (hpre 12 _ rfl ⟨⟨12, .data⟩, by simp, rfl, rfl⟩)
              exact st_callN 22 _ _ rfl (want_some rfl rfl rfl (hpre 2 _ rfl ⟨⟨2, .guard⟩, by simp, rfl, rfl⟩)) #[.int .i64 (s : Int), .slice A nA cA, .slice xA B xc] (by simp [x0, x1, x2]) (by kernel_rfl) _ (HDG.out u hr) (fun e u' ⟨A9, c9, he, hrd, _, _, _, hb⟩ => ⟨_, he, hK _ _ ⟨A9, c9, rfl, hrd⟩ hb⟩)
            · obtain rfl := Option.some.inj ho
              obtain ⟨A9, c9, e9, h9⟩ := (hpre 13 _ rfl ⟨⟨13, .data⟩, by simp, rfl, rfl⟩)
              exact st_conv (.tmp 180) rfl (want_some rfl rfl rfl (hpre 2 _ rfl ⟨⟨2, .guard⟩, by simp, rfl, rfl⟩)) _ _ _ _ e9 h9 (hK _ _ rfl rf)
            · obtain rfl := Option.some.inj ho
              exact st_move (.tmp 12) rfl (want_some rfl rfl rfl (hpre 2 _ rfl ⟨⟨2, .guard⟩, by simp, rfl, rfl⟩)) _ e12 (hK _ _ rfl rf)
            · obtain rfl := Option.some.inj ho
              exact st_conv (.tmp 182) rfl (want_some rfl rfl rfl (hpre 2 _ rfl ⟨⟨2, .guard⟩, by simp, rfl, rfl⟩)) _ _ _ _ (hpre 15 _ rfl ⟨⟨15, .data⟩, by simp, rfl, rfl⟩) (HBRr.out.rd.below hr) (hK _ _ rfl rf)
            · obtain rfl := Option.some.inj ho
              have y181 : aX.eval (.tmp 181) = .string (str Z) := (hpre 14 _ rfl ⟨⟨14, .data⟩, by simp, rfl, rfl⟩)
              have y183 : aX.eval (.tmp 183) = .string (str RT) := (hpre 16 _ rfl ⟨⟨16, .data⟩, by simp, rfl, rfl⟩)
              refine st_run (want_some rfl rfl rfl (hpre 2 _ rfl ⟨⟨2, .guard⟩, by simp, rfl, rfl⟩)) (.bool false) (w' := u) ?_ (hK _ _ rfl rf)
              simp only [execOp, y181, y183]
              go_simp
            · obtain rfl := Option.some.inj ho
              exact st_pick (.tmp 169) (.tmp 184) (.const (.bool false)) rfl (want_none rfl) true (hpre 2 _ rfl ⟨⟨2, .data⟩, by simp, rfl, rfl⟩) _ ((if_pos rfl).trans (hpre 17 _ rfl ⟨⟨17, .data⟩, by simp, rfl, rfl⟩)) (hK _ _ rfl rf)
            · cases ho
          case y3 =>
            intro aX u hr hk hv
            have q185 : aX.tmps.getD 185 undef = .bool false := hv 18 _ rfl
            have hfr := keeps_frameP (fun s => decide ((167 ≤ s ∧ s ≤ 185))) hk (by simp)
            refine hKx aX u ?_
            rw [hfr]
            generalize hff : (fun s => aX.tmps.getD s undef) = ff
            have hf185 : ff 185 = .bool false := by rw [← hff]; exact q185
            simp only [mixP, hf185, decide_eq_true_eq, Nat.reduceAdd, Nat.reduceLeDiff, Nat.reduceEqDiff, false_or, true_or, or_false, or_true, and_true, and_false, true_and, false_and, and_self, if_true, if_false, Nat.zero_le]
            clear hfr hff hf185 q185 hv hk
            have BELu : Hid (Below w.heap.size w u) := below_then BELr.out hr
            clear hr hKx
            go_wp2
            go_ret
            exact ⟨rfl, BELu.out⟩
        · obtain rfl : er = 51 := by
            rcases HER.out with ⟨h, _⟩ | ⟨_, ⟨x, hx, h⟩, h2⟩ | ⟨_, h, h2⟩
            · exact absurd hlk h
            · exact h2
            · exact absurd (by rw [← hZ]; exact h xl (by rw [HM1.out]; exact HPx.out)) hZR
          have es : ((str Z).toList == (str RT).toList) = false := by rw [str_same hZf HBRr.out.fit, decide_eq_false hZR]
          clear hlk hZ hZR
          go_wp2
          rename_i hKx
          refine wp_region_eachW (by kernel_rfl) (by kernel_rfl) (fun u u' => Below u.heap.size u u') (fun iX v u => match iX with
              | 0 => v = .int .i64 0
              | 1 => v = .bool true
              | 2 => v = .bool true
              | 3 => v = .pointer (some ⟨w.heap.size, 0, none⟩)
              | 4 => v = .int .i64 (s : Int)
              | 5 => v = .pointer (some ⟨w.heap.size, 2, none⟩)
              | 6 => v = .slice A nA cA
              | 7 => v = .slice (some ⟨gl, 0, none⟩) m5 cl
              | 8 => v = .slice (some ⟨gl, 0, none⟩) m5 cl
              | 9 => v = .int .i64 (m5 : Int)
              | 10 => v = .int .i64 (m1 : Int)
              | 11 => v = .pointer (some ⟨gl, m1, none⟩)
              | 12 => v = .slice xA B xc
              | 13 => ∃ A9 c9, v = .slice A9 D c9 ∧ Rd .u8 u A9 D Z
              | 14 => v = .string (str Z)
              | 15 => v = .slice Ar D cr
              | 16 => v = .string (str RT)
              | 17 => v = .bool true
              | 18 => v = .bool true
              | _ => True) (fun u => Below wr.heap.size wr u) ?y1 (fun _ _ h1 h2 => h1.trans (h2.mono h1.size)) ⟨rfl, rfl, rfl, Nat.le_refl _, fun _ _ => rfl⟩ ?y2 ?y3
          case y1 =>
            intro iX v u u' h hr hb
            rcases iX with _ | _ | _ | _ | _ | _ | _ | _ | _ | _ | _ | _ | _ | _ | _ | _ | _ | _ | _ | iX
            · exact h
            · exact h
            · exact h
            · exact h
            · exact h
            · exact h
            · exact h
            · exact h
            · exact h
            · exact h
            · exact h
            · exact h
            · exact h
            · (obtain ⟨A9, c9, e9, h9⟩ := h; exact ⟨A9, c9, e9, h9.below hb⟩)
            · exact h
            · exact h
            · exact h
            · exact h
            · exact h
            · trivial
          case y2 =>
            intro iX o ho aX u hr hk hpre K hK
            have e18 : aX.tmps.getD 18 undef = .int .i64 0 := hk.slot 18 (by simp)
            have e4 : aX.tmps.getD 4 undef = .pointer (some ⟨w.heap.size, 0, none⟩) := hk.slot 4 (by simp)
            have e14 : aX.tmps.getD 14 undef = .slice (some ⟨gl, 0, none⟩) m5 cl := hk.slot 14 (by simp)
            have e12 : aX.tmps.getD 12 undef = .slice Ar D cr := hk.slot 12 (by simp)
            have u0 : u.cell? ⟨w.heap.size, 0, none⟩ = some (.int .i64 (s : Int)) := (hr.cell (p := ⟨w.heap.size, 0, none⟩) LTS.out).trans cr0
            have u2 : u.cell? ⟨w.heap.size, 2, none⟩ = some (.slice A nA cA) := (hr.cell (p := ⟨w.heap.size, 2, none⟩) LTS.out).trans cr2
            have u4 : u.cell? ⟨gl, m1, none⟩ = some (.slice xA B xc) := (hr.cell (p := ⟨gl, m1, none⟩) LTL.out).trans hcx
            have rf : Below u.heap.size u u := Below.refl _ _
            rcases iX with _ | _ | _ | _ | _ | _ | _ | _ | _ | _ | _ | _ | _ | _ | _ | _ | _ | _ | _ | iX
            · obtain rfl := Option.some.inj ho
              exact st_move (.tmp 18) rfl (want_none rfl) _ e18 (hK _ _ rfl rf)
            · obtain rfl := Option.some.inj ho
              have y167 : aX.eval (.tmp 167) = .int .i64 0 := (hpre 0 _ rfl ⟨⟨0, .data⟩, by simp, rfl, rfl⟩)
              refine st_run (want_none rfl) (.bool true) (w' := u) ?_ (hK _ _ rfl rf)
              simp only [execOp, y167]
              go_simp
            · obtain rfl := Option.some.inj ho
              exact st_move (.tmp 168) rfl (want_none rfl) _ (hpre 1 _ rfl ⟨⟨1, .data⟩, by simp, rfl, rfl⟩) (hK _ _ rfl rf)
            · obtain rfl := Option.some.inj ho
              have y4 : aX.eval (.tmp 4) = .pointer (some ⟨w.heap.size, 0, none⟩) := e4
              refine st_run (want_some rfl rfl rfl (hpre 2 _ rfl ⟨⟨2, .guard⟩, by simp, rfl, rfl⟩)) (.pointer (some ⟨w.heap.size, 0, none⟩)) (w' := u) ?_ (hK _ _ rfl rf)
              simp only [execOp, y4]
              go_simp
            · obtain rfl := Option.some.inj ho
              have y170 : aX.eval (.tmp 170) = .pointer (some ⟨w.heap.size, 0, none⟩) := (hpre 3 _ rfl ⟨⟨3, .data⟩, by simp, rfl, rfl⟩)
              refine st_run (want_some rfl rfl rfl (hpre 2 _ rfl ⟨⟨2, .guard⟩, by simp, rfl, rfl⟩)) (.int .i64 (s : Int)) (w' := u) ?_ (hK _ _ rfl rf)
              simp only [execOp, y170]
              go_simp
            · obtain rfl := Option.some.inj ho
              have y4 : aX.eval (.tmp 4) = .pointer (some ⟨w.heap.size, 0, none⟩) := e4
              refine st_run (want_some rfl rfl rfl (hpre 2 _ rfl ⟨⟨2, .guard⟩, by simp, rfl, rfl⟩)) (.pointer (some ⟨w.heap.size, 2, none⟩)) (w' := u) ?_ (hK _ _ rfl rf)
              simp only [execOp, y4]
              go_simp
            · obtain rfl := Option.some.inj ho
              have y172 : aX.eval (.tmp 172) = .pointer (some ⟨w.heap.size, 2, none⟩) := (hpre 5 _ rfl ⟨⟨5, .data⟩, by simp, rfl, rfl⟩)
              refine st_run (want_some rfl rfl rfl (hpre 2 _ rfl ⟨⟨2, .guard⟩, by simp, rfl, rfl⟩)) (.slice A nA cA) (w' := u) ?_ (hK _ _ rfl rf)
              simp only [execOp, y172]
              go_simp
            · obtain rfl := Option.some.inj ho
              exact st_move (.tmp 14) rfl (want_some rfl rfl rfl (hpre 2 _ rfl ⟨⟨2, .guard⟩, by simp, rfl, rfl⟩)) _ e14 (hK _ _ rfl rf)
            · obtain rfl := Option.some.inj ho
              exact st_move (.tmp 14) rfl (want_some rfl rfl rfl (hpre 2 _ rfl ⟨⟨2, .guard⟩, by simp, rfl, rfl⟩)) _ e14 (hK _ _ rfl rf)
            · obtain rfl := Option.some.inj ho
              exact st_len41 (.tmp 175) rfl (want_some rfl rfl rfl (hpre 2 _ rfl ⟨⟨2, .guard⟩, by simp, rfl, rfl⟩)) _ _ _ (hpre 8 _ rfl ⟨⟨8, .data⟩, by simp, rfl, rfl⟩) (hK _ _ rfl rf)
            · obtain rfl := Option.some.inj ho
              have y176 : aX.eval (.tmp 176) = .int .i64 (m5 : Int) := (hpre 9 _ rfl ⟨⟨9, .data⟩, by simp, rfl, rfl⟩)
              refine st_run (want_some rfl rfl rfl (hpre 2 _ rfl ⟨⟨2, .guard⟩, by simp, rfl, rfl⟩)) (.int .i64 (m1 : Int)) (w' := u) ?_ (hK _ _ rfl rf)
              simp only [execOp, y176]
              go_simp
            · obtain rfl := Option.some.inj ho
              have y174 : aX.eval (.tmp 174) = .slice (some ⟨gl, 0, none⟩) m5 cl := (hpre 7 _ rfl ⟨⟨7, .data⟩, by simp, rfl, rfl⟩)
              have y177 : aX.eval (.tmp 177) = .int .i64 (m1 : Int) := (hpre 10 _ rfl ⟨⟨10, .data⟩, by simp, rfl, rfl⟩)
              refine st_run (want_some rfl rfl rfl (hpre 2 _ rfl ⟨⟨2, .guard⟩, by simp, rfl, rfl⟩)) (.pointer (some ⟨gl, m1, none⟩)) (w' := u) ?_ (hK _ _ rfl rf)
              simp only [execOp, y174, y177]
              go_simp
            · obtain rfl := Option.some.inj ho
              have y178 : aX.eval (.tmp 178) = .pointer (some ⟨gl, m1, none⟩) := (hpre 11 _ rfl ⟨⟨11, .data⟩, by simp, rfl, rfl⟩)
              refine st_run (want_some rfl rfl rfl (hpre 2 _ rfl ⟨⟨2, .guard⟩, by simp, rfl, rfl⟩)) (.slice xA B xc) (w' := u) ?_ (hK _ _ rfl rf)
              simp only [execOp, y178]
              go_simp
            · obtain rfl := Option.some.inj ho
              have x0 : aX.eval (.tmp 171) = .int .i64 (s : Int) := (hpre 4 _ rfl ⟨⟨4, .data⟩, by simp, rfl, rfl⟩)
              have x1 : aX.eval (.tmp 173) = .slice A nA cA := (hpre 6 _ rfl ⟨⟨6, .data⟩, by simp, rfl, rfl⟩)
              have x2 : aX.eval (.tmp 179) = .slice xA B xc := (hpre 12 _ rfl ⟨⟨12, .data⟩, by simp, rfl, rfl⟩)
              exact st_callN 22 _ _ rfl (want_some rfl rfl rfl (hpre 2 _ rfl ⟨⟨2, .guard⟩, by simp, rfl, rfl⟩)) #[.int .i64 (s : Int), .slice A nA cA, .slice xA B xc] (by simp [x0, x1, x2]) (by kernel_rfl) _ (HDG.out u hr) (fun e u' ⟨A9, c9, he, hrd, _, _, _, hb⟩ => ⟨_, he, hK _ _ ⟨A9, c9, rfl, hrd⟩ hb⟩)
            · obtain rfl := Option.some.inj ho
              obtain ⟨A9, c9, e9, h9⟩ := (hpre 13 _ rfl ⟨⟨13, .data⟩, by simp, rfl, rfl⟩)
              exact st_conv (.tmp 180) rfl (want_some rfl rfl rfl (hpre 2 _ rfl ⟨⟨2, .guard⟩, by simp, rfl, rfl⟩)) _ _ _ _ e9 h9 (hK _ _ rfl rf)
            · obtain rfl := Option.some.inj ho
              exact st_move (.tmp 12) rfl (want_some rfl rfl rfl (hpre 2 _ rfl ⟨⟨2, .guard⟩, by simp, rfl, rfl⟩)) _ e12 (hK _ _ rfl rf)
            · obtain rfl := Option.some.inj ho
              exact st_conv (.tmp 182) rfl (want_some rfl rfl rfl (hpre 2 _ rfl ⟨⟨2, .guard⟩, by simp, rfl, rfl⟩)) _ _ _ _ (hpre 15 _ rfl ⟨⟨15, .data⟩, by simp, rfl, rfl⟩) (HBRr.out.rd.below hr) (hK _ _ rfl rf)
            · obtain rfl := Option.some.inj ho
              have y181 : aX.eval (.tmp 181) = .string (str Z) := (hpre 14 _ rfl ⟨⟨14, .data⟩, by simp, rfl, rfl⟩)
              have y183 : aX.eval (.tmp 183) = .string (str RT) := (hpre 16 _ rfl ⟨⟨16, .data⟩, by simp, rfl, rfl⟩)
              refine st_run (want_some rfl rfl rfl (hpre 2 _ rfl ⟨⟨2, .guard⟩, by simp, rfl, rfl⟩)) (.bool true) (w' := u) ?_ (hK _ _ rfl rf)
              simp only [execOp, y181, y183]
              go_simp
            · obtain rfl := Option.some.inj ho
              exact st_pick (.tmp 169) (.tmp 184) (.const (.bool false)) rfl (want_none rfl) true (hpre 2 _ rfl ⟨⟨2, .data⟩, by simp, rfl, rfl⟩) _ ((if_pos rfl).trans (hpre 17 _ rfl ⟨⟨17, .data⟩, by simp, rfl, rfl⟩)) (hK _ _ rfl rf)
            · cases ho
          case y3 =>
            intro aX u hr hk hv
            have q185 : aX.tmps.getD 185 undef = .bool true := hv 18 _ rfl
            have hfr := keeps_frameP (fun s => decide ((167 ≤ s ∧ s ≤ 185))) hk (by simp)
            refine hKx aX u ?_
            rw [hfr]
            generalize hff : (fun s => aX.tmps.getD s undef) = ff
            have hf185 : ff 185 = .bool true := by rw [← hff]; exact q185
            simp only [mixP, hf185, decide_eq_true_eq, Nat.reduceAdd, Nat.reduceLeDiff, Nat.reduceEqDiff, false_or, true_or, or_false, or_true, and_true, and_false, true_and, false_and, and_self, if_true, if_false, Nat.zero_le]
            clear hfr hff hf185 q185 hv hk
            have BELu : Hid (Below w.heap.size w u) := below_then BELr.out hr
            clear hr hKx
            go_wp2
            go_ret
            exact ⟨rfl, BELu.out⟩
      · subst h54
        obtain rfl : er = 54 := by
          rcases HER.out with ⟨_, h⟩ | ⟨h, _⟩ | ⟨h, _⟩
          · exact h
          · exact absurd h hnl
          · exact absurd h hnl
        clear hnl HINV
        go_wp2
        rename_i hKx
        refine wp_region_eachW (by kernel_rfl) (by kernel_rfl) (fun u u' => Below u.heap.size u u') (fun iX v u => match iX with
            | 0 => v = .int .i64 54
            | 1 => v = .bool false
            | 2 => v = .bool false
            | 3 => True
            | 4 => True
            | 5 => True
            | 6 => True
            | 7 => True
            | 8 => True
            | 9 => True
            | 10 => True
            | 11 => True
            | 12 => True
            | 13 => True
            | 14 => True
            | 15 => True
            | 16 => True
            | 17 => True
            | 18 => v = .bool false
            | _ => True) (fun u => Below wr.heap.size wr u) ?z1 (fun _ _ h1 h2 => h1.trans (h2.mono h1.size)) ⟨rfl, rfl, rfl, Nat.le_refl _, fun _ _ => rfl⟩ ?z2 ?z3
        case z1 =>
          intro iX v u u' h hr hb
          rcases iX with _ | _ | _ | _ | _ | _ | _ | _ | _ | _ | _ | _ | _ | _ | _ | _ | _ | _ | _ | iX
          · exact h
          · exact h
          · exact h
          · trivial
          · trivial
          · trivial
          · trivial
          · trivial
          · trivial
          · trivial
          · trivial
          · trivial
          · trivial
          · trivial
          · trivial
          · trivial
          · trivial
          · trivial
          · exact h
          · trivial
        case z2 =>
          intro iX o ho aX u hr hk hpre K hK
          have e18 : aX.tmps.getD 18 undef = .int .i64 54 := hk.slot 18 (by simp)
          have e4 : aX.tmps.getD 4 undef = .pointer (some ⟨w.heap.size, 0, none⟩) := hk.slot 4 (by simp)
          have e14 : aX.tmps.getD 14 undef = .slice (some ⟨gl, 0, none⟩) m5 cl := hk.slot 14 (by simp)
          have e12 : aX.tmps.getD 12 undef = .slice Ar D cr := hk.slot 12 (by simp)
          have rf : Below u.heap.size u u := Below.refl _ _
          rcases iX with _ | _ | _ | _ | _ | _ | _ | _ | _ | _ | _ | _ | _ | _ | _ | _ | _ | _ | _ | iX
          · obtain rfl := Option.some.inj ho
            exact st_move (.tmp 18) rfl (want_none rfl) _ e18 (hK _ _ rfl rf)
          · obtain rfl := Option.some.inj ho
            have y167 : aX.eval (.tmp 167) = .int .i64 54 := (hpre 0 _ rfl ⟨⟨0, .data⟩, by simp, rfl, rfl⟩)
            refine st_run (want_none rfl) (.bool false) (w' := u) ?_ (hK _ _ rfl rf)
            simp only [execOp, y167]
            go_simp
          · obtain rfl := Option.some.inj ho
            exact st_move (.tmp 168) rfl (want_none rfl) _ (hpre 1 _ rfl ⟨⟨1, .data⟩, by simp, rfl, rfl⟩) (hK _ _ rfl rf)
          · obtain rfl := Option.some.inj ho
            exact st_fall (want_fall rfl rfl rfl (hpre 2 _ rfl ⟨⟨2, .guard⟩, by simp, rfl, rfl⟩) (by decide)) (hK undef _ trivial rf)
          · obtain rfl := Option.some.inj ho
            exact st_fall (want_fall rfl rfl rfl (hpre 2 _ rfl ⟨⟨2, .guard⟩, by simp, rfl, rfl⟩) (by decide)) (hK undef _ trivial rf)
          · obtain rfl := Option.some.inj ho
            exact st_fall (want_fall rfl rfl rfl (hpre 2 _ rfl ⟨⟨2, .guard⟩, by simp, rfl, rfl⟩) (by decide)) (hK undef _ trivial rf)
          · obtain rfl := Option.some.inj ho
            exact st_fall (want_fall rfl rfl rfl (hpre 2 _ rfl ⟨⟨2, .guard⟩, by simp, rfl, rfl⟩) (by decide)) (hK undef _ trivial rf)
          · obtain rfl := Option.some.inj ho
            exact st_fall (want_fall rfl rfl rfl (hpre 2 _ rfl ⟨⟨2, .guard⟩, by simp, rfl, rfl⟩) (by decide)) (hK undef _ trivial rf)
          · obtain rfl := Option.some.inj ho
            exact st_fall (want_fall rfl rfl rfl (hpre 2 _ rfl ⟨⟨2, .guard⟩, by simp, rfl, rfl⟩) (by decide)) (hK undef _ trivial rf)
          · obtain rfl := Option.some.inj ho
            exact st_fall (want_fall rfl rfl rfl (hpre 2 _ rfl ⟨⟨2, .guard⟩, by simp, rfl, rfl⟩) (by decide)) (hK undef _ trivial rf)
          · obtain rfl := Option.some.inj ho
            exact st_fall (want_fall rfl rfl rfl (hpre 2 _ rfl ⟨⟨2, .guard⟩, by simp, rfl, rfl⟩) (by decide)) (hK undef _ trivial rf)
          · obtain rfl := Option.some.inj ho
            exact st_fall (want_fall rfl rfl rfl (hpre 2 _ rfl ⟨⟨2, .guard⟩, by simp, rfl, rfl⟩) (by decide)) (hK undef _ trivial rf)
          · obtain rfl := Option.some.inj ho
            exact st_fall (want_fall rfl rfl rfl (hpre 2 _ rfl ⟨⟨2, .guard⟩, by simp, rfl, rfl⟩) (by decide)) (hK undef _ trivial rf)
          · obtain rfl := Option.some.inj ho
            exact st_fall (want_fall rfl rfl rfl (hpre 2 _ rfl ⟨⟨2, .guard⟩, by simp, rfl, rfl⟩) (by decide)) (hK undef _ trivial rf)
          · obtain rfl := Option.some.inj ho
            exact st_fall (want_fall rfl rfl rfl (hpre 2 _ rfl ⟨⟨2, .guard⟩, by simp, rfl, rfl⟩) (by decide)) (hK undef _ trivial rf)
          · obtain rfl := Option.some.inj ho
            exact st_fall (want_fall rfl rfl rfl (hpre 2 _ rfl ⟨⟨2, .guard⟩, by simp, rfl, rfl⟩) (by decide)) (hK undef _ trivial rf)
          · obtain rfl := Option.some.inj ho
            exact st_fall (want_fall rfl rfl rfl (hpre 2 _ rfl ⟨⟨2, .guard⟩, by simp, rfl, rfl⟩) (by decide)) (hK undef _ trivial rf)
          · obtain rfl := Option.some.inj ho
            exact st_fall (want_fall rfl rfl rfl (hpre 2 _ rfl ⟨⟨2, .guard⟩, by simp, rfl, rfl⟩) (by decide)) (hK undef _ trivial rf)
          · obtain rfl := Option.some.inj ho
            exact st_pick (.tmp 169) (.tmp 184) (.const (.bool false)) rfl (want_none rfl) false (hpre 2 _ rfl ⟨⟨2, .data⟩, by simp, rfl, rfl⟩) _ ((if_neg (by decide)).trans rfl) (hK _ _ rfl rf)
          · cases ho
        case z3 =>
          intro aX u hr hk hv
          have q185 : aX.tmps.getD 185 undef = .bool false := hv 18 _ rfl
          have hfr := keeps_frameP (fun s => decide ((167 ≤ s ∧ s ≤ 185))) hk (by simp)
          refine hKx aX u ?_
          rw [hfr]
          generalize hff : (fun s => aX.tmps.getD s undef) = ff
          have hf185 : ff 185 = .bool false := by rw [← hff]; exact q185
          simp only [mixP, hf185, decide_eq_true_eq, Nat.reduceAdd, Nat.reduceLeDiff, Nat.reduceEqDiff, false_or, true_or, or_false, or_true, and_true, and_false, true_and, false_and, and_self, if_true, if_false, Nat.zero_le]
          clear hfr hff hf185 q185 hv hk
          have BELu : Hid (Below w.heap.size w u) := below_then BELr.out hr
          clear hr hKx
          go_wp2
          go_ret
          exact ⟨rfl, BELu.out⟩
end Go.Proofs.YtfoenafjaaidmaaDoor
