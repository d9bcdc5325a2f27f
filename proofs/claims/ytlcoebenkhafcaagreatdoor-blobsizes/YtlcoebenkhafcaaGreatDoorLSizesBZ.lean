/-
  BlobSizes returns true for every blob: its walk.
-/
import Derived.Test.YtlcoebenkhafcaaGreatDoorZ32
namespace Go.Proofs.YtlcoebenkhafcaaGreatDoor
open Go.RowKit
set_option linter.unusedVariables false
set_option linter.unusedSimpArgs false
set_option maxRecDepth 100000

theorem arr8 {α : Type} {cs : Array α} (h : cs.size = 8) : ∃ c0 c1 c2 c3 c4 c5 c6 c7, cs = #[c0, c1, c2, c3, c4, c5, c6, c7] := by
  obtain ⟨l⟩ := cs
  match l, h with
  | [c0, c1, c2, c3, c4, c5, c6, c7], _ => exact ⟨c0, c1, c2, c3, c4, c5, c6, c7, rfl⟩
theorem cellsDs : Tryz.prog.cellsOf 24 = 1 := by kernel_rfl
theorem cellsBl : Tryz.prog.cellsOf 27 = 8 := by kernel_rfl
section
variable {H : Type} {enc : TypeId × Value → H} {W : World} {base : Nat} {sp : Nat → Bool} {held : Bool}
open Go.ChangeShapes Go.WideShapes Go.ChangeAt in
theorem blob_of_trod {fuel : Nat} {v0 v1 v2 v3 v4 v5 v6 v7 : Value} {x : DataW H × List MemPlace} (h : DataW.trod enc Tryz.prog W base sp held fuel 27 [v0, v1, v2, v3, v4, v5, v6, v7] = some x) :
    ∃ X : BX, [v0, v1, v2, v3, v4, v5, v6, v7] = X.cells ∧ BXLie W X := by
  obtain ⟨xs, k, hk, hxy, _, hxl, hfe⟩ := DataW.trod_struct Tryz.underlying27 h
  match xs, hxl with
  | [y0, y1, y2, y3, y4], _ =>
    have f0 := hfe 0 _ rfl
    have f1 := hfe 1 _ rfl
    have f2 := hfe 2 _ rfl
    have f3 := hfe 3 _ rfl
    have f4 := hfe 4 _ rfl
    simp [cells3, cellsB, cellsH, cellsDs] at f0 f1 f2 f3 f4
    obtain ⟨b, e0, z0, z1, z2, z3, _, _, _, _⟩ := head_of_trod f0
    obtain ⟨A4, m4, c4, l4, e4, b4⟩ := descrs_of_trod f1
    obtain ⟨A5, m5, c5, l5, e5, b5⟩ := bytes_of_trod f2
    obtain ⟨A6, m6, c6, l6, e6, b6⟩ := bytes_of_trod f3
    obtain ⟨A7, m7, c7, l7, e7, b7⟩ := bytes_of_trod f4
    simp [hcells] at e0 e4 e5 e6 e7
    obtain ⟨rfl, rfl, rfl, rfl⟩ := e0
    subst e4 e5 e6 e7
    exact ⟨⟨⟨b.alg, b.idx, b.flags, b.loc, des l4, l5, l6, l7⟩, l4, ⟨A4, m4, c4⟩, ⟨A5, m5, c5⟩, ⟨A6, m6, c6⟩, ⟨A7, m7, c7⟩⟩, rfl, z0, z1, z2, z3, b4.dl, rfl, b4.le, b4.max, b5, b6, b7⟩
end
theorem BXLie.below {w w' : World} {x : BX} (h : BXLie w x) (hb : Below w.heap.size w w') : BXLie w' x :=
  { h with dl := h.dl.below hb, key := h.key.below hb, hash := h.hash.below hb, sig := h.sig.below hb }
def SmallBP (x : BX) (w : World) (e : Ending) (w' : World) : Prop := ∃ b, e = .returned (.bool b) ∧ (b = true → (∀ y ∈ x.xs, SmallX y) ∧ x.sd.n ≤ 40 ∧ x.sk.n ≤ 1100 ∧ x.sh.n ≤ 100 ∧ x.ss.n ≤ 600) ∧ Below w.heap.size w w'
set_option maxHeartbeats 4000000 in
theorem small_any (x : BX) (w : World) (hx : BXLie w x) : Calls Tryz.prog 11 #[.agg x.cells.toArray] w (SmallBP x w) := by
  have HX := Lib.hid hx
  clear hx
  obtain ⟨W, hW⟩ : ∃ W, w.alloc (.cells x.cells.toArray 27) = W := ⟨_, rfl⟩
  have hb : Below w.heap.size w (w.alloc (.cells x.cells.toArray 27)) := (Below.refl _ _).alloc (Nat.le_refl _) _
  have hk : Blk (w.alloc (.cells x.cells.toArray 27)) w.heap.size 27 x.cells := Blk.new _ _ _
  rw [hW] at hb hk
  have X : Hid (Below w.heap.size w W ∧ Blk W w.heap.size 27 x.cells) := ⟨hb, hk⟩
  have k4 : W.cell? ⟨w.heap.size, 4, none⟩ = some (.slice x.sd.A x.sd.n x.sd.cap) := X.out.2.cell 4
  have HS := Lib.hid (Small_any x.sd.A x.sd.n x.sd.cap x.xs W (HX.out.dl.below hb) HX.out.dc HX.out.dm)
  clear hb hk
  have HZ : Hid (∀ (q : Bool) (w2 : World), Below W.heap.size W w2 → Blk w2 w.heap.size 27 x.cells) := fun _ w2 h => X.out.2.below h X.out.2.lt
  by_cases c1 : (x.sk.n : Int) ≤ 1100
  · by_cases c2 : (x.sh.n : Int) ≤ 100
    · by_cases c3 : (x.ss.n : Int) ≤ 600
      · go_enter Tryz.func11, Tryz.ntmps11
        go_wp2_with fail
        (try rw [hW])
        refine HS.out.mono ?_
        rintro e w2 ⟨q, rfl, hsm, hb2⟩
        have X2 : Hid (Below w.heap.size w w2 ∧ Blk w2 w.heap.size 27 x.cells) := ⟨X.out.1.trans (hb2.mono X.out.1.size), X.out.2.below hb2 X.out.2.lt⟩
        have k5 : w2.cell? ⟨w.heap.size, 5, none⟩ = some (.slice x.sk.A x.sk.n x.sk.cap) := X2.out.2.cell 5
        have k6 : w2.cell? ⟨w.heap.size, 6, none⟩ = some (.slice x.sh.A x.sh.n x.sh.cap) := X2.out.2.cell 6
        have k7 : w2.cell? ⟨w.heap.size, 7, none⟩ = some (.slice x.ss.A x.ss.n x.ss.cap) := X2.out.2.cell 7
        cases q
        · clear hb2 hsm
          go_wp2
          go_ret
          exact ⟨false, by first | rfl | simp [*], (fun h => by cases h), X2.out.1⟩
        · obtain ⟨hs1, hs2⟩ := hsm rfl
          have HSM := Lib.hid (And.intro hs1 hs2)
          clear hb2 hsm hs1 hs2
          go_wp2
          go_ret
          exact ⟨true, by first | rfl | simp [*], fun _ => ⟨HSM.out.1, HSM.out.2, by omega, by omega, by omega⟩, X2.out.1⟩
      · go_enter Tryz.func11, Tryz.ntmps11
        go_wp2_with fail
        (try rw [hW])
        refine HS.out.mono ?_
        rintro e w2 ⟨q, rfl, hsm, hb2⟩
        have X2 : Hid (Below w.heap.size w w2 ∧ Blk w2 w.heap.size 27 x.cells) := ⟨X.out.1.trans (hb2.mono X.out.1.size), X.out.2.below hb2 X.out.2.lt⟩
        have k5 : w2.cell? ⟨w.heap.size, 5, none⟩ = some (.slice x.sk.A x.sk.n x.sk.cap) := X2.out.2.cell 5
        have k6 : w2.cell? ⟨w.heap.size, 6, none⟩ = some (.slice x.sh.A x.sh.n x.sh.cap) := X2.out.2.cell 6
        have k7 : w2.cell? ⟨w.heap.size, 7, none⟩ = some (.slice x.ss.A x.ss.n x.ss.cap) := X2.out.2.cell 7
        cases q
        · clear hb2 hsm
          go_wp2
          go_ret
          exact ⟨false, by first | rfl | simp [*], (fun h => by cases h), X2.out.1⟩
        · obtain ⟨hs1, hs2⟩ := hsm rfl
          have HSM := Lib.hid (And.intro hs1 hs2)
          clear hb2 hsm hs1 hs2
          go_wp2
          go_ret
          exact ⟨false, by first | rfl | simp [*], (fun h => by cases h), X2.out.1⟩
    · go_enter Tryz.func11, Tryz.ntmps11
      go_wp2_with fail
      (try rw [hW])
      refine HS.out.mono ?_
      rintro e w2 ⟨q, rfl, hsm, hb2⟩
      have X2 : Hid (Below w.heap.size w w2 ∧ Blk w2 w.heap.size 27 x.cells) := ⟨X.out.1.trans (hb2.mono X.out.1.size), X.out.2.below hb2 X.out.2.lt⟩
      have k5 : w2.cell? ⟨w.heap.size, 5, none⟩ = some (.slice x.sk.A x.sk.n x.sk.cap) := X2.out.2.cell 5
      have k6 : w2.cell? ⟨w.heap.size, 6, none⟩ = some (.slice x.sh.A x.sh.n x.sh.cap) := X2.out.2.cell 6
      have k7 : w2.cell? ⟨w.heap.size, 7, none⟩ = some (.slice x.ss.A x.ss.n x.ss.cap) := X2.out.2.cell 7
      cases q
      · clear hb2 hsm
        go_wp2
        go_ret
        exact ⟨false, by first | rfl | simp [*], (fun h => by cases h), X2.out.1⟩
      · obtain ⟨hs1, hs2⟩ := hsm rfl
        have HSM := Lib.hid (And.intro hs1 hs2)
        clear hb2 hsm hs1 hs2
        go_wp2
        go_ret
        exact ⟨false, by first | rfl | simp [*], (fun h => by cases h), X2.out.1⟩
  · go_enter Tryz.func11, Tryz.ntmps11
    go_wp2_with fail
    (try rw [hW])
    refine HS.out.mono ?_
    rintro e w2 ⟨q, rfl, hsm, hb2⟩
    have X2 : Hid (Below w.heap.size w w2 ∧ Blk w2 w.heap.size 27 x.cells) := ⟨X.out.1.trans (hb2.mono X.out.1.size), X.out.2.below hb2 X.out.2.lt⟩
    have k5 : w2.cell? ⟨w.heap.size, 5, none⟩ = some (.slice x.sk.A x.sk.n x.sk.cap) := X2.out.2.cell 5
    have k6 : w2.cell? ⟨w.heap.size, 6, none⟩ = some (.slice x.sh.A x.sh.n x.sh.cap) := X2.out.2.cell 6
    have k7 : w2.cell? ⟨w.heap.size, 7, none⟩ = some (.slice x.ss.A x.ss.n x.ss.cap) := X2.out.2.cell 7
    cases q
    · clear hb2 hsm
      go_wp2
      go_ret
      exact ⟨false, by first | rfl | simp [*], (fun h => by cases h), X2.out.1⟩
    · obtain ⟨hs1, hs2⟩ := hsm rfl
      have HSM := Lib.hid (And.intro hs1 hs2)
      clear hb2 hsm hs1 hs2
      go_wp2
      go_ret
      exact ⟨false, by first | rfl | simp [*], (fun h => by cases h), X2.out.1⟩
theorem up1_any (m : Nat) (a : Int) (ha : a = (m : Int)) (hm : m ≤ 1000000) (w : World) : Calls Tryz.prog 28 #[.int .i64 a] w fun e w' => e = .returned (.int .i64 ((up64 m : Nat) : Int)) ∧ Below w.heap.size w w' := by
  subst ha
  have e1 : ((m : Int) + 63).tdiv 64 * 64 = ((up64 m : Nat) : Int) := by
    rw [Int.tdiv_eq_ediv_of_nonneg (by omega)]
    unfold up64; omega
  go_enter Tryz.func28, Tryz.ntmps28
  go_wp2
  go_ret
  exact ⟨by first | rfl | (rw [← e1]) | simp [*], Below.refl _ _⟩
theorem st_callF {o : Oper} {a : Act} {w : World} {K : Act → World → Prop} {Q : Exit → Act → World → Prop} {E : Prop} {b : Bool} (f : Nat) (t : Operand) (args : Array Operand) (ts : Array TypeId) (ho : o.op = .call { callee := .value t, args := args, argTypes := ts }) (hw : b = true) (ht : a.eval t = .func (.func f) #[] #[]) (vs : Array Value) (hx : Array.map a.eval args = vs) (hcf : (callFunc f vs).run Tryz.prog w = .ok (.enter f vs) w) (post : Ending → World → Prop) (hc : Calls Tryz.prog f vs w post) (hp : ∀ e w', post e w' → ∃ u, e = .returned u ∧ K (a.put o.dst u) w') : if b = true then o.wp Tryz.prog a w K Q else E := by
  rw [if_pos hw]; unfold Oper.wp execOp
  simp only [ho]
  simp only [resolve, ht, hx]
  simp [invoke, go_sem, Result.andThen]
  rw [hcf]
  refine hc.mono fun e w' h => ?_
  obtain ⟨u, rfl, hk⟩ := hp e w' h
  exact hk
set_option maxHeartbeats 8000000 in
theorem sizesB_walk (x : BX) (W : World) (hx : BXLie W x) (ht : Both W) : Calls Tryz.prog 7 #[.agg x.cells.toArray] W fun e w' => e = .returned (.bool true) ∧ Below W.heap.size W w' := by
  obtain ⟨dB, huB, hdB⟩ := uBl
  have HX := Lib.hid hx
  have HT := Lib.hid ht
  clear hx ht
  have hb0 : Below W.heap.size W (W.alloc (.cells x.cells.toArray 27)) := (Below.refl _ _).alloc (Nat.le_refl _) _
  have hk0 : Blk (W.alloc (.cells x.cells.toArray 27)) W.heap.size 27 x.cells := Blk.new _ _ _
  obtain ⟨w0, hw0⟩ : ∃ w0, W.alloc (.cells x.cells.toArray 27) = w0 := ⟨_, rfl⟩
  rw [hw0] at hb0 hk0
  obtain ⟨g, hgh⟩ : ∃ g, W.heap.size = g := ⟨_, rfl⟩
  rw [hgh] at hb0 hk0
  have X0 : Hid (Below g W w0 ∧ Blk w0 g 27 x.cells) := ⟨hb0, hk0⟩
  clear hb0 hk0
  have HA := Lib.hid (anchor_any w0 (HT.out.below (by rw [hgh]; exact X0.out.1)))
  go_enter Tryz.func7, Tryz.ntmps7
  go_wp2_with fail
  refine HA.out.mono ?_
  rintro e w1 ⟨rfl, hb1⟩
  have X1 : Hid (Below g W w1 ∧ Blk w1 g 27 x.cells) := ⟨X0.out.1.trans (hb1.mono (Nat.le_of_lt X0.out.2.lt)), X0.out.2.below hb1 X0.out.2.lt⟩
  clear hb1
  have HS := Lib.hid (small_any x w1 (HX.out.below (by rw [hgh]; exact X1.out.1)))
  go_wp2_with ((with_reducible refine at_dst (some 10) ?_); refine wpList_loadAt (op := ⟨some 10, _, _, _, _, _⟩) rfl 27 (.tmp 1) rfl ⟨g, 0, none⟩ rfl x.cells dB X1.out.2.at huB hdB iBl ?_)
  refine HS.out.mono ?_
  rintro e w2 ⟨sm, rfl, hsm, hb2⟩
  have X2 : Hid (Below g W w2 ∧ Blk w2 g 27 x.cells) := ⟨X1.out.1.trans (hb2.mono (Nat.le_of_lt X1.out.2.lt)), X1.out.2.below hb2 X1.out.2.lt⟩
  clear hb2
  cases sm
  · clear hsm
    go_wp2
    go_ret
    exact ⟨rfl, by rw [hgh]; exact X2.out.1⟩
  · obtain ⟨hsx, hn, hk, hh, hs⟩ := hsm rfl
    have hxo : BXOk w2 x := (HX.out.below (by rw [hgh]; exact X2.out.1)).ok (by omega) (fun y hy => by have := (hsx y hy).1; omega)
    have HXO := Lib.hid hxo
    have HLS : Hid (x.sd.n ≤ 40 ∧ x.sk.n ≤ 1100 ∧ x.sh.n ≤ 100 ∧ x.ss.n ≤ 600) := ⟨hn, hk, hh, hs⟩
    have HE := Lib.hid (BEncode_any x w2 hxo)
    clear hxo hsx hn hk hh hs hsm
    go_wp2_with ((with_reducible refine at_dst (some 14) ?_); refine wpList_loadAt (op := ⟨some 14, _, _, _, _, _⟩) rfl 27 (.tmp 1) rfl ⟨g, 0, none⟩ rfl x.cells dB X2.out.2.at huB hdB iBl ?_)
    refine HE.out.mono ?_
    rintro e w3 ⟨A3, n3, c3, l, er, rfl, hrow, hyes, hno, hb3⟩
    have X3 : Hid (Below g W w3 ∧ Blk w3 g 27 x.cells ∧ BXOk w3 x) := ⟨X2.out.1.trans (hb3.mono (Nat.le_of_lt X2.out.2.lt)), X2.out.2.below hb3 X2.out.2.lt, HXO.out.below hb3⟩
    have hl := hrow.length
    rw [cn_length] at hl
    by_cases hr : BRight x.b
    · obtain ⟨rfl, rfl⟩ := hyes hr
      have HR := Lib.hid hr
      have hlen := bbytes_length x.b
      rw [hl] at hlen
      have hn3 : n3 ≤ 100000 := by have := hr.len_le; omega
      have h1 := X3.out.2.2.hash.rd.1
      have h2 := X3.out.2.2.sig.rd.1
      have h3 := X3.out.2.2.key.rd.1
      rw [h1, h2, h3] at hlen
      have HDE := Lib.hid (Encode_any x.sd.A x.sd.n x.sd.cap x.xs w3 X3.out.2.2.dl X3.out.2.2.dn X3.out.2.2.dc X3.out.2.2.dm X3.out.2.2.nm)
      rw [X3.out.2.2.ds, hr.2.1.encode] at HDE
      have HLEN := Lib.hid hlen
      have HB3 := Lib.hid hn3
      have k4 : w3.cell? ⟨g, 4, none⟩ = some (.slice x.sd.A x.sd.n x.sd.cap) := X3.out.2.1.cell 4
      clear hrow hyes hno hb3 hl hr hlen hn3 h1 h2 h3
      go_wp2_with fail
      refine HDE.out.mono ?_
      rintro e w7 ⟨A5, n5, c5, l5, er5, rfl, hen, hrow5, hb5⟩
      simp only [Prod.mk.injEq] at hen
      obtain ⟨rfl, rfl⟩ := hen
      have hn5 : (dencs x.b.ds).length = n5 := by have := hrow5.length; rwa [cn_length] at this
      have hle5 := HR.out.2.1.le
      rw [hn5] at hle5
      have X7 : Hid (Below g W w7 ∧ Blk w7 g 27 x.cells) := ⟨X3.out.1.trans (hb5.mono (Nat.le_of_lt X3.out.2.1.lt)), X3.out.2.1.below hb5 X3.out.2.1.lt⟩
      have HN3 : Hid (((n3 : Nat) : Int) = 128 + ((up64 (x.sh.n + x.ss.n) : Nat) : Int) + ((up64 (n5 + x.sk.n) : Nat) : Int)) := by
        show _ = _
        have := HLEN.out
        rw [hn5] at this
        rw [this]; push_cast; rfl
      have HBD : Hid (x.sk.n ≤ 1100 ∧ x.sh.n ≤ 100 ∧ x.ss.n ≤ 600 ∧ n5 ≤ 48384 ∧ n3 ≤ 100000 ∧ up64 (x.sh.n + x.ss.n) ≤ 2000 ∧ up64 (n5 + x.sk.n) ≤ 60000) := by
        have := HLS.out
        refine ⟨by omega, by omega, by omega, by omega, HB3.out, ?_, ?_⟩ <;> unfold up64 <;> omega
      clear hrow5 hb5 hn5 hle5 k4
      go_wp2
      rename_i hKx
      refine wp_region_eachW (by kernel_rfl) (by kernel_rfl) (fun u u' => Below u.heap.size u u') (fun iX v u => match iX with
          | 0 => v = .int .i64 0
          | 1 => v = .bool true
          | 2 => v = .bool true
          | 3 => v = .slice A3 n3 c3
          | 4 => v = .int .i64 ((n3 : Nat) : Int)
          | 5 => v = .func (.func 28) #[] #[]
          | 6 => v = .pointer (some ⟨g, 6, none⟩)
          | 7 => v = .slice x.sh.A x.sh.n x.sh.cap
          | 8 => v = .int .i64 ((x.sh.n : Nat) : Int)
          | 9 => v = .pointer (some ⟨g, 7, none⟩)
          | 10 => v = .slice x.ss.A x.ss.n x.ss.cap
          | 11 => v = .int .i64 ((x.ss.n : Nat) : Int)
          | 12 => v = .int .i64 (((x.sh.n : Nat) : Int) + ((x.ss.n : Nat) : Int))
          | 13 => v = .int .i64 ((up64 (x.sh.n + x.ss.n) : Nat) : Int)
          | 14 => v = .int .i64 (128 + ((up64 (x.sh.n + x.ss.n) : Nat) : Int))
          | 15 => v = .func (.func 28) #[] #[]
          | 16 => v = .slice A5 n5 c5
          | 17 => v = .int .i64 ((n5 : Nat) : Int)
          | 18 => v = .pointer (some ⟨g, 5, none⟩)
          | 19 => v = .slice x.sk.A x.sk.n x.sk.cap
          | 20 => v = .int .i64 ((x.sk.n : Nat) : Int)
          | 21 => v = .int .i64 (((n5 : Nat) : Int) + ((x.sk.n : Nat) : Int))
          | 22 => v = .int .i64 ((up64 (n5 + x.sk.n) : Nat) : Int)
          | 23 => v = .int .i64 (128 + ((up64 (x.sh.n + x.ss.n) : Nat) : Int) + ((up64 (n5 + x.sk.n) : Nat) : Int))
          | 24 => v = .bool true
          | 25 => v = .bool true
          | 26 => v = .bool true
          | _ => True) (fun u => Below w7.heap.size w7 u) ?m1 (fun _ _ h1 h2 => h1.trans (h2.mono h1.size)) ⟨rfl, rfl, rfl, Nat.le_refl _, fun _ _ => rfl⟩ ?m2 ?m3
      case m1 =>
        intro iX v u u' h hr hb
        rcases iX with _ | _ | _ | _ | _ | _ | _ | _ | _ | _ | _ | _ | _ | _ | _ | _ | _ | _ | _ | _ | _ | _ | _ | _ | _ | _ | _ | iX
        · exact h
        · exact h
        · exact h
        · exact h
        · exact h
        · exact h
        · exact h
        · exact h
        · exact h
        · exact h
        · exact h
        · exact h
        · exact h
        · exact h
        · exact h
        · exact h
        · exact h
        · exact h
        · exact h
        · exact h
        · exact h
        · exact h
        · exact h
        · exact h
        · exact h
        · exact h
        · exact h
        · trivial
      case m2 =>
        intro iX o ho aX u hr hk hpre K hK
        have e1 : aX.tmps.getD 1 undef = .pointer (some ⟨g, 0, none⟩) := hk.slot 1 (by simp)
        have e3 : aX.tmps.getD 3 undef = .slice A3 n3 c3 := hk.slot 3 (by simp)
        have e5 : aX.tmps.getD 5 undef = .slice A5 n5 c5 := hk.slot 5 (by simp)
        have e6 : aX.tmps.getD 6 undef = .int .i64 0 := hk.slot 6 (by simp)
        have e7 : aX.tmps.getD 7 undef = .func (.func 28) #[] #[] := hk.slot 7 (by simp)
        have k5 : u.cell? ⟨g, 5, none⟩ = some (.slice x.sk.A x.sk.n x.sk.cap) := (hr.cell (p := ⟨g, 5, none⟩) X7.out.2.lt).trans (X7.out.2.cell 5)
        have k6 : u.cell? ⟨g, 6, none⟩ = some (.slice x.sh.A x.sh.n x.sh.cap) := (hr.cell (p := ⟨g, 6, none⟩) X7.out.2.lt).trans (X7.out.2.cell 6)
        have k7 : u.cell? ⟨g, 7, none⟩ = some (.slice x.ss.A x.ss.n x.ss.cap) := (hr.cell (p := ⟨g, 7, none⟩) X7.out.2.lt).trans (X7.out.2.cell 7)
        have hbd := HBD.out
        have rf : Below u.heap.size u u := Below.refl _ _
        rcases iX with _ | _ | _ | _ | _ | _ | _ | _ | _ | _ | _ | _ | _ | _ | _ | _ | _ | _ | _ | _ | _ | _ | _ | _ | _ | _ | _ | iX
        · obtain rfl := Option.some.inj ho
          exact st_move (.tmp 6) rfl (want_none rfl) _ e6 (hK _ _ rfl rf)
        · obtain rfl := Option.some.inj ho
          have y29 : aX.eval (.tmp 29) = .int .i64 0 := (hpre 0 _ rfl ⟨⟨0, .data⟩, by simp, rfl, rfl⟩)
          refine st_run (want_none rfl) (.bool true) (w' := u) ?_ (hK _ _ rfl rf)
          simp only [execOp, y29]
          go_simp
        · obtain rfl := Option.some.inj ho
          exact st_move (.tmp 30) rfl (want_none rfl) _ (hpre 1 _ rfl ⟨⟨1, .data⟩, by simp, rfl, rfl⟩) (hK _ _ rfl rf)
        · obtain rfl := Option.some.inj ho
          exact st_move (.tmp 3) rfl (want_some rfl rfl rfl (hpre 2 _ rfl ⟨⟨2, .guard⟩, by simp, rfl, rfl⟩)) _ e3 (hK _ _ rfl rf)
        · obtain rfl := Option.some.inj ho
          exact st_len (.tmp 32) rfl (want_some rfl rfl rfl (hpre 2 _ rfl ⟨⟨2, .guard⟩, by simp, rfl, rfl⟩)) _ _ _ (hpre 3 _ rfl ⟨⟨3, .data⟩, by simp, rfl, rfl⟩) (hK _ _ rfl rf)
        · obtain rfl := Option.some.inj ho
          exact st_move (.tmp 7) rfl (want_some rfl rfl rfl (hpre 2 _ rfl ⟨⟨2, .guard⟩, by simp, rfl, rfl⟩)) _ e7 (hK _ _ rfl rf)
        · obtain rfl := Option.some.inj ho
          have y1 : aX.eval (.tmp 1) = .pointer (some ⟨g, 0, none⟩) := e1
          refine st_run (want_some rfl rfl rfl (hpre 2 _ rfl ⟨⟨2, .guard⟩, by simp, rfl, rfl⟩)) (.pointer (some ⟨g, 6, none⟩)) (w' := u) ?_ (hK _ _ rfl rf)
          simp only [execOp, y1]
          go_simp
        · obtain rfl := Option.some.inj ho
          have y35 : aX.eval (.tmp 35) = .pointer (some ⟨g, 6, none⟩) := (hpre 6 _ rfl ⟨⟨6, .data⟩, by simp, rfl, rfl⟩)
          refine st_run (want_some rfl rfl rfl (hpre 2 _ rfl ⟨⟨2, .guard⟩, by simp, rfl, rfl⟩)) (.slice x.sh.A x.sh.n x.sh.cap) (w' := u) ?_ (hK _ _ rfl rf)
          simp only [execOp, y35]
          go_simp
        · obtain rfl := Option.some.inj ho
          exact st_len (.tmp 36) rfl (want_some rfl rfl rfl (hpre 2 _ rfl ⟨⟨2, .guard⟩, by simp, rfl, rfl⟩)) _ _ _ (hpre 7 _ rfl ⟨⟨7, .data⟩, by simp, rfl, rfl⟩) (hK _ _ rfl rf)
        · obtain rfl := Option.some.inj ho
          have y1 : aX.eval (.tmp 1) = .pointer (some ⟨g, 0, none⟩) := e1
          refine st_run (want_some rfl rfl rfl (hpre 2 _ rfl ⟨⟨2, .guard⟩, by simp, rfl, rfl⟩)) (.pointer (some ⟨g, 7, none⟩)) (w' := u) ?_ (hK _ _ rfl rf)
          simp only [execOp, y1]
          go_simp
        · obtain rfl := Option.some.inj ho
          have y38 : aX.eval (.tmp 38) = .pointer (some ⟨g, 7, none⟩) := (hpre 9 _ rfl ⟨⟨9, .data⟩, by simp, rfl, rfl⟩)
          refine st_run (want_some rfl rfl rfl (hpre 2 _ rfl ⟨⟨2, .guard⟩, by simp, rfl, rfl⟩)) (.slice x.ss.A x.ss.n x.ss.cap) (w' := u) ?_ (hK _ _ rfl rf)
          simp only [execOp, y38]
          go_simp
        · obtain rfl := Option.some.inj ho
          exact st_len (.tmp 39) rfl (want_some rfl rfl rfl (hpre 2 _ rfl ⟨⟨2, .guard⟩, by simp, rfl, rfl⟩)) _ _ _ (hpre 10 _ rfl ⟨⟨10, .data⟩, by simp, rfl, rfl⟩) (hK _ _ rfl rf)
        · obtain rfl := Option.some.inj ho
          have yl : aX.eval (.tmp 37) = .int .i64 ((x.sh.n : Nat) : Int) := (hpre 8 _ rfl ⟨⟨8, .data⟩, by simp, rfl, rfl⟩)
          have yr : aX.eval (.tmp 40) = .int .i64 ((x.ss.n : Nat) : Int) := (hpre 11 _ rfl ⟨⟨11, .data⟩, by simp, rfl, rfl⟩)
          refine st_run (want_some rfl rfl rfl (hpre 2 _ rfl ⟨⟨2, .guard⟩, by simp, rfl, rfl⟩)) (.int .i64 (((x.sh.n : Nat) : Int) + ((x.ss.n : Nat) : Int))) (w' := u) ?_ (hK _ _ rfl rf)
          simp only [execOp, yl, yr]
          go_simp
          rw [IntKind.wrap_i64]
          omega
        · obtain rfl := Option.some.inj ho
          have xf : aX.eval (.tmp 34) = .func (.func 28) #[] #[] := (hpre 5 _ rfl ⟨⟨5, .data⟩, by simp, rfl, rfl⟩)
          have xa : aX.eval (.tmp 41) = .int .i64 (((x.sh.n : Nat) : Int) + ((x.ss.n : Nat) : Int)) := (hpre 12 _ rfl ⟨⟨12, .data⟩, by simp, rfl, rfl⟩)
          exact st_callF 28 (.tmp 34) _ _ rfl (want_some rfl rfl rfl (hpre 2 _ rfl ⟨⟨2, .guard⟩, by simp, rfl, rfl⟩)) xf #[.int .i64 (((x.sh.n : Nat) : Int) + ((x.ss.n : Nat) : Int))] (by simp [xa]) (by kernel_rfl) _ (up1_any (x.sh.n + x.ss.n) _ (by push_cast; rfl) (by omega) u) (fun e w' h => ⟨_, h.1, hK _ _ rfl h.2⟩)
        · obtain rfl := Option.some.inj ho
          have yr : aX.eval (.tmp 42) = .int .i64 ((up64 (x.sh.n + x.ss.n) : Nat) : Int) := (hpre 13 _ rfl ⟨⟨13, .data⟩, by simp, rfl, rfl⟩)
          refine st_run (want_some rfl rfl rfl (hpre 2 _ rfl ⟨⟨2, .guard⟩, by simp, rfl, rfl⟩)) (.int .i64 (128 + ((up64 (x.sh.n + x.ss.n) : Nat) : Int))) (w' := u) ?_ (hK _ _ rfl rf)
          simp only [execOp, yr]
          go_simp
          rw [IntKind.wrap_i64]
          omega
        · obtain rfl := Option.some.inj ho
          exact st_move (.tmp 7) rfl (want_some rfl rfl rfl (hpre 2 _ rfl ⟨⟨2, .guard⟩, by simp, rfl, rfl⟩)) _ e7 (hK _ _ rfl rf)
        · obtain rfl := Option.some.inj ho
          exact st_move (.tmp 5) rfl (want_some rfl rfl rfl (hpre 2 _ rfl ⟨⟨2, .guard⟩, by simp, rfl, rfl⟩)) _ e5 (hK _ _ rfl rf)
        · obtain rfl := Option.some.inj ho
          exact st_len (.tmp 45) rfl (want_some rfl rfl rfl (hpre 2 _ rfl ⟨⟨2, .guard⟩, by simp, rfl, rfl⟩)) _ _ _ (hpre 16 _ rfl ⟨⟨16, .data⟩, by simp, rfl, rfl⟩) (hK _ _ rfl rf)
        · obtain rfl := Option.some.inj ho
          have y1 : aX.eval (.tmp 1) = .pointer (some ⟨g, 0, none⟩) := e1
          refine st_run (want_some rfl rfl rfl (hpre 2 _ rfl ⟨⟨2, .guard⟩, by simp, rfl, rfl⟩)) (.pointer (some ⟨g, 5, none⟩)) (w' := u) ?_ (hK _ _ rfl rf)
          simp only [execOp, y1]
          go_simp
        · obtain rfl := Option.some.inj ho
          have y47 : aX.eval (.tmp 47) = .pointer (some ⟨g, 5, none⟩) := (hpre 18 _ rfl ⟨⟨18, .data⟩, by simp, rfl, rfl⟩)
          refine st_run (want_some rfl rfl rfl (hpre 2 _ rfl ⟨⟨2, .guard⟩, by simp, rfl, rfl⟩)) (.slice x.sk.A x.sk.n x.sk.cap) (w' := u) ?_ (hK _ _ rfl rf)
          simp only [execOp, y47]
          go_simp
        · obtain rfl := Option.some.inj ho
          exact st_len (.tmp 48) rfl (want_some rfl rfl rfl (hpre 2 _ rfl ⟨⟨2, .guard⟩, by simp, rfl, rfl⟩)) _ _ _ (hpre 19 _ rfl ⟨⟨19, .data⟩, by simp, rfl, rfl⟩) (hK _ _ rfl rf)
        · obtain rfl := Option.some.inj ho
          have yl : aX.eval (.tmp 46) = .int .i64 ((n5 : Nat) : Int) := (hpre 17 _ rfl ⟨⟨17, .data⟩, by simp, rfl, rfl⟩)
          have yr : aX.eval (.tmp 49) = .int .i64 ((x.sk.n : Nat) : Int) := (hpre 20 _ rfl ⟨⟨20, .data⟩, by simp, rfl, rfl⟩)
          refine st_run (want_some rfl rfl rfl (hpre 2 _ rfl ⟨⟨2, .guard⟩, by simp, rfl, rfl⟩)) (.int .i64 (((n5 : Nat) : Int) + ((x.sk.n : Nat) : Int))) (w' := u) ?_ (hK _ _ rfl rf)
          simp only [execOp, yl, yr]
          go_simp
          rw [IntKind.wrap_i64]
          omega
        · obtain rfl := Option.some.inj ho
          have xf : aX.eval (.tmp 44) = .func (.func 28) #[] #[] := (hpre 15 _ rfl ⟨⟨15, .data⟩, by simp, rfl, rfl⟩)
          have xa : aX.eval (.tmp 50) = .int .i64 (((n5 : Nat) : Int) + ((x.sk.n : Nat) : Int)) := (hpre 21 _ rfl ⟨⟨21, .data⟩, by simp, rfl, rfl⟩)
          exact st_callF 28 (.tmp 44) _ _ rfl (want_some rfl rfl rfl (hpre 2 _ rfl ⟨⟨2, .guard⟩, by simp, rfl, rfl⟩)) xf #[.int .i64 (((n5 : Nat) : Int) + ((x.sk.n : Nat) : Int))] (by simp [xa]) (by kernel_rfl) _ (up1_any (n5 + x.sk.n) _ (by push_cast; rfl) (by omega) u) (fun e w' h => ⟨_, h.1, hK _ _ rfl h.2⟩)
        · obtain rfl := Option.some.inj ho
          have yl : aX.eval (.tmp 43) = .int .i64 (128 + ((up64 (x.sh.n + x.ss.n) : Nat) : Int)) := (hpre 14 _ rfl ⟨⟨14, .data⟩, by simp, rfl, rfl⟩)
          have yr : aX.eval (.tmp 51) = .int .i64 ((up64 (n5 + x.sk.n) : Nat) : Int) := (hpre 22 _ rfl ⟨⟨22, .data⟩, by simp, rfl, rfl⟩)
          refine st_run (want_some rfl rfl rfl (hpre 2 _ rfl ⟨⟨2, .guard⟩, by simp, rfl, rfl⟩)) (.int .i64 (128 + ((up64 (x.sh.n + x.ss.n) : Nat) : Int) + ((up64 (n5 + x.sk.n) : Nat) : Int))) (w' := u) ?_ (hK _ _ rfl rf)
          simp only [execOp, yl, yr]
          go_simp
          rw [IntKind.wrap_i64]
          omega
        · obtain rfl := Option.some.inj ho
          have y33 : aX.eval (.tmp 33) = .int .i64 ((n3 : Nat) : Int) := (hpre 4 _ rfl ⟨⟨4, .data⟩, by simp, rfl, rfl⟩)
          have y52 : aX.eval (.tmp 52) = .int .i64 (128 + ((up64 (x.sh.n + x.ss.n) : Nat) : Int) + ((up64 (n5 + x.sk.n) : Nat) : Int)) := (hpre 23 _ rfl ⟨⟨23, .data⟩, by simp, rfl, rfl⟩)
          rw [HN3.out] at y33
          refine st_run (want_some rfl rfl rfl (hpre 2 _ rfl ⟨⟨2, .guard⟩, by simp, rfl, rfl⟩)) (.bool true) (w' := u) ?_ (hK _ _ rfl rf)
          simp only [execOp, y33, y52]
          go_simp
        · obtain rfl := Option.some.inj ho
          exact st_pick (.tmp 31) (.tmp 53) (.const (.bool false)) rfl (want_none rfl) true (hpre 2 _ rfl ⟨⟨2, .data⟩, by simp, rfl, rfl⟩) _ ((if_pos rfl).trans (hpre 24 _ rfl ⟨⟨24, .data⟩, by simp, rfl, rfl⟩)) (hK _ _ rfl rf)
        · obtain rfl := Option.some.inj ho
          exact st_assign (.tmp 54) rfl (want_none rfl) _ (hpre 25 _ rfl ⟨⟨25, .data⟩, by simp, rfl, rfl⟩) (hK _ _ rfl rf)
        · cases ho
      case m3 =>
        intro aX u hr hk hv
        have h6 := hv 26 _ rfl
        refine hKx aX u (wp_ret (bodyPost_ret (results_tmp rfl _ _ _) hk.defers ⟨?_, by rw [hgh]; exact X7.out.1.trans (hr.mono (Nat.le_of_lt X7.out.2.lt))⟩))
        exact congrArg Ending.returned h6
    · obtain ⟨rfl, rfl⟩ := hno hr
      obtain rfl : n3 = 0 := hl.symm
      clear hrow hyes hno hb3 hl hr
      go_wp2
      go_ret
      exact ⟨rfl, by rw [hgh]; exact X3.out.1⟩
end Go.Proofs.YtlcoebenkhafcaaGreatDoor
