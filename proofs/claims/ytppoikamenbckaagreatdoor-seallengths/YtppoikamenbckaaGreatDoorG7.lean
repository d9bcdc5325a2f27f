/-
  Appends that take a new row, or write a nought where a nought stands; one operation of a drawn region; a signature of another length.
-/
import Derived.Test.YtppoikamenbckaaGreatDoorF7
import Derived.ArgAppend
namespace Go.Proofs.YtppoikamenbckaaGreatDoor
open Go.RowKit
set_option linter.unusedVariables false
set_option linter.unusedSimpArgs false
set_option maxRecDepth 100000

theorem zeros_cn (m : Nat) : Builtin.zeroCells (Value.int IntKind.u8 0).cells m = (cn .u8 (List.replicate m 0)).toArray := by
  apply Array.ext
  · simp [Builtin.zeroCells, Value.cells, cn]
  · intro i h1 h2
    simp [Builtin.zeroCells, Value.cells, cn, Nat.mod_one]
/-- Bytes behind bytes that have no room: a new row, noughts behind them. -/
theorem run_grow (ty : TypeId) (w : World) (b : Addr) (sLen sCap : Nat) (ol : List Nat) (hol : ol.length = sLen) (holds : ∀ (j x : Nat), ol[j]? = some x → w.cell? (b.add j) = some (.int .u8 (x : Int))) (a : Addr) (n c : Nat) (l : List Nat) (hr : Rd .u8 w (some a) n l) (hn : 1 ≤ n) (hg : sCap < sLen + n) (hb : sLen + n ≤ 100000) :
    ∃ c' w', (Builtin.append_ #[22, 22] ty #[.slice (some b) sLen sCap, .slice (some a) n c]).run Tryz.prog w = .ok (.slice (some ⟨w.heap.size, 0, none⟩) (sLen + n) c') w' ∧ sLen + n ≤ c' ∧ Blk w' w.heap.size 5 (cn .u8 (ol ++ l ++ List.replicate (c' - (sLen + n)) 0)) ∧ Below w.heap.size w w' := by
  obtain ⟨i0, hi, hz0, hz1, hz2⟩ := info_parts byteInfo
  have hsrc : ∀ j v, (cn .u8 l)[j]? = some v → w.cell? (a.add j) = some v := by
    obtain ⟨ad, e, _, hc⟩ := hr.2 (by omega)
    injection e with e
    subst e
    intro j v hv
    have hj := (List.getElem?_eq_some_iff.1 hv).1
    rw [cn_length] at hj
    obtain ⟨x, hx⟩ := get_some hj
    rw [cn_get hx] at hv
    injection hv with hv
    rw [← hv]
    exact hc j x hx
  have hrun := run_append_grow (P := Tryz.prog) w 22 ty 5 i0 (.int .u8 0) Tryz.underlying22 hi hz0 b sLen sCap (cn .u8 ol) (by rw [cn_length, hol, hz1]; omega)
    (fun j v hv => by
      have hj := (List.getElem?_eq_some_iff.1 hv).1
      rw [cn_length] at hj
      obtain ⟨x, hx⟩ := get_some hj
      rw [cn_get hx] at hv
      injection hv with hv
      rw [← hv]
      exact holds j x hx)
    a n c (cn .u8 l) (by rw [cn_length, hr.1, hz1]; omega) hsrc hg (by omega) (growslice_fits hg (by rw [hz2]; omega))
  have hge := grownCap_ge w (sLen + n) sCap 5
  generalize grownCap w (sLen + n) sCap 5 = c' at hrun hge
  refine ⟨c', _, hrun, hge, ?_, ⟨rfl, rfl, rfl, by show w.heap.size ≤ _; have : w.drew.heap.size = w.heap.size := rfl; simp [this], fun k hk => heap_alloc_old w.drew _ hk⟩⟩
  have h1 := heap_alloc_new w.drew (.cells ((cn .u8 ol).toArray ++ (cn .u8 l).toArray ++ Builtin.zeroCells (Value.int IntKind.u8 0).cells (c' - (sLen + n))) 5)
  unfold Blk
  rw [show (cn .u8 (ol ++ l ++ List.replicate (c' - (sLen + n)) 0)).toArray = (cn .u8 ol).toArray ++ (cn .u8 l).toArray ++ Builtin.zeroCells (Value.int IntKind.u8 0).cells (c' - (sLen + n)) by rw [zeros_cn, cn_append, cn_append]; simp]
  exact h1
/-- A nought behind bytes behind which a nought stands. -/
theorem run_nought (ty : TypeId) (w : World) (g k m : Nat) (l : List Nat) (hl : l.length = k) (hB : Blk w g 5 (cn .u8 (l ++ List.replicate (m + 1) 0))) (a : Addr) (c : Nat) (ha : w.cell? a = some (.int .u8 0)) :
    ∃ w', (Builtin.append_ #[22, 22] ty #[.slice (some ⟨g, 0, none⟩) k (k + (m + 1)), .slice (some a) 1 c]).run Tryz.prog w = .ok (.slice (some ⟨g, 0, none⟩) (k + 1) (k + (m + 1))) w' ∧ Below w.heap.size w w' := by
  obtain ⟨i0, hi, hz0, hz1, hz2⟩ := info_parts byteInfo
  have hat : (cn .u8 (l ++ List.replicate (m + 1) 0))[k]? = some (.int .u8 0) := by
    have : (l ++ List.replicate (m + 1) 0)[k]? = some 0 := by rw [List.getElem?_append_right (by omega), hl, Nat.sub_self]; rfl
    exact cn_get this
  have hck : w.cell? ⟨g, k, none⟩ = some (.int .u8 0) := by rw [hB.cell]; exact hat
  have hrun := run_append_room_cells (P := Tryz.prog) w 22 ty 5 i0 Tryz.underlying22 hi g 0 k (k + (m + 1)) a 1 c [.int .u8 0] (by rw [hz1]; rfl)
    (fun j u hu => by
      match j, hu with
      | 0, hu =>
        simp at hu; subst hu
        have e : a.add 0 = a := by unfold Addr.add; simp
        rw [e]; exact ha)
    (by intro u hu; rw [List.mem_singleton.1 hu]; rfl) (by omega)
    (fun j hj => by
      have : j = 0 := by simpa using hj
      subst this
      rw [hz1, show 0 + k * 1 + 0 = k by omega, hck]; rfl)
    (fun j hj => by
      have : j = 0 := by simpa using hj
      subst this
      rw [hz1, show 0 + k * 1 + 0 = k by omega]; exact hB.frozen k)
  rw [hz1, show 0 + k * 1 = k by omega] at hrun
  refine ⟨_, hrun, ?_⟩
  show Below w.heap.size w (w.setCell ⟨g, k, none⟩ (.int .u8 0))
  refine ⟨rfl, rfl, rfl, by simp [World.setCell], fun i hi => ?_⟩
  by_cases hig : i = g
  · subst hig
    have h1 := heap_setCell_same w i k _ 5 (.int .u8 0) hB
    rw [h1, show w.heap[i]? = _ from hB]
    congr 2
    apply Array.ext
    · simp
    · intro j h1 h2
      rw [Array.getElem_setIfInBounds]
      split
      · next e =>
        subst e
        have := (List.getElem?_eq_some_iff.1 hat).2
        simpa using this.symm
      · rfl
  · exact Below.heap_setCell w ⟨g, k, none⟩ _ i hig
section
variable {o : Oper} {a : Act} {w : World} {K : Act → World → Prop} {Q : Exit → Act → World → Prop} {E : Prop} {b : Bool}
theorem st_rem (x y : Operand) (ho : o.op = .binOp .rem 3 x y 3) (hw : b = true) (t k p : Nat) (hk : ¬ k = 0) (hp : (t : Int).tmod (k : Int) = (p : Int)) (hx : a.eval x = .int .i64 (t : Int)) (hy : a.eval y = .int .i64 (k : Int)) (h : K (a.put o.dst (.int .i64 (p : Int))) w) : if b = true then o.wp Tryz.prog a w K Q else E := by
  rw [if_pos hw]; unfold Oper.wp execOp
  simp only [ho, hx, hy]
  simp [eqGuard, go_sem, Result.andThen, hk, hp]
  exact h
theorem st_sliceTo (x y : Operand) (ho : o.op = .slice 22 x none (some y) none) (hw : b = true) (g k c p : Nat) (hp : p ≤ c) (hx : a.eval x = .slice (some ⟨g, 0, none⟩) k c) (hy : a.eval y = .int .i64 (p : Int)) (h : K (a.put o.dst (.slice (some ⟨g, 0, none⟩) p c)) w) : if b = true then o.wp Tryz.prog a w K Q else E := by
  rw [if_pos hw]; unfold Oper.wp execOp
  have hs : (Instr.sliceAt 22 (.slice (some ⟨g, 0, none⟩) k c) none (some (.int .i64 (p : Int))) none).run Tryz.prog w = .ok (.slice (some ⟨g, 0, none⟩) p c) w := by
    have e : Tryz.prog.elem 22 = 5 := by simp [Program.elem, Tryz.underlying22]
    have ht' : Tryz.prog.underlying 22 = some (.slice (Tryz.prog.elem 22)) := by rw [e]; exact Tryz.underlying22
    rw [run_sliceAt_slice _ _ _ _ _ _ ht', run_slice_h w 22 _ _ _ ht' .i64 _ (by omega) (by omega), e, byteSz]
    simp [Result.andThen, sliced, Addr.add]
  simp only [ho, hx, hy, Option.map_some, Option.map_none, Sem.run_bind, hs, Result.andThen_ok, Sem.run_pure]
  exact h
theorem st_len42 (x : Operand) (ho : o.op = .call { callee := .builtin .len, args := #[x], argTypes := #[42] }) (hw : b = true) (A : Option Addr) (n cap : Nat) (hx : a.eval x = .slice A n cap) (h : K (a.put o.dst (.int .i64 (n : Int))) w) : if b = true then o.wp Tryz.prog a w K Q else E := by
  rw [if_pos hw]; unfold Oper.wp execOp
  simp [ho, resolve, invoke, builtin, hx, Builtin.len_, run_underlying Tryz.underlying42, Builtin.lenOf, Result.andThen, goInt]
  exact h
end
set_option maxHeartbeats 1000000 in
/-- A signature of another length does not hold. -/
theorem Verify_size (z : Nat) (hz : z = 1 ∨ z = 2) (s : Nat) (hs : sizeOfAlg z = s) (g k N gm c gr : Nat) (A : Option Addr) (n cap : Nat) (l : List Nat) (As : Option Addr) (ns cs : Nat) (w : World) (h : Keyed w g k N gm c gr) (hr : Rd .u8 w A n l) (hf : Fit 256 l) (hc : n ≤ cap) (hn : n ≤ 10000) (hne : ns ≠ k) (ht : Both w) (hk : 30 + s ≤ k) :
    Calls Tryz.prog 9 #[.pointer (some ⟨g, 0, none⟩), .int .i64 (z : Int), .slice A n cap, .slice As ns cs] w (Tells w 23) := by
  have HZ := Lib.hid hz
  have HS := Lib.hid hs
  have HK := Lib.hid h
  have HR := Lib.hid hr
  have HT := Lib.hid ht
  have k2 := h.k2
  clear hz hs h hr ht
  go_enter Tryz.func9, Tryz.ntmps9
  go_wp2_with fail
  refine (Size_any g k N gm c gr w HK.out).mono ?_
  rintro e w1 ⟨rfl, rfl⟩
  go_wp2_with fail
  refine (TB_ok z HZ.out s HS.out A n cap l k w HR.out hf hc hn HT.out hk k2).mono ?_
  generalize blockOf z (sumOf z l) k = blk at *
  rintro e w2 ⟨g2, rfl, hg2, hR2, hb2⟩
  clear hR2 hg2
  go_wp2_with fail
  refine (Open_size g k N gm c gr As ns cs w2 (HK.out.below hb2) hne).mono ?_
  rintro e w3 ⟨rfl, hb3⟩
  have bel3 := below_then hb2 hb3
  go_wp2
  go_ret
  exact ⟨rfl, bel3⟩
end Go.Proofs.YtppoikamenbckaaGreatDoor
