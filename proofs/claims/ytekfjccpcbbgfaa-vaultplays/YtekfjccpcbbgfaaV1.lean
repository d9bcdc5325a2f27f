/-
  A vault in memory, and what it tells of itself. No condition but that lengths are lengths.
-/
import Derived.Test.YtekfjccpcbbgfaaD0
namespace Go.Proofs.Ytekfjccpcbbgfaa
open Go.RowKit
set_option linter.unusedVariables false
set_option linter.unusedSimpArgs false
set_option maxRecDepth 100000

/-- A vault: its block, the root, locked or not, the indexes, down or not, how many changes are left, how the torn one goes, how many were done. -/
structure Vt where
  g : Nat
  root : List Nat
  lk : Bool
  ix : List Nat
  dn : Bool
  lf : Int
  dd : Bool
  ch : Int
def Vt.cells (V : Vt) : List Value := cn .u8 V.root ++ (.bool V.lk :: (cn .i64 V.ix ++ [.bool V.dn, .int .i64 V.lf, .bool V.dd, .int .i64 V.ch]))
structure Vlt (w : World) (V : Vt) : Prop where
  blk : Blk w V.g 46 V.cells
  rl : V.root.length = 32
  il : V.ix.length = 32
  ib : ∀ x ∈ V.ix, x ≤ 281474976710656
  lb : -1 ≤ V.lf ∧ V.lf ≤ 9223372036854775807
  cb : 0 ≤ V.ch

section
variable {V : Vt} (hr : V.root.length = 32) (hi : V.ix.length = 32)
theorem Vt.get_root {j x : Nat} (h : V.root[j]? = some x) : V.cells[j]? = some (.int .u8 (x : Int)) := by
  have hj := (List.getElem?_eq_some_iff.1 h).1
  unfold Vt.cells
  rw [List.getElem?_append_left (by rw [cn_length]; exact hj)]
  exact cn_get h
include hr in
theorem Vt.get_tail (k : Nat) : V.cells[32 + k]? = (Value.bool V.lk :: (cn .i64 V.ix ++ [.bool V.dn, .int .i64 V.lf, .bool V.dd, .int .i64 V.ch]))[k]? := by
  unfold Vt.cells
  rw [List.getElem?_append_right (by rw [cn_length, hr]; omega), cn_length, hr, Nat.add_sub_cancel_left]
include hr in
theorem Vt.get_ix {j x : Nat} (h : V.ix[j]? = some x) : V.cells[33 + j]? = some (.int .i64 (x : Int)) := by
  have hj := (List.getElem?_eq_some_iff.1 h).1
  rw [show 33 + j = 32 + (j + 1) by omega, Vt.get_tail hr, List.getElem?_cons_succ, List.getElem?_append_left (by rw [cn_length]; exact hj)]
  exact cn_get h
include hr hi in
theorem Vt.get_end (k : Nat) : V.cells[65 + k]? = [Value.bool V.dn, .int .i64 V.lf, .bool V.dd, .int .i64 V.ch][k]? := by
  rw [show 65 + k = 32 + (32 + k + 1) by omega, Vt.get_tail hr, List.getElem?_cons_succ, List.getElem?_append_right (by rw [cn_length, hi]; omega), cn_length, hi, Nat.add_sub_cancel_left]
include hr in
theorem Vt.set_tail (k : Nat) (u : Value) : V.cells.set (32 + k) u = cn .u8 V.root ++ (Value.bool V.lk :: (cn .i64 V.ix ++ [.bool V.dn, .int .i64 V.lf, .bool V.dd, .int .i64 V.ch])).set k u := by
  unfold Vt.cells
  rw [List.set_append_right _ _ (by rw [cn_length, hr]; omega), cn_length, hr, Nat.add_sub_cancel_left]
include hr in
theorem Vt.set_lk (b : Bool) : V.cells.set 32 (.bool b) = { V with lk := b }.cells := Vt.set_tail hr 0 _
include hr hi in
theorem Vt.set_ix (j x : Nat) (hj : j < 32) : V.cells.set (33 + j) (.int .i64 (x : Int)) = { V with ix := V.ix.set j x }.cells := by
  rw [show 33 + j = 32 + (j + 1) by omega, Vt.set_tail hr, List.set_cons_succ, List.set_append_left _ _ (by rw [cn_length, hi]; exact hj), cn_set]
  rfl
include hr hi in
theorem Vt.set_end (k : Nat) (u : Value) : V.cells.set (65 + k) u = cn .u8 V.root ++ (Value.bool V.lk :: (cn .i64 V.ix ++ [Value.bool V.dn, .int .i64 V.lf, .bool V.dd, .int .i64 V.ch].set k u)) := by
  rw [show 65 + k = 32 + (32 + k + 1) by omega, Vt.set_tail hr, List.set_cons_succ, List.set_append_right _ _ (by rw [cn_length, hi]; omega), cn_length, hi, Nat.add_sub_cancel_left]
end

section
variable {w w' : World} {V : Vt}
theorem Vlt.croot (h : Vlt w V) {j x : Nat} (hx : V.root[j]? = some x) : w.cell? ⟨V.g, j, none⟩ = some (.int .u8 (x : Int)) := by rw [h.blk.cell]; exact Vt.get_root hx
theorem Vlt.clk (h : Vlt w V) : w.cell? ⟨V.g, 32, none⟩ = some (.bool V.lk) := by rw [h.blk.cell]; exact Vt.get_tail h.rl 0
theorem Vlt.cix (h : Vlt w V) {j x : Nat} (hx : V.ix[j]? = some x) : w.cell? ⟨V.g, 33 + j, none⟩ = some (.int .i64 (x : Int)) := by rw [h.blk.cell]; exact Vt.get_ix h.rl hx
theorem Vlt.cdn (h : Vlt w V) : w.cell? ⟨V.g, 65, none⟩ = some (.bool V.dn) := by rw [h.blk.cell]; exact Vt.get_end h.rl h.il 0
theorem Vlt.clf (h : Vlt w V) : w.cell? ⟨V.g, 66, none⟩ = some (.int .i64 V.lf) := by rw [h.blk.cell]; exact Vt.get_end h.rl h.il 1
theorem Vlt.cdd (h : Vlt w V) : w.cell? ⟨V.g, 67, none⟩ = some (.bool V.dd) := by rw [h.blk.cell]; exact Vt.get_end h.rl h.il 2
theorem Vlt.cch (h : Vlt w V) : w.cell? ⟨V.g, 68, none⟩ = some (.int .i64 V.ch) := by rw [h.blk.cell]; exact Vt.get_end h.rl h.il 3
theorem Vlt.z (h : Vlt w V) (i : Nat) : w.frozen? ⟨V.g, i, none⟩ = false := h.blk.frozen i
theorem Vlt.lt (h : Vlt w V) : V.g < w.heap.size := h.blk.lt
theorem Vlt.touch (h : Vlt w V) {F : List Nat} (t : Touch F w w') (hg : V.g ∉ F) : Vlt w' V := { h with blk := h.blk.touch t hg }
theorem Vlt.below (h : Vlt w V) (hb : Below w.heap.size w w') : Vlt w' V := { h with blk := h.blk.below hb h.lt }
theorem Vlt.alloc (h : Vlt w V) (o : Obj) : Vlt (w.alloc o) V := { h with blk := h.blk.alloc o }
theorem Vlt.drewN (h : Vlt w V) (n : Nat) : Vlt (w.drewN n) V := { h with blk := h.blk }
theorem Vlt.setLk (h : Vlt w V) (b : Bool) : Vlt (w.setCell ⟨V.g, 32, none⟩ (.bool b)) { V with lk := b } :=
  { blk := by have := h.blk.set_ 32 (.bool b); rwa [Vt.set_lk h.rl] at this, rl := h.rl, il := h.il, ib := h.ib, lb := h.lb, cb := h.cb }
theorem Vlt.setIx (h : Vlt w V) (j x : Nat) (hj : j < 32) (hx : x ≤ 281474976710656) : Vlt (w.setCell ⟨V.g, 33 + j, none⟩ (.int .i64 (x : Int))) { V with ix := V.ix.set j x } :=
  { blk := by have := h.blk.set_ (33 + j) (.int .i64 (x : Int)); rwa [Vt.set_ix h.rl h.il j x hj] at this
    rl := h.rl
    il := by rw [List.length_set]; exact h.il
    ib := fun y hy => by
      rcases List.mem_or_eq_of_mem_set hy with h1 | h1
      · exact h.ib y h1
      · rw [h1]; exact hx
    lb := h.lb, cb := h.cb }
theorem Vlt.setDn (h : Vlt w V) (b : Bool) : Vlt (w.setCell ⟨V.g, 65, none⟩ (.bool b)) { V with dn := b } :=
  { blk := by have := h.blk.set_ 65 (.bool b); rw [show (65 : Nat) = 65 + 0 from rfl, Vt.set_end h.rl h.il] at this; exact this, rl := h.rl, il := h.il, ib := h.ib, lb := h.lb, cb := h.cb }
theorem Vlt.setLf (h : Vlt w V) (n : Int) (hn : -1 ≤ n ∧ n ≤ 9223372036854775807) : Vlt (w.setCell ⟨V.g, 66, none⟩ (.int .i64 n)) { V with lf := n } :=
  { blk := by have := h.blk.set_ 66 (.int .i64 n); rw [show (66 : Nat) = 65 + 1 from rfl, Vt.set_end h.rl h.il] at this; exact this, rl := h.rl, il := h.il, ib := h.ib, lb := hn, cb := h.cb }
theorem Vlt.setDd (h : Vlt w V) (b : Bool) : Vlt (w.setCell ⟨V.g, 67, none⟩ (.bool b)) { V with dd := b } :=
  { blk := by have := h.blk.set_ 67 (.bool b); rw [show (67 : Nat) = 65 + 2 from rfl, Vt.set_end h.rl h.il] at this; exact this, rl := h.rl, il := h.il, ib := h.ib, lb := h.lb, cb := h.cb }
theorem Vlt.setCh (h : Vlt w V) (n : Int) (hn : 0 ≤ n) : Vlt (w.setCell ⟨V.g, 68, none⟩ (.int .i64 n)) { V with ch := n } :=
  { blk := by have := h.blk.set_ 68 (.int .i64 n); rw [show (68 : Nat) = 65 + 3 from rfl, Vt.set_end h.rl h.il] at this; exact this, rl := h.rl, il := h.il, ib := h.ib, lb := h.lb, cb := hn }
theorem set_touch (g j : Nat) (u : Value) (w : World) : Touch [g] w (w.setCell ⟨g, j, none⟩ u) := (Touch.refl _ w).setCell (p := ⟨g, j, none⟩) (.inl (by simp)) _
end

theorem results_none {fn : Func} (h : fn.results = #[]) (tmps : Array Value) (P : Program) (w : World) : (results fn tmps).run P w = .ok (.tuple #[]) w := by
  simp [results, h]

section
variable (V : Vt) (w : World)
theorem Locked_any (h : Vlt w V) : Calls Try.prog 13 #[.pointer (some ⟨V.g, 0, none⟩)] w fun e w' => e = .returned (.bool V.lk) ∧ w = w' := by
  have c := h.clk
  clear h
  go_enter Try.func13, Try.ntmps13
  go_wp2
  go_ret
  exact ⟨rfl, rfl⟩
theorem Down_any (h : Vlt w V) : Calls Try.prog 14 #[.pointer (some ⟨V.g, 0, none⟩)] w fun e w' => e = .returned (.bool V.dn) ∧ w = w' := by
  have c := h.cdn
  clear h
  go_enter Try.func14, Try.ntmps14
  go_wp2
  go_ret
  exact ⟨rfl, rfl⟩
theorem Changes_any (h : Vlt w V) : Calls Try.prog 15 #[.pointer (some ⟨V.g, 0, none⟩)] w fun e w' => e = .returned (.int .i64 V.ch) ∧ w = w' := by
  have c := h.cch
  clear h
  go_enter Try.func15, Try.ntmps15
  go_wp2
  go_ret
  exact ⟨rfl, rfl⟩
theorem isLocation_any (x : Int) (b : Bool) (hb : b = decide (0 ≤ x ∧ x < 32)) : Calls Try.prog 18 #[.int .i64 x] w fun e w' => e = .returned (.bool b) ∧ w = w' := by
  by_cases h0 : 0 ≤ x
  · by_cases h1 : x < 32
    · have HB : Hid (b = true) := by show _ = _; rw [hb]; simp [h0, h1]
      clear hb
      go_enter Try.func18, Try.ntmps18
      go_wp2
      go_ret
      exact ⟨by rw [HB.out]; rfl, rfl⟩
    · have HB : Hid (b = false) := by show _ = _; rw [hb]; simp [h1]
      clear hb
      go_enter Try.func18, Try.ntmps18
      go_wp2
      go_ret
      exact ⟨by rw [HB.out]; rfl, rfl⟩
  · have HB : Hid (b = false) := by show _ = _; rw [hb]; simp [h0]
    clear hb
    go_enter Try.func18, Try.ntmps18
    go_wp2
    go_ret
    exact ⟨by rw [HB.out]; rfl, rfl⟩
theorem Index_no (x : Int) (hx : ¬ (0 ≤ x ∧ x < 32)) : Calls Try.prog 17 #[.pointer (some ⟨V.g, 0, none⟩), .int .i64 x] w fun e w' => e = .returned (.tuple #[.int .i64 0, .int .i64 13]) ∧ w = w' := by
  have HL := Lib.hid (isLocation_any w x false (by simp [hx]))
  clear hx
  go_enter Try.func17, Try.ntmps17
  go_wp2_with fail
  refine HL.out.mono ?_
  rintro e w2 ⟨rfl, rfl⟩
  go_wp2
  go_ret2
  exact ⟨rfl, rfl⟩
theorem Index_yes (h : Vlt w V) (j x : Nat) (hx : V.ix[j]? = some x) : Calls Try.prog 17 #[.pointer (some ⟨V.g, 0, none⟩), .int .i64 (j : Int)] w fun e w' => e = .returned (.tuple #[.int .i64 (x : Int), .int .i64 0]) ∧ w = w' := by
  have hj : j < 32 := by have := (List.getElem?_eq_some_iff.1 hx).1; rw [h.il] at this; exact this
  have zj : (j : Int) < 32 := by omega
  have HL := Lib.hid (isLocation_any w (j : Int) true (by simp; omega))
  have c := h.cix hx
  have hz := h.z (33 + j)
  clear h hx
  go_enter Try.func17, Try.ntmps17
  go_wp2_with fail
  refine HL.out.mono ?_
  rintro e w2 ⟨rfl, rfl⟩
  go_wp2
  go_ret2
  exact ⟨rfl, rfl⟩
end
end Go.Proofs.Ytekfjccpcbbgfaa
