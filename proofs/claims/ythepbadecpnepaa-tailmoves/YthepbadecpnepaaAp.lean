/-
  Appends: noughts behind a row, and bytes behind a row that is just full. No condition but that the rows are no more than a million bytes.
-/
import Derived.Test.YthepbadecpnepaaH2
import Derived.Lib.AppendStr
namespace Go.Proofs.Ythepbadecpnepaa
open Go.RowKit
set_option linter.unusedVariables false
set_option linter.unusedSimpArgs false
set_option maxRecDepth 100000

theorem strCells_str {l : List Nat} (hf : Fit 256 l) : Lib.strCells (str l) = cn .u8 l := by
  have hd : (str l).data.toList = l.map UInt8.ofNat := by
    show ((l.map fun (x : Nat) => (x : Int)).map fun n => UInt8.ofNat n.toNat) = _
    simp [Function.comp_def]
  simp only [Lib.strCells, hd, cn, List.map_map]
  apply List.map_congr_left
  intro x hx
  have := hf x hx
  simp only [Function.comp_apply, UInt8.toNat_ofNat']
  congr 1
  omega
theorem zeros_cells (k : Nat) : Builtin.zeroCells #[Value.int .u8 0] k = (cn .u8 (List.replicate k 0)).toArray := by
  apply Array.ext'
  simp only [Builtin.zeroCells, cn]
  simp
  apply List.ext_getElem
  · simp
  · intro i h1 h2
    simp [Nat.mod_one]
theorem run_make13 (w : World) (A : Option Addr) (n cap k : Nat) (hk : n + k ≤ 1000000) (S : ByteArray) (hS : S = str (List.replicate k 0)) :
    (Builtin.append_ #[25, 3] 25 #[.slice A n cap, .int .i64 (k : Int)]).run Try.prog w = (Builtin.append_ #[25, 9] 25 #[.slice A n cap, .string S]).run Try.prog w := by
  have hfit : Fit 256 (List.replicate k 0) := fun x hx => by rw [List.eq_of_mem_replicate hx]; omega
  have hcs : Lib.strCells S = cn .u8 (List.replicate k 0) := by rw [hS, strCells_str hfit]
  have hsz : S.size = k := by rw [← Lib.strCells_length, hcs, cn_length, List.length_replicate]
  obtain ⟨i0, hi, hz0, hz1, hz2⟩ := info_parts byteInfo
  have hf : ∀ u : World, (Builtin.firstCells 1 k (.string S)).run Try.prog u = .ok (Builtin.zeroCells #[Value.int .u8 0] k) u := fun u => by
    have := Lib.run_firstCells_string (P := Try.prog) u 1 S
    rw [hsz, hcs, ← zeros_cells] at this
    exact this
  have hw : IntKind.i64.wrap (k : Int) = k := by rw [IntKind.wrap_i64]; omega
  have h1 : ¬ ((k : Int) < 0) := by omega
  have h2 : ¬ ((281474976710656 : Int) < k) := by omega
  have h3 : ¬ ((9223372036854775807 : Int) < (n : Int) + k) := by omega
  have e0 : k = 0 → Builtin.zeroCells #[Value.int .u8 0] k = #[] := by rintro rfl; rw [zeros_cells]; rfl
  by_cases hr : n + k ≤ cap
  · by_cases h0 : k = 0
    · subst h0
      have hff := hf w
      rw [e0 rfl] at hff
      have hw0 : IntKind.i64.wrap 0 = 0 := rfl
      have hr' : n ≤ cap := by omega
      simp [hw0, hr', Builtin.append_, run_underlying Try.underlying25, run_underlying Try.underlying9, run_underlying Try.underlying3, sizeOf, typeInfo, hi, hz1, hz2, hz0, Builtin.lenOf, asInt, asIntOf, hw, hsz, hr, hff]
    · simp [Builtin.append_, run_underlying Try.underlying25, run_underlying Try.underlying9, run_underlying Try.underlying3, sizeOf, typeInfo, hi, hz1, hz2, hz0, Builtin.lenOf, asInt, asIntOf, hw, hsz, hr, hf, h1, h2, h0, zeroValue, Value.cells]
  · have h4 : ¬ (281474976710656 < Builtin.nextslicecap (n + k) cap) := by
      have := growslice_fits (need := n + k) (old := cap) (bytes := 1) (by omega) (by omega)
      omega
    by_cases h0 : k = 0
    · subst h0
      have hff := fun u => hf u
      simp only [e0 rfl] at hff
      have hw0 : IntKind.i64.wrap 0 = 0 := rfl
      have hr' : ¬ n ≤ cap := by omega
      have h4' : ¬ (281474976710656 < Builtin.nextslicecap n cap) := h4
      have h3' : ¬ ((9223372036854775807 : Int) < (n : Int)) := by omega
      simp [hw0, hr', h4', h3', Builtin.append_, run_underlying Try.underlying25, run_underlying Try.underlying9, run_underlying Try.underlying3, sizeOf, typeInfo, hi, hz1, hz2, hz0, Builtin.lenOf, asInt, asIntOf, hw, hsz, hr, hff, h3, h4]
    · simp [Builtin.append_, run_underlying Try.underlying25, run_underlying Try.underlying9, run_underlying Try.underlying3, sizeOf, typeInfo, hi, hz1, hz2, hz0, Builtin.lenOf, asInt, asIntOf, hw, hsz, hr, hf, h1, h2, h0, h3, h4, zeroValue, Value.cells]
/-- Noughts behind a row. -/
theorem app_make (W : World) (h q cd k N : Nat) (Ad : Option Addr) (l : List Nat) (hrow : Row W h 5 Ad q cd (cn .u8 l)) (hN : q + k = N) (hN2 : N ≤ 1000000) (hh : h ≤ W.heap.size) :
    ∃ A4 c4 w4, (Builtin.append_ #[25, 3] 25 #[.slice Ad q cd, .int .i64 (k : Int)]).run Try.prog W = .ok (.slice A4 N c4) w4 ∧ Row w4 h 5 A4 N c4 (cn .u8 (l ++ List.replicate k 0)) ∧ Below h W w4 := by
  subst hN
  have hfit : Fit 256 (List.replicate k 0) := fun x hx => by rw [List.eq_of_mem_replicate hx]; omega
  have hcs : Lib.strCells (str (List.replicate k 0)) = cn .u8 (List.replicate k 0) := strCells_str hfit
  have hsz : (str (List.replicate k 0)).size = k := by rw [← Lib.strCells_length, hcs, cn_length, List.length_replicate]
  obtain ⟨i0, hi, hz0, hz1, hz2⟩ := info_parts byteInfo
  obtain ⟨v', w', hrun, hown, hg, _⟩ := Lib.run_append_own_string (P := Try.prog) W h 25 9 25 5 i0 Try.underlying25 Try.underlying9 hi hz0 hz1 hz2 _ q _ hrow (str (List.replicate k 0)) (by unfold maxLen; omega) (by omega) hh
  rw [hcs, hsz] at hown
  have hform : ∃ A' cap', v' = .slice A' (q + k) cap' := by
    rcases hown.2 with ⟨rfl, h0⟩ | ⟨g, cap', cur, rfl, _⟩
    · exact ⟨none, 0, by rw [h0]⟩
    · exact ⟨_, _, rfl⟩
  obtain ⟨A', cap', rfl⟩ := hform
  refine ⟨A', cap', w', (run_make13 W Ad q cd k hN2 _ rfl).trans hrun, ?_, below_only (Below.refl _ _) hg hh (fun j hj => (World.ownsRow.lt hrow j hj).1)⟩
  show World.ownsRow _ _ _ _ _ _ _
  rw [cn_append]
  exact hown
theorem wpList_appMake {ops : Array Oper} {rest : List Oper} {o : Oper} {a : Act} {w : World} {Q : Exit → Act → World → Prop} (hgd : o.guard = none) (s x : Operand) (ho : o.op = .call { callee := .builtin .append, args := #[s, x], argTypes := #[25, 3] }) (hty : o.type = 25)
    (v u : Value) (hs : a.eval s = v) (hx : a.eval x = u) {v' : Value} {w' : World} (hr : (Builtin.append_ #[25, 3] 25 #[v, u]).run Try.prog w = .ok v' w') (h : wpList Try.prog ops Q rest (a.put o.dst v') w') : wpList Try.prog ops Q (o :: rest) a w := by
  refine wpList_plain hgd fun K hK => ?_
  unfold Oper.wp
  simp [execOp, ho, hty, resolve, invoke, builtin, hs, hx, hr, Result.andThen]
  exact hK _ _ h
theorem wpList_full {ops : Array Oper} {rest : List Oper} {o : Oper} {a : Act} {w : World} {Q : Exit → Act → World → Prop} (hgd : o.guard = none) (s x : Operand) (ho : o.op = .call { callee := .builtin .append, args := #[s, x], argTypes := #[25, 25] })
    {w0 : World} {A : Option Addr} {n : Nat} {l : List Nat} (h : Rd .u8 w A n l) (hn : 0 < n) (hs : a.eval s = .slice A n n) {A2 : Option Addr} {m c2 : Nat} {l2 : List Nat} (hx : a.eval x = .slice A2 m c2) (hrd : Rd .u8 w A2 m l2) (hm : 0 < m) (hnm : n + m ≤ 1000000) (N : Nat) (hN : n + m = N) (hb : Below w0.heap.size w0 w)
    (hk : ∀ c' w', Hid (Row w' w0.heap.size 5 (some ⟨w.heap.size, 0, none⟩) N c' (cn .u8 (l ++ l2))) → Below w0.heap.size w0 w' → Below w.heap.size w w' → wpList Try.prog ops Q rest (a.put o.dst (.slice (some ⟨w.heap.size, 0, none⟩) N c')) w') : wpList Try.prog ops Q (o :: rest) a w := by
  subst hN
  obtain ⟨i, hi, hz, hsize, hby⟩ := info_parts byteInfo
  have l1 := h.1
  have l22 := hrd.1
  obtain ⟨ad, rfl, _, hc⟩ := h.2 hn
  obtain ⟨ad2, rfl, _, hc2⟩ := hrd.2 hm
  have hget : ∀ (L : List Nat) (j : Nat) (v : Value), (cn .u8 L)[j]? = some v → ∃ y, L[j]? = some y ∧ v = .int .u8 (y : Int) := by
    intro L j v hv
    rw [cn, List.getElem?_map] at hv
    cases hL : L[j]? with
    | none => rw [hL] at hv; cases hv
    | some y => rw [hL] at hv; injection hv with hv; exact ⟨y, rfl, hv.symm⟩
  have hrun := run_append_grow (P := Try.prog) (w := w) 25 o.type 5 i _ Try.underlying25 hi hz ad n n (cn .u8 l) (by rw [cn_length, hsize, l1]; omega) (fun j v hv => by obtain ⟨y, hy, rfl⟩ := hget l j v hv; exact hc j y hy) ad2 m c2 (cn .u8 l2) (by rw [cn_length, hsize, l22]; omega) (fun j v hv => by obtain ⟨y, hy, rfl⟩ := hget l2 j v hv; exact hc2 j y hy) (by omega) (by omega) (growslice_fits (by omega) (by rw [hby]; omega))
  obtain ⟨C, hC⟩ : ∃ C, grownCap w (n + m) n 5 = C := ⟨_, rfl⟩
  have hge := grownCap_ge w (n + m) n 5
  have hcm : grownCap w (n + m) n 5 ≤ maxLen := grownCap_le_maxLen w (n + m) n 5 (by unfold maxLen; omega)
  rw [hC] at hrun hge hcm
  refine wpList_plain hgd fun K hK => ?_
  unfold Oper.wp
  simp [execOp, ho, resolve, invoke, builtin, hs, hx, hrun, Result.andThen]
  refine hK _ _ (hk C _ ⟨by rw [cn_length, List.length_append, l1, l22]; omega, .inr ⟨w.heap.size, C, _, rfl, hb.size, heap_alloc_new w.drew _, hge, hcm, ?_, ?_⟩⟩ ?_ ?_)
  · have hz1 : (Value.int .u8 (0 : Int)).cells.size = 1 := rfl
    simp [cn_length, l1, l22, size_zeroCells, hz1]
    omega
  · simp [cn_append, List.take_append, cn_length, l1, l22]
    try exact List.take_of_length_le (by rw [cn_length, l1]; omega)
  · exact hb.trans (Below.trans (b := w.drew) ⟨rfl, rfl, rfl, Nat.le_refl _, fun _ _ => rfl⟩ ((Below.refl w0.heap.size w.drew).alloc hb.size _))
  · exact Below.trans (b := w.drew) ⟨rfl, rfl, rfl, Nat.le_refl _, fun _ _ => rfl⟩ ((Below.refl w.heap.size w.drew).alloc (Nat.le_refl _) _)
end Go.Proofs.Ythepbadecpnepaa
