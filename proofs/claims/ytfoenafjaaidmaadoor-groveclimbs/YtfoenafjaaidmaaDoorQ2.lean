/-
  Buffers that are filled from the front: what the calls of bytes.Repeat and bytes.Join need.
-/
import Derived.Test.YtfoenafjaaidmaaDoorQ1
import Derived.Lib.SlBuf
import Derived.Lib.MakeNoZero
import Derived.Laws.Externs
namespace Go.Proofs.YtfoenafjaaidmaaDoor
open Go.RowKit
set_option linter.unusedVariables false
set_option linter.unusedSimpArgs false
set_option maxRecDepth 100000

/-- A new buffer, of whatever bytes. -/
theorem noZero_any (w : World) (T : Nat) (hT : T ≤ 1000000) : ∃ cs : Array Value, (callFunc 60 #[.int .i64 (T : Int)]).run Tryd.prog w = .ok (.value (.slice (some ⟨w.heap.size, 0, none⟩) T cs.size)) ((w.alloc (.cells cs 5)).drewN 2) ∧ T ≤ cs.size := by
  obtain ⟨cs, hrun, hle, _⟩ := Lib.run_makeNoZero (P := Tryd.prog) w #[3] 22 5 Tryd.underlying22 T (by omega)
  refine ⟨cs, ?_, hle⟩
  rw [run_callFunc_extern Tryd.func60 (by kernel_rfl) (by kernel_rfl) (by kernel_rfl) (e := Extern.BytealgMakeNoZero.makeNoZero #[3] #[22]) (by kernel_rfl), hrun]
  rfl
theorem Buf.drew {w wr : World} {h N : Nat} {acc : List UInt8} (b : Lib.Buf w wr h N acc) : Lib.Buf w wr.drew h N acc :=
  ⟨⟨b.below.os, b.below.tape, b.below.output, b.below.size, b.below.block⟩, b.there, b.free, b.holds, b.fits⟩
theorem Rd.holds {w : World} {A : Option Addr} {n cap : Nat} {l : List Nat} (h : Rd .u8 w A n l) (hf : Fit 256 l) : Lib.HoldsBytes w (.slice A n cap) (l.map UInt8.ofNat) := by
  refine ⟨A, cap, by rw [List.length_map, h.1], fun e => ?_, fun a e j x hx => ?_⟩
  · rcases Nat.eq_zero_or_pos n with h0 | h0
    · rw [List.map_eq_nil_iff]; exact List.eq_nil_of_length_eq_zero (by rw [h.1, h0])
    · obtain ⟨ad, e2, _⟩ := h.2 h0
      rw [e] at e2; cases e2
  · have hj := (List.getElem?_eq_some_iff.1 hx).1
    rw [List.length_map, h.1] at hj
    obtain ⟨ad, e2, _, hc⟩ := h.2 (by omega)
    rw [e] at e2
    injection e2 with e2
    subst e2
    rw [List.getElem?_map] at hx
    cases hy : l[j]? with
    | none => rw [hy] at hx; cases hx
    | some y =>
      rw [hy] at hx
      injection hx with hx
      have := hf y (List.mem_of_getElem? hy)
      rw [hc j y hy, ← hx]
      simp only [UInt8.toNat_ofNat']
      congr 2
      omega
theorem Buf.rd {w wr : World} {h N : Nat} {l : List Nat} (b : Lib.Buf w wr h N (l.map UInt8.ofNat)) (hf : Fit 256 l) (hl : l.length = N) : Rd .u8 wr (some ⟨h, 0, none⟩) N l := by
  refine ⟨hl, fun hn => ⟨_, rfl, ?_, fun j x hx => ?_⟩⟩
  · have := b.there 0 hn
    cases hc : wr.cell? ⟨h, 0, none⟩ with
    | none => rw [hc] at this; cases this
    | some v => exact World.block_lt_of_cell? wr _ hc
  · rw [addr_add, Nat.zero_add, b.holds j (UInt8.ofNat x) (by rw [List.getElem?_map, hx]; rfl)]
    have := hf x (List.mem_of_getElem? hx)
    simp only [UInt8.toNat_ofNat']
    congr 2
    omega
theorem byteSize : (Tryd.prog.info? 5).map (·.size) = some 1 := by kernel_rfl
theorem byteSz (w : World) : (Go.sizeOf 5).run Tryd.prog w = .ok 1 w := by kernel_rfl
/-- What stands at a buffer's head is put behind it once more. -/
theorem copy_self (ty : TypeId) (w0 wr : World) (g T q m : Nat) (y : UInt8) (hb : Lib.Buf w0 wr g T (List.replicate q y)) (h1 : 1 ≤ q) (h2 : q < T) (hg : w0.heap.size ≤ g) (hm : Nat.min q (T - q) = m) :
    ∃ wr', (Builtin.copy_ #[22, 22] ty #[Lib.tailV g T q, .slice (some ⟨g, 0, none⟩) q T]).run Tryd.prog wr = .ok (.int .i64 (m : Int)) wr' ∧ Lib.Buf w0 wr' g T (List.replicate (q + m) y) := by
  have hmq : m ≤ q ∧ m ≤ T - q := by rw [← hm]; exact ⟨Nat.min_le_left _ _, Nat.min_le_right _ _⟩
  have hl : ((List.replicate m y).map fun x => Value.int .u8 (x.toNat : Int)).length = m := by simp
  have hr := run_copy_cells (P := Tryd.prog) wr 22 22 ty 5 g q (T - q) (T - q) ⟨g, 0, none⟩ q T ((List.replicate m y).map fun x => Value.int .u8 (x.toNat : Int)) Tryd.underlying22 byteSize (by rw [hl]; exact hm.symm)
    (fun j u hj => by
      rw [List.getElem?_map] at hj
      obtain ⟨x, hx, rfl⟩ := Option.map_eq_some_iff.1 hj
      rw [addr_add, Nat.zero_add]
      refine hb.holds j x ?_
      rw [List.getElem?_replicate] at hx ⊢
      split at hx
      · rw [if_pos (by omega)]; exact hx
      · cases hx)
    (fun j hj => by rw [hl] at hj; exact hb.there _ (by omega)) (fun j hj => by rw [hl] at hj; exact hb.free _ (by omega))
    (fun u hu' => by obtain ⟨x, _, rfl⟩ := List.mem_map.1 hu'; rfl)
  rw [hl] at hr
  refine ⟨_, by unfold Lib.tailV; rw [if_neg (by omega)]; exact hr, ?_⟩
  have hin := World.cell?_setCells_in g ((List.replicate m y).map fun x => Value.int .u8 (x.toNat : Int)) q wr (fun j hj => by rw [hl] at hj; exact hb.there _ (by omega))
  have hout := World.cell?_setCells_out g ((List.replicate m y).map fun x => Value.int .u8 (x.toNat : Int)) q wr
  refine ⟨Lib.below_setCells g (Nat.le_refl _) _ _ hb.below, fun j hj => ?_, fun j hj => ?_, fun j x hx => ?_, by simp; omega⟩
  · by_cases h3 : q ≤ j ∧ j < q + m
    · obtain ⟨d, rfl⟩ : ∃ d, j = q + d := ⟨j - q, by omega⟩
      rw [hin d (by rw [hl]; omega)]
      rfl
    · rw [hout ⟨g, j, none⟩ (fun _ _ => by rw [hl]; show j < _ ∨ _ ≤ j; omega)]
      exact hb.there j hj
  · rw [World.frozen?_setCells]
    exact hb.free j hj
  · rw [List.getElem?_replicate] at hx
    split at hx
    · injection hx with hx
      subst hx
      by_cases h3 : j < q
      · rw [hout ⟨g, j, none⟩ (fun _ _ => Or.inl h3)]
        exact hb.holds j y (by rw [List.getElem?_replicate, if_pos h3])
      · obtain ⟨d, rfl⟩ : ∃ d, j = q + d := ⟨j - q, by omega⟩
        rw [hin d (by rw [hl]; omega)]
        simp
    · cases hx
theorem step_copy7 {ops : Array Oper} {o : Oper} {a : Act} {w : World} {K : Act → World → Prop} {Q : Exit → Act → World → Prop} {E : Prop} (hgd : o.guard = none) (d s : Operand) (ho : o.op = .call { callee := .builtin .copy, args := #[d, s], argTypes := #[22, 22] })
    (v u : Value) (hd : a.eval d = v) (hs : a.eval s = u) {v' : Value} {w' : World} (hr : (Builtin.copy_ #[22, 22] o.type #[v, u]).run Tryd.prog w = .ok v' w') (h : K (a.put o.dst v') w') :
    if Region.wanted o (yielded ops a.tmps) = true then Oper.wp Tryd.prog o a w K Q else E := by
  have hw : Region.wanted o (yielded ops a.tmps) = true := by simp [Region.wanted, hgd]
  rw [if_pos hw]
  unfold Oper.wp
  simp [execOp, ho, resolve, invoke, builtin, hd, hs, hr, Result.andThen]
  exact h
/-- An answer: bytes to be read, in a block of the call's own. -/
def GivesOwn (w : World) (n : Nat) (l : List Nat) (e : Ending) (w' : World) : Prop := ∃ g, e = .returned (.slice (some ⟨g, 0, none⟩) n n) ∧ w.heap.size ≤ g ∧ Rd .u8 w' (some ⟨g, 0, none⟩) n l ∧ Below w.heap.size w w'
end Go.Proofs.YtfoenafjaaidmaaDoor
