/-
  Bytes, maybe none, and a string behind bytes.
-/
import Derived.Test.YtfoenafjaaidmaaDoorB9
import Derived.Lib.AppendStr
namespace Go.Proofs.YtfoenafjaaidmaaDoor
open Go.RowKit
set_option linter.unusedVariables false
set_option linter.unusedSimpArgs false
set_option maxRecDepth 100000

/-- Bytes behind bytes, maybe none. -/
theorem wpList_appBs0 {ops : Array Oper} {rest : List Oper} {o : Oper} {a : Act} {w : World} {Q : Exit → Act → World → Prop} (hgd : o.guard = none) (s x : Operand) (ho : o.op = .call { callee := .builtin .append, args := #[s, x], argTypes := #[22, 22] })
    {B : Nat} {w0 : World} (hbel : Below B w0 w) (hB : B ≤ w.heap.size) {A : Option Addr} {n cap : Nat} {l : List Nat} (hs : a.eval s = .slice A n cap) (hrow : Row w B 5 A n cap (cn .u8 l)) {A2 : Option Addr} {m c2 : Nat} {l2 : List Nat} (hx : a.eval x = .slice A2 m c2) (hr : Rd .u8 w A2 m l2) (hnil : A2 = none → c2 = 0) (hnm : n + m ≤ 1000000) (N : Nat) (hN : n + m = N)
    (h : ∀ A' cap' w', Hid (Row w' B 5 A' N cap' (cn .u8 (l ++ l2))) → Below B w0 w' → B ≤ w'.heap.size → Hid (w.grownBy w' (A.map (·.block))) → wpList Tryd.prog ops Q rest (a.put o.dst (.slice A' N cap')) w') : wpList Tryd.prog ops Q (o :: rest) a w := by
  rcases A2 with _ | ad
  · obtain rfl := hnil rfl
    have hm : m = 0 := by
      rcases Nat.eq_zero_or_pos m with h0 | h0
      · exact h0
      · obtain ⟨_, e, _⟩ := hr.2 h0; cases e
    subst hm
    have hl2 : l2 = [] := List.eq_nil_of_length_eq_zero hr.1
    subst hl2
    obtain ⟨i0, hi, hz0, hz1, hz2⟩ := info_parts byteInfo
    have hrun := run_append_owned_none (P := Tryd.prog) (w := w) B 22 o.type 5 i0 1 Tryd.underlying22 hi _ n _ hrow
    subst hN
    refine wpList_plain hgd fun K hK => ?_
    unfold Oper.wp
    simp [execOp, ho, resolve, invoke, builtin, hs, hx, hrun, Result.andThen]
    exact hK _ _ (h A cap w (by rw [List.append_nil]; exact hrow) hbel hB (World.grownBy.refl w _))
  · rcases Nat.eq_zero_or_pos m with h0 | h0
    · subst h0
      have hl2 : l2 = [] := List.eq_nil_of_length_eq_zero hr.1
      subst hl2
      subst hN
      obtain ⟨i0, hi, hz0, hz1, hz2⟩ := info_parts byteInfo
      obtain ⟨v', w', hrun, hown, hg, hnil2, hat⟩ := run_append_own_at (P := Tryd.prog) w B 22 o.type 5 i0 _ 1 1 Tryd.underlying22 hi hz0 hz1 hz2 rfl (by omega) _ n _ hrow ad 0 c2 [] rfl (fun j u hu => by simp at hu) (fun u hu => by simp at hu) (by unfold maxLen; omega) (by omega) hB
      have hform : ∃ A' cap', v' = .slice A' (n + 0) cap' := by
        rcases hown.2 with ⟨rfl, h0⟩ | ⟨g, cap', cur, rfl, _⟩
        · exact ⟨none, 0, by rw [h0]⟩
        · exact ⟨_, _, rfl⟩
      obtain ⟨A', cap', rfl⟩ := hform
      have hrowb : (Value.slice A n cap).ownBlock = A.map (·.block) := by cases A <;> rfl
      refine wpList_plain hgd fun K hK => ?_
      unfold Oper.wp
      simp [execOp, ho, resolve, invoke, builtin, hs, hx, hrun, Result.andThen]
      refine hK _ _ (h A' cap' w' ?_ (below_only hbel hg hB (fun j hj => (World.ownsRow.lt hrow j hj).1)) (Nat.le_trans hB hg.size) (by rw [← hrowb]; exact hg))
      show Row _ _ _ _ _ _ _
      rw [cn_append]
      exact hown
    · exact wpList_appBs hgd s x ho hbel hB hs hrow hx hr h0 hnm N hN h
theorem strCells_str {l : List Nat} (hf : Fit 256 l) : Lib.strCells (str l) = cn .u8 l := by
  have hd : (str l).data.toList = l.map UInt8.ofNat := by
    show ((l.map fun (x : Nat) => (x : Int)).map fun n => UInt8.ofNat n.toNat) = _
    simp [Function.comp_def]
  simp only [Lib.strCells, hd, cn, List.map_map]
  apply List.map_congr_left
  intro x hx
  have := hf x hx
  simp only [Function.comp_apply, UInt8.toNat_ofNat']
  congr 1
  omega
/-- A string behind bytes. -/
theorem wpList_appStr {ops : Array Oper} {rest : List Oper} {o : Oper} {a : Act} {w : World} {Q : Exit → Act → World → Prop} (hgd : o.guard = none) (s x : Operand) (ho : o.op = .call { callee := .builtin .append, args := #[s, x], argTypes := #[22, 9] })
    {B : Nat} {w0 : World} (hbel : Below B w0 w) (hB : B ≤ w.heap.size) {A : Option Addr} {n cap : Nat} {l : List Nat} (hs : a.eval s = .slice A n cap) (hrow : Row w B 5 A n cap (cn .u8 l)) {S : ByteArray} {l2 : List Nat} (hx : a.eval x = .string S) (hS : S = str l2) (hf : Fit 256 l2) (hnm : n + l2.length ≤ 1000000) (N : Nat) (hN : n + l2.length = N)
    (h : ∀ A' cap' w', Hid (Row w' B 5 A' N cap' (cn .u8 (l ++ l2))) → Below B w0 w' → B ≤ w'.heap.size → Hid (w.grownBy w' (A.map (·.block))) → wpList Tryd.prog ops Q rest (a.put o.dst (.slice A' N cap')) w') : wpList Tryd.prog ops Q (o :: rest) a w := by
  subst hN
  obtain ⟨i0, hi, hz0, hz1, hz2⟩ := info_parts byteInfo
  have hsz : S.size = l2.length := by
    rw [← Lib.strCells_length, hS, strCells_str hf, cn_length]
  obtain ⟨v', w', hrun, hown, hg, _⟩ := Lib.run_append_own_string (P := Tryd.prog) w B 22 9 o.type 5 i0 Tryd.underlying22 Tryd.underlying9 hi hz0 hz1 hz2 _ n _ hrow S (by unfold maxLen; omega) (by omega) hB
  rw [hS, strCells_str hf, ← hS, hsz] at hown
  have hform : ∃ A' cap', v' = .slice A' (n + l2.length) cap' := by
    rcases hown.2 with ⟨rfl, h0⟩ | ⟨g, cap', cur, rfl, _⟩
    · exact ⟨none, 0, by rw [h0]⟩
    · exact ⟨_, _, rfl⟩
  obtain ⟨A', cap', rfl⟩ := hform
  have hrowb : (Value.slice A n cap).ownBlock = A.map (·.block) := by cases A <;> rfl
  refine wpList_plain hgd fun K hK => ?_
  unfold Oper.wp
  simp [execOp, ho, resolve, invoke, builtin, hs, hx, hrun, Result.andThen]
  refine hK _ _ (h A' cap' w' ?_ (below_only hbel hg hB (fun j hj => (World.ownsRow.lt hrow j hj).1)) (Nat.le_trans hB hg.size) (by rw [← hrowb]; exact hg))
  show Row _ _ _ _ _ _ _
  rw [cn_append]
  exact hown
end Go.Proofs.YtfoenafjaaidmaaDoor
