/-
  Arm and Boot of a vault, the clone of its root, New. No condition but that lengths are lengths.
-/
import Derived.Test.YtekfjccpcbbgfaaV1
namespace Go.Proofs.Ytekfjccpcbbgfaa
open Go.RowKit
set_option linter.unusedVariables false
set_option linter.unusedSimpArgs false
set_option maxRecDepth 100000

/-- A vault behind Arm. -/
def Vt.arm (V : Vt) (n : Int) (b : Bool) : Vt := if n < 0 then { V with lf := -1, dd := false } else { V with lf := n, dd := b }
def Goes (w : World) (V : Vt) (V' : Vt) (v : Value) (e : Ending) (w' : World) : Prop := e = .returned v ∧ Vlt w' V' ∧ Touch [V.g] w w'
section
variable (V : Vt) (w : World)
theorem Arm_any (h : Vlt w V) (n : Int) (b : Bool) (hn : n ≤ 9223372036854775807) : Calls Try.prog 11 #[.pointer (some ⟨V.g, 0, none⟩), .int .i64 n, .bool b] w (Goes w V (V.arm n b) (.tuple #[])) := by
  have h1 := h.setLf (-1) (by omega)
  have h2 := h1.setDd false
  have t1 := set_touch V.g 66 (.int .i64 (-1)) w
  have t2 := t1.trans (set_touch V.g 67 (.bool false) _)
  by_cases h0 : n < 0
  · have H2 : Hid (Vlt ((w.setCell ⟨V.g, 66, none⟩ (.int .i64 (-1))).setCell ⟨V.g, 67, none⟩ (.bool false)) (V.arm n b)) := by
      have e : V.arm n b = { V with lf := -1, dd := false } := by unfold Vt.arm; rw [if_pos h0]
      rw [e]; exact h2
    have T2 := Lib.hid t2
    have zlf := h.z 66
    have zdd := h.z 67
    have clf := h.clf
    have cdd := h.cdd
    clear h h1 h2 t1 t2
    go_enter Try.func11, Try.ntmps11
    go_wp2
    exact bodyPost_end (v := .tuple #[]) (results_none Try.results11 _ _ _) rfl ⟨rfl, H2.out, T2.out⟩
  · have h3 := h2.setLf n (by omega)
    have H4 : Hid (Vlt ((((w.setCell ⟨V.g, 66, none⟩ (.int .i64 (-1))).setCell ⟨V.g, 67, none⟩ (.bool false)).setCell ⟨V.g, 66, none⟩ (.int .i64 n)).setCell ⟨V.g, 67, none⟩ (.bool b)) (V.arm n b)) := by
      have e : V.arm n b = { V with lf := n, dd := b } := by unfold Vt.arm; rw [if_neg h0]
      rw [e]; exact h3.setDd b
    have T4 := Lib.hid ((t2.trans (set_touch V.g 66 (.int .i64 n) _)).trans (set_touch V.g 67 (.bool b) _))
    have zlf := h.z 66
    have zdd := h.z 67
    have clf := h.clf
    have cdd := h.cdd
    clear h h1 h2 h3 t1 t2
    go_enter Try.func11, Try.ntmps11
    go_wp2
    exact bodyPost_end (v := .tuple #[]) (results_none Try.results11 _ _ _) rfl ⟨rfl, H4.out, T4.out⟩
theorem Boot_any (h : Vlt w V) : Calls Try.prog 12 #[.pointer (some ⟨V.g, 0, none⟩)] w (Goes w V { V with dn := false, lf := -1, dd := false } (.tuple #[])) := by
  have H1 := Lib.hid (h.setDn false)
  have T1 := Lib.hid (set_touch V.g 65 (.bool false) w)
  have c := h.cdn
  have z := h.z 65
  clear h
  go_enter Try.func12, Try.ntmps12
  go_wp2_with fail
  refine (Arm_any { V with dn := false } _ H1.out (-1) false (by omega)).mono ?_
  rintro e w2 ⟨rfl, hv, ht⟩
  have HV : Hid (Vlt w2 { V with dn := false, lf := -1, dd := false }) := hv
  have HT := Lib.hid (T1.out.trans ht)
  clear hv ht
  go_wp2
  exact bodyPost_end (v := .tuple #[]) (results_none Try.results12 _ _ _) rfl ⟨rfl, HV.out, HT.out⟩
end

theorem own_empty (w : World) (t : TypeId) : Row (w.alloc (.cells #[] t)) w.heap.size t (some ⟨w.heap.size, 0, none⟩) 0 0 [] := World.ownsRow_made w #[] 0 (Nat.le_refl _) (Nat.zero_le _) (by simp)
/-- A call's answer: bytes of its own. -/
def GivesB (w : World) (n : Nat) (l : List Nat) (e : Ending) (w' : World) : Prop :=
  ∃ g c, e = .returned (.slice (some ⟨g, 0, none⟩) n c) ∧ w.heap.size ≤ g ∧ Row w' w.heap.size 5 (some ⟨g, 0, none⟩) n c (cn .u8 l) ∧ Below w.heap.size w w'
theorem Rd.src {k : IntKind} {w : World} {A : Option Addr} {n : Nat} {l : List Nat} (h : Rd k w A n l) (hn : 1 ≤ n) (c : Nat) : A = none ∧ c = 0 ∨ ∃ ad, A = some ad ∧ ∀ j u, (cn k l)[j]? = some u → w.cell? (ad.add j) = some u := by
  obtain ⟨ad, rfl, hlt, hc⟩ := h.2 (by omega)
  refine .inr ⟨ad, rfl, fun j u hu => ?_⟩
  have hj := (List.getElem?_eq_some_iff.1 hu).1
  rw [cn_length] at hj
  obtain ⟨x, hx⟩ := get_some hj
  rw [cn_get hx] at hu
  injection hu with hu
  rw [← hu]; exact hc j x hx
set_option maxHeartbeats 1000000 in
theorem CloneB_any (ad : Addr) (n cap : Nat) (l : List Nat) (w : World) (h : Rd .u8 w (some ad) n l) (hn1 : 1 ≤ n) (hn : n ≤ 10000) :
    Calls Try.prog 22 #[.slice (some ad) n cap] w (GivesB w n l) := by
  obtain ⟨i0, hi, hz0, hz1, hz2⟩ := info_parts byteInfo
  have HR : Hid (Rd .u8 (w.alloc (.cells #[] 5)) (some ad) n l) := h.below ((Below.refl _ _).alloc (Nat.le_refl _) _)
  have HL := Lib.hid h.1
  have HE := Lib.hid (own_empty w 5)
  have q23 : (binOp .eql 22 (.slice (some ad) n cap) (.slice none 0 0)).run Try.prog w = .ok (.bool false) w := Lib.run_eql_slice_nil w _ _ _ _ _ _ _ Try.underlying22
  have HW : Hid (∀ {ops : Array Oper} {rest : List Oper} {o : Oper} {a : Act} {Q : Exit → Act → World → Prop} (hgd : o.guard = none) (s x : Operand) (ho : o.op = .call { callee := .builtin .append, args := #[s, x], argTypes := #[22, 22] }) (hs : a.eval s = .slice (some ⟨w.heap.size, 0, none⟩) 0 0) (hx : a.eval x = .slice (some ad) n cap)
      (hk : ∀ A' c' w', Hid (Row w' w.heap.size 5 A' n c' ([] ++ cn .u8 l)) → Below w.heap.size w w' → w.heap.size ≤ w'.heap.size → wpList Try.prog ops Q rest (a.put o.dst (.slice A' n c')) w'), wpList Try.prog ops Q (o :: rest) a (w.alloc (.cells #[] 5))) :=
    fun hgd s x ho hs hx hk => wpList_app hgd s x 22 5 ho Try.underlying22 hi hz0 hz1 hz2 rfl (by omega) ((Below.refl w.heap.size w).alloc (Nat.le_refl _) _) (by simp) hs HE.out hx (by rw [cn_length, HL.out]) (HR.out.src hn1 cap) (cn_one _ _) (by intro e; cases e) (by omega) n (by omega) hk
  clear h hi hz0 hz1 hz2
  go_enter Try.func22, Try.ntmps22
  go_wp2_with (first
    | ((with_reducible refine at_dst (some 7) ?_); refine HW.out (o := ⟨some 7, _, _, _, _, _⟩) rfl (.tmp 5) (.tmp 6) rfl rfl rfl ?_; intro A2 c2 w2 HRow hbe hsz))
  go_ret
  have hrow : Row w2 w.heap.size 5 A2 n c2 (cn .u8 l) := by simpa using HRow.out
  obtain ⟨g, rfl, hg1, hg2, _⟩ := hrow.cells (by omega)
  exact ⟨g, c2, rfl, hg1, hrow, hbe⟩
theorem Vlt.rd {w : World} {V : Vt} (h : Vlt w V) : Rd .u8 w (some ⟨V.g, 0, none⟩) 32 V.root :=
  ⟨h.rl, fun _ => ⟨_, rfl, h.lt, fun j x hj => by rw [addr_add, Nat.zero_add]; exact h.croot hj⟩⟩
theorem Root_any (V : Vt) (w : World) (h : Vlt w V) : Calls Try.prog 16 #[.pointer (some ⟨V.g, 0, none⟩)] w (GivesB w 32 V.root) := by
  have HC := Lib.hid (CloneB_any ⟨V.g, 0, none⟩ 32 32 V.root w h.rd (by omega) (by omega))
  clear h
  go_enter Try.func16, Try.ntmps16
  go_wp2_with fail
  refine HC.out.mono ?_
  rintro e w2 ⟨g, c, rfl, hg, hr, hb⟩
  have HR := Lib.hid hr
  clear hr
  go_wp2
  go_ret
  exact ⟨g, c, rfl, hg, HR.out, hb⟩
end Go.Proofs.Ytekfjccpcbbgfaa
