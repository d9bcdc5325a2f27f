/-
  The statements' arguments, as they are read. No condition.
-/
import Derived.Test.YtekfjccpcbbgfaaV5
import Derived.ProofKit
import Derived.ShutString
import Derived.ChangeOld
import Derived.Below
import Derived.Deep.Slices
import Derived.Deep.Fields
import Derived.ChangeSame
import Derived.Lib.SmallJoins
import Derived.OpenShut
namespace Go.Proofs.Ytekfjccpcbbgfaa
open Go.RowKit Go.ChangeShapes Go.WideShapes Go.ChangeAt
set_option linter.unusedVariables false
set_option linter.unusedSimpArgs false
set_option maxRecDepth 100000

def Fit (B : Nat) (l : List Nat) : Prop := ∀ d ∈ l, d < B
/-- Bytes as the walk's string. -/
def str (l : List Nat) : ByteArray := strOfNums (l.map fun (x : Nat) => (x : Int))
theorem rd_str {w : World} {A : Option Addr} {k : Nat} {l : List Nat} (h : Rd .u8 w A k l) (cap : Nat) : (convert 22 9 (.slice A k cap)).run Try.prog w = .ok (.string (str l)) w := by
  rcases A with _ | a
  · have hl : l = [] := by
      rcases Nat.eq_zero_or_pos k with h0 | h0
      · exact List.eq_nil_of_length_eq_zero (by rw [h.1]; exact h0)
      · obtain ⟨_, e, _⟩ := h.2 h0; cases e
    subst hl
    rw [run_convert_bytes_nil (P := Try.prog) w 22 5 Try.underlying22 Try.underlying5 k cap 9 Try.underlying9]
    rfl
  · have hl : (loadCells a k).run Try.prog w = .ok ((l.map fun (x : Nat) => (x : Int)).map (Value.int .u8)).toArray w := by
      have := run_loadCells_list (P := Try.prog) w a (cn .u8 l) (fun j v hj => by
        have hjl := (List.getElem?_eq_some_iff.1 hj).1
        rw [cn_length] at hjl
        obtain ⟨x, hx⟩ := get_some hjl
        rw [cn_get hx] at hj
        injection hj with hj
        obtain ⟨ad, e, _, hc⟩ := h.2 (by rw [← h.1]; omega)
        injection e with e
        subst e
        rw [← hj]
        exact hc j x hx)
      rw [cn_length, h.1] at this
      rw [this]
      simp [cn, Function.comp_def]
    rw [run_convert_bytes_string w 22 9 5 _ k cap Try.underlying22 Try.underlying5 Try.underlying9, run_bytesToString w _ k cap (l.map fun (x : Nat) => (x : Int)) hl, foldl_push_bytes]
    simp [str, strOfNums, ByteArray.empty, ByteArray.emptyWithCapacity]
    rfl
theorem str_toList (l : List Nat) : (str l).toList = l.map UInt8.ofNat := by
  rw [ByteArray.toList_eq]
  show ((l.map fun (x : Nat) => (x : Int)).map fun n => UInt8.ofNat n.toNat) = _
  simp [Function.comp_def]
theorem u8_inj : ∀ {l l' : List Nat}, Fit 256 l → Fit 256 l' → l.map UInt8.ofNat = l'.map UInt8.ofNat → l = l'
  | [], [], _, _, _ => rfl
  | [], _ :: _, _, _, h => by simp at h
  | _ :: _, [], _, _, h => by simp at h
  | a :: l, b :: l', h, h', e => by
    simp only [List.map_cons, List.cons.injEq] at e
    have ha := h a (by simp)
    have hb := h' b (by simp)
    have e1 : a = b := by
      have := congrArg UInt8.toNat e.1
      simp only [UInt8.toNat_ofNat'] at this
      omega
    rw [e1, u8_inj (fun x hx => h x (by simp [hx])) (fun x hx => h' x (by simp [hx])) e.2]
theorem str_same {l l' : List Nat} (h : Fit 256 l) (h' : Fit 256 l') : ((str l).toList == (str l').toList) = decide (l = l') := by
  rw [str_toList, str_toList, Bool.eq_iff_iff]
  simp only [beq_iff_eq, decide_eq_true_eq]
  exact ⟨u8_inj h h', fun e => by rw [e]⟩

def I64 (x : Int) : Prop := -9223372036854775808 ≤ x ∧ x ≤ 9223372036854775807
theorem i64_wf {x : Int} (h : (Lit.int .i64 x).wf = true) : I64 x := bounds_i64 h
/-- Bytes that came in. -/
structure Bs (w : World) (A : Option Addr) (n cap : Nat) (l : List Nat) : Prop where
  rd : Rd .u8 w A n l
  fit : Fit 256 l
  le : n ≤ cap
  max : cap ≤ 9223372036854775807
  nil : A = none → cap = 0
theorem Bs.below {w w' : World} {A : Option Addr} {n cap : Nat} {l : List Nat} (h : Bs w A n cap l) (hb : Below w.heap.size w w') : Bs w' A n cap l := { h with rd := h.rd.below hb }
/-- Numbers that came in. -/
structure Is (w : World) (A : Option Addr) (n cap : Nat) (f : Nat → Int) : Prop where
  each : ∀ i, i < n → ∃ ad, A = some ad ∧ ad.block < w.heap.size ∧ I64 (f i) ∧ w.cell? (ad.add i) = some (.int .i64 (f i))
  le : n ≤ cap
  max : cap ≤ 9223372036854775807
/-- An operation: its kind, two numbers, a bool. -/
structure OpV where
  kind : Int
  a : Int
  b : Int
  on : Bool
deriving Inhabited
structure OpAt (w : World) (ad : Addr) (o : OpV) : Prop where
  c0 : w.cell? ad = some (.int .i64 o.kind)
  c1 : w.cell? ⟨ad.block, ad.off + 1, none⟩ = some (.int .i64 o.a)
  c2 : w.cell? ⟨ad.block, ad.off + 2, none⟩ = some (.int .i64 o.b)
  c3 : w.cell? ⟨ad.block, ad.off + 3, none⟩ = some (.bool o.on)
  kindOk : I64 o.kind
  aOk : I64 o.a
  bOk : I64 o.b
  lt : ad.block < w.heap.size
theorem OpAt.below {w w' : World} {a : Addr} {o : OpV} (h : OpAt w a o) (hb : Below w.heap.size w w') : OpAt w' a o where
  c0 := (hb.cell h.lt).trans h.c0
  c1 := (hb.cell (p := ⟨a.block, a.off + 1, none⟩) h.lt).trans h.c1
  c2 := (hb.cell (p := ⟨a.block, a.off + 2, none⟩) h.lt).trans h.c2
  c3 := (hb.cell (p := ⟨a.block, a.off + 3, none⟩) h.lt).trans h.c3
  kindOk := h.kindOk
  aOk := h.aOk
  bOk := h.bOk
  lt := Nat.lt_of_lt_of_le h.lt hb.size
/-- Operations that came in. -/
structure Ops (w : World) (A : Option Addr) (n cap : Nat) (f : Nat → OpV) : Prop where
  each : ∀ i, i < n → ∃ ad, A = some ad ∧ OpAt w (ad.add (i * 4)) (f i)
  le : n ≤ cap
  max : cap ≤ 9223372036854775807
theorem Bs.below0 {w w' : World} {A : Option Addr} {n cap : Nat} {l : List Nat} (h : Bs w A n cap l) (hb : Below w.heap.size w w') : Bs w' A n cap l := h.below hb
theorem cells5 : Try.prog.cellsOf 5 = 1 := by kernel_rfl
theorem cells4 : Try.prog.cellsOf 4 = 1 := by kernel_rfl
theorem cells3 : Try.prog.cellsOf 3 = 1 := by kernel_rfl
theorem cellsOp : Try.prog.cellsOf 31 = 4 := by kernel_rfl
theorem own : ownKnob Try.prog.godebug = none := by kernel_rfl
theorem laidOut : laidOutB Try.prog = true := by kernel_rfl
section
variable {H : Type} {enc : TypeId × Value → H} {W : World} {base : Nat} {sp : Nat → Bool} {held : Bool}
/-- An argument of bytes. -/
theorem bytes_of_trod {fuel : Nat} {cs : List Value} {x : DataW H × List MemPlace} (h : DataW.trod enc Try.prog W base sp held fuel 22 cs = some x) :
    ∃ (A : Option Addr) (n cap : Nat) (l : List Nat), cs = [.slice A n cap] ∧ Bs W A n cap l := by
  rcases Deep.open_slice1 Try.underlying22 cells5 h with ⟨rfl, _⟩ | ⟨a, len, cap, m, k, V, D, Pl, rfl, _, hl, hm, hmm, hxx, hx⟩
  · exact ⟨none, 0, 0, [], rfl, ⟨Rd.nil _ _ _, fun x hx => (by cases hx), Nat.le_refl _, by simp, fun _ => rfl⟩⟩
  · have each : ∀ i, i < len → ∃ b : Nat, b < 256 ∧ W.cell? (a.add i) = some (.int .u8 (b : Int)) := by
      intro i hi
      obtain ⟨hc, ht⟩ := hx i (by rw [hmm]; split <;> omega)
      obtain ⟨z, e, _, hz⟩ := DataW.trod_int Try.underlying5 ht
      injection e with e
      rw [e] at hc
      have hb : 0 ≤ z ∧ z ≤ 255 := by
        simp [Lit.wf, IntKind.min, IntKind.max, IntKind.bits, IntKind.signed] at hz
        omega
      refine ⟨z.toNat, by omega, ?_⟩
      rw [hc, Int.toNat_of_nonneg hb.1]
    obtain ⟨b, hb⟩ := Deep.choose_lt each
    refine ⟨some a, len, cap, (List.range len).map b, rfl, ⟨⟨by simp, fun hn => ⟨a, rfl, ?_, fun j v hv => ?_⟩⟩, fun d hd => ?_, hl, by unfold maxLen at hm; omega, fun e => by cases e⟩⟩
    · have := World.block_lt_of_cell? W _ (hb 0 hn).2
      rwa [block_add] at this
    · have hj : j < len := by
        have := (List.getElem?_eq_some_iff.1 hv).1
        simpa using this
      have e : ((List.range len).map b)[j]? = some (b j) := by simp [hj]
      rw [e] at hv
      injection hv with hv
      rw [← hv]
      exact (hb j hj).2
    · obtain ⟨i, hi, rfl⟩ := List.mem_map.1 hd
      exact (hb i (List.mem_range.1 hi)).1
/-- An argument of numbers. -/
theorem ints_of_trod {fuel : Nat} {cs : List Value} {x : DataW H × List MemPlace} (h : DataW.trod enc Try.prog W base sp held fuel 42 cs = some x) :
    ∃ (A : Option Addr) (n cap : Nat) (l : Nat → Int), cs = [.slice A n cap] ∧ Is W A n cap l := by
  rcases Deep.open_slice1 Try.underlying42 cells3 h with ⟨rfl, _⟩ | ⟨a, len, cap, m, k, V, D, Pl, rfl, _, hl, hm, hmm, hxx, hx⟩
  · exact ⟨none, 0, 0, fun _ => 0, rfl, ⟨fun i hi => absurd hi (Nat.not_lt_zero i), Nat.le_refl _, by simp⟩⟩
  · have each : ∀ i, i < len → ∃ b : Int, I64 b ∧ W.cell? (a.add i) = some (.int .i64 b) := by
      intro i hi
      obtain ⟨hc, ht⟩ := hx i (by rw [hmm]; split <;> omega)
      obtain ⟨z, e, _, hz⟩ := DataW.trod_int Try.underlying3 ht
      injection e with e
      rw [e] at hc
      exact ⟨z, i64_wf hz, hc⟩
    obtain ⟨b, hb⟩ := Deep.choose_lt each
    exact ⟨some a, len, cap, b, rfl, ⟨fun i hi => ⟨a, rfl, by have := World.block_lt_of_cell? W _ (hb i hi).2; rwa [block_add] at this, (hb i hi).1, (hb i hi).2⟩, hl, by unfold maxLen at hm; omega⟩⟩
theorem ops_of_trod {fuel : Nat} {cs : List Value} {x : DataW H × List MemPlace} (h : DataW.trod enc Try.prog W base sp held fuel 23 cs = some x) :
    ∃ (A : Option Addr) (n cap : Nat) (l : Nat → OpV), cs = [.slice A n cap] ∧ Ops W A n cap l := by
  rcases Deep.open_slice Try.underlying23 h with ⟨rfl, _⟩ | ⟨a, len, cap, m, n, D, Pl, rfl, _, hl, hm, hmm, _, hx⟩
  · exact ⟨none, 0, 0, fun _ => ⟨0, 0, 0, false⟩, rfl, ⟨fun i hi => absurd hi (Nat.not_lt_zero i), Nat.le_refl _, by simp⟩⟩
  · have each : ∀ i, i < len → ∃ q : OpV, OpAt W (a.add (i * 4)) q := by
      intro i hi
      obtain ⟨cs', g1, g2⟩ := hx i (by rw [hmm]; split <;> omega)
      rw [cellsOp] at g1
      obtain ⟨_, hlen, hcell⟩ := World.cells?_some g1
      obtain ⟨xs, k, hk, hxy, _, hxl, hfe⟩ := DataW.trod_struct Try.underlying31 g2
      match xs, hxl, cs', hlen with
      | [y0, y1, y2, y3], _, [v0, v1, v2, v3], _ =>
        have f0 := hfe 0 _ rfl
        have f1 := hfe 1 _ rfl
        have f2 := hfe 2 _ rfl
        have f3 := hfe 3 _ rfl
        simp [cells3, cells4] at f0 f1 f2 f3
        obtain ⟨n0, e0, _, z0⟩ := DataW.trod_int Try.underlying3 f0
        obtain ⟨n1, e1, _, z1⟩ := DataW.trod_int Try.underlying3 f1
        obtain ⟨n2, e2, _, z2⟩ := DataW.trod_int Try.underlying3 f2
        obtain ⟨b3, e3, _⟩ := DataW.trod_bool Try.underlying4 f3
        simp at e0 e1 e2 e3
        subst e0 e1 e2 e3
        have t0 := hcell 0 (by omega)
        have t1 := hcell 1 (by omega)
        have t2 := hcell 2 (by omega)
        have t3 := hcell 3 (by omega)
        have hlt := World.block_lt_of_cell? W _ t0
        exact ⟨⟨n0, n1, n2, b3⟩, t0, t1, t2, t3, i64_wf z0, i64_wf z1, i64_wf z2, hlt⟩
    obtain ⟨P, hP⟩ := Deep.choose_lt each
    exact ⟨some a, len, cap, P, rfl, ⟨fun i hi => ⟨a, rfl, hP i hi⟩, hl, by unfold maxLen at hm; omega⟩⟩
end
end Go.Proofs.Ytekfjccpcbbgfaa
