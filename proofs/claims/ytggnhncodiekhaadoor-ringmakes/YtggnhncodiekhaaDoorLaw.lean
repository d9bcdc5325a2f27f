/-
  What an argument of limbs, or of bytes, gives the walks; the statements' own is, right and anchor; the rows' list of two tables.
-/
import Derived.Test.YtggnhncodiekhaaDoorRing7
import Derived.Test.YtggnhncodiekhaaDoorMod2
import Derived.Deep.Slices
import Derived.ProofKit
import Derived.LaidMore
import Derived.OpenShut
import Derived.Stop.Joined
import Derived.ChangeOld
import Derived.Below
import Derived.Lay
namespace Go.Proofs.YtggnhncodiekhaaDoor
open Go.ChangeShapes Go.WideShapes Go.ChangeAt Go.RowKit
set_option linter.unusedVariables false
set_option linter.unusedSimpArgs false

theorem own : ownKnob Tryd.prog.godebug = none := by kernel_rfl
theorem laidOut : laidOutB Tryd.prog = true := by kernel_rfl
/-- The list that all rows bear. -/
def listed : List (String × DataW Unit) := Rows.ringMakesRow.laid
theorem cells5 : Tryd.prog.cellsOf 5 = 1 := by kernel_rfl
theorem cells48 : Tryd.prog.cellsOf 31 = 1 := by kernel_rfl

section
variable {H : Type} {enc : TypeId × Value → H} {W : World} {base : Nat} {sp : Nat → Bool} {held : Bool}
/-- An argument of limbs. -/
theorem limbs_of_trod {fuel : Nat} {cs : List Value} {x : DataW H × List MemPlace} (h : DataW.trod enc Tryd.prog W base sp held fuel 23 cs = some x) :
    ∃ (A : Option Addr) (n cap : Nat) (l : List Nat), cs = [.slice A n cap] ∧ (Rd .u32 W A n l ∧ Fit 4294967296 l) ∧ n ≤ cap ∧ cap ≤ maxLen ∧ (A = none → cap = 0) := by
  rcases Deep.open_slice1 Tryd.underlying23 cells48 h with ⟨rfl, _⟩ | ⟨a, len, cap, m, k, V, D, Pl, rfl, _, hl, hm, hmm, _, hx⟩
  · exact ⟨none, 0, 0, [], rfl, ⟨Rd.nil _ _ _, Fit.nil _⟩, Nat.le_refl _, by simp, fun _ => rfl⟩
  · have each : ∀ i, i < len → ∃ b : Nat, b < 4294967296 ∧ W.cell? (a.add i) = some (.int .u32 (b : Int)) := by
      intro i hi
      obtain ⟨hc, ht⟩ := hx i (by rw [hmm]; split <;> omega)
      obtain ⟨z, e, _, hz⟩ := DataW.trod_int Tryd.underlying31 ht
      injection e with e
      rw [e] at hc
      have hb : 0 ≤ z ∧ z ≤ 4294967295 := by
        simp [Lit.wf, IntKind.min, IntKind.max, IntKind.bits, IntKind.signed] at hz
        omega
      refine ⟨z.toNat, by omega, ?_⟩
      rw [hc, Int.toNat_of_nonneg hb.1]
    obtain ⟨b, hb⟩ := Deep.choose_lt each
    refine ⟨some a, len, cap, (List.range len).map b, rfl, ⟨⟨by simp, fun hn => ⟨a, rfl, ?_, fun j v hv => ?_⟩⟩, fun d hd => ?_⟩, hl, hm, fun e => by cases e⟩
    · have := World.block_lt_of_cell? W _ (hb 0 hn).2
      rwa [block_add] at this
    · have hj : j < len := by
        have := (List.getElem?_eq_some_iff.1 hv).1
        simpa using this
      have e : ((List.range len).map b)[j]? = some (b j) := by simp [hj]
      rw [e] at hv
      injection hv with hv
      rw [← hv]
      exact (hb j hj).2
    · obtain ⟨i, hi, rfl⟩ := List.mem_map.1 hd
      exact (hb i (List.mem_range.1 hi)).1
end

theorem rd_new (w : World) (k : IntKind) (t : TypeId) (l : List Nat) (g : Nat) (hg : w.heap.size = g) : Rd k (w.alloc (.cells (cn k l).toArray t)) (some ⟨g, 0, none⟩) l.length l := by
  subst hg; exact (Blk.new w t (cn k l)).rd _ rfl
theorem digs_le {l : List Nat} {n : Nat} (hf : Fit 4294967296 l) (hl : l.length = n) : (digs (val 4294967296 l)).length ≤ 4 * n := by
  rw [digs_len, pow256_32, ← hl]; exact val_lt hf
theorem digs_le_of {x n : Nat} (h : x < 4294967296 ^ n) : (digs x).length ≤ 4 * n := by
  rw [digs_len, pow256_32]; exact h

set_option maxHeartbeats 1000000 in
theorem is_yes (A A' : Option Addr) (n cap m cap' : Nat) (l : List Nat) (x : Nat) (z : Int) (w : World) (hz : z = n) (h : Rd .u32 w A n l) (hf : Fit 4294967296 l) (hn : n ≤ 10000) (h' : Rd .i64 w A' m (digs x)) (hx : val 4294967296 l = x) :
    Calls Tryd.prog 14 #[.slice A n cap, .slice A' m cap', .int .i64 z] w fun e w' => e = .returned (.bool true) ∧ Below w.heap.size w w' := by
  subst hz
  subst hx
  have HR := Lib.hid h
  have HR' := Lib.hid h'
  have hm : m ≤ 4 * n := by rw [← h'.1]; exact digs_le hf h.1
  clear h h'
  go_enter Tryd.func14, Tryd.ntmps14
  go_wp2_with fail
  refine (Digits_any A n cap l w HR.out hf hn).mono ?_
  rintro e w1 ⟨A1, m1, c1, rfl, hr1, hc1, hm1, hb1⟩
  have hml : m1 = m := hr1.1.symm.trans HR'.out.1
  have HR1 := Lib.hid hr1
  have HML := Lib.hid hml
  clear hr1 hml hm1 hc1
  go_wp2_with fail
  refine (RefCompare_any A1 A' m1 c1 m cap' _ _ w1 HR1.out (HR'.out.below hb1) (digs_fit _) (digs_fit _) (digs_tight _) (digs_tight _) (by rw [HML.out]; omega) (by omega)).mono ?_
  rintro e w2 ⟨rfl, hb2⟩
  rw [ord_self]
  go_wp2
  go_ret
  exact ⟨rfl, below_then hb1 hb2⟩

set_option maxHeartbeats 1000000 in
theorem element_yes (Aa An : Option Addr) (k ca cn_ : Nat) (la ln : List Nat) (w : World) (h : Rd .u32 w Aa k la) (hf : Fit 4294967296 la) (h' : Rd .u32 w An k ln) (hf' : Fit 4294967296 ln) (hk : k ≤ 1000) (hlt : val 4294967296 la < val 4294967296 ln) :
    Calls Tryd.prog 20 #[.slice Aa k ca, .slice An k cn_] w fun e w' => e = .returned (.bool true) ∧ Below w.heap.size w w' := by
  have HR := Lib.hid h
  have HR' := Lib.hid h'
  have HLT := Lib.hid hlt
  clear h h' hlt
  go_enter Tryd.func20, Tryd.ntmps20
  go_wp2_with fail
  refine (Digits_any Aa k ca la w HR.out hf (by omega)).mono ?_
  rintro e w1 ⟨A1, m1, c1, rfl, hr1, hc1, hm1, hb1⟩
  have HM1 : Hid (m1 ≤ 4 * k) := by show _ ≤ _; rw [← hr1.1]; exact digs_le hf HR.out.1
  have HR1 := Lib.hid hr1
  clear hr1 hm1 hc1
  go_wp2_with fail
  refine (Digits_any An k cn_ ln w1 (HR'.out.below hb1) hf' (by omega)).mono ?_
  rintro e w2 ⟨A2, m2, c2, rfl, hr2, hc2, hm2, hb2⟩
  have HM2 : Hid (m2 ≤ 4 * k) := by show _ ≤ _; rw [← hr2.1]; exact digs_le hf' HR'.out.1
  have HR2 := Lib.hid hr2
  clear hr2 hm2 hc2
  go_wp2_with fail
  refine (RefCompare_any A1 A2 m1 c1 m2 c2 _ _ w2 (HR1.out.below hb2) HR2.out (digs_fit _) (digs_fit _) (digs_tight _) (digs_tight _) (by have := HM1.out; omega) (by have := HM2.out; omega)).mono ?_
  rintro e w3 ⟨rfl, hb3⟩
  rw [digs_val, digs_val]
  have ho := (ord_lt _ _).2 HLT.out
  generalize ord (val 4294967296 la) (val 4294967296 ln) = z at *
  have hd : decide (z < 0) = true := decide_eq_true ho
  go_wp2
  go_ret
  exact ⟨rfl, below_then (below_then hb1 hb2) hb3⟩

set_option maxHeartbeats 1000000 in
theorem element_no (Aa An : Option Addr) (na ca k cn_ : Nat) (la ln : List Nat) (w : World) (h : Rd .u32 w Aa na la) (hf : Fit 4294967296 la) (h' : Rd .u32 w An k ln) (hf' : Fit 4294967296 ln) (hk : k ≤ 1000) (hno : ¬ (na = k ∧ val 4294967296 la < val 4294967296 ln)) :
    Calls Tryd.prog 20 #[.slice Aa na ca, .slice An k cn_] w fun e w' => e = .returned (.bool false) ∧ Below w.heap.size w w' := by
  have HR := Lib.hid h
  have HR' := Lib.hid h'
  clear h h'
  by_cases hnk : na = k
  · subst hnk
    have HGE : Hid (val 4294967296 ln ≤ val 4294967296 la) := Nat.not_lt.1 fun h => hno ⟨rfl, h⟩
    clear hno
    go_enter Tryd.func20, Tryd.ntmps20
    go_wp2_with fail
    refine (Digits_any Aa na ca la w HR.out hf (by omega)).mono ?_
    rintro e w1 ⟨A1, m1, c1, rfl, hr1, hc1, hm1, hb1⟩
    have HM1 : Hid (m1 ≤ 4 * na) := by show _ ≤ _; rw [← hr1.1]; exact digs_le hf HR.out.1
    have HR1 := Lib.hid hr1
    clear hr1 hm1 hc1
    go_wp2_with fail
    refine (Digits_any An na cn_ ln w1 (HR'.out.below hb1) hf' (by omega)).mono ?_
    rintro e w2 ⟨A2, m2, c2, rfl, hr2, hc2, hm2, hb2⟩
    have HM2 : Hid (m2 ≤ 4 * na) := by show _ ≤ _; rw [← hr2.1]; exact digs_le hf' HR'.out.1
    have HR2 := Lib.hid hr2
    clear hr2 hm2 hc2
    go_wp2_with fail
    refine (RefCompare_any A1 A2 m1 c1 m2 c2 _ _ w2 (HR1.out.below hb2) HR2.out (digs_fit _) (digs_fit _) (digs_tight _) (digs_tight _) (by have := HM1.out; omega) (by have := HM2.out; omega)).mono ?_
    rintro e w3 ⟨rfl, hb3⟩
    rw [digs_val, digs_val]
    have ho := (ord_ge _ _).2 HGE.out
    generalize ord (val 4294967296 la) (val 4294967296 ln) = z at *
    have hd : decide (z < 0) = false := decide_eq_false (by omega)
    go_wp2
    go_ret
    exact ⟨rfl, below_then (below_then hb1 hb2) hb3⟩
  · have h1 : ((na : Int) == (k : Int)) = false := by simp; omega
    have h2 : (na == k) = false := by simp [hnk]
    clear hno
    go_enter Tryd.func20, Tryd.ntmps20
    go_wp2
    go_ret
    exact ⟨rfl, below_self⟩
end Go.Proofs.YtggnhncodiekhaaDoor
