/-
  What an argument gives the walks: bytes, lists of texts, seeds; what the rows' lists of tables give them.
-/
import Derived.Test.YtfoenafjaaidmaaDoorRows
import Derived.Test.YtfoenafjaaidmaaDoorAn9
import Derived.Deep.Slices
import Derived.ProofKit
import Derived.LaidMore
import Derived.OpenShut
import Derived.Stop.Joined
import Derived.ChangeOld
import Derived.Below
import Derived.Lay
import Derived.Lib.LaidTab
import Derived.Stop.LaidErr
import Derived.SizedLaws
import Derived.Lib.SmallJoins
namespace Go.Proofs.YtfoenafjaaidmaaDoor
open Go.ChangeShapes Go.WideShapes Go.ChangeAt Go.RowKit
set_option linter.unusedVariables false
set_option linter.unusedSimpArgs false

theorem own : ownKnob Tryd.prog.godebug = none := by kernel_rfl
theorem laidOut : laidOutB Tryd.prog = true := by kernel_rfl
/-- The list of all rows. -/
def listed : List (String × DataW Unit) := Rows.groveMakesRow.laid
theorem cells5 : Tryd.prog.cellsOf 5 = 1 := by kernel_rfl
theorem cells22 : Tryd.prog.cellsOf 22 = 1 := by kernel_rfl
theorem cells3 : Tryd.prog.cellsOf 3 = 1 := by kernel_rfl
theorem cellsSeed : Tryd.prog.cellsOf 24 = 4 := by kernel_rfl
theorem bytes5 : Tryd.prog.bytesOf 5 = 1 := by kernel_rfl
theorem weights_all {H : Type} {P : Program} {e : TypeId} : ∀ {l : List (DataW H)} {d : DataW H}, d ∈ l → ∀ n ∈ d.weights P e, n ∈ DataW.weightsAll P e l
  | x :: r, d, hd, n, hn => by
    simp only [DataW.weightsAll, List.mem_append]
    rcases List.mem_cons.1 hd with rfl | hd
    · exact .inl hn
    · exact .inr (weights_all hd n hn)
section
variable {H : Type} {enc : TypeId × Value → H} {W : World} {base : Nat} {sp : Nat → Bool} {held : Bool}
/-- An argument of bytes, and what it weighs. -/
theorem bytes_of_trod {fuel : Nat} {cs : List Value} {x : DataW H × List MemPlace} (h : DataW.trod enc Tryd.prog W base sp held fuel 22 cs = some x) :
    ∃ (A : Option Addr) (n cap : Nat) (l : List Nat), cs = [.slice A n cap] ∧ Bs W A n cap l ∧ ∀ M, (∀ u ∈ x.1.weights Tryd.prog 22, u ≤ M) → n ≤ M := by
  rcases Deep.open_slice1 Tryd.underlying22 cells5 h with ⟨rfl, _⟩ | ⟨a, len, cap, m, k, V, D, Pl, rfl, _, hl, hm, hmm, hxx, hx⟩
  · exact ⟨none, 0, 0, [], rfl, ⟨Rd.nil _ _ _, Fit.nil _, Nat.le_refl _, by simp, fun _ => rfl⟩, fun _ _ => Nat.zero_le _⟩
  · have each : ∀ i, i < len → ∃ b : Nat, b < 256 ∧ W.cell? (a.add i) = some (.int .u8 (b : Int)) := by
      intro i hi
      obtain ⟨hc, ht⟩ := hx i (by rw [hmm]; split <;> omega)
      obtain ⟨z, e, _, hz⟩ := DataW.trod_int Tryd.underlying5 ht
      injection e with e
      rw [e] at hc
      have hb : 0 ≤ z ∧ z ≤ 255 := by
        simp [Lit.wf, IntKind.min, IntKind.max, IntKind.bits, IntKind.signed] at hz
        omega
      refine ⟨z.toNat, by omega, ?_⟩
      rw [hc, Int.toNat_of_nonneg hb.1]
    obtain ⟨b, hb⟩ := Deep.choose_lt each
    refine ⟨some a, len, cap, (List.range len).map b, rfl, ⟨⟨by simp, fun hn => ⟨a, rfl, ?_, fun j v hv => ?_⟩⟩, fun d hd => ?_, hl, hm, fun e => by cases e⟩, fun M hM => ?_⟩
    · have := World.block_lt_of_cell? W _ (hb 0 hn).2
      rwa [block_add] at this
    · have hj : j < len := by
        have := (List.getElem?_eq_some_iff.1 hv).1
        simpa using this
      have e : ((List.range len).map b)[j]? = some (b j) := by simp [hj]
      rw [e] at hv
      injection hv with hv
      rw [← hv]
      exact (hb j hj).2
    · obtain ⟨i, hi, rfl⟩ := List.mem_map.1 hd
      exact (hb i (List.mem_range.1 hi)).1
    · have := hM ((((List.range len).map D).length + ((List.range (m - len)).map fun j => D (len + j)).length) * Tryd.prog.bytesOf 5) (by rw [hxx]; simp [DataW.weights, Tryd.underlying22])
      rw [bytes5, List.length_map, List.length_range] at this
      omega
/-- An argument of texts, and what they weigh. -/
theorem parts_of_trod {fuel : Nat} {cs : List Value} {x : DataW H × List MemPlace} (h : DataW.trod enc Tryd.prog W base sp held fuel 41 cs = some x) :
    ∃ (A : Option Addr) (n cap : Nat) (ps : List Bt), cs = [.slice A n cap] ∧ Ls W A n cap ps ∧ ∀ M, (∀ u ∈ x.1.weights Tryd.prog 41, u ≤ M) → ∀ p ∈ ps, p.n ≤ M := by
  rcases Deep.open_slice1 Tryd.underlying41 cells22 h with ⟨rfl, _⟩ | ⟨a, len, cap, m, k, V, D, Pl, rfl, _, hl, hm, hmm, hxx, hx⟩
  · exact ⟨none, 0, 0, [], rfl, ⟨PartsR.nil _ _, Nat.le_refl _, by simp, fun _ => rfl, fun p hp => by cases hp⟩, fun M _ p hp => by cases hp⟩
  · have each : ∀ i, i < len → ∃ p : Bt, W.cell? (a.add i) = some (.slice p.A p.n p.cap) ∧ Bs W p.A p.n p.cap p.l ∧ ∀ M, (∀ u ∈ (D i).weights Tryd.prog 22, u ≤ M) → p.n ≤ M := by
      intro i hi
      obtain ⟨hc, ht⟩ := hx i (by rw [hmm]; split <;> omega)
      obtain ⟨A, n, cap, l, e, h1, h2⟩ := bytes_of_trod ht
      injection e with e
      exact ⟨⟨A, n, cap, l⟩, by rw [hc, e], h1, h2⟩
    haveI : Inhabited Bt := ⟨⟨none, 0, 0, []⟩⟩
    obtain ⟨P, hP⟩ := Deep.choose_lt each
    have mem : ∀ p ∈ (List.range len).map P, ∃ i, i < len ∧ P i = p := by
      intro p hp
      obtain ⟨i, hi, rfl⟩ := List.mem_map.1 hp
      exact ⟨i, List.mem_range.1 hi, rfl⟩
    refine ⟨some a, len, cap, (List.range len).map P, rfl, ⟨⟨by simp, fun hn => ⟨a, rfl, ?_, fun j p hp => ?_⟩, fun p hp => ?_⟩, hl, hm, (fun e => by cases e), fun p hp => ?_⟩, fun M hM p hp => ?_⟩
    · have := World.block_lt_of_cell? W _ (hP 0 hn).1
      rwa [block_add] at this
    · have hj : j < len := by
        have := (List.getElem?_eq_some_iff.1 hp).1
        simpa using this
      have e : ((List.range len).map P)[j]? = some (P j) := by simp [hj]
      rw [e] at hp
      injection hp with hp
      subst hp
      exact (hP j hj).1
    · obtain ⟨i, hi, rfl⟩ := mem p hp
      obtain ⟨_, h1, _⟩ := hP i hi
      exact ⟨h1.rd, h1.fit, h1.le⟩
    · obtain ⟨i, hi, rfl⟩ := mem p hp
      obtain ⟨_, h1, _⟩ := hP i hi
      exact ⟨h1.max, h1.nil⟩
    · obtain ⟨i, hi, rfl⟩ := mem p hp
      refine (hP i hi).2.2 M (fun u hu => hM u ?_)
      rw [hxx]
      simp only [DataW.weights, Tryd.underlying41, List.mem_cons, List.mem_append]
      exact .inr (.inl (weights_all (List.mem_map.2 ⟨i, List.mem_range.2 hi, rfl⟩) u hu))
/-- Numbers to be read. -/
def RdI (w : World) (A : Option Addr) (n : Nat) (l : List Int) : Prop := l.length = n ∧ (∀ x ∈ l, I64 x) ∧ (0 < n → ∃ ad, A = some ad ∧ ad.block < w.heap.size ∧ ∀ j x, l[j]? = some x → w.cell? (ad.add j) = some (.int .i64 x))
theorem RdI.below {w w' : World} {A : Option Addr} {n : Nat} {l : List Int} (h : RdI w A n l) (hb : Below w.heap.size w w') : RdI w' A n l :=
  ⟨h.1, h.2.1, fun hn => by
    obtain ⟨ad, e, hlt, hc⟩ := h.2.2 hn
    exact ⟨ad, e, Nat.lt_of_lt_of_le hlt hb.size, fun j x hx => (hb.cell (p := ad.add j) (by rw [block_add]; exact hlt)).trans (hc j x hx)⟩⟩
/-- An argument of numbers. -/
theorem ints_of_trod {fuel : Nat} {cs : List Value} {x : DataW H × List MemPlace} (h : DataW.trod enc Tryd.prog W base sp held fuel 39 cs = some x) :
    ∃ (A : Option Addr) (n cap : Nat) (l : List Int), cs = [.slice A n cap] ∧ RdI W A n l ∧ n ≤ cap ∧ cap ≤ maxLen := by
  rcases Deep.open_slice1 Tryd.underlying39 cells3 h with ⟨rfl, _⟩ | ⟨a, len, cap, m, k, V, D, Pl, rfl, _, hl, hm, hmm, hxx, hx⟩
  · exact ⟨none, 0, 0, [], rfl, ⟨rfl, fun x hx => (by cases hx), fun h => absurd h (Nat.lt_irrefl _)⟩, Nat.le_refl _, by simp⟩
  · have each : ∀ i, i < len → ∃ b : Int, I64 b ∧ W.cell? (a.add i) = some (.int .i64 b) := by
      intro i hi
      obtain ⟨hc, ht⟩ := hx i (by rw [hmm]; split <;> omega)
      obtain ⟨z, e, _, hz⟩ := DataW.trod_int Tryd.underlying3 ht
      injection e with e
      rw [e] at hc
      exact ⟨z, i64_wf hz, hc⟩
    obtain ⟨b, hb⟩ := Deep.choose_lt each
    refine ⟨some a, len, cap, (List.range len).map b, rfl, ⟨by simp, fun d hd => ?_, fun hn => ⟨a, rfl, ?_, fun j v hv => ?_⟩⟩, hl, hm⟩
    · obtain ⟨i, hi, rfl⟩ := List.mem_map.1 hd
      exact (hb i (List.mem_range.1 hi)).1
    · have := World.block_lt_of_cell? W _ (hb 0 hn).2
      rwa [block_add] at this
    · have hj : j < len := by
        have := (List.getElem?_eq_some_iff.1 hv).1
        simpa using this
      have e : ((List.range len).map b)[j]? = some (b j) := by simp [hj]
      rw [e] at hv
      injection hv with hv
      rw [← hv]
      exact (hb j hj).2
end
theorem gLs : Tryd.prog.globalNamed (listed.getD 0 ("", .nil)).1 = some 2 := by kernel_rfl
theorem gLr : Tryd.prog.globalNamed (listed.getD 1 ("", .nil)).1 = some 4 := by kernel_rfl
theorem gSs : Tryd.prog.globalNamed (listed.getD 2 ("", .nil)).1 = some 1 := by kernel_rfl
theorem gSr : Tryd.prog.globalNamed (listed.getD 3 ("", .nil)).1 = some 3 := by kernel_rfl
theorem tLs : (Tryd.prog.globals[2]?).map (·.type) = some 123 := by kernel_rfl
theorem tLr : (Tryd.prog.globals[4]?).map (·.type) = some 131 := by kernel_rfl
theorem tSs : (Tryd.prog.globals[1]?).map (·.type) = some 118 := by kernel_rfl
theorem tSr : (Tryd.prog.globals[3]?).map (·.type) = some 128 := by kernel_rfl
theorem cellsL : Tryd.prog.cellsOf 90 = 1 := by kernel_rfl
theorem cellsL8 : Tryd.prog.cellsOf 123 = 8 := by kernel_rfl
theorem cellsL80 : Tryd.prog.cellsOf 131 = 80 := by kernel_rfl
theorem cellsW : Tryd.prog.cellsOf 87 = 1 := by kernel_rfl
theorem cellsW8 : Tryd.prog.cellsOf 118 = 8 := by kernel_rfl
theorem cellsW64 : Tryd.prog.cellsOf 128 = 64 := by kernel_rfl
def initS : List Int := YtfoenafjaaidmaaDoorSh.init8.list.map YtfoenafjaaidmaaDoorSh.ui
def kS : List Int := YtfoenafjaaidmaaDoorSh.kTab.map YtfoenafjaaidmaaDoorSh.ui
def initL : List Int := YtfoenafjaaidmaaDoorLn.init8.list.map YtfoenafjaaidmaaDoorLn.ui
def kL : List Int := YtfoenafjaaidmaaDoorLn.kTab.map YtfoenafjaaidmaaDoorLn.ui
theorem listed_eq : listed = ((listed.getD 0 ("", .nil)).1, Lib.tabData .u64 initL) :: ((listed.getD 1 ("", .nil)).1, Lib.tabData .u64 kL) :: ((listed.getD 2 ("", .nil)).1, Lib.tabData .u32 initS) :: ((listed.getD 3 ("", .nil)).1, Lib.tabData .u32 kS) :: listed.drop 4 := by kernel_rfl
theorem heap_of_var {W : World} {name : String} {g : Nat} {cs : Array Value} (hg : Tryd.prog.globalNamed name = some g) (h : W.var? Tryd.prog name = some cs) : ∃ t fr, W.heap[g]? = some (.cells cs t fr) := by
  unfold World.var? at h
  rw [hg] at h
  simp only [Option.bind_some] at h
  split at h
  · next c t fr hq =>
    injection h with h
    subst h
    exact ⟨_, _, hq⟩
  · cases h
theorem tabs_of_laid {W : World} (h : laidMetH Tryd.prog listed W) : Both W := by
  rw [MakeChecks.laidMetH_plain _ _ _ (by kernel_rfl), listed_eq] at h
  have h1 := Lib.tabIs_of_head gLs tLs Tryd.underlying123 Tryd.underlying90 cellsL cellsL8 h
  have h2 := Lib.tabIs_of_head gLr tLr Tryd.underlying131 Tryd.underlying90 cellsL cellsL80 h.tail
  have h3 := Lib.tabIs_of_head gSs tSs Tryd.underlying118 Tryd.underlying87 cellsW cellsW8 h.tail.tail
  have h4 := Lib.tabIs_of_head gSr tSr Tryd.underlying128 Tryd.underlying87 cellsW cellsW64 h.tail.tail.tail
  obtain ⟨t1, f1, e1⟩ := heap_of_var gLs h1
  obtain ⟨t2, f2, e2⟩ := heap_of_var gLr h2
  obtain ⟨t3, f3, e3⟩ := heap_of_var gSs h3
  obtain ⟨t4, f4, e4⟩ := heap_of_var gSr h4
  refine ⟨⟨⟨t3, f3, ?_⟩, t4, f4, ?_⟩, ⟨t1, f1, ?_⟩, t2, f2, ?_⟩
  · rw [e3, initS, List.map_map]; rfl
  · rw [e4, kS, List.map_map]; rfl
  · rw [e1, initL, List.map_map]; rfl
  · rw [e2, kL, List.map_map]; rfl
end Go.Proofs.YtfoenafjaaidmaaDoor
