/-
  What an argument of bytes gives the walks; what the rows' lists of tables give them.
-/
import Derived.Test.YtppoikamenbckaaGreatDoorRows
import Derived.Test.YtppoikamenbckaaGreatDoorA7
import Derived.Deep.Slices
import Derived.ProofKit
import Derived.LaidMore
import Derived.OpenShut
import Derived.Stop.Joined
import Derived.ChangeOld
import Derived.Below
import Derived.Lay
import Derived.Lib.LaidTab
import Derived.Stop.LaidErr
namespace Go.Proofs.YtppoikamenbckaaGreatDoor
open Go.ChangeShapes Go.WideShapes Go.ChangeAt Go.RowKit
set_option linter.unusedVariables false
set_option linter.unusedSimpArgs false

theorem own : ownKnob Tryz.prog.godebug = none := by kernel_rfl
theorem laidOut : laidOutB Tryz.prog = true := by kernel_rfl
/-- The list of all rows. -/
def listed : List (String × DataW Unit) := Rows.sealHoldsRow.laid
theorem cells5 : Tryz.prog.cellsOf 5 = 1 := by kernel_rfl
theorem cells22 : Tryz.prog.cellsOf 22 = 1 := by kernel_rfl

section
variable {H : Type} {enc : TypeId × Value → H} {W : World} {base : Nat} {sp : Nat → Bool} {held : Bool}
/-- An argument of bytes. -/
theorem bytes_of_trod {fuel : Nat} {cs : List Value} {x : DataW H × List MemPlace} (h : DataW.trod enc Tryz.prog W base sp held fuel 22 cs = some x) :
    ∃ (A : Option Addr) (n cap : Nat) (l : List Nat), cs = [.slice A n cap] ∧ (Rd .u8 W A n l ∧ Fit 256 l) ∧ n ≤ cap ∧ cap ≤ maxLen ∧ (A = none → cap = 0) := by
  rcases Deep.open_slice1 Tryz.underlying22 cells5 h with ⟨rfl, _⟩ | ⟨a, len, cap, m, k, V, D, Pl, rfl, _, hl, hm, hmm, _, hx⟩
  · exact ⟨none, 0, 0, [], rfl, ⟨Rd.nil _ _ _, Fit.nil _⟩, Nat.le_refl _, by simp, fun _ => rfl⟩
  · have each : ∀ i, i < len → ∃ b : Nat, b < 256 ∧ W.cell? (a.add i) = some (.int .u8 (b : Int)) := by
      intro i hi
      obtain ⟨hc, ht⟩ := hx i (by rw [hmm]; split <;> omega)
      obtain ⟨z, e, _, hz⟩ := DataW.trod_int Tryz.underlying5 ht
      injection e with e
      rw [e] at hc
      have hb : 0 ≤ z ∧ z ≤ 255 := by
        simp [Lit.wf, IntKind.min, IntKind.max, IntKind.bits, IntKind.signed] at hz
        omega
      refine ⟨z.toNat, by omega, ?_⟩
      rw [hc, Int.toNat_of_nonneg hb.1]
    obtain ⟨b, hb⟩ := Deep.choose_lt each
    refine ⟨some a, len, cap, (List.range len).map b, rfl, ⟨⟨by simp, fun hn => ⟨a, rfl, ?_, fun j v hv => ?_⟩⟩, fun d hd => ?_⟩, hl, hm, fun e => by cases e⟩
    · have := World.block_lt_of_cell? W _ (hb 0 hn).2
      rwa [block_add] at this
    · have hj : j < len := by
        have := (List.getElem?_eq_some_iff.1 hv).1
        simpa using this
      have e : ((List.range len).map b)[j]? = some (b j) := by simp [hj]
      rw [e] at hv
      injection hv with hv
      rw [← hv]
      exact (hb j hj).2
    · obtain ⟨i, hi, rfl⟩ := List.mem_map.1 hd
      exact (hb i (List.mem_range.1 hi)).1
/-- An argument of parts. -/
theorem parts_of_trod {fuel : Nat} {cs : List Value} {x : DataW H × List MemPlace} (h : DataW.trod enc Tryz.prog W base sp held fuel 42 cs = some x) :
    ∃ (A : Option Addr) (n cap : Nat) (ps : List Bt), cs = [.slice A n cap] ∧ (PartsR W A n ps ∧ ∀ p ∈ ps, p.A = none → p.cap = 0) ∧ n ≤ cap ∧ cap ≤ maxLen ∧ (A = none → cap = 0) := by
  rcases Deep.open_slice1 Tryz.underlying42 cells22 h with ⟨rfl, _⟩ | ⟨a, len, cap, m, k, V, D, Pl, rfl, _, hl, hm, hmm, _, hx⟩
  · exact ⟨none, 0, 0, [], rfl, ⟨PartsR.nil _ _, fun p hp => by cases hp⟩, Nat.le_refl _, by simp, fun _ => rfl⟩
  · have each : ∀ i, i < len → ∃ p : Bt, W.cell? (a.add i) = some (.slice p.A p.n p.cap) ∧ (Rd .u8 W p.A p.n p.l ∧ Fit 256 p.l) ∧ p.n ≤ p.cap ∧ p.cap ≤ maxLen ∧ (p.A = none → p.cap = 0) := by
      intro i hi
      obtain ⟨hc, ht⟩ := hx i (by rw [hmm]; split <;> omega)
      obtain ⟨A, n, cap, l, e, h1, h2, h3, h4⟩ := bytes_of_trod ht
      injection e with e
      exact ⟨⟨A, n, cap, l⟩, by rw [hc, e], h1, h2, h3, h4⟩
    haveI : Inhabited Bt := ⟨⟨none, 0, 0, []⟩⟩
    obtain ⟨P, hP⟩ := Deep.choose_lt each
    have mem : ∀ p ∈ (List.range len).map P, ∃ i, i < len ∧ P i = p := by
      intro p hp
      obtain ⟨i, hi, rfl⟩ := List.mem_map.1 hp
      exact ⟨i, List.mem_range.1 hi, rfl⟩
    refine ⟨some a, len, cap, (List.range len).map P, rfl, ⟨⟨by simp, fun hn => ⟨a, rfl, ?_, fun j p hp => ?_⟩, fun p hp => ?_⟩, fun p hp => ?_⟩, hl, hm, fun e => by cases e⟩
    · have := World.block_lt_of_cell? W _ (hP 0 hn).1
      rwa [block_add] at this
    · have hj : j < len := by
        have := (List.getElem?_eq_some_iff.1 hp).1
        simpa using this
      have e : ((List.range len).map P)[j]? = some (P j) := by simp [hj]
      rw [e] at hp
      injection hp with hp
      subst hp
      exact (hP j hj).1
    · obtain ⟨i, hi, rfl⟩ := mem p hp
      obtain ⟨_, h1, h2, h3, _⟩ := hP i hi
      exact ⟨h1.1, h1.2, h2⟩
    · obtain ⟨i, hi, rfl⟩ := mem p hp
      exact (hP i hi).2.2.2.2
end
/-- That is no modulus: what Make says, and what the document says. -/
theorem not_modul {n : Nat} {l : List Nat} (hl : l.length = n) (h : ¬ Modul n l) : (n < 64 ∨ 512 < n ∨ n % 64 ≠ 0) ∨ ((64 ≤ n ∧ n ≤ 512 ∧ n % 64 = 0) ∧ ∃ a z, l[0]? = some a ∧ l[n - 1]? = some z ∧ (a < 128 ∨ z % 2 = 0)) := by
  by_cases hs : 64 ≤ n ∧ n ≤ 512 ∧ n % 64 = 0
  · refine .inr ⟨hs, ?_⟩
    obtain ⟨a, ha⟩ := get_some (l := l) (i := 0) (by omega)
    obtain ⟨z, hz⟩ := get_some (l := l) (i := n - 1) (by omega)
    refine ⟨a, z, ha, hz, ?_⟩
    by_cases h1 : a < 128
    · exact .inl h1
    · by_cases h2 : z % 2 = 0
      · exact .inr h2
      · exact absurd ⟨hs.1, hs.2.1, hs.2.2, a, z, ha, hz, by omega, by omega⟩ h
  · exact .inl (by omega)
/-- Make of what is no modulus. -/
def NoKeyAny (w : World) (e : Ending) (w' : World) : Prop := ∃ er : Int, (er = 21 ∨ er = 22) ∧ NoKey w er e w'
theorem Make_no (A : Option Addr) (n cap : Nat) (l : List Nat) (w : World) (h : Rd .u8 w A n l) (hf : Fit 256 l) (hn : n ≤ 1000000) (hM : ¬ Modul n l) :
    Calls Tryz.prog 8 #[.slice A n cap] w (NoKeyAny w) := by
  rcases not_modul h.1 hM with h1 | ⟨hs, a, z, ha, hz, hb⟩
  · exact (Make_bits A n cap w hn h1).mono fun e w' he => ⟨21, .inl rfl, he⟩
  · exact (Make_form A n cap l w h hf hs a z ha hz hb).mono fun e w' he => ⟨22, .inr rfl, he⟩

theorem gLs : Tryz.prog.globalNamed (listed.getD 0 ("", .nil)).1 = some 2 := by kernel_rfl
theorem gLr : Tryz.prog.globalNamed (listed.getD 1 ("", .nil)).1 = some 4 := by kernel_rfl
theorem gSs : Tryz.prog.globalNamed (listed.getD 2 ("", .nil)).1 = some 1 := by kernel_rfl
theorem gSr : Tryz.prog.globalNamed (listed.getD 3 ("", .nil)).1 = some 3 := by kernel_rfl
theorem tLs : (Tryz.prog.globals[2]?).map (·.type) = some 144 := by kernel_rfl
theorem tLr : (Tryz.prog.globals[4]?).map (·.type) = some 154 := by kernel_rfl
theorem tSs : (Tryz.prog.globals[1]?).map (·.type) = some 139 := by kernel_rfl
theorem tSr : (Tryz.prog.globals[3]?).map (·.type) = some 151 := by kernel_rfl
theorem cellsL : Tryz.prog.cellsOf 84 = 1 := by kernel_rfl
theorem cellsL8 : Tryz.prog.cellsOf 144 = 8 := by kernel_rfl
theorem cellsL80 : Tryz.prog.cellsOf 154 = 80 := by kernel_rfl
theorem cellsW : Tryz.prog.cellsOf 74 = 1 := by kernel_rfl
theorem cellsW8 : Tryz.prog.cellsOf 139 = 8 := by kernel_rfl
theorem cellsW64 : Tryz.prog.cellsOf 151 = 64 := by kernel_rfl
def initS : List Int := YtppoikamenbckaaGreatDoorSh.init8.list.map YtppoikamenbckaaGreatDoorSh.ui
def kS : List Int := YtppoikamenbckaaGreatDoorSh.kTab.map YtppoikamenbckaaGreatDoorSh.ui
def initL : List Int := YtppoikamenbckaaGreatDoorLn.init8.list.map YtppoikamenbckaaGreatDoorLn.ui
def kL : List Int := YtppoikamenbckaaGreatDoorLn.kTab.map YtppoikamenbckaaGreatDoorLn.ui
theorem listed_eq : listed = ((listed.getD 0 ("", .nil)).1, Lib.tabData .u64 initL) :: ((listed.getD 1 ("", .nil)).1, Lib.tabData .u64 kL) :: ((listed.getD 2 ("", .nil)).1, Lib.tabData .u32 initS) :: ((listed.getD 3 ("", .nil)).1, Lib.tabData .u32 kS) :: listed.drop 4 := by kernel_rfl
theorem heap_of_var {W : World} {name : String} {g : Nat} {cs : Array Value} (hg : Tryz.prog.globalNamed name = some g) (h : W.var? Tryz.prog name = some cs) : ∃ t fr, W.heap[g]? = some (.cells cs t fr) := by
  unfold World.var? at h
  rw [hg] at h
  simp only [Option.bind_some] at h
  split at h
  · next c t fr hq =>
    injection h with h
    subst h
    exact ⟨_, _, hq⟩
  · cases h
theorem tabs_of_laid {W : World} (h : laidMetH Tryz.prog listed W) : Both W := by
  rw [MakeChecks.laidMetH_plain _ _ _ (by kernel_rfl), listed_eq] at h
  have h1 := Lib.tabIs_of_head gLs tLs Tryz.underlying144 Tryz.underlying84 cellsL cellsL8 h
  have h2 := Lib.tabIs_of_head gLr tLr Tryz.underlying154 Tryz.underlying84 cellsL cellsL80 h.tail
  have h3 := Lib.tabIs_of_head gSs tSs Tryz.underlying139 Tryz.underlying74 cellsW cellsW8 h.tail.tail
  have h4 := Lib.tabIs_of_head gSr tSr Tryz.underlying151 Tryz.underlying74 cellsW cellsW64 h.tail.tail.tail
  obtain ⟨t1, f1, e1⟩ := heap_of_var gLs h1
  obtain ⟨t2, f2, e2⟩ := heap_of_var gLr h2
  obtain ⟨t3, f3, e3⟩ := heap_of_var gSs h3
  obtain ⟨t4, f4, e4⟩ := heap_of_var gSr h4
  refine ⟨⟨⟨t3, f3, ?_⟩, t4, f4, ?_⟩, ⟨t1, f1, ?_⟩, t2, f2, ?_⟩
  · rw [e3, initS, List.map_map]; rfl
  · rw [e4, kS, List.map_map]; rfl
  · rw [e1, initL, List.map_map]; rfl
  · rw [e2, kL, List.map_map]; rfl
end Go.Proofs.YtppoikamenbckaaGreatDoor
