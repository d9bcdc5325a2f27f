/-
  Is a partition of a name among these? No condition but that lengths are lengths.
-/
import Derived.Test.YthepbadecpnepaaD8
namespace Go.Proofs.Ythepbadecpnepaa
open Go.RowKit Go.MapKept
set_option linter.unusedVariables false
set_option linter.unusedSimpArgs false
set_option maxRecDepth 100000

theorem add_one (a : Addr) (n : Nat) : a.add (n + 1) = ⟨(a.add n).block, (a.add n).off + 1, none⟩ := by
  unfold Addr.add
  by_cases h : n = 0 <;> simp [h, Nat.add_assoc]
theorem pcells_get {ps : List (ByteArray × Int)} {k : Nat} {p : ByteArray × Int} (h : ps[k]? = some p) : (pcells ps)[k * 2]? = some (.string p.1) ∧ (pcells ps)[k * 2 + 1]? = some (.int .i64 p.2) := by
  induction ps generalizing k with
  | nil => simp at h
  | cons x r ih =>
    cases k with
    | zero => simp at h; subst h; exact ⟨rfl, rfl⟩
    | succ k =>
      simp at h
      have e1 : (k + 1) * 2 = k * 2 + 1 + 1 := by omega
      have := ih h
      simpa [pcells, e1] using this
/-- A partition among those of a slice. -/
theorem Rs.part {w : World} {A : Option Addr} {ps : List (ByteArray × Int)} (h : Rs w A (pcells ps)) {k : Nat} {p : ByteArray × Int} (hk : ps[k]? = some p) :
    ∃ ad, A = some ad ∧ w.cell? (ad.add (k * 2)) = some (.string p.1) ∧ w.cell? ⟨(ad.add (k * 2)).block, (ad.add (k * 2)).off + 1, none⟩ = some (.int .i64 p.2) := by
  obtain ⟨h1, h2⟩ := pcells_get hk
  obtain ⟨ad, e, hlt, hc⟩ := h (by have := (List.getElem?_eq_some_iff.1 h1).1; omega)
  exact ⟨ad, e, hc _ _ h1, by rw [← add_one]; exact hc _ _ h2⟩
theorem str_eq (a b : ByteArray) : (a.toList == b.toList) = decide (a = b) := by
  rw [Bool.eq_iff_iff, beq_iff_eq, decide_eq_true_eq, ByteArray.toList_eq, ByteArray.toList_eq]
  constructor
  · intro h
    cases a; cases b
    simpa using h
  · rintro rfl; rfl
theorem namedL_any (nm : ByteArray) (sz : Int) (g : Addr) (s : ByteArray) (w : World) (hg : w.cell? g = some (.string s)) (hgl : g.block < w.heap.size) (b : Bool) (hb : decide (nm = s) = b) : Calls Try.prog 58 #[.agg #[.string nm, .int .i64 sz], .pointer (some g)] w fun e w' => e = .returned (.bool b) ∧ Below w.heap.size w w' := by
  have hg2 : (w.alloc (.cells #[.string nm, .int .i64 sz] 50)).cell? g = some (.string s) := by rw [World.cell?_alloc_lt _ _ _ hgl]; exact hg
  have HB : Hid ((nm.toList == s.toList) = b) := (str_eq nm s).trans hb
  clear hg hb
  go_enter Try.func58, Try.ntmps58
  go_wp2
  go_ret
  exact ⟨by rw [← HB.out]; rfl, (Below.refl _ _).alloc (Nat.le_refl _) _⟩
/-- An answer: where the first one of a name is, or below 0. -/
def GivesIx (w : World) (ps : List (ByteArray × Int)) (s : ByteArray) (e : Ending) (w' : World) : Prop := ∃ r : Int, e = .returned (.int .i64 r) ∧ (0 ≤ r ↔ ∃ p ∈ ps, p.1 = s) ∧ Below w.heap.size w w'
set_option maxHeartbeats 1000000 in
theorem Index_any (A : Option Addr) (n c : Nat) (ps : List (ByteArray × Int)) (hn : ps.length = n) (hn2 : n ≤ 1000000) (w : World) (h : Rs w A (pcells ps)) (g : Addr) (s : ByteArray) (hg : w.cell? g = some (.string s)) (hgl : g.block < w.heap.size) :
    Calls Try.prog 59 #[.slice A n c, .func (.func 58) #[] #[.pointer (some g)]] w (GivesIx w ps s) := by
  have HR := Lib.hid h
  have HN := Lib.hid hn
  have HG := Lib.hid hg
  clear h hn hg
  go_enter Try.func59, Try.ntmps59
  go_wp2
  go_loopw [8] (fun i wr => ∃ k : Nat, i = .int .i64 (k : Int) ∧ k ≤ n ∧ Hid (∀ j p, ps[j]? = some p → j < k → p.1 ≠ s) ∧ Hid (Below w.heap.size w wr)) (fun i _ => n - (intOf i).toNat)
  case atStart => exact ⟨0, rfl, Nat.zero_le _, (fun j p _ hj => absurd hj (Nat.not_lt_zero _)), Below.refl _ _⟩
  case round =>
    obtain ⟨k, rfl, hkn, HA, HB⟩ := hrel
    by_cases hlt : k < n
    · have zlt : (k : Int) < (n : Int) := by omega
      obtain ⟨p, hp⟩ : ∃ p, ps[k]? = some p := ⟨_, List.getElem?_eq_getElem (by rw [HN.out]; exact hlt)⟩
      obtain ⟨ad, rfl, c0, c1⟩ := (HR.out.below HB.out).part hp
      have HG2 : Hid (wr.cell? g = some (.string s)) := (HB.out.cell hgl).trans HG.out
      have hgl2 : g.block < wr.heap.size := Nat.lt_of_lt_of_le hgl HB.out.size
      have HP := Lib.hid hp
      obtain ⟨nm, sz⟩ := p
      simp only [] at c0 c1
      clear hp
      by_cases hs : nm = s
      · have HS := Lib.hid hs
        clear hs
        go_wp2_with fail
        refine (namedL_any nm sz g s _ HG2.out hgl2 true (by simp [HS.out])).mono ?_
        rintro e w2 ⟨rfl, hb2⟩
        have HB2 := Lib.hid (below_then HB.out hb2)
        clear hb2
        go_wp2
        go_ret
        exact ⟨k, rfl, ⟨fun _ => ⟨_, List.mem_of_getElem? HP.out, HS.out⟩, fun _ => by omega⟩, HB2.out⟩
      · have HS := Lib.hid hs
        clear hs
        go_wp2_with fail
        refine (namedL_any nm sz g s _ HG2.out hgl2 false (by simp [HS.out])).mono ?_
        rintro e w2 ⟨rfl, hb2⟩
        have HB2 := Lib.hid (below_then HB.out hb2)
        clear hb2
        go_wp2
        go_roundw
        case rel =>
          refine ⟨k + 1, by go_num, by omega, fun j p hj hlt => ?_, HB2.out⟩
          by_cases e : j = k
          · subst e
            rw [HP.out] at hj
            injection hj with hj
            rw [← hj]; exact HS.out
          · exact HA.out j p hj (by omega)
        case measure => simp [intOf]; omega
    · have hno : Hid (¬ ∃ p ∈ ps, p.1 = s) := by
        rintro ⟨p, hp, e⟩
        obtain ⟨j, hj⟩ := List.mem_iff_getElem?.1 hp
        exact HA.out j p hj (by have := (List.getElem?_eq_some_iff.1 hj).1; have := HN.out; omega) e
      go_wp2
      go_ret
      exact ⟨-1, rfl, ⟨fun h => by omega, fun h => absurd h hno.out⟩, HB.out⟩
theorem Contains_any (A : Option Addr) (n c : Nat) (ps : List (ByteArray × Int)) (hn : ps.length = n) (hn2 : n ≤ 1000000) (w : World) (h : Rs w A (pcells ps)) (g : Addr) (s : ByteArray) (hg : w.cell? g = some (.string s)) (hgl : g.block < w.heap.size) (b : Bool) (hb : b = true ↔ ∃ p ∈ ps, p.1 = s) :
    Calls Try.prog 57 #[.slice A n c, .func (.func 58) #[] #[.pointer (some g)]] w fun e w' => e = .returned (.bool b) ∧ Below w.heap.size w w' := by
  have HI := Lib.hid (Index_any A n c ps hn hn2 w h g s hg hgl)
  have HB := Lib.hid hb
  clear hn h hg hb
  go_enter Try.func57, Try.ntmps57
  go_wp2_with fail
  refine HI.out.mono ?_
  rintro e w2 ⟨r, rfl, hr, hb2⟩
  have HB2 := Lib.hid hb2
  have HR := Lib.hid hr
  clear hb2 hr
  cases b with
  | true =>
    have z : 0 ≤ r := HR.out.2 (HB.out.1 rfl)
    go_wp2
    go_ret
    exact ⟨rfl, HB2.out⟩
  | false =>
    have z : ¬ 0 ≤ r := fun h => by have := HB.out.2 (HR.out.1 h); cases this
    have Z := Lib.hid z
    clear z
    go_wp2
    go_ret
    exact ⟨by show Ending.returned (.bool (decide (0 ≤ r))) = _; rw [decide_eq_false (Int.not_le.2 Z.out)], HB2.out⟩
theorem named_any (A : Option Addr) (n c : Nat) (ps : List (ByteArray × Int)) (hn : ps.length = n) (hn2 : n ≤ 1000000) (w : World) (h : Rs w A (pcells ps)) (s : ByteArray) (b : Bool) (hb : b = true ↔ ∃ p ∈ ps, p.1 = s) :
    Calls Try.prog 55 #[.slice A n c, .string s] w fun e w' => e = .returned (.bool b) ∧ Below w.heap.size w w' := by
  have HB0 : Hid (Below w.heap.size w (w.alloc (.cells #[.string s] 9))) := (Below.refl _ _).alloc (Nat.le_refl _) _
  have HC := Lib.hid (Contains_any A n c ps hn hn2 (w.alloc (.cells #[.string s] 9)) (h.below HB0.out) ⟨w.heap.size, 0, none⟩ s ((Blk.new w 9 [.string s]).cell 0) (by simp) b hb)
  clear hn h hb
  go_enter Try.func55, Try.ntmps55
  go_wp2_with fail
  refine HC.out.mono ?_
  rintro e w2 ⟨rfl, hb2⟩
  have HB2 := Lib.hid (below_then HB0.out hb2)
  clear hb2
  go_wp2
  go_ret
  exact ⟨rfl, HB2.out⟩
end Go.Proofs.Ythepbadecpnepaa
