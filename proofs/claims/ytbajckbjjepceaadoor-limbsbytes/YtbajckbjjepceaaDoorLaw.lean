/-
  What an argument of limbs, or of bytes, gives the walks; the statements' own is, right and anchor; the rows' list of two tables.
-/
import Derived.Test.YtbajckbjjepceaaDoorComp
import Derived.Test.YtbajckbjjepceaaDoorBytes
import Derived.Test.YtbajckbjjepceaaDoorProg6
import Derived.Deep.Slices
import Derived.ProofKit
import Derived.LaidMore
import Derived.OpenShut
import Derived.Stop.Joined
import Derived.ChangeOld
import Derived.Below
import Derived.Lay
namespace Go.Proofs.YtbajckbjjepceaaDoor
open Go.ChangeShapes Go.WideShapes Go.ChangeAt Go.RowKit
set_option linter.unusedVariables false
set_option linter.unusedSimpArgs false

theorem own : ownKnob Tryd.prog.godebug = none := by kernel_rfl
theorem laidOut : laidOutB Tryd.prog = true := by kernel_rfl
/-- The list that all rows bear. -/
def listed : List (String × DataW Unit) := Rows.limbsSumsRow.laid
theorem cells5 : Tryd.prog.cellsOf 5 = 1 := by kernel_rfl
theorem cells48 : Tryd.prog.cellsOf 48 = 1 := by kernel_rfl

section
variable {H : Type} {enc : TypeId × Value → H} {W : World} {base : Nat} {sp : Nat → Bool} {held : Bool}
/-- An argument of bytes. -/
theorem bytes_of_trod {fuel : Nat} {cs : List Value} {x : DataW H × List MemPlace} (h : DataW.trod enc Tryd.prog W base sp held fuel 22 cs = some x) :
    ∃ (A : Option Addr) (n cap : Nat) (l : List Nat), cs = [.slice A n cap] ∧ (Rd .u8 W A n l ∧ Fit 256 l) ∧ n ≤ cap ∧ cap ≤ maxLen ∧ (A = none → cap = 0) := by
  rcases Deep.open_slice1 Tryd.underlying22 cells5 h with ⟨rfl, _⟩ | ⟨a, len, cap, m, k, V, D, Pl, rfl, _, hl, hm, hmm, _, hx⟩
  · exact ⟨none, 0, 0, [], rfl, ⟨Rd.nil _ _ _, Fit.nil _⟩, Nat.le_refl _, by simp, fun _ => rfl⟩
  · have each : ∀ i, i < len → ∃ b : Nat, b < 256 ∧ W.cell? (a.add i) = some (.int .u8 (b : Int)) := by
      intro i hi
      obtain ⟨hc, ht⟩ := hx i (by rw [hmm]; split <;> omega)
      obtain ⟨z, e, _, hz⟩ := DataW.trod_int Tryd.underlying5 ht
      injection e with e
      rw [e] at hc
      have hb : 0 ≤ z ∧ z ≤ 255 := by
        simp [Lit.wf, IntKind.min, IntKind.max, IntKind.bits, IntKind.signed] at hz
        omega
      refine ⟨z.toNat, by omega, ?_⟩
      rw [hc, Int.toNat_of_nonneg hb.1]
    obtain ⟨b, hb⟩ := Deep.choose_lt each
    refine ⟨some a, len, cap, (List.range len).map b, rfl, ⟨⟨by simp, fun hn => ⟨a, rfl, ?_, fun j v hv => ?_⟩⟩, fun d hd => ?_⟩, hl, hm, fun e => by cases e⟩
    · have := World.block_lt_of_cell? W _ (hb 0 hn).2
      rwa [block_add] at this
    · have hj : j < len := by
        have := (List.getElem?_eq_some_iff.1 hv).1
        simpa using this
      have e : ((List.range len).map b)[j]? = some (b j) := by simp [hj]
      rw [e] at hv
      injection hv with hv
      rw [← hv]
      exact (hb j hj).2
    · obtain ⟨i, hi, rfl⟩ := List.mem_map.1 hd
      exact (hb i (List.mem_range.1 hi)).1
/-- An argument of limbs. -/
theorem limbs_of_trod {fuel : Nat} {cs : List Value} {x : DataW H × List MemPlace} (h : DataW.trod enc Tryd.prog W base sp held fuel 24 cs = some x) :
    ∃ (A : Option Addr) (n cap : Nat) (l : List Nat), cs = [.slice A n cap] ∧ (Rd .u32 W A n l ∧ Fit 4294967296 l) ∧ n ≤ cap ∧ cap ≤ maxLen ∧ (A = none → cap = 0) := by
  rcases Deep.open_slice1 Tryd.underlying24 cells48 h with ⟨rfl, _⟩ | ⟨a, len, cap, m, k, V, D, Pl, rfl, _, hl, hm, hmm, _, hx⟩
  · exact ⟨none, 0, 0, [], rfl, ⟨Rd.nil _ _ _, Fit.nil _⟩, Nat.le_refl _, by simp, fun _ => rfl⟩
  · have each : ∀ i, i < len → ∃ b : Nat, b < 4294967296 ∧ W.cell? (a.add i) = some (.int .u32 (b : Int)) := by
      intro i hi
      obtain ⟨hc, ht⟩ := hx i (by rw [hmm]; split <;> omega)
      obtain ⟨z, e, _, hz⟩ := DataW.trod_int Tryd.underlying48 ht
      injection e with e
      rw [e] at hc
      have hb : 0 ≤ z ∧ z ≤ 4294967295 := by
        simp [Lit.wf, IntKind.min, IntKind.max, IntKind.bits, IntKind.signed] at hz
        omega
      refine ⟨z.toNat, by omega, ?_⟩
      rw [hc, Int.toNat_of_nonneg hb.1]
    obtain ⟨b, hb⟩ := Deep.choose_lt each
    refine ⟨some a, len, cap, (List.range len).map b, rfl, ⟨⟨by simp, fun hn => ⟨a, rfl, ?_, fun j v hv => ?_⟩⟩, fun d hd => ?_⟩, hl, hm, fun e => by cases e⟩
    · have := World.block_lt_of_cell? W _ (hb 0 hn).2
      rwa [block_add] at this
    · have hj : j < len := by
        have := (List.getElem?_eq_some_iff.1 hv).1
        simpa using this
      have e : ((List.range len).map b)[j]? = some (b j) := by simp [hj]
      rw [e] at hv
      injection hv with hv
      rw [← hv]
      exact (hb j hj).2
    · obtain ⟨i, hi, rfl⟩ := List.mem_map.1 hd
      exact (hb i (List.mem_range.1 hi)).1
end

theorem right_any (A : Option Addr) (n cap : Nat) (w : World) : Calls Tryd.prog 16 #[.slice A n cap] w fun e w' => e = .returned (.bool (okW n)) ∧ w = w' := by
  by_cases h1 : n < 1
  · obtain rfl : n = 0 := by omega
    go_enter Tryd.func16, Tryd.ntmps16
    go_wp2
    go_ret
    exact ⟨rfl, rfl⟩
  · by_cases h2 : n ≤ 256
    · have h3 : (1 : Int) ≤ n := by omega
      have e : okW n = true := by simp [okW]; omega
      have E := Lib.hid e
      have hd : decide ((n : Int) ≤ 256) = true := decide_eq_true (by omega)
      clear e h1
      go_enter Tryd.func16, Tryd.ntmps16
      go_wp2
      go_ret
      exact ⟨by rw [E.out]; rfl, rfl⟩
    · have h3 : (1 : Int) ≤ n := by omega
      have e : okW n = false := by simp [okW]; omega
      have E := Lib.hid e
      have h4 : (256 : Int) < n := by omega
      have hd : decide ((n : Int) ≤ 256) = false := decide_eq_false (by omega)
      clear e h1 h2
      go_enter Tryd.func16, Tryd.ntmps16
      go_wp2
      go_ret
      exact ⟨by rw [E.out]; rfl, rfl⟩

set_option maxHeartbeats 1000000 in
theorem is_yes (A A' : Option Addr) (n cap m cap' : Nat) (l : List Nat) (z : Int) (w : World) (hz : z = n) (h : Rd .u32 w A n l) (hf : Fit 4294967296 l) (hn : n ≤ 10000) (h' : Rd .i64 w A' m (digs (val 4294967296 l))) (hm : m ≤ 1000000) :
    Calls Tryd.prog 14 #[.slice A n cap, .slice A' m cap', .int .i64 z] w fun e w' => e = .returned (.bool true) ∧ Below w.heap.size w w' := by
  subst hz
  have HR := Lib.hid h
  have HR' := Lib.hid h'
  clear h h'
  go_enter Tryd.func14, Tryd.ntmps14
  go_wp2_with fail
  refine (Digits_any A n cap l w HR.out hf hn).mono ?_
  rintro e w1 ⟨A1, m1, c1, rfl, hr1, hc1, hm1, hb1⟩
  have hml : m1 = m := hr1.1.symm.trans HR'.out.1
  have HR1 := Lib.hid hr1
  have HML := Lib.hid hml
  clear hr1 hml hm1 hc1
  go_wp2_with fail
  refine (RefCompare_any A1 A' m1 c1 m cap' _ _ w1 HR1.out (HR'.out.below hb1) (digs_fit _) (digs_fit _) (digs_tight _) (digs_tight _) (by rw [HML.out]; exact hm) hm).mono ?_
  rintro e w2 ⟨rfl, hb2⟩
  rw [ord_self]
  go_wp2
  go_ret
  exact ⟨rfl, below_then hb1 hb2⟩

theorem rd_new (w : World) (k : IntKind) (t : TypeId) (l : List Nat) (g : Nat) (hg : w.heap.size = g) : Rd k (w.alloc (.cells (cn k l).toArray t)) (some ⟨g, 0, none⟩) l.length l := by
  subst hg; exact (Blk.new w t (cn k l)).rd _ rfl
theorem From_okz (A : Option Addr) (n cap : Nat) (l : List Nat) (W : Nat) (z : Int) (hz : z = W) (w : World) (h : Rd .u8 w A n l) (hf : Fit 256 l) (hn : n ≤ cap) (hm : cap ≤ maxLen) (hn2 : n ≤ 10000) (h1 : 1 ≤ W) (h2 : W ≤ 256) (hb : vbe l < 4294967296 ^ W) :
    Calls Tryd.prog 12 #[.slice A n cap, .int .i64 z] w fun e w' => ∃ A1 zs, e = .returned (.tuple #[.slice A1 W W, .int .i64 0]) ∧ Limbs w w' A1 W W zs ∧ val 4294967296 zs = vbe l := by
  subst hz; exact From_ok A n cap l W w h hf hn hm hn2 h1 h2 hb

set_option maxRecDepth 10000 in
set_option maxHeartbeats 1000000 in
theorem anchor_any (w : World) : Calls Tryd.prog 11 #[] w fun e w' => e = .returned (.bool true) ∧ Below w.heap.size w w' := by
  go_enter Tryd.func11, Tryd.ntmps11
  go_wp2_with fail
  have hb0 : Below w.heap.size w (w.alloc (.cells #[.int .u8 1, .int .u8 0, .int .u8 0, .int .u8 0, .int .u8 2] 5)) := (Below.refl _ _).alloc (Nat.le_refl _) _
  have hr0 : Rd .u8 (w.alloc (.cells #[.int .u8 1, .int .u8 0, .int .u8 0, .int .u8 0, .int .u8 2] 5)) (some ⟨w.heap.size, 0, none⟩) 5 [1, 0, 0, 0, 2] := rd_new w .u8 5 [1, 0, 0, 0, 2] _ rfl
  generalize (w.alloc (.cells #[.int .u8 1, .int .u8 0, .int .u8 0, .int .u8 0, .int .u8 2] 5)) = w0 at *
  refine (From_okz _ 5 5 [1, 0, 0, 0, 2] 2 2 rfl w0 hr0 (by intro d hd; simp at hd; omega) (Nat.le_refl _) (by unfold maxLen; omega) (by omega) (by omega) (by omega) (by decide)).mono ?_
  rintro e w1 ⟨A1, zs, rfl, ⟨hr1, hf1, _, _, hb1⟩, hv1⟩
  obtain rfl : zs = [2, 1] := val_inj (B := 4294967296) hf1 (by intro d hd; simp at hd; omega) (by rw [hr1.1]; rfl) (by rw [hv1]; decide)
  obtain ⟨ad, rfl, _, hcs⟩ := hr1.2 (by omega)
  have c0 := hcs 0 2 rfl
  have c1 := hcs 1 1 rfl
  have C := Lib.hid (And.intro c0 c1)
  have B1 := below_then hb0 hb1
  clear hr0 hr1 hf1 hb1 hv1 hcs c0 c1 hb0
  go_wp2_with fail
  have hb2 : Below w1.heap.size w1 ((w1.alloc (.cells #[.int .u32 4294967295] 48)).alloc (.cells #[.int .u32 1] 48)) := ((Below.refl _ _).alloc (Nat.le_refl _) _).alloc (by simp) _
  have hr2 : Rd .u32 ((w1.alloc (.cells #[.int .u32 4294967295] 48)).alloc (.cells #[.int .u32 1] 48)) (some ⟨w1.heap.size, 0, none⟩) 1 [4294967295] := (rd_new w1 .u32 48 [4294967295] _ rfl).below ((Below.refl _ _).alloc (Nat.le_refl _) _)
  have hr3 : Rd .u32 ((w1.alloc (.cells #[.int .u32 4294967295] 48)).alloc (.cells #[.int .u32 1] 48)) (some ⟨w1.heap.size + 1, 0, none⟩) 1 [1] := rd_new (w1.alloc (.cells #[.int .u32 4294967295] 48)) .u32 48 [1] _ (World.size_alloc _ _)
  generalize ((w1.alloc (.cells #[.int .u32 4294967295] 48)).alloc (.cells #[.int .u32 1] 48)) = w2 at *
  refine (Add_ok _ _ 1 1 1 [4294967295] [1] w2 hr2 hr3 (by intro d hd; simp at hd; omega) (by intro d hd; simp at hd; omega) (by omega) (by omega)).mono ?_
  rintro e w3 ⟨A3, c, zs, rfl, hc, ⟨hr4, hf4, _, _, hb4⟩, hv4⟩
  obtain ⟨z0, rfl⟩ : ∃ z0, zs = [z0] := by
    have hl := hr4.1
    match zs, hl with
    | [z0], _ => exact ⟨z0, rfl⟩
  have hz0 := hf4 z0 (by simp)
  simp only [val] at hv4
  obtain rfl : c = 1 := by omega
  obtain rfl : z0 = 0 := by omega
  obtain ⟨ad3, rfl, _, hcs⟩ := hr4.2 (by omega)
  have c3 := hcs 0 0 rfl
  rw [add_zero_] at c3
  have B3 : Below w.heap.size w w3 := (below_then B1 hb2).trans (hb4.mono (below_then B1 hb2).size)
  have had : ad.block < w1.heap.size := by
    have := World.block_lt_of_cell? w1 _ C.out.1
    rwa [block_add] at this
  have k0 : w3.cell? ad = some (.int .u32 2) := by
    have h1 := hb4.cell (p := ad) (Nat.lt_of_lt_of_le had hb2.size)
    have h2 := hb2.cell (p := ad) had
    have h3 := C.out.1
    rw [add_zero_] at h3
    rw [h1, h2, h3]; rfl
  have k1 : w3.cell? (ad.add 1) = some (.int .u32 1) := by
    have h1 := hb4.cell (p := ad.add 1) (by rw [block_add]; exact Nat.lt_of_lt_of_le had hb2.size)
    have h2 := hb2.cell (p := ad.add 1) (by rw [block_add]; exact had)
    rw [h1, h2, C.out.2]; rfl
  rw [show ad.add 1 = ⟨ad.block, ad.off + 1, none⟩ by simp [Addr.add]] at k1
  clear hr2 hr3 hr4 hf4 hb4 hb2 hv4 hcs
  go_wp2
  go_ret
  exact ⟨rfl, B3⟩
end Go.Proofs.YtbajckbjjepceaaDoor
