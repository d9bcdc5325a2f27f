/-
  The program's inverse, addRow and the library's Clone: what they answer of limbs in memory.
-/
import Derived.Test.YtojpbfkdkkdpcaaDoorPure6
import Derived.Test.YtojpbfkdkkdpcaaDoorProg6
import Derived.Laws.CopyOwn
import Derived.Lib.SliceRun
namespace Go.Proofs.YtojpbfkdkkdpcaaDoor
set_option maxRecDepth 100000
open Go.RowKit
set_option linter.unusedVariables false
set_option linter.unusedSimpArgs false

def GivesInv (x : Nat) (w : World) (e : Ending) (w' : World) : Prop := ∃ y : Nat, e = .returned (.int .u32 (y : Int)) ∧ y < 4294967296 ∧ (4294967296 : Int) ∣ (x : Int) * y - 1 ∧ w = w'

set_option maxHeartbeats 1000000 in
theorem inverse_any (x : Nat) (hx : x < 4294967296) (ho : x % 2 = 1) (w : World) :
    Calls Tryd.prog 55 #[.int .u32 (x : Int)] w (GivesInv x w) := by
  have hst : (8 : Int) ∣ (x : Int) * x - 1 := inv_start (by omega)
  have HST := Lib.hid hst
  clear hst ho
  go_enter Tryd.func55, Tryd.ntmps55
  go_wp2
  go_loop [3, 4] (fun yy rr => ∃ (j y r : Nat), j ≤ 4 ∧ y < 4294967296 ∧ r ≤ 48 ∧ yy = .int .u32 (y : Int) ∧ rr = .int .i64 (r : Int) ∧ Hid (r = 3 * 2 ^ j) ∧ Hid (rgt j ∣ (x : Int) * y - 1)) (fun _ rr => 48 - (intOf rr).toNat)
  case atStart => exact ⟨0, x, 3, by omega, hx, by omega, rfl, rfl, rfl, HST.out⟩
  case round =>
    obtain ⟨j, y, r, hj, hy, hr, rfl, rfl, HRR, HD⟩ := hrel
    by_cases hlt : r < 32
    · have hj4 : j < 4 := by
        have := HRR.out
        rcases (by omega : j < 4 ∨ j = 4) with h | rfl
        · exact h
        · omega
      have hr1 : 3 ≤ r := by
        have := HRR.out
        have : 1 ≤ 2 ^ j := Nat.two_pow_pos j
        omega
      have hr2 : r ≤ 24 := by
        have := HRR.out
        rcases (by omega : j = 0 ∨ j = 1 ∨ j = 2 ∨ j = 3) with rfl | rfl | rfl | rfl <;> simp at this <;> omega
      go_wp2
      have hnn := Int.emod_nonneg ((y : Int) * ((2 - (x : Int) * y % 4294967296) % 4294967296)) (by omega : (4294967296 : Int) ≠ 0)
      have hlt2 := Int.emod_lt_of_pos ((y : Int) * ((2 - (x : Int) * y % 4294967296) % 4294967296)) (by omega : (0 : Int) < 4294967296)
      obtain ⟨y', hy'⟩ : ∃ y' : Nat, (y' : Int) = ((y : Int) * ((2 - (x : Int) * y % 4294967296) % 4294967296)) % 4294967296 := ⟨_, Int.toNat_of_nonneg hnn⟩
      go_round
      case rel =>
        refine ⟨j + 1, y', r * 2, by omega, by omega, by omega, by rw [hy', show (2 - (x : Int) * y % 4294967296) % 4294967296 = (2 - (x : Int) * y) % 4294967296 by omega], by go_num, ?_, ?_⟩
        · show r * 2 = 3 * 2 ^ (j + 1)
          rw [Nat.pow_succ, HRR.out, Nat.mul_assoc]
        · exact inv_next hj4 HD.out hy'
      case measure => simp [intOf]; omega
    · have hj4 : j = 4 := by
        have := HRR.out
        rcases (by omega : j = 0 ∨ j = 1 ∨ j = 2 ∨ j = 3 ∨ j = 4) with rfl | rfl | rfl | rfl | rfl <;> simp at this <;> omega
      subst hj4
      go_wp2
      go_ret
      exact ⟨y, rfl, hy, HD.out, rfl⟩

/-- A row that was added to block g. -/
def Added (w : World) (g n V : Nat) (e : Ending) (w' : World) : Prop :=
  ∃ O, e = .returned (.tuple #[]) ∧ O.length = n + 2 ∧ Fit 4294967296 O ∧ val 4294967296 O = V ∧ Blk w' g 73 (cn .u32 O) ∧ w.grownBy w' (some g)

set_option maxHeartbeats 4000000 in
theorem addRow_any (g n m cap : Nat) (A' : Option Addr) (cap' : Nat) (O la : List Nat) (x : Nat) (w : World) (hB : Blk w g 73 (cn .u32 O)) (hO : Fit 4294967296 O) (hl : O.length = n + 2) (hm : m = n + 2) (h' : Rd .u32 w A' n la) (hf' : Fit 4294967296 la) (hne : ∀ ad, A' = some ad → ad.block ≠ g) (hx : x < 4294967296) (hn : n ≤ 1000)
    (hT : val 4294967296 O + x * val 4294967296 la < 4294967296 ^ (n + 2)) :
    Calls Tryd.prog 83 #[.slice (some ⟨g, 0, none⟩) m cap, .slice A' n cap', .int .u32 (x : Int)] w (Added w g n (val 4294967296 O + x * val 4294967296 la)) := by
  have HR := Lib.hid h'
  have HB := Lib.hid hB
  have HL := Lib.hid hl
  have HNE := Lib.hid hne
  have HT := Lib.hid hT
  have hm1 : n + 1 < m := by omega
  have HM := Lib.hid hm
  clear h' hB hl hne hT hm
  go_enter Tryd.func83, Tryd.ntmps83
  go_wp2
  go_loopw [6, 11] (fun cc i wr => ∃ (k c : Nat) (O' : List Nat), k ≤ n ∧ c < 4294967296 ∧ i = .int .i64 (k : Int) ∧ cc = .int .u64 (c : Int) ∧ Hid (O'.length = n + 2 ∧ Fit 4294967296 O' ∧ val 4294967296 O' + 4294967296 ^ k * c = val 4294967296 O + x * val 4294967296 (la.take k)) ∧ Hid (Blk wr g 73 (cn .u32 O')) ∧ w.grownBy wr (some g)) (fun _ i _ => n - (intOf i).toNat)
  case atStart => exact ⟨0, 0, O, by omega, by omega, rfl, rfl, ⟨HL.out, hO, by simp [val]⟩, HB, World.grownBy.refl w _⟩
  case round =>
    obtain ⟨k, c, O', hk, hc, rfl, rfl, HI, HB', hgr⟩ := hrel
    by_cases hkn : k < n
    · obtain ⟨ad, y, rfl, hy, hcell⟩ := (HR.out.grown hgr HNE.out).get (j := k) (by omega)
      have hy1 := hf'.get hy
      obtain ⟨o, ho⟩ := get_some (l := O') (i := k) (by rw [HI.out.1]; omega)
      have ho1 := HI.out.2.1.get ho
      have hoc := (HB'.out.cell k).trans (cn_get ho)
      have hof := HB'.out.frozen k
      have hm0 : x * y ≤ 4294967295 * 4294967295 := Nat.mul_le_mul (by omega) (by omega)
      obtain ⟨p, hp⟩ : ∃ p, p = x * y := ⟨_, rfl⟩
      have hp1 : (x : Int) * y = (p : Int) := by rw [hp, Int.natCast_mul]
      have hp2 : (p : Int) ≤ 18446744065119617025 := by omega
      have hst := row_step HI.out.2.2 ho (o + c + p) (by rw [dig_some hy, hp])
      have HST := Lib.hid hst
      have HO := Lib.hid ho
      clear hm0 hp hst ho hy
      go_wp2
      have es : ((c : Int) + ((p : Int) + o)) % 4294967296 = (((o + c + p) % 4294967296 : Nat) : Int) := by omega
      have ec : ((c : Int) + ((p : Int) + o)) / 4294967296 = (((o + c + p) / 4294967296 : Nat) : Int) := by omega
      have ES := Lib.hid es
      have EC := Lib.hid ec
      clear es ec
      go_roundw
      case rel =>
        refine ⟨k + 1, (o + c + p) / 4294967296, O'.set k ((o + c + p) % 4294967296), by omega, by omega, by go_num, by rw [EC.out], ⟨by simp [HI.out.1], HI.out.2.1.set _ _ (Nat.mod_lt _ (by omega)), HST.out⟩, ?_, only_setCell hgr (.inl rfl) _⟩
        have := HB'.out.set_ k (.int .u32 (((o + c + p) % 4294967296 : Nat) : Int))
        rw [cn_set] at this
        rw [ES.out]
        exact this
      case measure => simp [intOf]; omega
    · obtain rfl : k = n := by omega
      obtain ⟨o1, ho1⟩ := get_some (l := O') (i := k) (by rw [HI.out.1]; omega)
      obtain ⟨o2, ho2⟩ := get_some (l := O') (i := k + 1) (by rw [HI.out.1]; omega)
      have hv := HI.out.2.2
      rw [List.take_of_length_le (l := la) (by rw [HR.out.1]; omega)] at hv
      obtain ⟨hlt, hend⟩ := row_end (B := 4294967296) (by omega) hv HT.out ho1 ho2 (c + o1) rfl
      have b1 := HI.out.2.1.get ho1
      have b2 := HI.out.2.1.get ho2
      have hoc1 := (HB'.out.cell k).trans (cn_get ho1)
      have hof1 := HB'.out.frozen k
      have hoc2 := (HB'.out.cell (k + 1)).trans (cn_get ho2)
      have hof2 := HB'.out.frozen (k + 1)
      have HE := Lib.hid hend
      have HLT := Lib.hid hlt
      clear hend hv ho1 ho2 hlt
      go_wp2
      go_end0
      have es : ((c : Int) + o1) % 4294967296 = (((c + o1) % 4294967296 : Nat) : Int) := by omega
      have ec : ((o2 : Int) + ((c : Int) + o1) / 4294967296) % 4294967296 = ((o2 + (c + o1) / 4294967296 : Nat) : Int) := by have := HLT.out; omega
      have hb3 := (HB'.out.set_ k (.int .u32 (((c + o1) % 4294967296 : Nat) : Int))).set_ (k + 1) (.int .u32 ((o2 + (c + o1) / 4294967296 : Nat) : Int))
      rw [cn_set, cn_set] at hb3
      refine ⟨_, rfl, ?_, ?_, HE.out, ?_, only_setCell (only_setCell hgr (.inl rfl) _) (.inl rfl) _⟩
      · simp [HI.out.1]
      · exact (HI.out.2.1.set _ _ (Nat.mod_lt _ (by omega))).set _ _ HLT.out
      · first
        | (rw [es, ec]; exact hb3)
        | (rw [es]; exact hb3)

/-- An answer: a number of k limbs; what was there before is as it was. -/
def Elem (w : World) (k x : Nat) (e : Ending) (w' : World) : Prop :=
  ∃ A c l, e = .returned (.slice A k c) ∧ Rd .u32 w' A k l ∧ Fit 4294967296 l ∧ val 4294967296 l = x ∧ Below w.heap.size w w'

theorem own_empty (w : World) (e : TypeId) : Row (w.alloc (.cells #[] e)) w.heap.size e (some ⟨w.heap.size, 0, none⟩) 0 0 [] :=
  World.ownsRow_made w #[] 0 (Nat.le_refl _) (Nat.zero_le _) (by simp)

set_option maxRecDepth 100000 in
set_option maxHeartbeats 1000000 in
theorem Clone_any (A : Option Addr) (n cap : Nat) (l : List Nat) (w : World) (h : Rd .u32 w A n l) (hf : Fit 4294967296 l) (hn1 : 1 ≤ n) (hn : n ≤ 1000) :
    Calls Tryd.prog 54 #[.slice A n cap] w (Elem w n (val 4294967296 l)) := by
  obtain ⟨ad, rfl, hlt, hcs⟩ := h.2 (by omega)
  obtain ⟨i0, hi, hz0, hz1, hz2⟩ := info_parts wordInfo
  have HR := Lib.hid h
  have HC := Lib.hid hcs
  have HI := Lib.hid (And.intro hi (And.intro hz0 (And.intro hz1 hz2)))
  have hsrc : (some ad = none ∧ cap = 0) ∨ ∃ ad', some ad = some ad' ∧ ∀ j u, (cn .u32 l)[j]? = some u → (w.alloc (.cells #[] 73)).cell? (ad'.add j) = some u := by
    refine .inr ⟨ad, rfl, fun j u hu => ?_⟩
    simp only [cn, List.getElem?_map] at hu
    cases hj : l[j]? with
    | none => rw [hj] at hu; cases hu
    | some x =>
      rw [hj] at hu
      injection hu with hu
      rw [← hu]
      exact Lib.cell?_alloc_some _ (hcs j x hj)
  have HS := Lib.hid hsrc
  clear h hcs hi hz0 hz1 hz2 hsrc
  have q23 : (binOp .eql 45 (.slice (some ad) n cap) (.slice none 0 0)).run Tryd.prog w = .ok (.bool false) w := Lib.run_eql_slice_nil w _ _ _ _ _ _ _ Tryd.underlying45
  go_enter Tryd.func54, Tryd.ntmps54
  go_wp2_with (first
    | ((with_reducible refine at_dst (some 7) ?_); refine wpList_app (o := ⟨some 7, _, _, _, _, _⟩) rfl (.tmp 5) (.tmp 6) 45 73 rfl Tryd.underlying45 HI.out.1 HI.out.2.1 HI.out.2.2.1 HI.out.2.2.2 rfl (by omega) ((Below.refl w.heap.size w).alloc (Nat.le_refl _) _) (by simp) rfl (own_empty w 73) rfl (by rw [cn_length, HR.out.1]) HS.out (cn_one _ _) (fun e => by cases e) (by omega) n (by omega) ?_; intro A2 c2 w2 HRow hbe hB))
  go_ret
  have hr := HRow.out.rd (l := l) 
  exact ⟨A2, c2, l, rfl, hr, hf, rfl, hbe⟩
end Go.Proofs.YtojpbfkdkkdpcaaDoor
