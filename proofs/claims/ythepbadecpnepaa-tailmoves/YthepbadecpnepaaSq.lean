/-
  What span.Put, Get, Cut and Pad answer, over lists of numbers. No condition but that bytes are there and lengths small.
-/
import Derived.Test.YthepbadecpnepaaPv
import Derived.Test.YthepbadecpnepaaSp
import Derived.Test.YthepbadecpnepaaD2
namespace Go.Proofs.Ythepbadecpnepaa
open Go.RowKit
set_option linter.unusedVariables false
set_option linter.unusedSimpArgs false
set_option maxRecDepth 100000

theorem gapn_lt {n to : Nat} (h : 1 ≤ to) : gapn n to < to := Nat.mod_lt _ h
theorem toRight_yes (to : Nat) (w : World) (h1 : 1 ≤ to) (h2 : to ≤ 65536) : Calls Try.prog 46 #[.int .i64 (to : Int)] w fun e w' => e = .returned (.bool true) ∧ w = w' := by
  have z1 : (1 : Int) ≤ (to : Int) := by omega
  have z2 : (to : Int) ≤ 65536 := by omega
  go_enter Try.func46, Try.ntmps46
  go_wp2
  go_ret
  exact ⟨rfl, rfl⟩
theorem gap_any (n to : Nat) (w : World) (h0 : n ≤ 50000000) (h1 : 1 ≤ to) (h2 : to ≤ 65536) : Calls Try.prog 47 #[.int .i64 (n : Int), .int .i64 (to : Int)] w fun e w' => e = .returned (.int .i64 (gapn n to : Nat)) ∧ w = w' := by
  obtain ⟨q, hq⟩ : ∃ q, n % to = q := ⟨_, rfl⟩
  have hqz : (n : Int).tmod (to : Int) = (q : Int) := by rw [Int.tmod_eq_emod_of_nonneg (by omega), ← hq]; rfl
  have hql : q < to := by rw [← hq]; exact Nat.mod_lt _ (by omega)
  have hto : ¬ (to : Int) = 0 := by omega
  unfold gapn
  rw [hq]
  clear hq
  by_cases h : q = 0
  · subst h
    rw [Nat.sub_zero, Nat.mod_self]
    have e0 : ((0 : Nat) : Int) = 0 := rfl
    rw [e0] at hqz
    go_enter Try.func47, Try.ntmps47
    go_wp2
    go_ret
    exact ⟨rfl, rfl⟩
  · have e1 : ((q : Int) == 0) = false := beq_eq_false_iff_ne.2 (by omega)
    obtain ⟨r, hr⟩ : ∃ r, (to - q) % to = r := ⟨_, rfl⟩
    have hrz : (to : Int) - (q : Int) = (r : Int) := by rw [← hr, Nat.mod_eq_of_lt (by omega)]; omega
    rw [hr]
    clear hr
    go_enter Try.func47, Try.ntmps47
    go_wp2
    go_ret
    exact ⟨rfl, rfl⟩
set_option maxHeartbeats 1000000 in
theorem Pad_any (A : Option Addr) (n cap : Nat) (l : List Nat) (to : Nat) (w : World) (h : Rd .u8 w A n l) (hn : n ≤ 1000000) (h1 : 1 ≤ to) (h2 : to ≤ 65536) (k m : Nat) (hk : gapn n to = k) (hm : n + k = m) :
    Calls Try.prog 27 #[.slice A n cap, .int .i64 (to : Int)] w (GivesBT w m (l ++ List.replicate k 0)) := by
  have HR := Lib.hid h
  have hkl : k < to := by rw [← hk]; exact gapn_lt h1
  have HK := Lib.hid hk
  have HM := Lib.hid hm
  clear h hk hm
  go_enter Try.func27, Try.ntmps27
  go_wp2_with fail
  refine (toRight_yes to w h1 h2).mono ?_
  rintro e w1 ⟨rfl, rfl⟩
  go_wp2_with fail
  refine (gap_any n to w (by omega) h1 h2).mono ?_
  rintro e w1 ⟨rfl, rfl⟩
  rw [HK.out]
  go_wp2_with fail
  refine (longer_any A n cap l k w HR.out m HM.out (by have := HM.out; omega)).mono ?_
  rintro e w1 ⟨g, rfl, hg, hB, hb⟩
  have HB := Lib.hid hB
  clear hB
  go_wp2
  go_ret2
  exact ⟨g, rfl, hg, HB.out, hb⟩

def ints (l : List Nat) : List Int := l.map fun (x : Nat) => (x : Int)
theorem ints_bytes {l : List Nat} (h : Fit 256 l) : Go.Proofs.YthepbadecpnepaaSp.AreBytes (ints l) := by
  intro x hx
  obtain ⟨y, hy, rfl⟩ := List.mem_map.1 hx
  have := h y hy
  omega
theorem Rd.seg {w : World} {A : Option Addr} {n : Nat} {l : List Nat} (h : Rd .u8 w A n l) (hf : Fit 256 l) : Go.Proofs.YthepbadecpnepaaSp.Seg w A n (ints l) :=
  ⟨by simp [ints, h.1], ints_bytes hf, fun hn => by
    obtain ⟨ad, e, hlt, hc⟩ := h.2 hn
    refine ⟨ad, e, hlt, fun j hj => ?_⟩
    obtain ⟨x, hx⟩ := get_some (l := l) (i := j) (by rw [h.1]; exact hj)
    rw [hc j x hx]
    simp [ints, List.getD, hx]⟩
theorem own_blk {w : World} {g : Nat} {l : List Nat} (h : Go.Proofs.YthepbadecpnepaaSp.Own w g (ints l)) : Blk w g 5 (cn .u8 l) := by
  have := h.2
  have e : Go.Proofs.YthepbadecpnepaaSp.cellsOfBytes (ints l) = cn .u8 l := by simp [Go.Proofs.YthepbadecpnepaaSp.cellsOfBytes, ints, cn, Function.comp_def]
  rw [e] at this
  exact this
theorem be_ints : ∀ (s x : Nat), Go.Proofs.YthepbadecpnepaaSp.be s (x : Int) = ints (be s x)
  | 0, x => rfl
  | s + 1, x => by
    have ih := be_ints s (x / 256)
    have e : Go.Proofs.YthepbadecpnepaaSp.be (s + 1) (x : Int) = Go.Proofs.YthepbadecpnepaaSp.be s ((x / 256 : Nat) : Int) ++ [((x % 256 : Nat) : Int)] := by
      simp only [Go.Proofs.YthepbadecpnepaaSp.be, List.range_succ, List.map_append, List.map_cons, List.map_nil]
      congr 1
      · apply List.map_congr_left
        intro j hj
        have hj := List.mem_range.1 hj
        obtain ⟨k, hk⟩ : ∃ k, s - 1 - j = k := ⟨_, rfl⟩
        have hk2 : s + 1 - 1 - j = k + 1 := by omega
        rw [hk, hk2, show 8 * (k + 1) = 8 + 8 * k by omega, Int.pow_add, ← Int.ediv_ediv_of_nonneg (by decide)]
        congr 1
      · simp
    rw [e, ih, be]
    simp [ints]
theorem num_ints (l : List Nat) : Go.Proofs.YthepbadecpnepaaSp.num (ints l) = ((num l : Nat) : Int) := by
  have key : ∀ (l : List Nat) (a : Nat), (ints l).foldl (fun n x => n * 256 + x) (a : Int) = ((l.foldl (fun n x => n * 256 + x) a : Nat) : Int) := by
    intro l
    induction l with
    | nil => intro a; simp [ints]
    | cons x l ih =>
      intro a
      have e : ints (x :: l) = (x : Int) :: ints l := rfl
      rw [e, List.foldl_cons, List.foldl_cons, show (a : Int) * 256 + (x : Int) = ((a * 256 + x : Nat) : Int) by omega, ih]
  exact key l 0
theorem shr_zero {s x : Nat} (h1 : 1 ≤ s) (h2 : s ≤ 8) (hx : x < 256 ^ s) : ((x : Int) / 2 ^ (8 * (s : Int)).toNat != 0) = false := by
  have e : (8 * (s : Int)).toNat = 8 * s := by omega
  have e2 : (2 : Int) ^ (8 * s) = ((256 ^ s : Nat) : Int) := by rw [show (256 : Nat) = 2 ^ 8 from rfl, ← Nat.pow_mul, Int.natCast_pow]; rfl
  rw [e, e2, ← Int.natCast_ediv, Nat.div_eq_of_lt hx]
  rfl
/-- A number put behind bytes. -/
theorem Put_n (A : Option Addr) (k cap : Nat) (l : List Nat) (s x : Nat) (z y : Int) (hz : z = s) (hy : y = x) (h1 : 1 ≤ s) (h2 : s ≤ 8) (hx : x < 256 ^ s) (hx2 : x ≤ 9223372036854775807) (w : World) (h : Rd .u8 w A k l) (hf : Fit 256 l) (hk : k ≤ 90000) (m : Nat) (hm : m = k + s) :
    Calls Try.prog 25 #[.slice A k cap, .int .i64 z, .int .i64 y] w fun e w' => e = .returned (.tuple #[.slice (some ⟨w.heap.size, 0, none⟩) m m, .int .i64 0]) ∧ Blk w' w.heap.size 5 (cn .u8 (l ++ be s x)) ∧ Below w.heap.size w w' := by
  subst hz hy
  refine (Go.Proofs.YthepbadecpnepaaSp.Put_ok A k cap (ints l) s x w (h.seg hf) hk (by omega) (by omega) (by omega) (by omega) (shr_zero h1 h2 hx) m (by omega)).mono ?_
  rintro e w' ⟨he, hl, ho, hb⟩
  refine ⟨he, own_blk (l := l ++ be s x) ?_, hb⟩
  have e1 : ints l ++ Go.Proofs.YthepbadecpnepaaSp.be ((s : Int)).toNat (x : Int) = ints (l ++ be s x) := by
    rw [Int.toNat_natCast, be_ints]; simp [ints]
  rw [e1] at ho
  exact ho
theorem ints_sl (l : List Nat) (o s : Nat) : ((ints l).drop ((o : Int)).toNat).take ((s : Int)).toNat = ints (sl l o s) := by
  rw [Int.toNat_natCast, Int.toNat_natCast]
  simp [ints, sl, List.map_take, List.map_drop]
/-- A number got, if it lies within and is no greater than an int. -/
theorem Get_ok (A : Option Addr) (n cap : Nat) (l : List Nat) (o s : Nat) (z y : Int) (hz : z = o) (hy : y = s) (h1 : 1 ≤ s) (h2 : s ≤ 8) (w : World) (h : Rd .u8 w A n l) (hf : Fit 256 l) (hn : n ≤ 100000) (hc : n ≤ cap) (hm : cap ≤ 9223372036854775807) (hw : o + s ≤ n) (hb : num (sl l o s) ≤ 9223372036854775807) :
    Calls Try.prog 30 #[.slice A n cap, .int .i64 z, .int .i64 y] w fun e w' => e = .returned (.tuple #[.int .i64 ((num (sl l o s) : Nat) : Int), .int .i64 0]) ∧ w = w' := by
  subst hz hy
  have := Go.Proofs.YthepbadecpnepaaSp.Get_num A n cap (ints l) o s w (h.seg hf) hn hc (by unfold maxLen; omega) (by omega) (by omega) ⟨by omega, by omega, by omega, by omega⟩
  rw [ints_sl, num_ints] at this
  have e2 : Go.Proofs.YthepbadecpnepaaSp.getEnd ((num (sl l o s) : Nat) : Int) = .tuple #[.int .i64 ((num (sl l o s) : Nat) : Int), .int .i64 0] := by
    unfold Go.Proofs.YthepbadecpnepaaSp.getEnd
    rw [if_neg (by omega)]
  rw [e2] at this
  exact this
theorem Get_big (A : Option Addr) (n cap : Nat) (l : List Nat) (o s : Nat) (z y : Int) (hz : z = o) (hy : y = s) (h1 : 1 ≤ s) (h2 : s ≤ 8) (w : World) (h : Rd .u8 w A n l) (hf : Fit 256 l) (hn : n ≤ 100000) (hc : n ≤ cap) (hm : cap ≤ 9223372036854775807) (hw : o + s ≤ n) (hb : ¬ num (sl l o s) ≤ 9223372036854775807) :
    Calls Try.prog 30 #[.slice A n cap, .int .i64 z, .int .i64 y] w fun e w' => e = .returned (.tuple #[.int .i64 0, .int .i64 11]) ∧ w = w' := by
  subst hz hy
  have := Go.Proofs.YthepbadecpnepaaSp.Get_num A n cap (ints l) o s w (h.seg hf) hn hc (by unfold maxLen; omega) (by omega) (by omega) ⟨by omega, by omega, by omega, by omega⟩
  rw [ints_sl, num_ints] at this
  have e2 : Go.Proofs.YthepbadecpnepaaSp.getEnd ((num (sl l o s) : Nat) : Int) = .tuple #[.int .i64 0, .int .i64 11] := by
    unfold Go.Proofs.YthepbadecpnepaaSp.getEnd
    rw [if_pos (by omega)]
  rw [e2] at this
  exact this
theorem Get_out (A : Option Addr) (n cap : Nat) (o s : Nat) (z y : Int) (hz : z = o) (hy : y = s) (h1 : 1 ≤ s) (h2 : s ≤ 8) (w : World) (hn : n ≤ 100000) (ho : o ≤ 9223372036854775807) (hw : ¬ o + s ≤ n) :
    Calls Try.prog 30 #[.slice A n cap, .int .i64 z, .int .i64 y] w fun e w' => e = .returned (.tuple #[.int .i64 0, .int .i64 10]) ∧ w = w' := by
  subst hz hy
  exact Go.Proofs.YthepbadecpnepaaSp.Get_end A n cap o s w (by omega) (by omega) hn (by omega) (fun h => hw (by have := h.2.2.2; omega))
theorem Cut_no (A : Option Addr) (n cap : Nat) (o : Nat) (m : Nat) (z y : Int) (hz : z = o) (hy : y = m) (w : World) (hn : n ≤ 100000) (ho : o ≤ 9223372036854775807) (hm : m ≤ 9223372036854775807) (hw : ¬ o + m ≤ n) :
    Calls Try.prog 36 #[.slice A n cap, .int .i64 z, .int .i64 y] w fun e w' => e = .returned (.tuple #[.slice none 0 0, .int .i64 10]) ∧ w = w' := by
  subst hz hy
  go_enter Try.func36, Try.ntmps36
  go_wp2_with fail
  refine (Within_no o m n w (by unfold Lies; omega) (by omega) (by omega) (by omega)).mono ?_
  rintro e w1 ⟨rfl, rfl⟩
  go_wp2
  go_ret2
  exact ⟨rfl, rfl⟩
end Go.Proofs.Ythepbadecpnepaa
