/-
  The program's Add and Sub: what they answer of limbs in memory.
-/
import Derived.Test.YtojpbfkdkkdpcaaDoorProg2
import Derived.RegionTactic
import Derived.Deep.RegionHeld3
namespace Go.Proofs.YtojpbfkdkkdpcaaDoor
set_option maxRecDepth 100000
open Go.RowKit
set_option linter.unusedVariables false
set_option linter.unusedSimpArgs false

/-- A call's answer: limbs of a new block; what was there before is as it was. -/
def Limbs (w w' : World) (A : Option Addr) (n cap : Nat) (l : List Nat) : Prop := Rd .u32 w' A n l ∧ Fit 4294967296 l ∧ n ≤ cap ∧ cap ≤ maxLen ∧ Below w.heap.size w w'

theorem below_drew1 {B : Nat} {a w : World} (h : Below B a w) : Below B a w.drew := ⟨h.os, h.tape, h.output, h.size, h.block⟩
/-- One number more in a block that is filled from its beginning on. -/
theorem blk_next {k : IntKind} {w U : World} {g i n d : Nat} {e : TypeId} {ys : List Nat} (h : Blk w g e (cn k (ys ++ List.replicate (n - i) 0))) (hl : ys.length = i) (hi : i < n) (hU : U.heap = w.heap) :
    Blk (U.setCell ⟨g, i, none⟩ (.int k (d : Int))) g e (cn k ((ys ++ [d]) ++ List.replicate (n - (i + 1)) 0)) := by
  obtain ⟨p, hp⟩ : ∃ p, n - i = p + 1 := ⟨n - i - 1, by omega⟩
  rw [hp] at h
  have hu : Blk U g e (cn k (ys ++ List.replicate (p + 1) 0)) := by unfold Blk; rw [hU]; exact h
  have := hu.set_ i (.int k (d : Int))
  have e2 := set_end ys p d
  rw [hl] at e2
  rwa [cn_set, e2, show p = n - (i + 1) by omega] at this

set_option maxHeartbeats 4000000 in
theorem Add_ok (A A' : Option Addr) (n cap cap' : Nat) (la lb : List Nat) (w : World) (h : Rd .u32 w A n la) (h' : Rd .u32 w A' n lb) (hf : Fit 4294967296 la) (hf' : Fit 4294967296 lb) (hn : 1 ≤ n) (hn2 : n ≤ 256) :
    Calls Tryd.prog 80 #[.slice A n cap, .slice A' n cap'] w fun e w' => ∃ A1 c zs, e = .returned (.tuple #[.slice A1 n n, .bool (c == 1), .int .i64 0]) ∧ c ≤ 1 ∧ Limbs w w' A1 n n zs ∧ val 4294967296 zs + 4294967296 ^ n * c = val 4294967296 la + val 4294967296 lb := by
  have HR := Lib.hid h
  have HR' := Lib.hid h'
  have hok : ([(A, n, cap), (A', n, cap')].all fun p => okW p.2.1) = true := by simp [okW, hn, hn2]
  have HOK := Lib.hid hok
  clear h h' hok
  go_enter Tryd.func80, Tryd.ntmps80
  go_wp2_with fail
  refine (areNumbers_any _ 2 2 _ _ (Lists.new2 w A n cap A' n cap') rfl (by omega)).mono ?_
  rintro e w1 ⟨rfl, rfl⟩
  rw [HOK.out]
  have hb0 : Below w.heap.size w (w.alloc (.cells #[.slice A n cap, .slice A' n cap'] 45)) := (Below.refl _ _).alloc (Nat.le_refl _) _
  have HS0 : Hid (w.heap.size ≤ (w.alloc (.cells #[.slice A n cap, .slice A' n cap'] 45)).heap.size) := hb0.size
  generalize (w.alloc (.cells #[.slice A n cap, .slice A' n cap'] 45)) = w0 at *
  go_wp2_with (first
    | ((with_reducible refine at_dst (some 23) ?_); refine wpList_makeNums (o := ⟨some 23, _, _, _, _, _⟩) rfl (.tmp 22) (.tmp 22) 45 73 rfl .u32 4 Tryd.underlying45 wordInfo (by omega) _ _ rfl rfl n rfl (by omega) ?_; intro w1 hb1 hbel1 hs1))
  go_loopw [7, 26] (fun cc i wr => ∃ (k c : Nat) (ys : List Nat), k ≤ n ∧ c ≤ 1 ∧ i = .int .i64 (k : Int) ∧ cc = .int .u32 (c : Int) ∧ Hid (ys.length = k ∧ Fit 4294967296 ys ∧ val 4294967296 ys + 4294967296 ^ k * c = val 4294967296 (la.take k) + val 4294967296 (lb.take k)) ∧ Hid (Blk wr w0.heap.size 73 (cn .u32 (ys ++ List.replicate (n - k) 0))) ∧ Below w0.heap.size w0 wr) (fun _ i _ => n - (intOf i).toNat)
  case atStart => exact ⟨0, 0, [], by omega, by omega, rfl, rfl, ⟨rfl, Fit.nil _, by simp [val]⟩, by simpa using hb1, hbel1⟩
  case round =>
    obtain ⟨k, c, ys, hk, hc, rfl, rfl, HI, HB, hbe⟩ := hrel
    by_cases hkn : k < n
    · have hR2 := (HR.out.below hb0).below hbe
      have hR2' := (HR'.out.below hb0).below hbe
      obtain ⟨ad, x, rfl, hx, hcell⟩ := hR2.get (j := k) (by omega)
      obtain ⟨ad', y, rfl, hy, hcell'⟩ := hR2'.get (j := k) (by omega)
      have hx1 := hf.get hx
      have hy1 := hf'.get hy
      obtain ⟨p, hp⟩ : ∃ p, n - k = p + 1 := ⟨n - k - 1, by omega⟩
      have hold := HB.out
      rw [hp] at hold
      have hoc := (hold.cell ys.length).trans (cn_get (get_end ys p))
      have hof := hold.frozen ys.length
      rw [HI.out.1] at hoc hof
      have HX := Lib.hid hx
      have HY := Lib.hid hy
      clear hR2 hR2' hold hp hx hy
      go_wp2
      go_region_law (first | (go_simp; go_at_call 94; refine (Add32_any x y c hx1 hy1 hc _).mono ?_; rintro e w' ⟨rfl, rfl⟩))
      all_goals
        have es : ((x : Int) + y + c) % 4294967296 = (((x + y + c) % 4294967296 : Nat) : Int) := by omega
        have ec : ((x : Int) + y + c) / 4294967296 = (((x + y + c) / 4294967296 : Nat) : Int) := by omega
        have ES := Lib.hid es
        have EC := Lib.hid ec
        clear es ec
        go_wp2
        go_roundw
        case rel =>
          refine ⟨k + 1, (x + y + c) / 4294967296, ys ++ [(x + y + c) % 4294967296], by omega, by omega, by go_num, by rw [EC.out], ⟨by simp [HI.out.1], HI.out.2.1.append (Fit.one (Nat.mod_lt _ (by omega))), add_step HI.out.1 HI.out.2.2 _ (by rw [dig_some HX.out, dig_some HY.out]; omega)⟩, ?_, ?_⟩
          · rw [ES.out]
            refine blk_next HB.out HI.out.1 (by omega) ?_
            rfl
          · exact (below_drew1 hbe).setCell (Nat.le_refl _) _
        case measure => simp [intOf]; omega
    · obtain rfl : k = n := by omega
      rcases Nat.lt_or_ge 0 c with hc1 | hc0
      · obtain rfl : c = 1 := by omega
        go_wp2
        go_ret3
        have hb2 := HB.out
        rw [Nat.sub_self, List.replicate_zero, List.append_nil] at hb2
        have hv := HI.out.2.2
        rw [List.take_of_length_le (l := la) (by rw [HR.out.1]; omega), List.take_of_length_le (l := lb) (by rw [HR'.out.1]; omega)] at hv
        exact ⟨_, 1, ys, rfl, by omega, ⟨hb2.rd _ HI.out.1, HI.out.2.1, Nat.le_refl _, by unfold maxLen; omega, below_then hb0 hbe⟩, hv⟩
      · obtain rfl : c = 0 := by omega
        go_wp2
        go_ret3
        have hb2 := HB.out
        rw [Nat.sub_self, List.replicate_zero, List.append_nil] at hb2
        have hv := HI.out.2.2
        rw [List.take_of_length_le (l := la) (by rw [HR.out.1]; omega), List.take_of_length_le (l := lb) (by rw [HR'.out.1]; omega)] at hv
        exact ⟨_, 0, ys, rfl, by omega, ⟨hb2.rd _ HI.out.1, HI.out.2.1, Nat.le_refl _, by unfold maxLen; omega, below_then hb0 hbe⟩, hv⟩
set_option maxHeartbeats 4000000 in
theorem Sub_ok (A A' : Option Addr) (n cap cap' : Nat) (la lb : List Nat) (w : World) (h : Rd .u32 w A n la) (h' : Rd .u32 w A' n lb) (hf : Fit 4294967296 la) (hf' : Fit 4294967296 lb) (hn : 1 ≤ n) (hn2 : n ≤ 256) :
    Calls Tryd.prog 95 #[.slice A n cap, .slice A' n cap'] w fun e w' => ∃ A1 c zs, e = .returned (.tuple #[.slice A1 n n, .bool (c == 1), .int .i64 0]) ∧ c ≤ 1 ∧ Limbs w w' A1 n n zs ∧ val 4294967296 zs + val 4294967296 lb = val 4294967296 la + 4294967296 ^ n * c := by
  have HR := Lib.hid h
  have HR' := Lib.hid h'
  have hok : ([(A, n, cap), (A', n, cap')].all fun p => okW p.2.1) = true := by simp [okW, hn, hn2]
  have HOK := Lib.hid hok
  clear h h' hok
  go_enter Tryd.func95, Tryd.ntmps95
  go_wp2_with fail
  refine (areNumbers_any _ 2 2 _ _ (Lists.new2 w A n cap A' n cap') rfl (by omega)).mono ?_
  rintro e w1 ⟨rfl, rfl⟩
  rw [HOK.out]
  have hb0 : Below w.heap.size w (w.alloc (.cells #[.slice A n cap, .slice A' n cap'] 45)) := (Below.refl _ _).alloc (Nat.le_refl _) _
  have HS0 : Hid (w.heap.size ≤ (w.alloc (.cells #[.slice A n cap, .slice A' n cap'] 45)).heap.size) := hb0.size
  generalize (w.alloc (.cells #[.slice A n cap, .slice A' n cap'] 45)) = w0 at *
  go_wp2_with (first
    | ((with_reducible refine at_dst (some 23) ?_); refine wpList_makeNums (o := ⟨some 23, _, _, _, _, _⟩) rfl (.tmp 22) (.tmp 22) 45 73 rfl .u32 4 Tryd.underlying45 wordInfo (by omega) _ _ rfl rfl n rfl (by omega) ?_; intro w1 hb1 hbel1 hs1))
  go_loopw [7, 26] (fun cc i wr => ∃ (k c : Nat) (ys : List Nat), k ≤ n ∧ c ≤ 1 ∧ i = .int .i64 (k : Int) ∧ cc = .int .u32 (c : Int) ∧ Hid (ys.length = k ∧ Fit 4294967296 ys ∧ val 4294967296 ys + val 4294967296 (lb.take k) = val 4294967296 (la.take k) + 4294967296 ^ k * c) ∧ Hid (Blk wr w0.heap.size 73 (cn .u32 (ys ++ List.replicate (n - k) 0))) ∧ Below w0.heap.size w0 wr) (fun _ i _ => n - (intOf i).toNat)
  case atStart => exact ⟨0, 0, [], by omega, by omega, rfl, rfl, ⟨rfl, Fit.nil _, by simp [val]⟩, by simpa using hb1, hbel1⟩
  case round =>
    obtain ⟨k, c, ys, hk, hc, rfl, rfl, HI, HB, hbe⟩ := hrel
    by_cases hkn : k < n
    · have hR2 := (HR.out.below hb0).below hbe
      have hR2' := (HR'.out.below hb0).below hbe
      obtain ⟨ad, x, rfl, hx, hcell⟩ := hR2.get (j := k) (by omega)
      obtain ⟨ad', y, rfl, hy, hcell'⟩ := hR2'.get (j := k) (by omega)
      have hx1 := hf.get hx
      have hy1 := hf'.get hy
      obtain ⟨p, hp⟩ : ∃ p, n - k = p + 1 := ⟨n - k - 1, by omega⟩
      have hold := HB.out
      rw [hp] at hold
      have hoc := (hold.cell ys.length).trans (cn_get (get_end ys p))
      have hof := hold.frozen ys.length
      rw [HI.out.1] at hoc hof
      have HX := Lib.hid hx
      have HY := Lib.hid hy
      clear hR2 hR2' hold hp hx hy
      obtain ⟨d, hd⟩ : ∃ d, d = x + 4294967296 * under x y c - y - c := ⟨_, rfl⟩
      obtain ⟨u, hu⟩ : ∃ u, u = under x y c := ⟨_, rfl⟩
      have r := Sub32_any x y c hx1 hy1 hc
      have hd1 : d < 4294967296 ∧ u ≤ 1 ∧ d + y + c = x + 4294967296 * u := by rw [hd, hu]; unfold under; split <;> omega
      rw [← hd, ← hu] at r
      have HD := Lib.hid hd1
      clear hd hu hd1
      go_wp2
      go_region_law (first | (go_simp; go_at_call 101; refine (r _).mono ?_; rintro e w' ⟨rfl, rfl⟩))
      all_goals
        clear r
        go_wp2
        go_roundw
        case rel =>
          refine ⟨k + 1, u, ys ++ [d], by omega, HD.out.2.1, by go_num, rfl, ⟨by simp [HI.out.1], HI.out.2.1.append (Fit.one HD.out.1), sub_step HI.out.1 HI.out.2.2 d u (by rw [dig_some HX.out, dig_some HY.out]; exact HD.out.2.2)⟩, blk_next HB.out HI.out.1 (by omega) rfl, (below_drew1 hbe).setCell (Nat.le_refl _) _⟩
        case measure => simp [intOf]; omega
    · obtain rfl : k = n := by omega
      rcases Nat.lt_or_ge 0 c with hc1 | hc0
      · obtain rfl : c = 1 := by omega
        go_wp2
        go_ret3
        have hb2 := HB.out
        rw [Nat.sub_self, List.replicate_zero, List.append_nil] at hb2
        have hv := HI.out.2.2
        rw [List.take_of_length_le (l := la) (by rw [HR.out.1]; omega), List.take_of_length_le (l := lb) (by rw [HR'.out.1]; omega)] at hv
        exact ⟨_, 1, ys, rfl, by omega, ⟨hb2.rd _ HI.out.1, HI.out.2.1, Nat.le_refl _, by unfold maxLen; omega, below_then hb0 hbe⟩, hv⟩
      · obtain rfl : c = 0 := by omega
        go_wp2
        go_ret3
        have hb2 := HB.out
        rw [Nat.sub_self, List.replicate_zero, List.append_nil] at hb2
        have hv := HI.out.2.2
        rw [List.take_of_length_le (l := la) (by rw [HR.out.1]; omega), List.take_of_length_le (l := lb) (by rw [HR'.out.1]; omega)] at hv
        exact ⟨_, 0, ys, rfl, by omega, ⟨hb2.rd _ HI.out.1, HI.out.2.1, Nat.le_refl _, by unfold maxLen; omega, below_then hb0 hbe⟩, hv⟩

set_option maxHeartbeats 1000000 in
theorem Add_no (A A' : Option Addr) (n cap n' cap' : Nat) (w : World) (h : (okW n && okW n') = false ∨ n ≠ n') :
    Calls Tryd.prog 80 #[.slice A n cap, .slice A' n' cap'] w fun e w' => e = .returned (.tuple #[.slice none 0 0, .bool false, .int .i64 24]) ∧ Below w.heap.size w w' := by
  have hall : ([(A, n, cap), (A', n', cap')].all fun p => okW p.2.1) = (okW n && okW n') := by simp
  have hb0 : Below w.heap.size w (w.alloc (.cells #[.slice A n cap, .slice A' n' cap'] 45)) := (Below.refl _ _).alloc (Nat.le_refl _) _
  have HB0 := Lib.hid hb0
  have HALL := Lib.hid hall
  clear hall hb0
  cases hq : (okW n && okW n') with
  | false =>
    clear h
    go_enter Tryd.func80, Tryd.ntmps80
    go_wp2_with fail
    refine (areNumbers_any _ 2 2 _ _ (Lists.new2 w A n cap A' n' cap') rfl (by omega)).mono ?_
    rintro e w1 ⟨rfl, rfl⟩
    rw [HALL.out, hq]
    clear hq
    go_wp2
    go_ret3
    exact ⟨rfl, HB0.out⟩
  | true =>
    have hne : n ≠ n' := by
      rcases h with h | h
      · rw [hq] at h; cases h
      · exact h
    have hne2 : ((n : Int) != (n' : Int)) = true := by simp; omega
    have hne4 : (n != n') = true := by simp; omega
    clear h
    go_enter Tryd.func80, Tryd.ntmps80
    go_wp2_with fail
    refine (areNumbers_any _ 2 2 _ _ (Lists.new2 w A n cap A' n' cap') rfl (by omega)).mono ?_
    rintro e w1 ⟨rfl, rfl⟩
    rw [HALL.out, hq]
    clear hq
    go_wp2
    go_ret3
    exact ⟨rfl, HB0.out⟩

set_option maxHeartbeats 1000000 in
theorem Sub_no (A A' : Option Addr) (n cap n' cap' : Nat) (w : World) (h : (okW n && okW n') = false ∨ n ≠ n') :
    Calls Tryd.prog 95 #[.slice A n cap, .slice A' n' cap'] w fun e w' => e = .returned (.tuple #[.slice none 0 0, .bool false, .int .i64 24]) ∧ Below w.heap.size w w' := by
  have hall : ([(A, n, cap), (A', n', cap')].all fun p => okW p.2.1) = (okW n && okW n') := by simp
  have hb0 : Below w.heap.size w (w.alloc (.cells #[.slice A n cap, .slice A' n' cap'] 45)) := (Below.refl _ _).alloc (Nat.le_refl _) _
  have HB0 := Lib.hid hb0
  have HALL := Lib.hid hall
  clear hall hb0
  cases hq : (okW n && okW n') with
  | false =>
    clear h
    go_enter Tryd.func95, Tryd.ntmps95
    go_wp2_with fail
    refine (areNumbers_any _ 2 2 _ _ (Lists.new2 w A n cap A' n' cap') rfl (by omega)).mono ?_
    rintro e w1 ⟨rfl, rfl⟩
    rw [HALL.out, hq]
    clear hq
    go_wp2
    go_ret3
    exact ⟨rfl, HB0.out⟩
  | true =>
    have hne : n ≠ n' := by
      rcases h with h | h
      · rw [hq] at h; cases h
      · exact h
    have hne2 : ((n : Int) != (n' : Int)) = true := by simp; omega
    have hne4 : (n != n') = true := by simp; omega
    clear h
    go_enter Tryd.func95, Tryd.ntmps95
    go_wp2_with fail
    refine (areNumbers_any _ 2 2 _ _ (Lists.new2 w A n cap A' n' cap') rfl (by omega)).mono ?_
    rintro e w1 ⟨rfl, rfl⟩
    rw [HALL.out, hq]
    clear hq
    go_wp2
    go_ret3
    exact ⟨rfl, HB0.out⟩
end Go.Proofs.YtojpbfkdkkdpcaaDoor
