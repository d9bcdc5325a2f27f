/-
  The document's High, Compare, Power, Bits: what they answer of numbers in memory.
-/
import Derived.Test.YtojpbfkdkkdpcaaDoorRef1
namespace Go.Proofs.YtojpbfkdkkdpcaaDoor
set_option maxRecDepth 100000
open Go.RowKit
set_option linter.unusedVariables false
set_option linter.unusedSimpArgs false

theorem rev_step {l : List Nat} {i x : Nat} (hx : l[i]? = some x) : (l.take (i + 1)).reverse = x :: (l.take i).reverse := by
  rw [take_trim hx, List.reverse_append]; rfl
theorem high_set (s : Nat) (r : List Nat) (x : Nat) : (List.replicate (s + 1) 0 ++ r).set s x = List.replicate s 0 ++ x :: r := by
  rw [List.set_append, if_pos (by simp), List.replicate_succ', List.set_append, if_neg (by simp)]
  simp

set_option maxHeartbeats 800000 in
theorem High_any (A : Option Addr) (n cap : Nat) (l : List Nat) (size : Nat) (w : World) (h : Rd .i64 w A n l) (hf : Fit 256 l) (hs : size ≤ 10000) (hn : n ≤ size) :
    Calls Tryd.prog 42 #[.slice A n cap, .int .i64 (size : Int)] w fun e w' => ∃ g, e = .returned (.slice (some ⟨g, 0, none⟩) size size) ∧ Blk w' g 5 (cn .u8 (List.replicate (size - n) 0 ++ l.reverse)) ∧ Below w.heap.size w w' := by
  have HR := Lib.hid h
  clear h
  go_enter Tryd.func42, Tryd.ntmps42
  go_wp2_with (first
    | ((with_reducible refine at_dst (some 8) ?_); refine wpList_makeNums (o := ⟨some 8, _, _, _, _, _⟩) rfl (.tmp 7) (.tmp 7) 22 5 rfl .u8 1 Tryd.underlying22 byteInfo (by omega) _ _ rfl rfl size rfl (by omega) ?_; intro w1 hb1 hbel1 hs1))
  go_loopw [6] (fun i wr => ∃ k : Nat, k ≤ n ∧ i = .int .i64 (k : Int) ∧ Hid (Blk wr w.heap.size 5 (cn .u8 (List.replicate (size - k) 0 ++ (l.take k).reverse))) ∧ Below w.heap.size w wr) (fun i _ => n - (intOf i).toNat)
  case atStart => exact ⟨0, by omega, rfl, by simpa using hb1, hbel1⟩
  case round =>
    obtain ⟨k, hk, rfl, HK, hbe⟩ := hrel
    by_cases hkn : k < n
    · obtain ⟨ad, x, rfl, hx, hcell⟩ := (HR.out.below hbe).get (j := k) (by omega)
      have hx2 := hf.get hx
      have HX := Lib.hid hx
      obtain ⟨p, hp⟩ : ∃ p : Nat, size = k + p + 1 := ⟨size - k - 1, by omega⟩
      have hp2 : (size : Int) - 1 - k = (p : Int) := by omega
      have hold := HK.out
      rw [show size - k = p + 1 by omega] at hold
      obtain ⟨y, hy⟩ := get_some (l := List.replicate (p + 1) 0 ++ (l.take k).reverse) (i := p) (by simp; omega)
      have hc := (hold.cell p).trans (cn_get hy)
      have hfz := hold.frozen p
      have hps : p < size := by omega
      have HOLD := Lib.hid hold
      have HP := Lib.hid hp
      clear hx hold hy hp
      go_wp2
      go_roundw
      case rel =>
        refine ⟨k + 1, by omega, by go_num, ?_, hbe.setCell (Nat.le_refl _) _⟩
        have := HOLD.out.set_ p (.int .u8 (x : Int))
        rw [cn_set, high_set, ← rev_step HX.out, show p = size - (k + 1) by have := HP.out; omega] at this
        show Blk _ _ _ _
        rw [show size - (k + 1) = p by have := HP.out; omega] at this ⊢
        first
        | exact this
        | (rw [show (x : Int) % 256 = x by omega]; exact this)
      case measure => simp [intOf]; omega
    · obtain rfl : k = n := by omega
      go_wp2
      go_ret
      refine ⟨_, rfl, ?_, hbe⟩
      have := HK.out
      rwa [List.take_of_length_le (by rw [HR.out.1]; exact Nat.le_refl _)] at this

theorem split_at {l : List Nat} {j x : Nat} (hx : l[j]? = some x) : l = l.take j ++ x :: l.drop (j + 1) := by
  have hi := (List.getElem?_eq_some_iff.1 hx).1
  have e := (List.getElem?_eq_some_iff.1 hx).2
  have := List.take_append_drop j l
  rw [List.drop_eq_getElem_cons hi, e] at this
  exact this.symm
theorem ord_split {B : Nat} {la lb : List Nat} {j x y : Nat} (ha : Fit B la) (hb : Fit B lb) (hx : la[j]? = some x) (hy : lb[j]? = some y) (hd : la.drop (j + 1) = lb.drop (j + 1)) (hne : x ≠ y) : ord (val B la) (val B lb) = ord x y := by
  have h1 := split_at hx
  have h2 := split_at hy
  rw [h1, h2, hd]
  refine ord_at (ha.take _) (hb.take _) ?_ hne
  have i1 := (List.getElem?_eq_some_iff.1 hx).1
  have i2 := (List.getElem?_eq_some_iff.1 hy).1
  simp; omega
theorem drop_step {la lb : List Nat} {j x : Nat} (hx : la[j]? = some x) (hy : lb[j]? = some x) (hd : la.drop (j + 1) = lb.drop (j + 1)) : la.drop j = lb.drop j := by
  have i1 := (List.getElem?_eq_some_iff.1 hx).1
  have i2 := (List.getElem?_eq_some_iff.1 hy).1
  rw [List.drop_eq_getElem_cons i1, List.drop_eq_getElem_cons i2, hd, (List.getElem?_eq_some_iff.1 hx).2, (List.getElem?_eq_some_iff.1 hy).2]

set_option maxHeartbeats 800000 in
theorem RefCompare_any (A A' : Option Addr) (n cap n' cap' : Nat) (la lb : List Nat) (w : World) (h : Rd .i64 w A n la) (h' : Rd .i64 w A' n' lb) (hf : Fit 256 la) (hf' : Fit 256 lb) (ht : Tight la) (ht' : Tight lb) (hn : n ≤ 1000000) (hn' : n' ≤ 1000000) :
    Calls Tryd.prog 48 #[.slice A n cap, .slice A' n' cap'] w fun e w' => e = .returned (.int .i64 (ord (val 256 la) (val 256 lb))) ∧ Below w.heap.size w w' := by
  have l1 := h.1
  have l2 := h'.1
  rcases Nat.lt_trichotomy n n' with hlt | heq | hgt
  · have ho := ord_len hf hf' ht ht' (by omega)
    have hne : ((n : Int) == (n' : Int)) = false := by simp; omega
    have hne2 : ((n : Int) != (n' : Int)) = true := by simp; omega
    have hne3 : n ≠ n' := by omega
    have hne4 : (n != n') = true := by simp; omega
    go_enter Tryd.func48, Tryd.ntmps48
    go_wp2
    go_ret
    exact ⟨by rw [ord, if_pos ho]; rfl, below_self⟩
  · subst heq
    have HR := Lib.hid h
    have HR' := Lib.hid h'
    clear h h'
    go_enter Tryd.func48, Tryd.ntmps48
    go_wp2
    go_loopw [5] (fun i wr => ∃ k : Nat, k ≤ n ∧ i = .int .i64 ((k : Int) - 1) ∧ Hid (la.drop k = lb.drop k) ∧ Below w.heap.size w wr) (fun i _ => (intOf i + 1).toNat)
    case atStart => exact ⟨n, Nat.le_refl _, rfl, by show _ = _; rw [List.drop_eq_nil_of_le (by omega), List.drop_eq_nil_of_le (by omega)], below_self⟩
    case round =>
      obtain ⟨k, hk, rfl, HD, hbe⟩ := hrel
      rcases k with _ | k
      · go_wp2
        go_ret
        have := HD.out
        rw [List.drop_zero, List.drop_zero] at this
        exact ⟨by rw [this, ord_self]; rfl, hbe⟩
      · obtain ⟨ad, x, rfl, hx, hcell⟩ := (HR.out.below hbe).get (j := k) (by omega)
        obtain ⟨ad', y, rfl, hy, hcell'⟩ := (HR'.out.below hbe).get (j := k) (by omega)
        have HX := Lib.hid hx
        have HY := Lib.hid hy
        clear hx hy
        rcases Nat.lt_trichotomy x y with hxy | hxy | hxy
        · go_wp2
          go_quiet (fail)
          go_wp2
          go_ret
          refine ⟨?_, below_drewN hbe _⟩
          rw [ord_split hf hf' HX.out HY.out HD.out (by omega), ord, if_pos hxy]
          rfl
        · subst hxy
          go_wp2
          go_quiet (fail)
          go_wp2
          go_quiet (fail)
          go_wp2
          go_roundw
          case rel => exact ⟨k, by omega, by go_num, drop_step HX.out HY.out HD.out, below_drewN hbe _⟩
          case measure => simp [intOf]
        · go_wp2
          go_quiet (fail)
          go_wp2
          go_quiet (fail)
          go_wp2
          go_ret
          refine ⟨?_, below_drewN (below_drewN hbe _) _⟩
          rw [ord_split hf hf' HX.out HY.out HD.out (by omega), ord, if_neg (by omega), if_pos hxy]
          rfl
  · have ho := ord_len hf' hf ht' ht (by omega)
    have hne : ((n : Int) == (n' : Int)) = false := by simp; omega
    have hne2 : ((n : Int) != (n' : Int)) = true := by simp; omega
    have hne3 : n ≠ n' := by omega
    have hne4 : (n != n') = true := by simp; omega
    go_enter Tryd.func48, Tryd.ntmps48
    go_wp2
    go_ret
    exact ⟨by rw [ord, if_neg (by omega), if_pos ho]; rfl, below_self⟩

theorem power_digs (m : Nat) : List.replicate m 0 ++ [1] = digs (256 ^ m) := by
  have h := tight_digs (l := List.replicate m 0 ++ [1]) ((Fit.replicate _ _ _ (by omega)).append (Fit.one (by omega))) (.inr ⟨_, _, rfl, by omega⟩)
  rw [val_snoc, val_replicate, List.length_replicate] at h
  simpa using h
theorem power_set (m : Nat) : (List.replicate (m + 1) 0).set m 1 = List.replicate m 0 ++ [1] := by
  have := high_set m [] 1
  simpa using this
set_option maxHeartbeats 800000 in
theorem Power_any (z : Int) (m : Nat) (hz : z = 8 * (m : Int)) (hm : m ≤ 10000) (w : World) :
    Calls Tryd.prog 40 #[.int .i64 z] w (GivesDigs w (256 ^ m)) := by
  have hq : z / 8 = (m : Int) := by omega
  have hr : z % 8 = 0 := by omega
  have h0 : 0 ≤ z := by omega
  have h1 : z ≤ 80000 := by omega
  obtain ⟨m1, hm1⟩ : ∃ m1, m1 = m + 1 := ⟨_, rfl⟩
  have HM := Lib.hid hm1
  have hlt : m < m1 := by omega
  clear hz hm1
  go_enter Tryd.func40, Tryd.ntmps40
  go_wp2_with (first
    | ((with_reducible refine at_dst (some 7) ?_); refine wpList_makeNums (o := ⟨some 7, _, _, _, _, _⟩) rfl (.tmp 6) (.tmp 6) 59 3 rfl .i64 8 Tryd.underlying59 intInfo (by omega) _ _ rfl rfl m1 (by have := HM.out; omega) (by have := HM.out; omega) ?_; intro w1 hb1 hbel1 hs1; have hc := (hb1.out.cell m).trans (cn_get (x := 0) (by simp [hlt])); have hfz := hb1.out.frozen m))
  go_ret
  refine ⟨some ⟨w.heap.size, 0, none⟩, m1, m1, rfl, ?_, Nat.le_refl _, by unfold maxLen; have := HM.out; omega, hbel1.setCell (Nat.le_refl _) _⟩
  have := hb1.out.set_ m (.int .i64 ((1 : Nat) : Int))
  rw [cn_set, HM.out, power_set, power_digs] at this
  exact Blk.rd (t := 3) this m1 (by rw [← power_digs, HM.out]; simp)

theorem digs_bits {l : List Nat} {d : Nat} (hf : Fit 256 (l ++ [d])) (hd : d ≠ 0) : bitlen (val 256 (l ++ [d])) = 8 * l.length + bitlen d :=
  bitlen_top 8 (a := l) (d := d) hf.left hd
end Go.Proofs.YtojpbfkdkkdpcaaDoor
