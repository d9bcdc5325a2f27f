/-
  The document's Add and Sub: what they answer of numbers in memory.
-/
import Derived.Test.YtbajckbjjepceaaDoorRef2
namespace Go.Proofs.YtbajckbjjepceaaDoor
open Go.RowKit
set_option linter.unusedVariables false
set_option linter.unusedSimpArgs false

/-- A digit, or 0 where there is none. -/
def dig (l : List Nat) (i : Nat) : Nat := l[i]?.getD 0
theorem dig_some {l : List Nat} {i x : Nat} (h : l[i]? = some x) : dig l i = x := by simp [dig, h]
theorem dig_none {l : List Nat} {i : Nat} (h : l.length ≤ i) : dig l i = 0 := by simp [dig, List.getElem?_eq_none h]
theorem dig_lt {B : Nat} {l : List Nat} (h : Fit B l) (hB : 0 < B) (i : Nat) : dig l i < B := by
  rcases Nat.lt_or_ge i l.length with hi | hi
  · obtain ⟨x, hx⟩ := get_some hi
    rw [dig_some hx]; exact h.get hx
  · rw [dig_none hi]; exact hB
theorem val_take_succ (B : Nat) (l : List Nat) (i : Nat) : val B (l.take (i + 1)) = val B (l.take i) + B ^ i * dig l i := by
  rcases Nat.lt_or_ge i l.length with hi | hi
  · obtain ⟨x, hx⟩ := get_some hi
    rw [take_trim hx, val_snoc, dig_some hx, List.length_take, Nat.min_eq_left (by omega)]
  · rw [dig_none hi, List.take_of_length_le (by omega), List.take_of_length_le hi]; simp

/-- One digit of a sum. -/
theorem add_step {B : Nat} {la lb out : List Nat} {i c : Nat} (hl : out.length = i) (h : val B out + B ^ i * c = val B (la.take i) + val B (lb.take i)) (s : Nat) (hs : s = c + dig la i + dig lb i) :
    val B (out ++ [s % B]) + B ^ (i + 1) * (s / B) = val B (la.take (i + 1)) + val B (lb.take (i + 1)) := by
  rw [val_snoc, hl, val_take_succ, val_take_succ, Nat.pow_succ, Nat.mul_assoc, Nat.add_assoc, ← Nat.mul_add, Nat.mod_add_div, hs, Nat.mul_add, Nat.mul_add]
  omega
/-- One digit of a difference. -/
theorem sub_step {B : Nat} {la lb out : List Nat} {i c : Nat} (hl : out.length = i) (h : val B out + val B (lb.take i) = val B (la.take i) + B ^ i * c) (d c' : Nat) (hs : d + dig lb i + c = dig la i + B * c') :
    val B (out ++ [d]) + val B (lb.take (i + 1)) = val B (la.take (i + 1)) + B ^ (i + 1) * c' := by
  rw [val_snoc, hl, val_take_succ, val_take_succ, Nat.pow_succ, Nat.mul_assoc]
  have h1 : B ^ i * (d + dig lb i + c) = B ^ i * (dig la i + B * c') := by rw [hs]
  rw [Nat.mul_add, Nat.mul_add, Nat.mul_add] at h1
  omega

set_option maxHeartbeats 2000000 in
theorem RefAdd_any (A A' : Option Addr) (n cap n' cap' : Nat) (la lb : List Nat) (w : World) (h : Rd .i64 w A n la) (h' : Rd .i64 w A' n' lb) (hf : Fit 256 la) (hf' : Fit 256 lb) (hn : n ≤ 10000) (hn' : n' ≤ 10000) :
    Calls Tryd.prog 22 #[.slice A n cap, .slice A' n' cap'] w (GivesDigs w (val 256 la + val 256 lb)) := by
  have HR := Lib.hid h
  have HR' := Lib.hid h'
  clear h h'
  go_enter Tryd.func22, Tryd.ntmps22
  go_wp2
  go_loopw [5, 6, 7] (fun o cc i wr => ∃ (k m c : Nat) (A1 : Option Addr) (c1 : Nat) (out : List Nat), k ≤ 20001 ∧ c ≤ 1 ∧ (n ≤ k → n' ≤ k → k = n ∨ k = n' ∨ c = 0) ∧ i = .int .i64 (k : Int) ∧ cc = .int .i64 (c : Int) ∧ o = .slice A1 m c1 ∧ Hid (m = k ∧ Fit 256 out ∧ val 256 out + 256 ^ k * c = val 256 (la.take k) + val 256 (lb.take k)) ∧ Hid (Row wr w.heap.size 3 A1 m c1 (cn .i64 out)) ∧ Below w.heap.size w wr ∧ w.heap.size ≤ wr.heap.size) (fun _ _ i _ => n + n' + 2 - (intOf i).toNat)
  case atStart => exact ⟨0, 0, 0, none, 0, [], by omega, by omega, by omega, rfl, rfl, rfl, ⟨rfl, Fit.nil _, by simp [val]⟩, Row.nil w _ _, below_self, Nat.le_refl _⟩
  case round =>
    obtain ⟨k, m, c, A1, c1, out, hk, hc, hend, rfl, rfl, rfl, HI, HRow, hbe, hB⟩ := hrel
    have hml : m < 1000000 := by have := HI.out.1; omega
    obtain ⟨m3, hm3⟩ : ∃ m3, m + 1 = m3 := ⟨_, rfl⟩
    have HM3 := Lib.hid hm3
    have hol : out.length = k := by have := HRow.out.length; rw [cn_length] at this; rw [this, HI.out.1]
    have HOL := Lib.hid hol
    clear hm3 hol
    -- the round's end, once for all ways
    have fin : ∀ (s : Nat), s = c + dig la k + dig lb k → (k < n ∨ k < n' ∨ 0 < c) → Hid ((k + 1 ≤ 20001 ∧ s / 256 ≤ 1 ∧ (n ≤ k + 1 → n' ≤ k + 1 → k + 1 = n ∨ k + 1 = n' ∨ s / 256 = 0)) ∧ (m3 = k + 1 ∧ Fit 256 (out ++ [s % 256]) ∧ val 256 (out ++ [s % 256]) + 256 ^ (k + 1) * (s / 256) = val 256 (la.take (k + 1)) + val 256 (lb.take (k + 1)))) := by
      intro s hs hgo
      have d1 := dig_lt hf (by omega) k
      have d2 := dig_lt hf' (by omega) k
      have e1 : n ≤ k → dig la k = 0 := fun h => dig_none (by rw [HR.out.1]; exact h)
      have e2 : n' ≤ k → dig lb k = 0 := fun h => dig_none (by rw [HR'.out.1]; exact h)
      refine ⟨⟨by omega, by omega, fun _ _ => by omega⟩, by rw [← HM3.out, HI.out.1], HI.out.2.1.append (Fit.one (Nat.mod_lt _ (by omega))), ?_⟩
      exact add_step HOL.out HI.out.2.2 s hs
    have HF := Lib.hid fin
    clear fin
    by_cases h1 : k < n
    · obtain ⟨ad, x, rfl, hx, hcell⟩ := (HR.out.below hbe).get (j := k) (by omega)
      have hx1 := hf.get hx
      have dx := dig_some hx
      by_cases h2 : k < n'
      · obtain ⟨ad', y, rfl, hy, hcell'⟩ := (HR'.out.below hbe).get (j := k) (by omega)
        have hy1 := hf'.get hy
        have dy := dig_some hy
        have FF := HF.out (c + x + y) (by rw [dx, dy]) (.inl h1)
        clear hx hy dx dy
        go_wp2_with (first
          | ((with_reducible refine at_dst (some 48) ?_); refine wpList_appInt (o := ⟨some 48, _, _, _, _, _⟩) rfl (.tmp 44) (.tmp 47) rfl hbe hB ((c + x + y) % 256) _ (by omega) rfl HRow.out rfl hml m3 HM3.out ?_; intro A3 c3 w3 HRow3 hbe3 hB3))
        go_roundw
        case rel => exact ⟨k + 1, m3, (c + x + y) / 256, A3, c3, _, FF.out.1.1, FF.out.1.2.1, FF.out.1.2.2, by go_num, by go_num, rfl, FF.out.2, HRow3, hbe3, hB3⟩
        case measure => simp [intOf]; omega
      · have dy : dig lb k = 0 := dig_none (by rw [HR'.out.1]; omega)
        have FF := HF.out (c + x) (by rw [dx, dy]; rfl) (.inl h1)
        clear hx dx dy
        go_wp2_with (first
          | ((with_reducible refine at_dst (some 48) ?_); refine wpList_appInt (o := ⟨some 48, _, _, _, _, _⟩) rfl (.tmp 44) (.tmp 47) rfl hbe hB ((c + x) % 256) _ (by omega) rfl HRow.out rfl hml m3 HM3.out ?_; intro A3 c3 w3 HRow3 hbe3 hB3))
        go_roundw
        case rel => exact ⟨k + 1, m3, (c + x) / 256, A3, c3, _, FF.out.1.1, FF.out.1.2.1, FF.out.1.2.2, by go_num, by go_num, rfl, FF.out.2, HRow3, hbe3, hB3⟩
        case measure => simp [intOf]; omega
    · have dx : dig la k = 0 := dig_none (by rw [HR.out.1]; omega)
      by_cases h2 : k < n'
      · obtain ⟨ad', y, rfl, hy, hcell'⟩ := (HR'.out.below hbe).get (j := k) (by omega)
        have hy1 := hf'.get hy
        have dy := dig_some hy
        have FF := HF.out (c + y) (by rw [dx, dy]; omega) (.inr (.inl h2))
        clear hy dx dy
        go_wp2_with (first
          | ((with_reducible refine at_dst (some 48) ?_); refine wpList_appInt (o := ⟨some 48, _, _, _, _, _⟩) rfl (.tmp 44) (.tmp 47) rfl hbe hB ((c + y) % 256) _ (by omega) rfl HRow.out rfl hml m3 HM3.out ?_; intro A3 c3 w3 HRow3 hbe3 hB3))
        go_roundw
        case rel => exact ⟨k + 1, m3, (c + y) / 256, A3, c3, _, FF.out.1.1, FF.out.1.2.1, FF.out.1.2.2, by go_num, by go_num, rfl, FF.out.2, HRow3, hbe3, hB3⟩
        case measure => simp [intOf]; omega
      · have dy : dig lb k = 0 := dig_none (by rw [HR'.out.1]; omega)
        rcases Nat.eq_zero_or_pos c with rfl | hc0
        · clear dx dy
          go_wp2_with fail
          have hr := HRow.out.rd
          refine (Trim_any _ _ _ _ _ hr (by omega) HRow.out.le.1 HRow.out.le.2).mono ?_
          rintro e w1 ⟨⟨j, hj, rfl, ht⟩, rfl⟩
          go_wp2
          go_ret
          refine ⟨_, _, _, rfl, ?_, Nat.le_trans hj HRow.out.le.1, HRow.out.le.2, hbe⟩
          have := hr.take j hj
          have hv := HI.out.2.2
          rw [List.take_of_length_le (by rw [HR.out.1]; omega), List.take_of_length_le (by rw [HR'.out.1]; omega), Nat.mul_zero, Nat.add_zero] at hv
          rwa [ht, trim_digs HI.out.2.1, hv] at this
        · obtain rfl : c = 1 := by omega
          have FF := HF.out 1 (by rw [dx, dy]) (.inr (.inr hc0))
          have hk2 : k = n ∨ k = n' := by omega
          clear dx dy
          go_wp2_with (first
            | ((with_reducible refine at_dst (some 48) ?_); refine wpList_appInt (o := ⟨some 48, _, _, _, _, _⟩) rfl (.tmp 44) (.tmp 47) rfl hbe hB (1 % 256) _ (by omega) rfl HRow.out rfl hml m3 HM3.out ?_; intro A3 c3 w3 HRow3 hbe3 hB3))
          go_roundw
          case rel => exact ⟨k + 1, m3, 1 / 256, A3, c3, _, FF.out.1.1, FF.out.1.2.1, FF.out.1.2.2, by go_num, by go_num, rfl, FF.out.2, HRow3, hbe3, hB3⟩
          case measure => simp [intOf]; omega

theorem set_end (ys : List Nat) (m d : Nat) : (ys ++ List.replicate (m + 1) 0).set ys.length d = (ys ++ [d]) ++ List.replicate m 0 := by
  rw [List.set_append, if_neg (by omega), Nat.sub_self, List.replicate_succ, List.set_cons_zero, List.append_assoc]; rfl
theorem get_end (ys : List Nat) (m : Nat) : (ys ++ List.replicate (m + 1) 0)[ys.length]? = some 0 := by
  rw [List.getElem?_append_right (Nat.le_refl _), Nat.sub_self, List.replicate_succ]; rfl

set_option maxHeartbeats 2000000 in
theorem RefSub_any (A A' : Option Addr) (n cap n' cap' : Nat) (la lb : List Nat) (w : World) (h : Rd .i64 w A n la) (h' : Rd .i64 w A' n' lb) (hf : Fit 256 la) (hf' : Fit 256 lb) (hn : n ≤ 10000) (hn' : n' ≤ n) (hle : val 256 lb ≤ val 256 la) :
    Calls Tryd.prog 24 #[.slice A n cap, .slice A' n' cap'] w (GivesDigs w (val 256 la - val 256 lb)) := by
  have HR := Lib.hid h
  have HR' := Lib.hid h'
  have HLE := Lib.hid hle
  clear h h' hle
  go_enter Tryd.func24, Tryd.ntmps24
  go_wp2_with (first
    | ((with_reducible refine at_dst (some 11) ?_); refine wpList_makeNums (o := ⟨some 11, _, _, _, _, _⟩) rfl (.tmp 10) (.tmp 10) 29 3 rfl .i64 8 Tryd.underlying29 intInfo (by omega) _ _ rfl rfl n rfl (by omega) ?_; intro w1 hb1 hbel1 hs1))
  go_loopw [6, 7] (fun cc i wr => ∃ (k c : Nat) (ys : List Nat), k ≤ n ∧ c ≤ 1 ∧ i = .int .i64 (k : Int) ∧ cc = .int .i64 (c : Int) ∧ Hid (ys.length = k ∧ Fit 256 ys ∧ val 256 ys + val 256 (lb.take k) = val 256 (la.take k) + 256 ^ k * c) ∧ Hid (Blk wr w.heap.size 3 (cn .i64 (ys ++ List.replicate (n - k) 0))) ∧ Below w.heap.size w wr) (fun _ i _ => n - (intOf i).toNat)
  case atStart => exact ⟨0, 0, [], by omega, by omega, rfl, rfl, ⟨rfl, Fit.nil _, by simp [val]⟩, by simpa using hb1, hbel1⟩
  case round =>
    obtain ⟨k, c, ys, hk, hc, rfl, rfl, HI, HB, hbe⟩ := hrel
    by_cases hkn : k < n
    · obtain ⟨ad, x, rfl, hx, hcell⟩ := (HR.out.below hbe).get (j := k) (by omega)
      have hx1 := hf.get hx
      have dx := dig_some hx
      obtain ⟨p, hp⟩ : ∃ p, n - k = p + 1 := ⟨n - k - 1, by omega⟩
      have hold := HB.out
      rw [hp] at hold
      have hoc := (hold.cell ys.length).trans (cn_get (get_end ys p))
      have hof := hold.frozen ys.length
      have fin : ∀ (d c' : Nat), d + dig lb k + c = dig la k + 256 * c' → d < 256 → Hid (((ys ++ [d]).length = k + 1 ∧ Fit 256 (ys ++ [d]) ∧ val 256 (ys ++ [d]) + val 256 (lb.take (k + 1)) = val 256 (la.take (k + 1)) + 256 ^ (k + 1) * c') ∧ ∀ W, W = wr.setCell ⟨w.heap.size, k, none⟩ (.int .i64 (d : Int)) → Blk W w.heap.size 3 (cn .i64 ((ys ++ [d]) ++ List.replicate (n - (k + 1)) 0))) := by
        intro d c' hd hd2
        refine ⟨⟨by simp [HI.out.1], HI.out.2.1.append (Fit.one hd2), sub_step HI.out.1 HI.out.2.2 d c' hd⟩, fun W hW => ?_⟩
        subst hW
        have := hold.set_ k (.int .i64 (d : Int))
        rw [cn_set] at this
        have e := set_end ys p d
        rw [HI.out.1] at e
        rw [e, show p = n - (k + 1) by omega] at this
        exact this
      rw [HI.out.1] at hoc hof
      have HF := Lib.hid fin
      clear fin hold hx hp
      by_cases h2 : k < n'
      · obtain ⟨ad', y, rfl, hy, hcell'⟩ := (HR'.out.below hbe).get (j := k) (by omega)
        have hy1 := hf'.get hy
        have dy := dig_some hy
        by_cases hneg : x < c + y
        · have FF := HF.out (x + 256 - c - y) 1 (by rw [dx, dy]; omega) (by omega)
          have ev : (x : Int) - c - y + 256 = ((x + 256 - c - y : Nat) : Int) := by omega
          have EV := Lib.hid ev
          clear hy dx dy ev
          go_wp2
          go_roundw
          case rel => exact ⟨k + 1, 1, _, by omega, by omega, by go_num, rfl, FF.out.1, FF.out.2 _ (by rw [EV.out]), hbe.setCell (Nat.le_refl _) _⟩
          case measure => simp [intOf]; omega
        · have FF := HF.out (x - c - y) 0 (by rw [dx, dy]; omega) (by omega)
          have ev : (x : Int) - c - y = ((x - c - y : Nat) : Int) := by omega
          have EV := Lib.hid ev
          clear hy dx dy ev
          go_wp2
          go_roundw
          case rel => exact ⟨k + 1, 0, _, by omega, by omega, by go_num, rfl, FF.out.1, FF.out.2 _ (by rw [EV.out]), hbe.setCell (Nat.le_refl _) _⟩
          case measure => simp [intOf]; omega
      · have dy : dig lb k = 0 := dig_none (by rw [HR'.out.1]; omega)
        by_cases hneg : x < c
        · have FF := HF.out (x + 256 - c) 1 (by rw [dx, dy]; omega) (by omega)
          have ev : (x : Int) - c + 256 = ((x + 256 - c : Nat) : Int) := by omega
          have EV := Lib.hid ev
          clear dx dy ev
          go_wp2
          go_roundw
          case rel => exact ⟨k + 1, 1, _, by omega, by omega, by go_num, rfl, FF.out.1, FF.out.2 _ (by rw [EV.out]), hbe.setCell (Nat.le_refl _) _⟩
          case measure => simp [intOf]; omega
        · have FF := HF.out (x - c) 0 (by rw [dx, dy]; omega) (by omega)
          have ev : (x : Int) - c = ((x - c : Nat) : Int) := by omega
          have EV := Lib.hid ev
          clear dx dy ev
          go_wp2
          go_roundw
          case rel => exact ⟨k + 1, 0, _, by omega, by omega, by go_num, rfl, FF.out.1, FF.out.2 _ (by rw [EV.out]), hbe.setCell (Nat.le_refl _) _⟩
          case measure => simp [intOf]; omega
    · obtain rfl : k = n := by omega
      go_wp2_with fail
      have hb2 := HB.out
      rw [Nat.sub_self, List.replicate_zero, List.append_nil] at hb2
      have hr := hb2.rd k HI.out.1
      refine (Trim_any _ _ _ _ _ hr (by omega) (Nat.le_refl _) (by unfold maxLen; omega)).mono ?_
      rintro e w2 ⟨⟨j, hj, rfl, ht⟩, rfl⟩
      go_wp2
      go_ret
      refine ⟨_, _, _, rfl, ?_, hj, by unfold maxLen; omega, hbe⟩
      have := hr.take j hj
      have hv := HI.out.2.2
      have hlt := val_lt HI.out.2.1
      rw [List.take_of_length_le (l := la) (by rw [HR.out.1]; omega), List.take_of_length_le (l := lb) (by rw [HR'.out.1]; omega)] at hv
      rw [HI.out.1] at hlt
      have hle := HLE.out
      have hc0 : c = 0 := by
        rcases Nat.eq_zero_or_pos c with h0 | h0
        · exact h0
        · obtain rfl : c = 1 := by omega
          omega
      subst hc0
      have hv2 : val 256 ys = val 256 la - val 256 lb := by omega
      rwa [ht, trim_digs HI.out.2.1, hv2] at this
end Go.Proofs.YtbajckbjjepceaaDoor
