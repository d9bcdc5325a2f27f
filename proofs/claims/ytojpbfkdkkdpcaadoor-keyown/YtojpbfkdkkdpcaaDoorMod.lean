/-
  The document's Shifted, Least, Take, Mod: what they answer of numbers in memory.
-/
import Derived.Test.YtojpbfkdkkdpcaaDoorRef3
import Derived.Test.YtojpbfkdkkdpcaaDoorProg3
namespace Go.Proofs.YtojpbfkdkkdpcaaDoor
set_option maxRecDepth 100000
open Go.RowKit
set_option linter.unusedVariables false
set_option linter.unusedSimpArgs false

/-- One digit of a number times another. -/
theorem shift_step {B : Nat} {l ys : List Nat} {i c q : Nat} (hl : ys.length = i) (h : val B ys + B ^ i * c = val B (l.take i) * q) (s : Nat) (hs : s = c + dig l i * q) :
    val B (ys ++ [s % B]) + B ^ (i + 1) * (s / B) = val B (l.take (i + 1)) * q := by
  rw [val_snoc, hl, val_take_succ, Nat.pow_succ, Nat.mul_assoc, Nat.add_assoc, ← Nat.mul_add, Nat.mod_add_div, hs, Nat.mul_add, Nat.add_mul, Nat.mul_assoc]
  omega

set_option maxHeartbeats 2000000 in
theorem Shifted_any (A : Option Addr) (nm cap : Nat) (l : List Nat) (k : Nat) (q : Nat) (hq : q = 2 ^ k) (hk : k < 8) (n : Nat) (w : World) (h : Rd .i64 w A nm l) (hf : Fit 256 l) (hn : n ≤ 10000) (hnm : nm ≤ n) (hv : val 256 l * q < 256 ^ n) :
    Calls Tryd.prog 63 #[.slice A nm cap, .int .i64 (k : Int), .int .i64 (n : Int)] w fun e w' => e = .returned (.slice (some ⟨w.heap.size, 0, none⟩) n n) ∧ Blk w' w.heap.size 3 (cn .i64 (nums 256 n (val 256 l * q))) ∧ Below w.heap.size w w' := by
  have HR := Lib.hid h
  have HV := Lib.hid hv
  have hqb : q ≤ 128 := by rw [hq]; exact (Nat.pow_le_pow_right (by omega) (by omega : k ≤ 7))
  have hqp : 1 ≤ q := by rw [hq]; exact Nat.two_pow_pos k
  have HQ := Lib.hid hq
  clear h hv hq
  go_enter Tryd.func63, Tryd.ntmps63
  go_wp2_with (first
    | ((with_reducible refine at_dst (some 11) ?_); refine wpList_makeNums (o := ⟨some 11, _, _, _, _, _⟩) rfl (.tmp 10) (.tmp 10) 59 3 rfl .i64 8 Tryd.underlying59 intInfo (by omega) _ _ rfl rfl n rfl (by omega) ?_; intro w1 hb1 hbel1 hs1))
  go_loopw [8, 9] (fun cc i wr => ∃ (j c : Nat) (ys : List Nat), j ≤ n ∧ c ≤ 127 ∧ i = .int .i64 (j : Int) ∧ cc = .int .i64 (c : Int) ∧ Hid (ys.length = j ∧ Fit 256 ys ∧ val 256 ys + 256 ^ j * c = val 256 (l.take j) * q) ∧ Hid (Blk wr w.heap.size 3 (cn .i64 (ys ++ List.replicate (n - j) 0))) ∧ Below w.heap.size w wr) (fun _ i _ => n - (intOf i).toNat)
  case atStart => exact ⟨0, 0, [], by omega, by omega, rfl, rfl, ⟨rfl, Fit.nil _, by simp [val]⟩, by simpa using hb1, hbel1⟩
  case round =>
    obtain ⟨j, c, ys, hj, hc, rfl, rfl, HI, HB, hbe⟩ := hrel
    by_cases hjn : j < n
    · have hoc : wr.cell? ⟨w.heap.size, j, none⟩ = some (.int .i64 ((0 : Nat) : Int)) := by
        have h3 := HB.out.cell j
        obtain ⟨p, hp⟩ : ∃ p, n - j = p + 1 := ⟨n - j - 1, by omega⟩
        have h4 := get_end ys p
        rw [HI.out.1, ← hp] at h4
        exact h3.trans (cn_get h4)
      have hof := HB.out.frozen j
      by_cases h2 : j < nm
      · obtain ⟨ad, d, rfl, hd, hcell⟩ := (HR.out.below hbe).get (j := j) h2
        have hd1 := hf.get hd
        have hm0 : d * q ≤ 255 * 128 := Nat.mul_le_mul (by omega) hqb
        obtain ⟨p, hp⟩ : ∃ p, p = d * q := ⟨_, rfl⟩
        have hst := shift_step HI.out.1 HI.out.2.2 (c + p) (by rw [dig_some hd, hp])
        have HST := Lib.hid hst
        have hp1 : (d : Int) * 2 ^ k = (p : Int) := by
          have e2 : ((2 : Int) ^ k) = ((2 ^ k : Nat) : Int) := by simp
          rw [hp, HQ.out, e2, Int.natCast_mul]
        have hp2 : p ≤ 32640 := by omega
        have HP := Lib.hid hp
        clear hd hst hm0 hp
        go_wp2
        have es : ((c : Int) + p) % 256 = (((c + p) % 256 : Nat) : Int) := by omega
        have ES := Lib.hid es
        clear es
        go_roundw
        case rel =>
          refine ⟨j + 1, (c + p) / 256, ys ++ [(c + p) % 256], by omega, by omega, by go_num, by go_num, ⟨by simp [HI.out.1], HI.out.2.1.append (Fit.one (Nat.mod_lt _ (by omega))), HST.out⟩, ?_, hbe.setCell (Nat.le_refl _) _⟩
          rw [ES.out]
          exact blk_next HB.out HI.out.1 hjn rfl
        case measure => simp [intOf]; omega
      · have hst := shift_step (q := q) HI.out.1 HI.out.2.2 c (by rw [dig_none (by rw [HR.out.1]; omega)]; omega)
        have HST := Lib.hid hst
        clear hst
        go_wp2
        have es : (c : Int) % 256 = ((c % 256 : Nat) : Int) := by omega
        have ec : (c : Int) / 256 = ((c / 256 : Nat) : Int) := by omega
        have ev : (c : Int) = ((c % 256 : Nat) : Int) := by omega
        have ES := Lib.hid es
        have EV := Lib.hid ev
        clear es ec ev
        go_roundw
        case rel =>
          refine ⟨j + 1, c / 256, ys ++ [c % 256], by omega, by omega, by go_num, by go_num, ⟨by simp [HI.out.1], HI.out.2.1.append (Fit.one (Nat.mod_lt _ (by omega))), HST.out⟩, ?_, hbe.setCell (Nat.le_refl _) _⟩
          have := blk_next (d := c % 256) HB.out HI.out.1 hjn (rfl : wr.heap = wr.heap)
          first
          | exact this
          | (rw [ES.out]; exact this)
          | (rw [EV.out]; exact this)
        case measure => simp [intOf]; omega
    · obtain rfl : j = n := by omega
      go_wp2
      go_ret
      have hb2 := HB.out
      rw [Nat.sub_self, List.replicate_zero, List.append_nil] at hb2
      have hv := HI.out.2.2
      rw [List.take_of_length_le (l := l) (by rw [HR.out.1]; omega)] at hv
      have hc0 : c = 0 := by
        rcases Nat.eq_zero_or_pos c with h0 | h0
        · exact h0
        · have := HV.out
          have : 256 ^ j * 1 ≤ 256 ^ j * c := Nat.mul_le_mul_left _ h0
          omega
      subst hc0
      have e := nums_of (B := 256) (by omega) HI.out.2.1
      rw [HI.out.1, show val 256 ys = val 256 l * q by omega] at e
      exact ⟨rfl, by rw [← e]; exact hb2, hbe⟩

theorem ord_ge_val {B : Nat} {la lb : List Nat} {j x y : Nat} (ha : Fit B la) (hb : Fit B lb) (hx : la[j]? = some x) (hy : lb[j]? = some y) (hd : la.drop (j + 1) = lb.drop (j + 1)) (hne : x ≠ y) : val B lb ≤ val B la ↔ y < x := by
  have := ord_split ha hb hx hy hd hne
  rw [← ord_ge, this]
  unfold ord
  split <;> (try split) <;> omega

set_option maxHeartbeats 800000 in
theorem Least_any (A A' : Option Addr) (n cap cap' : Nat) (la lb : List Nat) (w : World) (h : Rd .i64 w A n la) (h' : Rd .i64 w A' n lb) (hf : Fit 256 la) (hf' : Fit 256 lb) (hn : n ≤ 1000000) :
    Calls Tryd.prog 64 #[.slice A n cap, .slice A' n cap'] w fun e w' => e = .returned (.bool (decide (val 256 lb ≤ val 256 la))) ∧ w'.heap = w.heap ∧ Below w.heap.size w w' := by
  have l1 := h.1
  have l2 := h'.1
  have HR := Lib.hid h
  have HR' := Lib.hid h'
  clear h h'
  go_enter Tryd.func64, Tryd.ntmps64
  go_wp2
  go_loopw [5] (fun i wr => ∃ k : Nat, k ≤ n ∧ i = .int .i64 ((k : Int) - 1) ∧ Hid (la.drop k = lb.drop k) ∧ Hid (wr.heap = w.heap) ∧ Below w.heap.size w wr) (fun i _ => (intOf i + 1).toNat)
  case atStart => exact ⟨n, Nat.le_refl _, rfl, by show _ = _; rw [List.drop_eq_nil_of_le (by omega), List.drop_eq_nil_of_le (by omega)], rfl, below_self⟩
  case round =>
    obtain ⟨k, hk, rfl, HD, HH, hbe⟩ := hrel
    rcases k with _ | k
    · go_wp2
      go_ret
      have := HD.out
      rw [List.drop_zero, List.drop_zero] at this
      exact ⟨by rw [this, decide_eq_true (Nat.le_refl _)]; rfl, HH.out, hbe⟩
    · obtain ⟨ad, x, rfl, hx, hcell⟩ := (HR.out.below hbe).get (j := k) (by omega)
      obtain ⟨ad', y, rfl, hy, hcell'⟩ := (HR'.out.below hbe).get (j := k) (by omega)
      have HX := Lib.hid hx
      have HY := Lib.hid hy
      clear hx hy
      by_cases hxy : x = y
      · subst hxy
        go_wp2
        go_quiet (fail)
        go_wp2
        go_roundw
        case rel => exact ⟨k, by omega, by go_num, drop_step HX.out HY.out HD.out, HH, below_drewN hbe _⟩
        case measure => simp [intOf]
      · have hne1 : ((x : Int) != (y : Int)) = true := by simp; omega
        have hne2 : (x != y) = true := by simp [hxy]
        have hord := ord_ge_val hf hf' HX.out HY.out HD.out hxy
        by_cases hlt : y < x
        · have hd1 : decide ((y : Int) < (x : Int)) = true := decide_eq_true (by omega)
          have hd2 : decide (y < x) = true := decide_eq_true hlt
          have HE := Lib.hid (decide_eq_true (hord.2 hlt))
          clear hord
          go_wp2
          go_quiet (fail)
          go_wp2
          go_quiet (fail)
          go_wp2
          go_ret
          exact ⟨by rw [HE.out]; rfl, HH.out, by first | exact below_drewN hbe _ | exact below_drewN (below_drewN hbe _) _⟩
        · have hd1 : decide ((y : Int) < (x : Int)) = false := decide_eq_false (by omega)
          have hd2 : decide (y < x) = false := decide_eq_false hlt
          have HE := Lib.hid (decide_eq_false (fun h => hlt (hord.1 h)))
          clear hord
          go_wp2
          go_quiet (fail)
          go_wp2
          go_quiet (fail)
          go_wp2
          go_ret
          exact ⟨by rw [HE.out]; rfl, HH.out, by first | exact below_drewN hbe _ | exact below_drewN (below_drewN hbe _) _⟩

theorem get_mid {ys l : List Nat} {j x : Nat} (hl : ys.length = j) (hx : l[j]? = some x) : (ys ++ l.drop j)[j]? = some x := by
  rw [List.getElem?_append_right (by omega), hl, Nat.sub_self, List.getElem?_drop]; simpa using hx
theorem set_mid {ys l : List Nat} {j x : Nat} (hl : ys.length = j) (hx : l[j]? = some x) (d : Nat) : (ys ++ l.drop j).set j d = (ys ++ [d]) ++ l.drop (j + 1) := by
  have hi := (List.getElem?_eq_some_iff.1 hx).1
  rw [List.set_append, if_neg (by omega), hl, Nat.sub_self, List.drop_eq_getElem_cons hi, List.set_cons_zero, List.append_assoc]; rfl

set_option maxHeartbeats 2000000 in
theorem Take_any (g n cap : Nat) (A' : Option Addr) (cap' : Nat) (la lb : List Nat) (w : World) (hB : Blk w g 3 (cn .i64 la)) (hl : la.length = n) (hf : Fit 256 la) (h' : Rd .i64 w A' n lb) (hf' : Fit 256 lb) (hne : ∀ ad, A' = some ad → ad.block ≠ g) (hn : n ≤ 10000) (hle : val 256 lb ≤ val 256 la) :
    Calls Tryd.prog 65 #[.slice (some ⟨g, 0, none⟩) n cap, .slice A' n cap'] w fun e w' => e = .returned (.tuple #[]) ∧ Blk w' g 3 (cn .i64 (nums 256 n (val 256 la - val 256 lb))) ∧ w.grownBy w' (some g) := by
  have HB := Lib.hid hB
  have HR' := Lib.hid h'
  have HNE := Lib.hid hne
  have HLE := Lib.hid hle
  have HL := Lib.hid hl
  clear hB h' hne hle hl
  go_enter Tryd.func65, Tryd.ntmps65
  go_wp2
  go_loopw [4, 5] (fun cc i wr => ∃ (j c : Nat) (ys : List Nat), j ≤ n ∧ c ≤ 1 ∧ i = .int .i64 (j : Int) ∧ cc = .int .i64 (c : Int) ∧ Hid (ys.length = j ∧ Fit 256 ys ∧ val 256 ys + val 256 (lb.take j) = val 256 (la.take j) + 256 ^ j * c) ∧ Hid (Blk wr g 3 (cn .i64 (ys ++ la.drop j))) ∧ w.grownBy wr (some g)) (fun _ i _ => n - (intOf i).toNat)
  case atStart => exact ⟨0, 0, [], by omega, by omega, rfl, rfl, ⟨rfl, Fit.nil _, by simp [val]⟩, HB, World.grownBy.refl w _⟩
  case round =>
    obtain ⟨j, c, ys, hj, hc, rfl, rfl, HI, HB', hgr⟩ := hrel
    by_cases hjn : j < n
    · obtain ⟨x, hx⟩ := get_some (l := la) (i := j) (by rw [HL.out]; exact hjn)
      obtain ⟨ad', y, rfl, hy, hcell'⟩ := (HR'.out.grown hgr HNE.out).get (j := j) hjn
      have hx1 := hf.get hx
      have hy1 := hf'.get hy
      have hoc := (HB'.out.cell j).trans (cn_get (get_mid HI.out.1 hx))
      have hof := HB'.out.frozen j
      have hw1 : IntKind.i64.wrap ((x : Int) - y) = x - y := IntWalk.i64_in _ (by omega)
      have hw2 : IntKind.i64.wrap ((x : Int) - y - c) = x - y - c := IntWalk.i64_in _ (by omega)
      have fin : ∀ (d c' : Nat), d + y + c = x + 256 * c' → d < 256 → Hid (((ys ++ [d]).length = j + 1 ∧ Fit 256 (ys ++ [d]) ∧ val 256 (ys ++ [d]) + val 256 (lb.take (j + 1)) = val 256 (la.take (j + 1)) + 256 ^ (j + 1) * c') ∧ ∀ (U W : World), U.heap = wr.heap → W = U.setCell ⟨g, j, none⟩ (.int .i64 (d : Int)) → Blk W g 3 (cn .i64 ((ys ++ [d]) ++ la.drop (j + 1)))) := by
        intro d c' hd hd2
        refine ⟨⟨by simp [HI.out.1], HI.out.2.1.append (Fit.one hd2), sub_step HI.out.1 HI.out.2.2 d c' (by rw [dig_some hx, dig_some hy]; omega)⟩, fun U W hU hW => ?_⟩
        subst hW
        have hbu : Blk U g 3 (cn .i64 (ys ++ la.drop j)) := by unfold Blk; rw [hU]; exact HB'.out
        have := hbu.set_ j (.int .i64 (d : Int))
        rw [cn_set, set_mid HI.out.1 hx] at this
        exact this
      have HF := Lib.hid fin
      clear fin hx hy
      by_cases hneg : x < y + c
      · have FF := HF.out (x + 256 - y - c) 1 (by omega) (by omega)
        have ev : (x : Int) - y - c + 256 = ((x + 256 - y - c : Nat) : Int) := by omega
        have EV := Lib.hid ev
        clear ev
        go_wp2
        go_quiet (fail)
        clear hw1 hw2
        go_wp2
        go_roundw
        case rel => exact ⟨j + 1, 1, _, by omega, by omega, by go_num, rfl, FF.out.1, FF.out.2 (wr.drewN nq) _ rfl (by rw [EV.out]), only_setCell (only_drewN hgr _) (.inl rfl) _⟩
        case measure => simp [intOf]; omega
      · have FF := HF.out (x - y - c) 0 (by omega) (by omega)
        have ev : (x : Int) - y - c = ((x - y - c : Nat) : Int) := by omega
        have EV := Lib.hid ev
        clear ev
        go_wp2
        go_quiet (fail)
        clear hw1 hw2
        go_wp2
        go_roundw
        case rel => exact ⟨j + 1, 0, _, by omega, by omega, by go_num, rfl, FF.out.1, FF.out.2 (wr.drewN nq) _ rfl (by rw [EV.out]), only_setCell (only_drewN hgr _) (.inl rfl) _⟩
        case measure => simp [intOf]; omega
    · obtain rfl : j = n := by omega
      go_wp2
      go_end0
      have hb2 := HB'.out
      rw [List.drop_eq_nil_of_le (by rw [HL.out]; exact Nat.le_refl _), List.append_nil] at hb2
      have hv := HI.out.2.2
      have hlt := val_lt HI.out.2.1
      rw [HI.out.1] at hlt
      rw [List.take_of_length_le (l := la) (by rw [HL.out]; exact Nat.le_refl _), List.take_of_length_le (l := lb) (by rw [HR'.out.1]; exact Nat.le_refl _)] at hv
      have hle := HLE.out
      have hc0 : c = 0 := by
        rcases Nat.eq_zero_or_pos c with h0 | h0
        · exact h0
        · obtain rfl : c = 1 := by omega
          omega
      subst hc0
      have e := nums_of (B := 256) (by omega) HI.out.2.1
      rw [HI.out.1, show val 256 ys = val 256 la - val 256 lb by omega] at e
      exact ⟨rfl, by rw [← e]; exact hb2, hgr⟩
end Go.Proofs.YtojpbfkdkkdpcaaDoor
