/-
  The document's side: Right, the four bytes of a number, N0, a key's bytes, Open; rests of numbers.
-/
import Derived.Test.YtppoikamenbckaaGreatDoorLimA
import Derived.Test.YtppoikamenbckaaGreatDoorKeyA
import Derived.Test.YtppoikamenbckaaGreatDoorHA
namespace Go.Proofs.YtppoikamenbckaaGreatDoor
open Go.RowKit
set_option linter.unusedVariables false
set_option linter.unusedSimpArgs false
set_option maxRecDepth 100000

end Go.Proofs.YtppoikamenbckaaGreatDoor

namespace Go.Proofs.YtppoikamenbckaaGreatDoor
set_option maxRecDepth 100000
open Go.RowKit
set_option linter.unusedVariables false
set_option linter.unusedSimpArgs false

/-- One digit of a number times another. -/
theorem shift_step {B : Nat} {l ys : List Nat} {i c q : Nat} (hl : ys.length = i) (h : val B ys + B ^ i * c = val B (l.take i) * q) (s : Nat) (hs : s = c + dig l i * q) :
    val B (ys ++ [s % B]) + B ^ (i + 1) * (s / B) = val B (l.take (i + 1)) * q := by
  rw [val_snoc, hl, val_take_succ, Nat.pow_succ, Nat.mul_assoc, Nat.add_assoc, ← Nat.mul_add, Nat.mod_add_div, hs, Nat.mul_add, Nat.add_mul, Nat.mul_assoc]
  omega

set_option maxHeartbeats 2000000 in
theorem Shifted_any (A : Option Addr) (nm cap : Nat) (l : List Nat) (k : Nat) (q : Nat) (hq : q = 2 ^ k) (hk : k < 8) (n : Nat) (w : World) (h : Rd .i64 w A nm l) (hf : Fit 256 l) (hn : n ≤ 10000) (hnm : nm ≤ n) (hv : val 256 l * q < 256 ^ n) :
    Calls Tryz.prog 56 #[.slice A nm cap, .int .i64 (k : Int), .int .i64 (n : Int)] w fun e w' => e = .returned (.slice (some ⟨w.heap.size, 0, none⟩) n n) ∧ Blk w' w.heap.size 3 (cn .i64 (nums 256 n (val 256 l * q))) ∧ Below w.heap.size w w' := by
  have HR := Lib.hid h
  have HV := Lib.hid hv
  have hqb : q ≤ 128 := by rw [hq]; exact (Nat.pow_le_pow_right (by omega) (by omega : k ≤ 7))
  have hqp : 1 ≤ q := by rw [hq]; exact Nat.two_pow_pos k
  have HQ := Lib.hid hq
  clear h hv hq
  go_enter Tryz.func56, Tryz.ntmps56
  go_wp2_with (first
    | ((with_reducible refine at_dst (some 11) ?_); refine wpList_makeNums (o := ⟨some 11, _, _, _, _, _⟩) rfl (.tmp 10) (.tmp 10) 60 3 rfl .i64 8 Tryz.underlying60 intInfo (by omega) _ _ rfl rfl n rfl (by omega) ?_; intro w1 hb1 hbel1 hs1))
  go_loopw [8, 9] (fun cc i wr => ∃ (j c : Nat) (ys : List Nat), j ≤ n ∧ c ≤ 127 ∧ i = .int .i64 (j : Int) ∧ cc = .int .i64 (c : Int) ∧ Hid (ys.length = j ∧ Fit 256 ys ∧ val 256 ys + 256 ^ j * c = val 256 (l.take j) * q) ∧ Hid (Blk wr w.heap.size 3 (cn .i64 (ys ++ List.replicate (n - j) 0))) ∧ Below w.heap.size w wr) (fun _ i _ => n - (intOf i).toNat)
  case atStart => exact ⟨0, 0, [], by omega, by omega, rfl, rfl, ⟨rfl, Fit.nil _, by simp [val]⟩, by simpa using hb1, hbel1⟩
  case round =>
    obtain ⟨j, c, ys, hj, hc, rfl, rfl, HI, HB, hbe⟩ := hrel
    by_cases hjn : j < n
    · have hoc : wr.cell? ⟨w.heap.size, j, none⟩ = some (.int .i64 ((0 : Nat) : Int)) := by
        have h3 := HB.out.cell j
        obtain ⟨p, hp⟩ : ∃ p, n - j = p + 1 := ⟨n - j - 1, by omega⟩
        have h4 := get_end ys p
        rw [HI.out.1, ← hp] at h4
        exact h3.trans (cn_get h4)
      have hof := HB.out.frozen j
      by_cases h2 : j < nm
      · obtain ⟨ad, d, rfl, hd, hcell⟩ := (HR.out.below hbe).get (j := j) h2
        have hd1 := hf.get hd
        have hm0 : d * q ≤ 255 * 128 := Nat.mul_le_mul (by omega) hqb
        obtain ⟨p, hp⟩ : ∃ p, p = d * q := ⟨_, rfl⟩
        have hst := shift_step HI.out.1 HI.out.2.2 (c + p) (by rw [dig_some hd, hp])
        have HST := Lib.hid hst
        have hp1 : (d : Int) * 2 ^ k = (p : Int) := by
          have e2 : ((2 : Int) ^ k) = ((2 ^ k : Nat) : Int) := by simp
          rw [hp, HQ.out, e2, Int.natCast_mul]
        have hp2 : p ≤ 32640 := by omega
        have HP := Lib.hid hp
        clear hd hst hm0 hp
        go_wp2
        have es : ((c : Int) + p) % 256 = (((c + p) % 256 : Nat) : Int) := by omega
        have ES := Lib.hid es
        clear es
        go_roundw
        case rel =>
          refine ⟨j + 1, (c + p) / 256, ys ++ [(c + p) % 256], by omega, by omega, by go_num, by go_num, ⟨by simp [HI.out.1], HI.out.2.1.append (Fit.one (Nat.mod_lt _ (by omega))), HST.out⟩, ?_, hbe.setCell (Nat.le_refl _) _⟩
          rw [ES.out]
          exact blk_next HB.out HI.out.1 hjn rfl
        case measure => simp [intOf]; omega
      · have hst := shift_step (q := q) HI.out.1 HI.out.2.2 c (by rw [dig_none (by rw [HR.out.1]; omega)]; omega)
        have HST := Lib.hid hst
        clear hst
        go_wp2
        have es : (c : Int) % 256 = ((c % 256 : Nat) : Int) := by omega
        have ec : (c : Int) / 256 = ((c / 256 : Nat) : Int) := by omega
        have ev : (c : Int) = ((c % 256 : Nat) : Int) := by omega
        have ES := Lib.hid es
        have EV := Lib.hid ev
        clear es ec ev
        go_roundw
        case rel =>
          refine ⟨j + 1, c / 256, ys ++ [c % 256], by omega, by omega, by go_num, by go_num, ⟨by simp [HI.out.1], HI.out.2.1.append (Fit.one (Nat.mod_lt _ (by omega))), HST.out⟩, ?_, hbe.setCell (Nat.le_refl _) _⟩
          have := blk_next (d := c % 256) HB.out HI.out.1 hjn (rfl : wr.heap = wr.heap)
          first
          | exact this
          | (rw [ES.out]; exact this)
          | (rw [EV.out]; exact this)
        case measure => simp [intOf]; omega
    · obtain rfl : j = n := by omega
      go_wp2
      go_ret
      have hb2 := HB.out
      rw [Nat.sub_self, List.replicate_zero, List.append_nil] at hb2
      have hv := HI.out.2.2
      rw [List.take_of_length_le (l := l) (by rw [HR.out.1]; omega)] at hv
      have hc0 : c = 0 := by
        rcases Nat.eq_zero_or_pos c with h0 | h0
        · exact h0
        · have := HV.out
          have : 256 ^ j * 1 ≤ 256 ^ j * c := Nat.mul_le_mul_left _ h0
          omega
      subst hc0
      have e := nums_of (B := 256) (by omega) HI.out.2.1
      rw [HI.out.1, show val 256 ys = val 256 l * q by omega] at e
      exact ⟨rfl, by rw [← e]; exact hb2, hbe⟩

theorem ord_ge_val {B : Nat} {la lb : List Nat} {j x y : Nat} (ha : Fit B la) (hb : Fit B lb) (hx : la[j]? = some x) (hy : lb[j]? = some y) (hd : la.drop (j + 1) = lb.drop (j + 1)) (hne : x ≠ y) : val B lb ≤ val B la ↔ y < x := by
  have := ord_split ha hb hx hy hd hne
  rw [← ord_ge, this]
  unfold ord
  split <;> (try split) <;> omega

set_option maxHeartbeats 800000 in
theorem Least_any (A A' : Option Addr) (n cap cap' : Nat) (la lb : List Nat) (w : World) (h : Rd .i64 w A n la) (h' : Rd .i64 w A' n lb) (hf : Fit 256 la) (hf' : Fit 256 lb) (hn : n ≤ 1000000) :
    Calls Tryz.prog 57 #[.slice A n cap, .slice A' n cap'] w fun e w' => e = .returned (.bool (decide (val 256 lb ≤ val 256 la))) ∧ w'.heap = w.heap ∧ Below w.heap.size w w' := by
  have l1 := h.1
  have l2 := h'.1
  have HR := Lib.hid h
  have HR' := Lib.hid h'
  clear h h'
  go_enter Tryz.func57, Tryz.ntmps57
  go_wp2
  go_loopw [5] (fun i wr => ∃ k : Nat, k ≤ n ∧ i = .int .i64 ((k : Int) - 1) ∧ Hid (la.drop k = lb.drop k) ∧ Hid (wr.heap = w.heap) ∧ Below w.heap.size w wr) (fun i _ => (intOf i + 1).toNat)
  case atStart => exact ⟨n, Nat.le_refl _, rfl, by show _ = _; rw [List.drop_eq_nil_of_le (by omega), List.drop_eq_nil_of_le (by omega)], rfl, below_self⟩
  case round =>
    obtain ⟨k, hk, rfl, HD, HH, hbe⟩ := hrel
    rcases k with _ | k
    · go_wp2
      go_ret
      have := HD.out
      rw [List.drop_zero, List.drop_zero] at this
      exact ⟨by rw [this, decide_eq_true (Nat.le_refl _)]; rfl, HH.out, hbe⟩
    · obtain ⟨ad, x, rfl, hx, hcell⟩ := (HR.out.below hbe).get (j := k) (by omega)
      obtain ⟨ad', y, rfl, hy, hcell'⟩ := (HR'.out.below hbe).get (j := k) (by omega)
      have HX := Lib.hid hx
      have HY := Lib.hid hy
      clear hx hy
      by_cases hxy : x = y
      · subst hxy
        go_wp2
        go_quiet (fail)
        go_wp2
        go_roundw
        case rel => exact ⟨k, by omega, by go_num, drop_step HX.out HY.out HD.out, HH, below_drewN hbe _⟩
        case measure => simp [intOf]
      · have hne1 : ((x : Int) != (y : Int)) = true := by simp; omega
        have hne2 : (x != y) = true := by simp [hxy]
        have hord := ord_ge_val hf hf' HX.out HY.out HD.out hxy
        by_cases hlt : y < x
        · have hd1 : decide ((y : Int) < (x : Int)) = true := decide_eq_true (by omega)
          have hd2 : decide (y < x) = true := decide_eq_true hlt
          have HE := Lib.hid (decide_eq_true (hord.2 hlt))
          clear hord
          go_wp2
          go_quiet (fail)
          go_wp2
          go_quiet (fail)
          go_wp2
          go_ret
          exact ⟨by rw [HE.out]; rfl, HH.out, by first | exact below_drewN hbe _ | exact below_drewN (below_drewN hbe _) _⟩
        · have hd1 : decide ((y : Int) < (x : Int)) = false := decide_eq_false (by omega)
          have hd2 : decide (y < x) = false := decide_eq_false hlt
          have HE := Lib.hid (decide_eq_false (fun h => hlt (hord.1 h)))
          clear hord
          go_wp2
          go_quiet (fail)
          go_wp2
          go_quiet (fail)
          go_wp2
          go_ret
          exact ⟨by rw [HE.out]; rfl, HH.out, by first | exact below_drewN hbe _ | exact below_drewN (below_drewN hbe _) _⟩

theorem get_mid {ys l : List Nat} {j x : Nat} (hl : ys.length = j) (hx : l[j]? = some x) : (ys ++ l.drop j)[j]? = some x := by
  rw [List.getElem?_append_right (by omega), hl, Nat.sub_self, List.getElem?_drop]; simpa using hx
theorem set_mid {ys l : List Nat} {j x : Nat} (hl : ys.length = j) (hx : l[j]? = some x) (d : Nat) : (ys ++ l.drop j).set j d = (ys ++ [d]) ++ l.drop (j + 1) := by
  have hi := (List.getElem?_eq_some_iff.1 hx).1
  rw [List.set_append, if_neg (by omega), hl, Nat.sub_self, List.drop_eq_getElem_cons hi, List.set_cons_zero, List.append_assoc]; rfl

set_option maxHeartbeats 2000000 in
theorem Take_any (g n cap : Nat) (A' : Option Addr) (cap' : Nat) (la lb : List Nat) (w : World) (hB : Blk w g 3 (cn .i64 la)) (hl : la.length = n) (hf : Fit 256 la) (h' : Rd .i64 w A' n lb) (hf' : Fit 256 lb) (hne : ∀ ad, A' = some ad → ad.block ≠ g) (hn : n ≤ 10000) (hle : val 256 lb ≤ val 256 la) :
    Calls Tryz.prog 58 #[.slice (some ⟨g, 0, none⟩) n cap, .slice A' n cap'] w fun e w' => e = .returned (.tuple #[]) ∧ Blk w' g 3 (cn .i64 (nums 256 n (val 256 la - val 256 lb))) ∧ w.grownBy w' (some g) := by
  have HB := Lib.hid hB
  have HR' := Lib.hid h'
  have HNE := Lib.hid hne
  have HLE := Lib.hid hle
  have HL := Lib.hid hl
  clear hB h' hne hle hl
  go_enter Tryz.func58, Tryz.ntmps58
  go_wp2
  go_loopw [4, 5] (fun cc i wr => ∃ (j c : Nat) (ys : List Nat), j ≤ n ∧ c ≤ 1 ∧ i = .int .i64 (j : Int) ∧ cc = .int .i64 (c : Int) ∧ Hid (ys.length = j ∧ Fit 256 ys ∧ val 256 ys + val 256 (lb.take j) = val 256 (la.take j) + 256 ^ j * c) ∧ Hid (Blk wr g 3 (cn .i64 (ys ++ la.drop j))) ∧ w.grownBy wr (some g)) (fun _ i _ => n - (intOf i).toNat)
  case atStart => exact ⟨0, 0, [], by omega, by omega, rfl, rfl, ⟨rfl, Fit.nil _, by simp [val]⟩, HB, World.grownBy.refl w _⟩
  case round =>
    obtain ⟨j, c, ys, hj, hc, rfl, rfl, HI, HB', hgr⟩ := hrel
    by_cases hjn : j < n
    · obtain ⟨x, hx⟩ := get_some (l := la) (i := j) (by rw [HL.out]; exact hjn)
      obtain ⟨ad', y, rfl, hy, hcell'⟩ := (HR'.out.grown hgr HNE.out).get (j := j) hjn
      have hx1 := hf.get hx
      have hy1 := hf'.get hy
      have hoc := (HB'.out.cell j).trans (cn_get (get_mid HI.out.1 hx))
      have hof := HB'.out.frozen j
      have hw1 : IntKind.i64.wrap ((x : Int) - y) = x - y := IntWalk.i64_in _ (by omega)
      have hw2 : IntKind.i64.wrap ((x : Int) - y - c) = x - y - c := IntWalk.i64_in _ (by omega)
      have fin : ∀ (d c' : Nat), d + y + c = x + 256 * c' → d < 256 → Hid (((ys ++ [d]).length = j + 1 ∧ Fit 256 (ys ++ [d]) ∧ val 256 (ys ++ [d]) + val 256 (lb.take (j + 1)) = val 256 (la.take (j + 1)) + 256 ^ (j + 1) * c') ∧ ∀ (U W : World), U.heap = wr.heap → W = U.setCell ⟨g, j, none⟩ (.int .i64 (d : Int)) → Blk W g 3 (cn .i64 ((ys ++ [d]) ++ la.drop (j + 1)))) := by
        intro d c' hd hd2
        refine ⟨⟨by simp [HI.out.1], HI.out.2.1.append (Fit.one hd2), sub_step HI.out.1 HI.out.2.2 d c' (by rw [dig_some hx, dig_some hy]; omega)⟩, fun U W hU hW => ?_⟩
        subst hW
        have hbu : Blk U g 3 (cn .i64 (ys ++ la.drop j)) := by unfold Blk; rw [hU]; exact HB'.out
        have := hbu.set_ j (.int .i64 (d : Int))
        rw [cn_set, set_mid HI.out.1 hx] at this
        exact this
      have HF := Lib.hid fin
      clear fin hx hy
      by_cases hneg : x < y + c
      · have FF := HF.out (x + 256 - y - c) 1 (by omega) (by omega)
        have ev : (x : Int) - y - c + 256 = ((x + 256 - y - c : Nat) : Int) := by omega
        have EV := Lib.hid ev
        clear ev
        go_wp2
        go_quiet (fail)
        clear hw1 hw2
        go_wp2
        go_roundw
        case rel => exact ⟨j + 1, 1, _, by omega, by omega, by go_num, rfl, FF.out.1, FF.out.2 (wr.drewN nq) _ rfl (by rw [EV.out]), only_setCell (only_drewN hgr _) (.inl rfl) _⟩
        case measure => simp [intOf]; omega
      · have FF := HF.out (x - y - c) 0 (by omega) (by omega)
        have ev : (x : Int) - y - c = ((x - y - c : Nat) : Int) := by omega
        have EV := Lib.hid ev
        clear ev
        go_wp2
        go_quiet (fail)
        clear hw1 hw2
        go_wp2
        go_roundw
        case rel => exact ⟨j + 1, 0, _, by omega, by omega, by go_num, rfl, FF.out.1, FF.out.2 (wr.drewN nq) _ rfl (by rw [EV.out]), only_setCell (only_drewN hgr _) (.inl rfl) _⟩
        case measure => simp [intOf]; omega
    · obtain rfl : j = n := by omega
      go_wp2
      go_end0
      have hb2 := HB'.out
      rw [List.drop_eq_nil_of_le (by rw [HL.out]; exact Nat.le_refl _), List.append_nil] at hb2
      have hv := HI.out.2.2
      have hlt := val_lt HI.out.2.1
      rw [HI.out.1] at hlt
      rw [List.take_of_length_le (l := la) (by rw [HL.out]; exact Nat.le_refl _), List.take_of_length_le (l := lb) (by rw [HR'.out.1]; exact Nat.le_refl _)] at hv
      have hle := HLE.out
      have hc0 : c = 0 := by
        rcases Nat.eq_zero_or_pos c with h0 | h0
        · exact h0
        · obtain rfl : c = 1 := by omega
          omega
      subst hc0
      have e := nums_of (B := 256) (by omega) HI.out.2.1
      rw [HI.out.1, show val 256 ys = val 256 la - val 256 lb by omega] at e
      exact ⟨rfl, by rw [← e]; exact hb2, hgr⟩
end Go.Proofs.YtppoikamenbckaaGreatDoor

namespace Go.Proofs.YtppoikamenbckaaGreatDoor
set_option maxRecDepth 100000
open Go.RowKit
set_option linter.unusedVariables false
set_option linter.unusedSimpArgs false

/-- The eight slices in the block gs: those laid so far, and nils. -/
def Laid (gl : List Nat) (N : Nat) : List Value := (gl.map fun (g : Nat) => Value.slice (some ⟨g, 0, none⟩) N N) ++ List.replicate (8 - gl.length) (Value.slice none 0 0)
theorem Laid.get {gl : List Nat} {N j g : Nat} (h : gl[j]? = some g) : (Laid gl N)[j]? = some (.slice (some ⟨g, 0, none⟩) N N) := by
  have hi := (List.getElem?_eq_some_iff.1 h).1
  rw [Laid, List.getElem?_append_left (by simpa using hi), List.getElem?_map, h]; rfl
theorem Laid.next (gl : List Nat) (N : Nat) (h : gl.length < 8) : (Laid gl N)[gl.length]? = some (.slice none 0 0) := by
  obtain ⟨p, hp⟩ : ∃ p, 8 - gl.length = p + 1 := ⟨8 - gl.length - 1, by omega⟩
  rw [Laid, List.getElem?_append_right (by simp), List.length_map, Nat.sub_self, hp, List.replicate_succ]
  rfl
theorem Laid.set (gl : List Nat) (N g : Nat) (h : gl.length < 8) : (Laid gl N).set gl.length (.slice (some ⟨g, 0, none⟩) N N) = Laid (gl ++ [g]) N := by
  obtain ⟨p, hp⟩ : ∃ p, 8 - gl.length = p + 1 := ⟨8 - gl.length - 1, by omega⟩
  rw [Laid, Laid, List.set_append, if_neg (by simp), List.length_map, Nat.sub_self, hp, List.replicate_succ, List.set_cons_zero]
  simp
  omega
/-- All that lies behind the first loop. -/
structure Lies (w wr : World) (gr gs N M k : Nat) (gl : List Nat) : Prop where
  len : gl.length = k
  arr : Blk wr gs 88 (Laid gl N)
  each : ∀ (j g : Nat), gl[j]? = some g → Blk wr g 3 (cn .i64 (nums 256 N (M * 2 ^ j))) ∧ gs < g
  bel : Below w.heap.size w wr

theorem only_then {a w w2 : World} {g : Nat} {row : Option Nat} (h : a.grownBy w (some g)) (k : w.grownBy w2 row) (hr : ∀ j, row = some j → j = g) : a.grownBy w2 (some g) :=
  ⟨k.os.trans h.os, k.tape.trans h.tape, k.output.trans h.output, Nat.le_trans h.size k.size, fun i hi hne =>
    (k.block i (Nat.lt_of_lt_of_le hi h.size) (fun e => hne (by rw [hr i e.symm]))).trans (h.block i hi hne)⟩
theorem Laid.zero (N : Nat) : Laid [] N = List.replicate 8 (Value.slice none 0 0) := rfl
/-- The digits moved up by one place. -/
def moved (R : List Nat) (N j : Nat) : List Nat := R.take (j + 1) ++ (R.drop j).take (N - 1 - j)
theorem moved_length {R : List Nat} {N j : Nat} (h : R.length = N) (hj : j < N) : (moved R N j).length = N := by simp [moved]; omega
theorem moved_start {R : List Nat} {N : Nat} (h : R.length = N) (hN : 0 < N) : moved R N (N - 1) = R := by
  rw [moved, show N - 1 - (N - 1) = 0 by omega, List.take_zero, List.append_nil, List.take_of_length_le (by omega)]
theorem moved_get {R : List Nat} {N j y : Nat} (hy : R[j]? = some y) : (moved R N (j + 1))[j]? = some y := by
  have hi := (List.getElem?_eq_some_iff.1 hy).1
  rw [moved, List.getElem?_append_left (by simp; omega), List.getElem?_take, if_pos (by omega), hy]
theorem moved_step {R : List Nat} {N j y : Nat} (h : R.length = N) (hy : R[j]? = some y) (hj : j + 1 < N) : (moved R N (j + 1)).set (j + 1) y = moved R N j := by
  have hi := (List.getElem?_eq_some_iff.1 hy).1
  have e := (List.getElem?_eq_some_iff.1 hy).2
  have hl : (R.take (j + 1 + 1)).length = j + 1 + 1 := by simp; omega
  rw [moved, moved, List.set_append, if_pos (by omega), List.drop_eq_getElem_cons (l := R) (i := j) hi, e, show N - 1 - j = (N - 1 - (j + 1)) + 1 by omega, List.take_succ_cons]
  obtain ⟨z, hz⟩ := get_some (l := R) (i := j + 1) (by omega)
  rw [take_trim hz, List.set_append, if_neg (by simp; omega)]
  have hl2 : (R.take (j + 1)).length = j + 1 := by simp; omega
  rw [hl2, Nat.sub_self, List.set_cons_zero, List.append_assoc]
  rfl
theorem moved_end {R : List Nat} {N x : Nat} (h : R.length = N) (hN : 0 < N) : (moved R N 0).set 0 x = x :: R.take (N - 1) := by
  obtain ⟨y, hy⟩ := get_some (l := R) (i := 0) (by omega)
  rw [moved, take_trim hy, List.take_zero, List.nil_append, List.drop_zero, Nat.sub_zero]
  rfl
theorem moved_val {R : List Nat} {N x : Nat} (h : R.length = N) (hN : 0 < N) (hv : val 256 R < 256 ^ (N - 1)) : val 256 (x :: R.take (N - 1)) = x + 256 * val 256 R := by
  have e : val 256 (R.take (N - 1)) = val 256 R := by
    have h1 := val_take_succ 256 R (N - 1)
    rw [show N - 1 + 1 = N by omega, List.take_of_length_le (by omega)] at h1
    rcases Nat.eq_zero_or_pos (dig R (N - 1)) with h2 | h2
    · rw [h2, Nat.mul_zero] at h1; omega
    · have : 256 ^ (N - 1) * 1 ≤ 256 ^ (N - 1) * dig R (N - 1) := Nat.mul_le_mul_left _ h2
      omega
  rw [val, e]
/-- One digit more, and its rest. -/
theorem rest_step {x r M D : Nat} (hr : r = D % M) : (x + 256 * r) % M = (x + 256 * D) % M := by
  rw [hr, Nat.add_mod, Nat.mul_mod, Nat.mod_mod, ← Nat.mul_mod, ← Nat.add_mod]

set_option maxHeartbeats 4000000 in
theorem Mod_any (A A' : Option Addr) (na capa nm capm : Nat) (la lm : List Nat) (w : World) (h : Rd .i64 w A na la) (h' : Rd .i64 w A' nm lm) (hf : Fit 256 la) (hf' : Fit 256 lm) (hna : na ≤ 5000) (hnm : nm ≤ 5000) (hM : 0 < val 256 lm) :
    Calls Tryz.prog 34 #[.slice A na capa, .slice A' nm capm] w (GivesDigs w (val 256 la % val 256 lm)) := by
  have HR := Lib.hid h
  have HR' := Lib.hid h'
  have HM := Lib.hid hM
  obtain ⟨N, hN⟩ : ∃ N, N = nm + 2 := ⟨_, rfl⟩
  have HN := Lib.hid hN
  have hN2 : (nm : Int) + 2 = N := by omega
  have HN2 := Lib.hid hN2
  obtain ⟨P, hP⟩ : ∃ P, N = P + 1 := ⟨N - 1, by omega⟩
  have HP := Lib.hid hP
  have hP2 : (N : Int) - 1 = P := by omega
  have hNb : N ≤ 10000 := by omega
  have hN0 : 2 ≤ N := by omega
  have hshift : ∀ k, k < 8 → val 256 lm * 2 ^ k < 256 ^ N := fun k hk => by
    have h1 := val_lt hf'
    rw [h'.1] at h1
    have h2 : 2 ^ k ≤ 2 ^ 7 := Nat.pow_le_pow_right (by omega) (by omega)
    have h3 : val 256 lm * 2 ^ k ≤ 256 ^ nm * 2 ^ 7 := Nat.mul_le_mul (by omega) h2
    have h4 : 256 ^ N = 256 ^ nm * 65536 := by rw [hN, Nat.pow_add]
    have h5 : 0 < 256 ^ nm := Nat.pow_pos (by omega)
    omega
  have HSH := Lib.hid hshift
  clear h h' hM hN hshift hP
  go_enter Tryz.func34, Tryz.ntmps34
  go_wp2_with (first
    | ((with_reducible refine at_dst (some 16) ?_); refine wpList_makeNums (o := ⟨some 16, _, _, _, _, _⟩) rfl (.tmp 15) (.tmp 15) 60 3 rfl .i64 8 Tryz.underlying60 intInfo (by omega) _ _ rfl rfl N (by first | rfl | exact HN2.out) (by omega) ?_; intro w1 hb1 hbel1 hs1))
  have L0 : Lies w (w1.alloc (.cells #[.slice none 0 0, .slice none 0 0, .slice none 0 0, .slice none 0 0, .slice none 0 0, .slice none 0 0, .slice none 0 0, .slice none 0 0] 88)) w.heap.size w1.heap.size N (val 256 lm) 0 [] :=
    ⟨rfl, heap_alloc_new _ _, fun j g hj => by simp at hj, hbel1.alloc (Nat.le_of_lt hs1) _⟩
  have R0 : Blk (w1.alloc (.cells #[.slice none 0 0, .slice none 0 0, .slice none 0 0, .slice none 0 0, .slice none 0 0, .slice none 0 0, .slice none 0 0, .slice none 0 0] 88)) w.heap.size 3 (cn .i64 (List.replicate N 0)) := hb1.out.alloc _
  have HL0 := Lib.hid L0
  have HR0 := Lib.hid R0
  clear L0 R0
  go_loopw [8] (fun i wr => ∃ (k : Nat) (gl : List Nat), k ≤ 8 ∧ i = .int .i64 (k : Int) ∧ Hid (Lies w wr w.heap.size w1.heap.size N (val 256 lm) k gl) ∧ Hid (Blk wr w.heap.size 3 (cn .i64 (List.replicate N 0)))) (fun i _ => 8 - (intOf i).toNat)
  case atStart => exact ⟨0, [], by omega, rfl, HL0, HR0⟩
  case round =>
    obtain ⟨k, gl, hk, rfl, HL, HRR⟩ := hrel
    by_cases hk8 : k < 8
    · go_wp2_with fail
      refine (Shifted_any A' nm capm lm k (2 ^ k) rfl hk8 N wr (HR'.out.below HL.out.bel) hf' hNb (by have := HN.out; omega) (HSH.out k hk8)).mono ?_
      rintro e w2 ⟨rfl, hb2, hbel2⟩
      have hlt := HL.out.arr.lt
      have arr2 : Blk w2 w1.heap.size 88 (Laid gl N) := HL.out.arr.below hbel2 hlt
      have hnx := Laid.next gl N (by rw [HL.out.len]; exact hk8)
      rw [HL.out.len] at hnx
      have hoc : w2.cell? ⟨w1.heap.size, k, none⟩ = some (.slice none 0 0) := (arr2.cell k).trans hnx
      have hof := arr2.frozen k
      have ARR2 := Lib.hid arr2
      have HB2 := Lib.hid hb2
      have HLT := Lib.hid hlt
      clear arr2 hb2 hlt hnx
      go_wp2
      go_roundw
      case rel =>
        refine ⟨k + 1, gl ++ [wr.heap.size], by omega, by go_num, ⟨by simp [HL.out.len], ?_, fun j g hj => ?_, ?_⟩, ?_⟩
        · have := ARR2.out.set_ k (.slice (some ⟨wr.heap.size, 0, none⟩) N N)
          rw [← Laid.set gl N wr.heap.size (by rw [HL.out.len]; exact hk8), HL.out.len]
          exact this
        · rcases Nat.lt_or_ge j gl.length with hj2 | hj2
          · rw [List.getElem?_append_left hj2] at hj
            obtain ⟨e1, e2⟩ := HL.out.each j g hj
            exact ⟨(e1.below hbel2 e1.lt).far (by show g ≠ w1.heap.size; omega) _, e2⟩
          · rw [List.getElem?_append_right hj2] at hj
            have hj3 : j = gl.length := by
              rcases Nat.eq_zero_or_pos (j - gl.length) with h0 | h0
              · omega
              · rw [List.getElem?_eq_none (by simp; omega)] at hj; cases hj
            rw [hj3, Nat.sub_self] at hj
            simp at hj
            subst hj
            rw [hj3, HL.out.len]
            exact ⟨HB2.out.far (by show wr.heap.size ≠ w1.heap.size; have := HLT.out; omega) _, HLT.out⟩
        · have b2 : Below w.heap.size w w2 := HL.out.bel.trans (hbel2.mono HL.out.bel.size)
          exact b2.setCell (p := ⟨w1.heap.size, k, none⟩) (Nat.le_of_lt hs1) _
        · exact (HRR.out.below hbel2 HRR.out.lt).far (by show w.heap.size ≠ w1.heap.size; omega) _
      case measure => simp [intOf]; omega
    · obtain rfl : k = 8 := by omega
      rw [show ((8 : Nat) : Int) = 8 from rfl]
      obtain ⟨w4, hw4⟩ : ∃ w4, w4 = wr := ⟨_, rfl⟩
      have HL4 := HL
      have HR4 := HRR
      rw [← hw4] at HL4 HR4 ⊢
      clear hw4 HL HRR HL0 HR0
      have hroom : ∀ v, v < val 256 lm * 256 → v < 256 ^ N := fun v hv => by
        have h1 := val_lt hf'
        rw [HR'.out.1] at h1
        have h4 : 256 ^ N = 256 ^ nm * 65536 := by rw [HN.out, Nat.pow_add]
        omega
      have HRM := Lib.hid hroom
      have hMlt : val 256 lm < 256 ^ (N - 1) := by
        have h1 := val_lt hf'
        rw [HR'.out.1] at h1
        have h4 : 256 ^ (N - 1) = 256 ^ nm * 256 := by rw [HN.out, show nm + 2 - 1 = nm + 1 by omega, Nat.pow_succ]
        omega
      have HML := Lib.hid hMlt
      clear hroom hMlt
      go_wp2
      go_loopw [9] (fun ii wr => ∃ (i : Nat) (R : List Nat), i ≤ na ∧ ii = .int .i64 ((i : Int) - 1) ∧ Hid (R = nums 256 N (val 256 (la.drop i) % val 256 lm)) ∧ Hid (Blk wr w.heap.size 3 (cn .i64 R)) ∧ w4.grownBy wr (some w.heap.size)) (fun ii _ => (intOf ii + 1).toNat)
      case atStart =>
        refine ⟨na, List.replicate N 0, Nat.le_refl _, rfl, ?_, HR4, World.grownBy.refl _ _⟩
        show _ = _
        rw [List.drop_eq_nil_of_le (by rw [HR.out.1]; exact Nat.le_refl _)]
        have := nums_of (B := 256) (by omega) (Fit.replicate 256 N 0 (by omega))
        rw [List.length_replicate, val_replicate] at this
        rw [this]
        simp [val]
      case round =>
        obtain ⟨i, R, hi, rfl, HRV, HB, hgr⟩ := hrel
        rcases i with _ | i
        · go_wp2_with fail
          have hr := HB.out.rd N (by rw [HRV.out, nums_length])
          refine (Trim_any _ _ _ _ _ hr (by omega) (Nat.le_refl _) (by unfold maxLen; omega)).mono ?_
          rintro e w5 ⟨⟨j, hj, rfl, ht⟩, rfl⟩
          go_wp2
          go_ret
          have b4 : Below w.heap.size w wr := below_only HL4.out.bel hgr HL4.out.bel.size (fun j hj => by injection hj with hj; omega)
          refine ⟨_, _, _, rfl, ?_, hj, by unfold maxLen; omega, b4⟩
          have := hr.take j hj
          rw [ht, HRV.out, trim_digs (nums_fit (by omega) _ _), nums_val, List.drop_zero, Nat.mod_eq_of_lt (HRM.out _ (by have := Nat.mod_lt (val 256 la) HM.out; omega))] at this
          exact this
        · rw [show (((i + 1 : Nat)) : Int) - 1 = (i : Int) by omega]
          obtain ⟨x, hx⟩ := get_some (l := la) (i := i) (by rw [HR.out.1]; omega)
          have hx1 := hf.get hx
          have hRl : R.length = N := by rw [HRV.out, nums_length]
          have hRv : val 256 R = val 256 (la.drop (i + 1)) % val 256 lm := by
            rw [HRV.out, nums_val, Nat.mod_eq_of_lt (HRM.out _ (by have := Nat.mod_lt (val 256 (la.drop (i + 1))) HM.out; omega))]
          have hRf : Fit 256 R := by rw [HRV.out]; exact nums_fit (by omega) _ _
          have HX := Lib.hid hx
          have HRL := Lib.hid hRl
          have HRv := Lib.hid hRv
          have HRF := Lib.hid hRf
          clear hx hRl hRv hRf
          go_wp2
          rename World => w5
          go_loopw [10] (fun jj wr => ∃ j : Nat, j < N ∧ jj = .int .i64 (j : Int) ∧ Hid (Blk wr w.heap.size 3 (cn .i64 (moved R N j))) ∧ w4.grownBy wr (some w.heap.size)) (fun jj _ => (intOf jj).toNat)
          case atStart =>
            refine ⟨P, by have := HP.out; omega, by go_num, ?_, hgr⟩
            have e := moved_start HRL.out (by omega)
            rw [HP.out, Nat.add_sub_cancel, ← HP.out] at e
            rw [e]
            exact HB
          case round =>
            obtain ⟨j, hj, rfl, HBj, hgj⟩ := hrel
            rcases j with _ | j
            · rw [show ((0 : Nat) : Int) = 0 from rfl]
              have hA := (HR.out.below HL4.out.bel).grown hgj (fun ad e => by have := HR.out.lt (by omega) ad e; omega)
              obtain ⟨ad, x', rfl, hx', hcell⟩ := hA.get (j := i) (by omega)
              obtain rfl : x' = x := by have := HX.out; rw [this] at hx'; injection hx' with e; exact e.symm
              obtain ⟨o0, ho0⟩ := get_some (l := moved R N 0) (i := 0) (by rw [moved_length HRL.out (by omega)]; omega)
              have hoc := (HBj.out.cell 0).trans (cn_get ho0)
              have hof := HBj.out.frozen 0
              have hfin : Fit 256 (x' :: R.take (N - 1)) := fun d hd => by
                rcases List.mem_cons.1 hd with rfl | hd
                · exact hx1
                · exact HRF.out.take _ d hd
              have hval := moved_val (x := x') HRL.out (by omega) (by rw [HRv.out]; have := Nat.mod_lt (val 256 (la.drop (i + 1))) HM.out; have := HML.out; omega)
              have hlist := nums_of (B := 256) (by omega) hfin
              rw [List.length_cons, List.length_take, HRL.out, show min (N - 1) N + 1 = N by omega, hval] at hlist
              have HLI := Lib.hid hlist
              have hend := moved_end (x := x') HRL.out (by omega)
              have HEN := Lib.hid hend
              clear hA hx' ho0 hfin hval hlist hend
              go_wp2
              rename World => w6
              go_loopw [11] (fun kk wr => ∃ (k v : Nat), k ≤ 8 ∧ kk = .int .i64 ((k : Int) - 1) ∧ Hid (v < val 256 lm * 2 ^ k ∧ v % val 256 lm = (x' + 256 * val 256 R) % val 256 lm) ∧ Hid (Blk wr w.heap.size 3 (cn .i64 (nums 256 N v))) ∧ w4.grownBy wr (some w.heap.size)) (fun kk _ => (intOf kk + 1).toNat)
              case atStart =>
                refine ⟨8, x' + 256 * val 256 R, Nat.le_refl _, by go_num, ⟨?_, rfl⟩, ?_, only_setCell hgj (.inl rfl) _⟩
                · have h1 : val 256 R < val 256 lm := by rw [HRv.out]; exact Nat.mod_lt _ HM.out
                  rw [show (2 : Nat) ^ 8 = 256 from rfl]
                  omega
                · have := HBj.out.set_ 0 (.int .i64 (x' : Int))
                  rw [cn_set, HEN.out, HLI.out] at this
                  exact this
              case round =>
                obtain ⟨k, v, hk, rfl, HV, HBk, hgk⟩ := hrel
                rcases k with _ | k
                · go_wp2
                  go_roundw
                  case rel =>
                    refine ⟨i, nums 256 N v, by omega, by go_num, ?_, HBk, hgk⟩
                    show _ = _
                    have h1 := HV.out.1
                    have h2 := HV.out.2
                    rw [Nat.pow_zero, Nat.mul_one] at h1
                    rw [Nat.mod_eq_of_lt h1, rest_step HRv.out] at h2
                    have h3 : val 256 (la.drop i) = x' + 256 * val 256 (la.drop (i + 1)) := by
                      have hil := (List.getElem?_eq_some_iff.1 HX.out).1
                      rw [List.drop_eq_getElem_cons hil, (List.getElem?_eq_some_iff.1 HX.out).2, val]
                    rw [h3, ← h2]
                  case measure => simp [intOf]
                · obtain ⟨gk, hgk2⟩ : ∃ gk, gl[k]? = some gk := ⟨_, List.getElem?_eq_getElem (by rw [HL4.out.len]; omega)⟩
                  obtain ⟨hbk4, hgs⟩ := HL4.out.each k gk hgk2
                  have hgne : gk ≠ w.heap.size := by omega
                  have arrk : Blk wr w1.heap.size 88 (Laid gl N) := HL4.out.arr.grown hgk (by intro e; injection e with e; omega)
                  have hbkr : Blk wr gk 3 (cn .i64 (nums 256 N (val 256 lm * 2 ^ k))) := hbk4.grown hgk (by intro e; injection e with e; omega)
                  have hload := (arrk.cell k).trans (Laid.get hgk2)
                  have vlt : v < 256 ^ N := HRM.out v (by
                    have h1 := HV.out.1
                    have h2 : 2 ^ (k + 1) ≤ 256 := by
                      have := Nat.pow_le_pow_right (by omega : 0 < 2) (by omega : k + 1 ≤ 8)
                      simpa using this
                    have h3 : val 256 lm * 2 ^ (k + 1) ≤ val 256 lm * 256 := Nat.mul_le_mul_left _ h2
                    omega)
                  have qlt := HSH.out k (by omega)
                  have ev : val 256 (nums 256 N v) = v := by rw [nums_val, Nat.mod_eq_of_lt vlt]
                  have eq : val 256 (nums 256 N (val 256 lm * 2 ^ k)) = val 256 lm * 2 ^ k := by rw [nums_val, Nat.mod_eq_of_lt qlt]
                  have HBKR := Lib.hid hbkr
                  have HEV := Lib.hid ev
                  have HEQ := Lib.hid eq
                  have HARR := Lib.hid arrk
                  clear hgk2 hbk4 hgs arrk hbkr vlt qlt ev eq
                  go_wp2_with fail
                  refine (Least_any _ _ N N N _ _ wr (HBk.out.rd N (nums_length _ _ _)) (HBKR.out.rd N (nums_length _ _ _)) (nums_fit (by omega) _ _) (nums_fit (by omega) _ _) (by omega)).mono ?_
                  rintro e w7 ⟨rfl, hh7, hb7⟩
                  rw [HEV.out, HEQ.out]
                  have hg7 : w4.grownBy w7 (some w.heap.size) := only_then hgk (only_of_below hb7 none) (by simp)
                  have HB7 : Hid (Blk w7 w.heap.size 3 (cn .i64 (nums 256 N v))) := by show Blk _ _ _ _; unfold Blk; rw [hh7]; exact HBk.out
                  have HK7 : Hid (Blk w7 gk 3 (cn .i64 (nums 256 N (val 256 lm * 2 ^ k)))) := by show Blk _ _ _ _; unfold Blk; rw [hh7]; exact HBKR.out
                  have hload7 : w7.cell? ⟨w1.heap.size, k, none⟩ = some (.slice (some ⟨gk, 0, none⟩) N N) := by
                    have := hb7.cell (p := ⟨w1.heap.size, k, none⟩) HARR.out.lt
                    rw [this]; exact hload
                  clear hload hh7 hb7 HBKR HBk HARR
                  by_cases hle : val 256 lm * 2 ^ k ≤ v
                  · have hd : decide (val 256 lm * 2 ^ k ≤ v) = true := decide_eq_true hle
                    have HLE := Lib.hid hle
                    rw [hd]
                    clear hd hle
                    go_wp2_with fail
                    refine (Take_any w.heap.size N N (some ⟨gk, 0, none⟩) N _ _ w7 HB7.out (nums_length _ _ _) (nums_fit (by omega) _ _) (HK7.out.rd N (nums_length _ _ _)) (nums_fit (by omega) _ _) (fun ad e => by injection e with e; rw [← e]; exact hgne) hNb (by rw [HEV.out, HEQ.out]; exact HLE.out)).mono ?_
                    rintro e w8 ⟨rfl, hb8, hg8⟩
                    rw [HEV.out, HEQ.out] at hb8
                    have hg48 : w4.grownBy w8 (some w.heap.size) := only_then hg7 hg8 (fun j hj => by injection hj with hj; exact hj.symm)
                    have HB8 := Lib.hid hb8
                    clear hb8 hg8 hg7 HB7 HK7 hload7
                    go_wp2
                    go_roundw
                    case rel =>
                      refine ⟨k, v - val 256 lm * 2 ^ k, by omega, by go_num, ⟨?_, ?_⟩, HB8, hg48⟩
                      · have h1 := HV.out.1
                        have h2 := HLE.out
                        rw [Nat.pow_succ, ← Nat.mul_assoc] at h1
                        show v - val 256 lm * 2 ^ k < val 256 lm * 2 ^ k
                        omega
                      · rw [← HV.out.2]
                        have h2 := HLE.out
                        have h3 : v = (v - val 256 lm * 2 ^ k) + val 256 lm * 2 ^ k := by omega
                        conv => rhs; rw [h3]
                        rw [Nat.add_mul_mod_self_left]
                    case measure => simp [intOf]
                  · have hd : decide (val 256 lm * 2 ^ k ≤ v) = false := decide_eq_false hle
                    have HLE := Lib.hid hle
                    rw [hd]
                    clear hd hle hload7
                    go_wp2
                    go_roundw
                    case rel => exact ⟨k, v, by omega, by go_num, ⟨by have := HLE.out; omega, HV.out.2⟩, HB7, hg7⟩
                    case measure => simp [intOf]
            · obtain ⟨y, hy⟩ := get_some (l := R) (i := j) (by rw [HRL.out]; omega)
              have hc1 := (HBj.out.cell j).trans (cn_get (moved_get hy))
              obtain ⟨o1, ho1⟩ := get_some (l := moved R N (j + 1)) (i := j + 1) (by rw [moved_length HRL.out hj]; exact hj)
              have hoc := (HBj.out.cell (j + 1)).trans (cn_get ho1)
              have hof := HBj.out.frozen (j + 1)
              have hst := moved_step HRL.out hy hj
              have HST := Lib.hid hst
              clear hy ho1 hst
              go_wp2
              go_roundw
              case rel =>
                refine ⟨j, by omega, by go_num, ?_, only_setCell hgj (.inl rfl) _⟩
                have := HBj.out.set_ (j + 1) (.int .i64 (y : Int))
                rw [cn_set, HST.out] at this
                exact this
              case measure => simp [intOf]
end Go.Proofs.YtppoikamenbckaaGreatDoor

namespace Go.Proofs.YtppoikamenbckaaGreatDoor
open Go.RowKit
set_option linter.unusedVariables false
set_option linter.unusedSimpArgs false
set_option maxRecDepth 100000

theorem bytes4 (x : Nat) : bytesOf 4 x = [x / 256 / 256 / 256 % 256, x / 256 / 256 % 256, x / 256 % 256, x % 256] := rfl
theorem four_cells (x : Nat) (a b c d : Int) (ha : a = ((x / 256 / 256 / 256 % 256 : Nat) : Int)) (hb : b = ((x / 256 / 256 % 256 : Nat) : Int)) (hc : c = ((x / 256 % 256 : Nat) : Int)) (hd : d = ((x % 256 : Nat) : Int)) (w : World) : Blk (w.alloc (.cells #[.int .u8 a, .int .u8 b, .int .u8 c, .int .u8 d] 5)) w.heap.size 5 (cn .u8 (bytesOf 4 x)) := by
  subst ha; subst hb; subst hc; subst hd
  exact Blk.new w 5 _
theorem vbe_low {l : List Nat} {p : Nat} (hf : Fit 256 l) (hl : l.length = p + 4) : vbe (l.drop p) = vbe l % 4294967296 := by
  have e : vbe l = vbe (l.take p) * 4294967296 + vbe (l.drop p) := by
    conv => lhs; rw [← List.take_append_drop p l]
    simp only [vbe, List.reverse_append, val_append, List.length_reverse, List.length_drop]
    rw [show l.length - p = 4 by omega]
    show _ + 256 ^ 4 * _ = _
    omega
  have h2 : vbe (l.drop p) < 256 ^ (l.drop p).length := vbe_ltp (fun x hx => hf x (List.mem_of_mem_drop hx))
  rw [List.length_drop, show l.length - p = 4 by omega] at h2
  have h3 : vbe (l.drop p) < 4294967296 := h2
  omega
end Go.Proofs.YtppoikamenbckaaGreatDoor

namespace Go.Proofs.YtppoikamenbckaaGreatDoor
open Go.RowKit
set_option linter.unusedVariables false
set_option linter.unusedSimpArgs false
set_option maxRecDepth 100000

theorem Mul_digs (A A' : Option Addr) (n cap n' cap' x y : Nat) (w : World) (h : Rd .i64 w A n (digs x)) (h' : Rd .i64 w A' n' (digs y)) (hn : n ≤ 5000) (hn' : n' ≤ 5000) :
    Calls Tryz.prog 35 #[.slice A n cap, .slice A' n' cap'] w (GivesDigs w (x * y)) := by
  have := RefMul_any A A' n cap n' cap' _ _ w h h' (digs_fit _) (digs_fit _) (by omega) (by omega)
  rw [digs_val, digs_val] at this
  exact this
theorem Mod_digs (A A' : Option Addr) (n cap n' cap' x y : Nat) (w : World) (h : Rd .i64 w A n (digs x)) (h' : Rd .i64 w A' n' (digs y)) (hn : n ≤ 5000) (hn' : n' ≤ 5000) (hy : 0 < y) :
    Calls Tryz.prog 34 #[.slice A n cap, .slice A' n' cap'] w (GivesDigs w (x % y)) := by
  have := Mod_any A A' n cap n' cap' _ _ w h h' (digs_fit _) (digs_fit _) hn hn' (by rw [digs_val]; exact hy)
  rw [digs_val, digs_val] at this
  exact this
theorem high_bytes {x size : Nat} (h : (digs x).length ≤ size) : List.replicate (size - (digs x).length) 0 ++ (digs x).reverse = bytesOf size x := by
  refine bytesOf_eq (by simp; omega) ((Fit.replicate _ _ _ (by omega)).append (digs_fit x).reverse) ?_
  simp only [vbe, List.reverse_append, List.reverse_reverse, List.reverse_replicate, val_append, val_replicate, digs_val]
  simp
theorem High_digs (A : Option Addr) (m cap x size : Nat) (z : Int) (hz : z = size) (w : World) (h : Rd .i64 w A m (digs x)) (hs : size ≤ 10000) (hx : x < 256 ^ size) :
    Calls Tryz.prog 36 #[.slice A m cap, .int .i64 z] w fun e w' => ∃ g, e = .returned (.slice (some ⟨g, 0, none⟩) size size) ∧ Blk w' g 5 (cn .u8 (bytesOf size x)) ∧ Below w.heap.size w w' := by
  subst hz
  have hl : (digs x).length ≤ size := (digs_len x size).2 hx
  have hm : m ≤ size := by rw [← h.1]; exact hl
  have e : List.replicate (size - m) 0 ++ (digs x).reverse = bytesOf size x := by rw [← h.1]; exact high_bytes hl
  have hf := digs_fit x
  generalize digs x = D at *
  have := High_any A m cap D size w h hf hs hm
  rw [e] at this
  exact this

/-- t squares one behind the other. -/
def sqs (x N t : Nat) : Nat := x ^ (2 ^ t) % N
theorem sqs_zero {x N : Nat} (h : x < N) : sqs x N 0 = x := by simp [sqs, Nat.mod_eq_of_lt h]
theorem sqs_succ (x N t : Nat) : sqs x N t * sqs x N t % N = sqs x N (t + 1) := sq_step (j := t) rfl
theorem sqs_end (x N t e : Nat) (he : e = 2 ^ t + 1) : sqs x N t * x % N = x ^ e % N := by
  subst he
  exact sq_last (x := x) (n := N) (e := 2 ^ t) (y := sqs x N t) rfl
theorem sqs_last (x N : Nat) : sqs x N 16 * x % N = x ^ keyE % N := sqs_end x N 16 keyE (by decide)
theorem sqs_lt {x N t : Nat} (h : 0 < N) : sqs x N t < N := Nat.mod_lt _ h

set_option maxHeartbeats 400000 in
theorem RefOpen_size (A : Option Addr) (n cap : Nat) (As : Option Addr) (ns cs : Nat) (w : World) (hn : ns ≠ n) :
    Calls Tryz.prog 13 #[.slice A n cap, .slice As ns cs] w fun e w' => e = .returned (.tuple #[.slice none 0 0, .int .i64 24]) ∧ w = w' := by
  have hd : ((ns : Int) != (n : Int)) = true := by simp; omega
  have hd2 : (ns != n) = true := by simp [hn]
  go_enter Tryz.func13, Tryz.ntmps13
  go_wp2
  go_ret2
  exact ⟨rfl, rfl⟩
set_option maxHeartbeats 1000000 in
theorem RefOpen_no (A : Option Addr) (n cap : Nat) (l : List Nat) (As : Option Addr) (cs : Nat) (ls : List Nat) (w : World) (h : Rd .u8 w A n l) (hf : Fit 256 l) (hr : Rd .u8 w As n ls) (hfs : Fit 256 ls) (hn : n ≤ 1000) (hno : vbe l ≤ vbe ls) :
    Calls Tryz.prog 13 #[.slice A n cap, .slice As n cs] w (Refused w 13) := by
  have HR := Lib.hid h
  have HS := Lib.hid hr
  have HNO := Lib.hid hno
  have HLT : Hid (vbe l < 256 ^ n) := by have := vbe_ltp hf; rw [h.1] at this; exact this
  have HLS : Hid (vbe ls < 256 ^ n) := by have := vbe_ltp hfs; rw [hr.1] at this; exact this
  clear h hr hno
  go_enter Tryz.func13, Tryz.ntmps13
  go_wp2_with fail
  refine (Low_any A n cap l w HR.out hf (by omega)).mono ?_
  rintro e w1 ⟨A1, m1, c1, rfl, hr1, hc1, hm1, hb1⟩
  have HM1 : Hid (m1 ≤ n) := by show _ ≤ _; rw [← hr1.1, digs_len]; exact HLT.out
  have HR1 := Lib.hid hr1
  clear hr1 hc1 hm1
  go_wp2_with fail
  refine (Low_any As n cs ls w1 (HS.out.below hb1) hfs (by omega)).mono ?_
  rintro e w2 ⟨A2, m2, c2, rfl, hr2, hc2, hm2, hb2⟩
  have HM2 : Hid (m2 ≤ n) := by show _ ≤ _; rw [← hr2.1, digs_len]; exact HLS.out
  have HR2 := Lib.hid hr2
  have bel2 := below_then hb1 hb2
  clear hr2 hc2 hm2
  go_wp2_with fail
  refine (RefCompare_any A2 A1 m2 c2 m1 c1 _ _ w2 HR2.out (HR1.out.below hb2) (digs_fit _) (digs_fit _) (digs_tight _) (digs_tight _) (by have := HM2.out; omega) (by have := HM1.out; omega)).mono ?_
  rintro e w3 ⟨rfl, hb3⟩
  rw [digs_val, digs_val]
  have ho := (ord_ge _ _).2 HNO.out
  generalize ord (vbe ls) (vbe l) = z at *
  go_wp2
  go_ret2
  exact ⟨rfl, below_then bel2 hb3⟩
set_option maxHeartbeats 2000000 in
theorem RefOpen_yes (A : Option Addr) (n cap : Nat) (l : List Nat) (As : Option Addr) (cs : Nat) (ls : List Nat) (w : World) (h : Rd .u8 w A n l) (hf : Fit 256 l) (hr : Rd .u8 w As n ls) (hfs : Fit 256 ls) (hn : n ≤ 1000) (hlt : vbe ls < vbe l) :
    Calls Tryz.prog 13 #[.slice A n cap, .slice As n cs] w fun e w' => ∃ g, e = .returned (.tuple #[.slice (some ⟨g, 0, none⟩) n n, .int .i64 0]) ∧ Blk w' g 5 (cn .u8 (bytesOf n (vbe ls ^ keyE % vbe l))) ∧ Below w.heap.size w w' := by
  have HR := Lib.hid h
  have HS := Lib.hid hr
  have HNO := Lib.hid hlt
  have HLT : Hid (vbe l < 256 ^ n) := by have := vbe_ltp hf; rw [h.1] at this; exact this
  have HLS : Hid (vbe ls < 256 ^ n) := by have := vbe_ltp hfs; rw [hr.1] at this; exact this
  have HN : Hid (0 < vbe l) := by show 0 < _; omega
  clear h hr hlt
  go_enter Tryz.func13, Tryz.ntmps13
  go_wp2_with fail
  refine (Low_any A n cap l w HR.out hf (by omega)).mono ?_
  rintro e w1 ⟨A1, m1, c1, rfl, hr1, hc1, hm1, hb1⟩
  have HM1 : Hid (m1 ≤ n) := by show _ ≤ _; rw [← hr1.1, digs_len]; exact HLT.out
  have HR1 := Lib.hid hr1
  clear hr1 hc1 hm1
  go_wp2_with fail
  refine (Low_any As n cs ls w1 (HS.out.below hb1) hfs (by omega)).mono ?_
  rintro e w2 ⟨A2, m2, c2, rfl, hr2, hc2, hm2, hb2⟩
  have HM2 : Hid (m2 ≤ n) := by show _ ≤ _; rw [← hr2.1, digs_len]; exact HLS.out
  have HR2 := Lib.hid hr2
  have bel2 := below_then hb1 hb2
  clear hr2 hc2 hm2
  go_wp2_with fail
  refine (RefCompare_any A2 A1 m2 c2 m1 c1 _ _ w2 HR2.out (HR1.out.below hb2) (digs_fit _) (digs_fit _) (digs_tight _) (digs_tight _) (by have := HM2.out; omega) (by have := HM1.out; omega)).mono ?_
  rintro e w3 ⟨rfl, hb3⟩
  rw [digs_val, digs_val]
  have ho := (ord_lt _ _).2 HNO.out
  have HR13 := Lib.hid ((HR1.out.below hb2).below hb3)
  have HR23 := Lib.hid (HR2.out.below hb3)
  have bel3 := below_then bel2 hb3
  have HL := Lib.hid (And.intro HNO.out (And.intro HLT.out HN.out))
  generalize hx : vbe ls = x at *
  generalize hN : vbe l = N at *
  generalize ord x N = z at *
  have HX := Lib.hid hx
  have HNN := Lib.hid hN
  have ho2 : ¬ 0 ≤ z := by omega
  have HBE3 := Lib.hid bel3
  clear HR1 HR2 HR HS HNO HLT HLS HN hb1 hb2 hb3 bel2 bel3 hx hN
  go_wp2
  go_loopw [8, 9] (fun y i wr => ∃ (t : Nat) (Ay : Option Addr) (my cy : Nat), t ≤ 16 ∧ i = .int .i64 (t : Int) ∧ y = .slice Ay my cy ∧ Hid (Rd .i64 wr Ay my (digs (sqs x N t))) ∧ Hid (my ≤ n) ∧ Below w3.heap.size w3 wr) (fun _ i _ => 16 - (intOf i).toNat)
  case atStart => exact ⟨0, A2, m2, c2, by omega, rfl, rfl, by rw [sqs_zero HL.out.1]; exact HR23, HM2, below_self⟩
  case round =>
    obtain ⟨t, Ay, my, cy, ht, rfl, rfl, HY, HMY, hbe⟩ := hrel
    have hmy : my ≤ 1000 := by have := HMY.out; omega
    have hm1_ : m1 ≤ 1000 := by have := HM1.out; omega
    have hm2_ : m2 ≤ 1000 := by have := HM2.out; omega
    have HSL : Hid (∀ t, sqs x N t < 256 ^ n) := fun t => Nat.lt_trans (sqs_lt HL.out.2.2) HL.out.2.1
    by_cases htl : t < 16
    · go_wp2_with fail
      refine (Mul_digs Ay Ay my cy my cy _ _ wr HY.out HY.out (by omega) (by omega)).mono ?_
      rintro e w4 ⟨A4, m4, c4, rfl, hr4, hc4, hm4, hb4⟩
      have HM4 : Hid (m4 ≤ 2 * n) := by
        show _ ≤ _
        rw [← hr4.1, digs_len, show 2 * n = n + n by omega, Nat.pow_add]
        exact Nat.mul_lt_mul'' (HSL.out t) (HSL.out t)
      have HR4 := Lib.hid hr4
      clear hr4 hc4 hm4
      go_wp2_with fail
      refine (Mod_digs A4 A1 m4 c4 m1 c1 _ _ w4 HR4.out ((HR13.out.below hbe).below hb4) (by have := HM4.out; omega) (by omega) HL.out.2.2).mono ?_
      rintro e w5 ⟨A5, m5, c5, rfl, hr5, hc5, hm5, hb5⟩
      rw [sqs_succ] at hr5
      have HM5 : Hid (m5 ≤ n) := by show _ ≤ _; rw [← hr5.1, digs_len]; exact HSL.out (t + 1)
      have HR5 := Lib.hid hr5
      have bel5 := below_then (below_then hbe hb4) hb5
      clear hr5 hc5 hm5 HR4 HM4
      go_wp2
      go_roundw
      case rel => exact ⟨t + 1, A5, m5, c5, by omega, by go_num, rfl, HR5, HM5, bel5⟩
      case measure => simp [intOf]; omega
    · obtain rfl : t = 16 := by omega
      go_wp2_with fail
      refine (Mul_digs Ay A2 my cy m2 c2 _ _ wr HY.out (HR23.out.below hbe) (by omega) (by omega)).mono ?_
      rintro e w4 ⟨A4, m4, c4, rfl, hr4, hc4, hm4, hb4⟩
      have HM4 : Hid (m4 ≤ 2 * n) := by
        show _ ≤ _
        rw [← hr4.1, digs_len, show 2 * n = n + n by omega, Nat.pow_add]
        exact Nat.mul_lt_mul'' (HSL.out 16) (Nat.lt_trans HL.out.1 HL.out.2.1)
      have HR4 := Lib.hid hr4
      clear hr4 hc4 hm4
      go_wp2_with fail
      refine (Mod_digs A4 A1 m4 c4 m1 c1 _ _ w4 HR4.out ((HR13.out.below hbe).below hb4) (by have := HM4.out; omega) (by omega) HL.out.2.2).mono ?_
      rintro e w5 ⟨A5, m5, c5, rfl, hr5, hc5, hm5, hb5⟩
      rw [sqs_last] at hr5
      have HR5 := Lib.hid hr5
      have bel5 := below_then (below_then hbe hb4) hb5
      clear hr5 hc5 hm5 HR4 HM4
      go_wp2_with fail
      refine (High_digs A5 m5 c5 _ n _ rfl w5 HR5.out (by omega) (Nat.lt_trans (Nat.mod_lt _ HL.out.2.2) HL.out.2.1)).mono ?_
      rintro e w6 ⟨g6, rfl, hB6, hb6⟩
      have HB6 := Lib.hid hB6
      clear hB6
      go_wp2
      go_ret2
      exact ⟨g6, rfl, by rw [HX.out, HNN.out]; exact HB6.out, below_then HBE3.out (below_then bel5 hb6)⟩
end Go.Proofs.YtppoikamenbckaaGreatDoor
