/-
  The document's Mul: what it answers of numbers in memory.
-/
import Derived.Test.YtojpbfkdkkdpcaaDoorRef3
namespace Go.Proofs.YtojpbfkdkkdpcaaDoor
set_option maxRecDepth 100000
open Go.RowKit
set_option linter.unusedVariables false
set_option linter.unusedSimpArgs false

theorem val_set (B : Nat) {l : List Nat} {j o : Nat} (h : l[j]? = some o) (d : Nat) : val B (l.set j d) + B ^ j * o = val B l + B ^ j * d := by
  have hi := (List.getElem?_eq_some_iff.1 h).1
  have e := split_at h
  have e2 : l.set j d = l.take j ++ d :: l.drop (j + 1) := by
    rw [List.set_eq_take_append_cons_drop, if_pos hi]
  have hl : (l.take j).length = j := by simp; omega
  rw [e2]
  have e3 : val B l = val B (l.take j ++ o :: l.drop (j + 1)) := by rw [← e]
  rw [e3, val_append, val_append, val, val, hl, Nat.mul_add, Nat.mul_add]
  omega
/-- One digit of a row of a product. -/
theorem mul_step {B V a i k c o : Nat} {lb O : List Nat} (h : val B O + B ^ (i + k) * c = V + B ^ i * (a * val B (lb.take k))) (ho : O[i + k]? = some o) (x : Nat) (hx : x = o + c + a * dig lb k) :
    val B (O.set (i + k) (x % B)) + B ^ (i + (k + 1)) * (x / B) = V + B ^ i * (a * val B (lb.take (k + 1))) := by
  have h1 := val_set B ho (x % B)
  have h2 : B ^ (i + k) * (x % B) + B ^ (i + k) * (B * (x / B)) = B ^ (i + k) * x := by rw [← Nat.mul_add, Nat.mod_add_div]
  rw [val_take_succ, Nat.mul_add, Nat.mul_add, ← Nat.add_assoc, ← Nat.add_assoc V]
  have h3 : B ^ (i + k + 1) * (x / B) = B ^ (i + k) * (B * (x / B)) := by rw [Nat.pow_succ, Nat.mul_assoc]
  have h4 : B ^ i * (a * (B ^ k * dig lb k)) = B ^ (i + k) * (a * dig lb k) := by rw [Nat.pow_add, Nat.mul_left_comm a, ← Nat.mul_assoc]
  rw [h3, h4]
  rw [hx, Nat.mul_add, Nat.mul_add] at h2
  rw [hx] at h1 ⊢
  omega
/-- Where a row of a product has ended. -/
theorem mul_end {B V a i c : Nat} {la lb O : List Nat} (hB : 0 < B) (ha : Fit B la) (hb : Fit B lb) (hV : V = val B (la.take i) * val B lb) (hla : dig la i = a) (hi : i < la.length) (h : val B O + B ^ (i + (lb.length + 1)) * c = V + B ^ i * (a * val B lb)) : c = 0 ∧ val B O = val B (la.take (i + 1)) * val B lb := by
  have e : V + B ^ i * (a * val B lb) = val B (la.take (i + 1)) * val B lb := by
    rw [val_take_succ, hla, hV, Nat.add_mul, Nat.mul_assoc]
  have h1 := val_lt (ha.take (i + 1))
  have h2 := val_lt hb
  have hl : (la.take (i + 1)).length = i + 1 := by simp; omega
  rw [hl] at h1
  have h3 : val B (la.take (i + 1)) * val B lb < B ^ (i + 1) * B ^ lb.length := Nat.mul_lt_mul'' h1 h2
  rw [← Nat.pow_add, show i + 1 + lb.length = i + (lb.length + 1) by omega] at h3
  rw [e] at h
  have hc : c = 0 := by
    rcases Nat.eq_zero_or_pos c with h0 | h0
    · exact h0
    · have : B ^ (i + (lb.length + 1)) * 1 ≤ B ^ (i + (lb.length + 1)) * c := Nat.mul_le_mul_left _ h0
      omega
  subst hc
  exact ⟨rfl, by omega⟩

set_option maxHeartbeats 2000000 in
theorem RefMul_any (A A' : Option Addr) (n cap n' cap' : Nat) (la lb : List Nat) (w : World) (h : Rd .i64 w A n la) (h' : Rd .i64 w A' n' lb) (hf : Fit 256 la) (hf' : Fit 256 lb) (hn : n ≤ 10000) (hn' : n' ≤ 10000) :
    Calls Tryd.prog 49 #[.slice A n cap, .slice A' n' cap'] w (GivesDigs w (val 256 la * val 256 lb)) := by
  have HR := Lib.hid h
  have HR' := Lib.hid h'
  obtain ⟨T, hT⟩ : ∃ T, T = n + n' + 1 := ⟨_, rfl⟩
  have HT := Lib.hid hT
  have hT2 : T ≤ 100000 := by omega
  have hT3 : (n : Int) + n' + 1 = T := by omega
  have HT3 := Lib.hid hT3
  clear h h' hT hT3
  go_enter Tryd.func49, Tryd.ntmps49
  go_wp2_with (first
    | ((with_reducible refine at_dst (some 16) ?_); refine wpList_makeNums (o := ⟨some 16, _, _, _, _, _⟩) rfl (.tmp 15) (.tmp 15) 59 3 rfl .i64 8 Tryd.underlying59 intInfo (by omega) _ _ rfl rfl T HT3.out hT2 ?_; intro w1 hb1 hbel1 hs1))
  go_loopw [6] (fun ii wr => ∃ (i : Nat) (O : List Nat), i ≤ n ∧ ii = .int .i64 (i : Int) ∧ Hid (O.length = T ∧ Fit 256 O ∧ val 256 O = val 256 (la.take i) * val 256 lb) ∧ Hid (Blk wr w.heap.size 3 (cn .i64 O)) ∧ Below w.heap.size w wr) (fun i _ => n - (intOf i).toNat)
  case atStart => exact ⟨0, _, by omega, rfl, ⟨List.length_replicate, Fit.replicate _ _ _ (by omega), by rw [val_replicate]; simp [val]⟩, hb1, hbel1⟩
  case round =>
    obtain ⟨i, O, hi, rfl, HI, HB, hbe⟩ := hrel
    by_cases hin : i < n
    · obtain ⟨ad, a, rfl, ha, hcell0⟩ := (HR.out.below hbe).get (j := i) (by omega)
      have ha1 := hf.get ha
      have HA := Lib.hid ha
      clear ha hcell0
      go_wp2
      rename World => w2
      go_loopw [7, 8] (fun cc kk wr => ∃ (k c : Nat) (O' : List Nat), k ≤ n' + 1 ∧ c ≤ 255 ∧ (k = n' + 1 → c = 0) ∧ kk = .int .i64 (k : Int) ∧ cc = .int .i64 (c : Int) ∧ Hid (O'.length = T ∧ Fit 256 O' ∧ val 256 O' + 256 ^ (i + k) * c = val 256 O + 256 ^ i * (a * val 256 (lb.take k))) ∧ Hid (Blk wr w.heap.size 3 (cn .i64 O')) ∧ Below w.heap.size w wr) (fun _ kk _ => n' + 1 - (intOf kk).toNat)
      case atStart => exact ⟨0, 0, O, by omega, by omega, fun _ => rfl, rfl, rfl, ⟨HI.out.1, HI.out.2.1, by simp [val]⟩, HB, hbe⟩
      case round =>
        obtain ⟨k, c, O', hk, hc, hend, rfl, rfl, HI', HB', hbe'⟩ := hrel
        by_cases hgo : k < n' ∨ 0 < c
        · obtain ⟨o, ho⟩ := get_some (l := O') (i := i + k) (by rw [HI'.out.1, HT.out]; omega)
          have ho1 := HI'.out.2.1.get ho
          have hoc := (HB'.out.cell (i + k)).trans (cn_get ho)
          have hof := HB'.out.frozen (i + k)
          have hikT : i + k < T := by have := HT.out; omega
          have fin : ∀ x, x = o + c + a * dig lb k → Hid ((x / 256 ≤ 255 ∧ (k + 1 = n' + 1 → x / 256 = 0)) ∧ ((O'.set (i + k) (x % 256)).length = T ∧ Fit 256 (O'.set (i + k) (x % 256)) ∧ val 256 (O'.set (i + k) (x % 256)) + 256 ^ (i + (k + 1)) * (x / 256) = val 256 O + 256 ^ i * (a * val 256 (lb.take (k + 1)))) ∧ ∀ (U W : World), U.heap = wr.heap → W = U.setCell ⟨w.heap.size, i + k, none⟩ (.int .i64 ((x % 256 : Nat) : Int)) → Blk W w.heap.size 3 (cn .i64 (O'.set (i + k) (x % 256)))) := by
            intro x hx
            have d1 := dig_lt hf' (by omega) k
            have hm : a * dig lb k ≤ 255 * 255 := Nat.mul_le_mul (by omega) (by omega)
            have hst := mul_step HI'.out.2.2 ho x hx
            refine ⟨⟨by omega, fun hkn => ?_⟩, ⟨by simp [HI'.out.1], HI'.out.2.1.set _ _ (Nat.mod_lt _ (by omega)), hst⟩, fun U W hU hW => ?_⟩
            · have hk2 : k = lb.length := by rw [HR'.out.1]; omega
              subst hk2
              rw [List.take_of_length_le (by omega)] at hst
              exact (mul_end (by omega) hf hf' HI.out.2.2 (dig_some HA.out) (by rw [HR.out.1]; exact hin) hst).1
            · subst hW
              have hbu : Blk U w.heap.size 3 (cn .i64 O') := by unfold Blk; rw [hU]; exact HB'.out
              have := hbu.set_ (i + k) (.int .i64 ((x % 256 : Nat) : Int))
              rw [cn_set] at this
              exact this
          have HF := Lib.hid fin
          have HO := Lib.hid ho
          have hcell := ((HR.out.below hbe').2 (by omega))
          obtain ⟨ad0, e0, _, hcell⟩ := hcell
          injection e0 with e0
          subst e0
          have hca := hcell i a HA.out
          clear fin ho hcell
          by_cases h2 : k < n'
          · obtain ⟨ad', y, rfl, hy, hcell'⟩ := (HR'.out.below hbe').get (j := k) (by omega)
            have hy1 := hf'.get hy
            have dy := dig_some hy
            have FF := HF.out (o + c + a * y) (by rw [dy])
            have hm0 : a * y ≤ 255 * 255 := Nat.mul_le_mul (by omega) (by omega)
            obtain ⟨p, hp⟩ : ∃ p, p = a * y := ⟨_, rfl⟩
            have hp1 : (a : Int) * y = (p : Int) := by rw [hp, Int.natCast_mul]
            have hp2 : p ≤ 65025 := by omega
            rw [← hp] at FF
            have hw1 : IntKind.i64.wrap ((p : Int)) = p := IntWalk.i64_in _ (by omega)
            have hw2 : IntKind.i64.wrap ((o : Int) + c + p) = o + c + p := IntWalk.i64_in _ (by omega)
            clear hy dy hm0 hp
            go_wp2
            go_quiet (fail)
            clear hw1 hw2
            go_wp2
            have ex : ((o : Int) + c + p) % 256 = (((o + c + p) % 256 : Nat) : Int) := by omega
            have EX := Lib.hid ex
            clear ex
            go_roundw
            case rel => exact ⟨k + 1, (o + c + p) / 256, _, by omega, FF.out.1.1, fun e => FF.out.1.2 e, by go_num, by go_num, FF.out.2.1, FF.out.2.2 (wr.drewN nq) _ rfl (by rw [EX.out]), (below_drewN hbe' _).setCell (Nat.le_refl _) _⟩
            case measure => simp [intOf]; omega
          · have dy : dig lb k = 0 := dig_none (by rw [HR'.out.1]; omega)
            have hc0 : 0 < c := by omega
            have FF := HF.out (o + c) (by rw [dy]; rfl)
            clear dy
            go_wp2
            have ex : ((o : Int) + c) % 256 = (((o + c) % 256 : Nat) : Int) := by omega
            have EX := Lib.hid ex
            clear ex
            go_roundw
            case rel => exact ⟨k + 1, (o + c) / 256, _, by omega, FF.out.1.1, fun e => FF.out.1.2 e, by go_num, by go_num, FF.out.2.1, FF.out.2.2 _ _ rfl (by rw [EX.out]), hbe'.setCell (Nat.le_refl _) _⟩
            case measure => simp [intOf]; omega
        · have h2 : ¬ k < n' := fun h => hgo (.inl h)
          obtain rfl : c = 0 := by omega
          go_wp2
          go_roundw
          case rel =>
            refine ⟨i + 1, O', by omega, by go_num, ⟨HI'.out.1, HI'.out.2.1, ?_⟩, HB', hbe'⟩
            have hst := HI'.out.2.2
            rw [List.take_of_length_le (by rw [HR'.out.1]; omega), Nat.mul_zero, Nat.add_zero] at hst
            exact (mul_end (c := 0) (by omega) hf hf' HI.out.2.2 (dig_some HA.out) (by rw [HR.out.1]; exact hin) (by rw [Nat.mul_zero, Nat.add_zero]; exact hst)).2
          case measure => simp [intOf]; omega
    · obtain rfl : i = n := by omega
      go_wp2_with fail
      have hr := HB.out.rd T HI.out.1
      refine (Trim_any _ _ _ _ _ hr (by omega) (Nat.le_refl _) (by unfold maxLen; omega)).mono ?_
      rintro e w2 ⟨⟨j, hj, rfl, ht⟩, rfl⟩
      go_wp2
      go_ret
      refine ⟨_, _, _, rfl, ?_, hj, by unfold maxLen; omega, hbe⟩
      have := hr.take j hj
      have hv := HI.out.2.2
      rw [List.take_of_length_le (l := la) (by rw [HR.out.1]; omega)] at hv
      rwa [ht, trim_digs HI.out.2.1, hv] at this
end Go.Proofs.YtojpbfkdkkdpcaaDoor
