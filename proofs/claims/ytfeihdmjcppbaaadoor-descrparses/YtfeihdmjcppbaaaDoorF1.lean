/-
  What the document's Get answers. No condition but that bytes fit.
-/
import Derived.Test.YtfeihdmjcppbaaaDoorP4
namespace Go.Proofs.YtfeihdmjcppbaaaDoor
open Go.RowKit
set_option linter.unusedVariables false
set_option linter.unusedSimpArgs false
set_option maxRecDepth 100000

/-- The number, or -1 where it is too great on the way. -/
def rget (s : List Nat) : Int := if 18014398509481984 < num (s.take (s.length - 1)) then -1 else (num s : Int)
theorem num_take_succ {l : List Nat} {j x : Nat} (h : l[j]? = some x) : num (l.take (j + 1)) = num (l.take j) * 256 + x := by
  rw [take_snoc' h, num_snoc]
theorem num_take_mono (l : List Nat) : ∀ (d j : Nat), num (l.take j) ≤ num (l.take (j + d))
  | 0, j => Nat.le_refl _
  | d + 1, j => by
    refine Nat.le_trans (num_take_mono l d j) ?_
    rw [← Nat.add_assoc]
    cases h : l[j + d]? with
    | none =>
      have hl := List.getElem?_eq_none_iff.1 h
      rw [List.take_of_length_le (by omega), List.take_of_length_le (by omega)]
      exact Nat.le_refl _
    | some x =>
      rw [num_take_succ h]
      omega
theorem rget_small {s : List Nat} (hf : Fit 256 s) (h : s.length ≤ 4) : rget s = (num s : Int) := by
  unfold rget
  have h1 := num_lt (s.take (s.length - 1)) (hf.take _)
  have h2 : (s.take (s.length - 1)).length ≤ 3 := by rw [List.length_take]; omega
  have h3 : 256 ^ (s.take (s.length - 1)).length ≤ 256 ^ 3 := Nat.pow_le_pow_right (by omega) h2
  rw [if_neg (by omega)]
set_option maxHeartbeats 2000000 in
theorem RGet_any (A : Option Addr) (n cap : Nat) (l : List Nat) (w : World) (hb : Bs w A n cap l) (a s : Nat) (z y : Int) (hz : z = a) (hy : y = s) (hs : s ≤ 8) (has : a + s ≤ n) (hn : n ≤ 1000000) :
    Calls Tryd.prog 36 #[.slice A n cap, .int .i64 z, .int .i64 y] w fun e w' => e = .returned (.int .i64 (rget (sl l a s))) ∧ w' = w := by
  subst hz hy
  have HB := Lib.hid hb
  have HSL : Hid ((sl l a s).length = s) := sl_length (by rw [hb.rd.1]; exact has)
  have HSF : Hid (Fit 256 (sl l a s)) := sl_fit hb.fit a s
  have HAT : Hid (∀ (j x : Nat), (sl l a s)[j]? = some x → l[a + j]? = some x) := fun j x h => by
    unfold sl at h
    have hj : j < s := by
      have := (List.getElem?_eq_some_iff.1 h).1
      rw [List.length_take] at this
      omega
    rw [List.getElem?_take_of_lt hj, List.getElem?_drop] at h
    exact h
  obtain ⟨S, hS⟩ : ∃ S, sl l a s = S := ⟨_, rfl⟩
  rw [hS] at HSL HSF HAT ⊢
  obtain ⟨R, hR⟩ : ∃ R, rget S = R := ⟨_, rfl⟩
  have HR := Lib.hid hR
  rw [hR]
  clear hS hR hb
  go_enter Tryd.func36, Tryd.ntmps36
  go_wp2
  go_loopw [7, 8] (fun v i wr => ∃ (j p m : Nat), j ≤ s ∧ i = .int .i64 (p : Int) ∧ Hid (p = a + j) ∧ v = .int .i64 (m : Int) ∧ m ≤ 4611686018427388159 ∧ Hid (m = num (S.take j)) ∧ Hid (j = 0 ∨ num (S.take (j - 1)) ≤ 18014398509481984) ∧ wr = w) (fun _ i _ => a + s - (intOf i).toNat)
  case atStart => exact ⟨0, a, 0, Nat.zero_le _, rfl, rfl, rfl, by omega, rfl, .inl rfl, rfl⟩
  case round =>
    obtain ⟨j, p, m, hj, rfl, HP, rfl, hm, HM, HL, rfl⟩ := hrel
    by_cases hjs : j < s
    · obtain ⟨x, hx⟩ := get_some (l := S) (i := j) (by rw [HSL.out]; exact hjs)
      have hpa : p < a + s := by have := HP.out; omega
      have hlt : (p : Int) < (a : Int) + (s : Int) := by omega
      obtain ⟨ad, x', hA, hx', hc⟩ := HB.out.rd.get (j := p) (by omega)
      have hxx : x' = x := by
        have h1 := HAT.out j x hx
        rw [← HP.out, hx'] at h1
        injection h1
      subst hxx
      subst hA
      have hx256 : x' < 256 := HSF.out x' (List.mem_of_getElem? hx)
      have hpn : (p : Int) < (n : Int) := by omega
      have HX := Lib.hid hx
      clear hx hx'
      by_cases hbig : m ≤ 18014398509481984
      · have z1 : ¬ (18014398509481984 : Int) < (m : Int) := by omega
        go_wp2
        go_roundw
        case rel =>
          refine ⟨j + 1, p + 1, m * 256 + x', by omega, by go_num, ?_, by go_num, by omega, ?_, .inr ?_, by first | rfl | trivial⟩
          · show _ = _
            have := HP.out
            omega
          · show _ = _
            rw [num_take_succ HX.out, ← HM.out]
          · rw [Nat.add_sub_cancel, ← HM.out]
            exact hbig
        case measure => simp [intOf]; omega
      · have z1 : (18014398509481984 : Int) < (m : Int) := by omega
        have HE : Hid (R = -1) := by
          show _ = _
          rw [← HR.out, rget, if_pos]
          have h1 := num_take_mono S (S.length - 1 - j) j
          rw [show j + (S.length - 1 - j) = S.length - 1 by rw [HSL.out]; omega, ← HM.out] at h1
          omega
        clear hbig
        go_wp2
        go_ret
        exact ⟨by rw [HE.out]; rfl, by first | rfl | trivial⟩
    · have hge : ¬ (p : Int) < (a : Int) + (s : Int) := by have := HP.out; omega
      have HE : Hid (R = (m : Int)) := by
        show _ = _
        have hjs' : j = s := by omega
        rw [← HR.out, rget, HM.out, if_neg, List.take_of_length_le (by rw [HSL.out]; omega)]
        rw [HSL.out, ← hjs']
        rcases HL.out with h | h
        · rw [h]; simp [num]
        · omega
      clear hjs
      go_wp2
      go_ret
      exact ⟨by rw [HE.out]; rfl, by first | rfl | trivial⟩
end Go.Proofs.YtfeihdmjcppbaaaDoor
