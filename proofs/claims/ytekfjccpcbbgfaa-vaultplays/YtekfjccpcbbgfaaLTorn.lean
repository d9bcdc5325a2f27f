/-
  VaultTorn returns true for every two numbers, every bool and every slice of numbers: its walk.
-/
import Derived.Test.YtekfjccpcbbgfaaV7
namespace Go.Proofs.Ytekfjccpcbbgfaa
open Go.RowKit
set_option linter.unusedVariables false
set_option linter.unusedSimpArgs false
set_option maxRecDepth 100000

theorem raise_down (V : Vt) (h : V.dn = true) (l i : Int) : V.raise l i = (V, 42) := by unfold Vt.raise; rw [if_pos h]
theorem lock_down (V : Vt) (h : V.dn = true) (b : Bool) : V.lock b = (V, 42) := by unfold Vt.lock; rw [if_pos h]
theorem raise_up (V : Vt) (h : V.dn = false) (j x y : Nat) (hj : j < 32) (hx : x ≤ 281474976710656) (hy : V.ix[j]? = some y) (hyx : y ≤ x) : V.raise (j : Int) (x : Int) = V.did V.lk (V.ix.set j x) := by
  have hgy : V.ix.getD j 0 = y := by simp [List.getD, hy]
  unfold Vt.raise
  rw [if_neg (by rw [h]; simp), if_neg (by omega), Int.toNat_natCast, Int.toNat_natCast, hgy, if_neg (by omega)]
/-- A call on a vault, told by what it does to it. -/
theorem Goes.below {w w' : World} {V V' : Vt} {v : Value} {e : Ending} {B : Nat} {a : World} (h : Goes w V V' v e w') (hb : Below B a w) (hg : B ≤ V.g) (hB : B ≤ w.heap.size) : Below B a w' :=
  hb.trans (h.2.2.below (fun x hx => by rw [List.mem_singleton.1 hx]; exact hg) hB)
theorem raise_code (V : Vt) (w : World) (h : Vlt w V) (hc : V.ch + 1 ≤ 1152921504606846976) (l i : Int) (V' : Vt) (c : Int) (he : V.raise l i = (V', c)) (g : Nat) (hg : V.g = g) : Calls Try.prog 9 #[.pointer (some ⟨g, 0, none⟩), .int .i64 l, .int .i64 i] w (Goes w V V' (.int .i64 c)) := by
  subst hg
  have := Raise_any V w h hc l i
  rw [he] at this
  exact this
theorem lock_code (V : Vt) (w : World) (h : Vlt w V) (hc : V.ch + 1 ≤ 1152921504606846976) (b : Bool) (V' : Vt) (c : Int) (he : V.lock b = (V', c)) (g : Nat) (hg : V.g = g) : Calls Try.prog 10 #[.pointer (some ⟨g, 0, none⟩), .bool b] w (Goes w V V' (.int .i64 c)) := by
  subst hg
  have := Lock_any V w h hc b
  rw [he] at this
  exact this
def tornV (g : Nat) (R ix : List Nat) (b : Bool) (ch : Int) : Vt := ⟨g, R, true, ix, true, 0, b, ch⟩
set_option maxHeartbeats 4000000 in
theorem torn_walk (l i : Int) (b : Bool) (A : Option Addr) (n c : Nat) (f : Nat → Int) (w : World) (hl : I64 l) (hi : I64 i) (hA : Is w A n c f) :
    Calls Try.prog 6 #[.int .i64 l, .int .i64 i, .bool b, .slice A n c] w fun e w' => e = .returned (.bool true) ∧ Below w.heap.size w w' := by
  have HA := Lib.hid hA
  have hnc := hA.le
  have hcm := hA.max
  unfold I64 at hl hi
  clear hA
  go_enter Try.func6, Try.ntmps6
  go_wp2_with fail
  refine (anchor_any w).mono ?_
  rintro e w1 ⟨rfl, hb1⟩
  have B1 := Lib.hid hb1
  clear hb1
  go_wp2_with (first
    | ((with_reducible refine at_dst (some 22) ?_); refine wpList_makeNums (o := ⟨some 22, _, _, _, _, _⟩) rfl _ _ 22 5 rfl .u8 1 Try.underlying22 byteInfo (by omega) .i64 32 rfl rfl 32 rfl (by omega) ?_; intro w2 HB2 hb2 hs2))
  have HR2 := Lib.hid (HB2.out.rd 32 (by simp))
  have B2 : Hid (Below w.heap.size w w2) := B1.out.trans (hb2.mono B1.out.size)
  clear HB2 hb2 hs2
  refine (New_ok _ 32 true _ w2 HR2.out).mono ?_
  rintro e w3 ⟨rfl, hV, hb3⟩
  have HV3 := Lib.hid hV
  have B3 : Hid (Below w.heap.size w w3) := B2.out.trans (hb3.mono B2.out.size)
  obtain ⟨g, hg⟩ : ∃ g, w2.heap.size = g := ⟨_, rfl⟩
  have HG : Hid (w.heap.size ≤ g) := by show _ ≤ _; rw [← hg]; exact B2.out.size
  rw [hg] at HV3
  clear hV hb3
  by_cases l0 : l < 0
  · go_wp2
    go_ret
    exact ⟨rfl, B3.out⟩
  by_cases l1 : 31 < l
  · go_wp2
    go_ret
    exact ⟨rfl, B3.out⟩
  by_cases i0 : i < 0
  · go_wp2
    go_ret
    exact ⟨rfl, B3.out⟩
  by_cases i1 : 281474976710656 < i
  · go_wp2
    go_ret
    exact ⟨rfl, B3.out⟩
  by_cases n1 : 50 < n
  · have zn : 50 < (n : Int) := by omega
    go_wp2
    go_ret
    exact ⟨rfl, B3.out⟩
  have zn : ¬ 50 < (n : Int) := by omega
  obtain ⟨j, rfl⟩ : ∃ j : Nat, l = j := ⟨l.toNat, by omega⟩
  obtain ⟨x, rfl⟩ : ∃ x : Nat, i = x := ⟨i.toNat, by omega⟩
  have HJ : Hid (j < 32 ∧ x ≤ 281474976710656) := ⟨by omega, by omega⟩
  obtain ⟨R, hR⟩ : ∃ R, List.replicate 32 0 = R := ⟨_, rfl⟩
  have HRL : Hid (R.length = 32 ∧ ∀ k, k < 32 → R[k]? = some 0) := by rw [← hR]; exact ⟨by simp, fun k hk => by rw [List.getElem?_replicate, if_pos hk]⟩
  have HV3' : Hid (Vlt w3 ⟨g, R, true, R, false, -1, false, 0⟩) := by
    have := HV3.out
    unfold Vt.new at this
    rw [hR] at this
    exact this
  clear HV3 HR2 hR
  have HARM := Lib.hid (Arm_any _ w3 HV3'.out 0 b (by omega))
  go_wp2_with fail
  refine HARM.out.mono ?_
  rintro e w4 ⟨rfl, hV4, hT4⟩
  have HV4 : Hid (Vlt w4 ⟨g, R, true, R, false, 0, b, 0⟩) := hV4
  have B4 : Hid (Below w.heap.size w w4) := B3.out.trans (hT4.below (fun y hy => by rw [List.mem_singleton.1 hy]; exact HG.out) B3.out.size)
  clear hV4 hT4 HARM
  obtain ⟨ix, ch, HIX⟩ : ∃ ix ch, Hid ((⟨g, R, true, R, false, 0, b, 0⟩ : Vt).raise (j : Int) (x : Int) = (tornV g R ix b ch, 42) ∧ ix[j]? = some (if b = true then x else 0) ∧ 0 ≤ ch ∧ ch ≤ 1) := by
    have h1 := raise_up ⟨g, R, true, R, false, 0, b, 0⟩ rfl j x 0 HJ.out.1 HJ.out.2 (HRL.out.2 j HJ.out.1) (Nat.zero_le _)
    cases b with
    | true => exact ⟨R.set j x, 1, h1.trans rfl, by rw [List.getElem?_set_self (by rw [HRL.out.1]; exact HJ.out.1)]; rfl, by omega, by omega⟩
    | false => exact ⟨R, 0, h1.trans rfl, HRL.out.2 j HJ.out.1, by omega, by omega⟩
  have HRS := Lib.hid (raise_code _ w4 HV4.out (by simp) j x _ _ HIX.out.1 g rfl)
  go_wp2_with fail
  refine HRS.out.mono ?_
  intro e w5 h5
  have B5 := Lib.hid (h5.below B4.out HG.out B4.out.size)
  obtain ⟨rfl, hV5, hT5⟩ := h5
  have HV5 := Lib.hid hV5
  clear hV5 hT5 HRS
  have HDN : Hid (Calls Try.prog 14 #[.pointer (some ⟨g, 0, none⟩)] w5 fun e w' => e = .returned (.bool true) ∧ w5 = w') := Down_any _ w5 HV5.out
  go_wp2_with fail
  refine HDN.out.mono ?_
  rintro e w6 ⟨rfl, rfl⟩
  clear HDN
  obtain ⟨wt, hwt⟩ : ∃ wt : Nat, (if b = true then x else 0) = wt := ⟨_, rfl⟩
  have HC1 : Hid ((tornV g R ix b ch).ch + 1 ≤ 1152921504606846976) := by have := HIX.out.2.2.2; show ch + 1 ≤ _; omega
  have HWX : Hid (wt ≤ x) := by show _ ≤ _; rw [← hwt]; split <;> omega
  have HIJ : Hid (ix[j]? = some wt) := by rw [← hwt]; exact HIX.out.2.1
  have finish : Hid (∀ (w7 : World), Vlt w7 (tornV g R ix b ch) → Below w.heap.size w w7 → ∃ V8 V9 : Vt, V8.g = g ∧ V9.g = g ∧
      Calls Try.prog 17 #[.pointer (some ⟨g, 0, none⟩), .int .i64 (j : Int)] w7 (fun e w' => e = .returned (.tuple #[.int .i64 (wt : Int), .int .i64 0]) ∧ w7 = w') ∧
      Calls Try.prog 12 #[.pointer (some ⟨g, 0, none⟩)] w7 (fun e w' => e = .returned (.tuple #[]) ∧ Vlt w' V8 ∧ Below w.heap.size w w') ∧
      (∀ w8, Vlt w8 V8 → Below w.heap.size w w8 → Calls Try.prog 9 #[.pointer (some ⟨g, 0, none⟩), .int .i64 (j : Int), .int .i64 (x : Int)] w8 (fun e w' => e = .returned (.int .i64 0) ∧ Vlt w' V9 ∧ Below w.heap.size w w')) ∧
      (∀ w9, Vlt w9 V9 → Calls Try.prog 17 #[.pointer (some ⟨g, 0, none⟩), .int .i64 (j : Int)] w9 (fun e w' => e = .returned (.tuple #[.int .i64 (x : Int), .int .i64 0]) ∧ w9 = w')) ∧
      (∀ w9, Vlt w9 V9 → Calls Try.prog 13 #[.pointer (some ⟨g, 0, none⟩)] w9 (fun e w' => e = .returned (.bool true) ∧ w9 = w'))) := by
    intro w7 hv hb
    refine ⟨⟨g, R, true, ix, false, -1, false, ch⟩, ⟨g, R, true, ix.set j x, false, -1, false, ch + 1⟩, rfl, rfl, Index_yes _ w7 hv j wt HIJ.out, ?_, ?_, ?_, ?_⟩
    · refine (Boot_any _ w7 hv).mono ?_
      intro e w' h
      have hb' := h.below hb HG.out hb.size
      exact ⟨h.1, h.2.1, hb'⟩
    · intro w8 hv8 hb8
      have e8 : (⟨g, R, true, ix, false, -1, false, ch⟩ : Vt).raise (j : Int) (x : Int) = (⟨g, R, true, ix.set j x, false, -1, false, ch + 1⟩, 0) :=
        (raise_up _ rfl j x wt HJ.out.1 HJ.out.2 HIJ.out HWX.out).trans rfl
      refine (raise_code _ w8 hv8 HC1.out j x _ _ e8 g rfl).mono ?_
      intro e w' h
      have hb' := h.below hb8 HG.out hb8.size
      exact ⟨h.1, h.2.1, hb'⟩
    · intro w9 hv9
      have hil : ix.length = 32 := by have := hv9.il; rwa [List.length_set] at this
      exact Index_yes _ w9 hv9 j x (List.getElem?_set_self (by rw [hil]; exact HJ.out.1))
    · intro w9 hv9
      exact Locked_any _ w9 hv9
  have loops : Hid (∀ (w7 : World), Vlt w7 (tornV g R ix b ch) → Below w.heap.size w w7 →
      (∀ y : Int, Calls Try.prog 9 #[.pointer (some ⟨g, 0, none⟩), .int .i64 (j : Int), .int .i64 y] w7 (fun e w' => e = .returned (.int .i64 42) ∧ Vlt w' (tornV g R ix b ch) ∧ Below w.heap.size w w')) ∧
      Calls Try.prog 10 #[.pointer (some ⟨g, 0, none⟩), .bool false] w7 (fun e w' => e = .returned (.int .i64 42) ∧ Vlt w' (tornV g R ix b ch) ∧ Below w.heap.size w w')) := by
    intro w7 hv hb
    refine ⟨fun y => ?_, ?_⟩
    · refine (raise_code _ w7 hv HC1.out j y _ _ (raise_down _ rfl _ _) g rfl).mono ?_
      intro e w' h
      have hb' := h.below hb HG.out hb.size
      exact ⟨h.1, h.2.1, hb'⟩
    · refine (lock_code _ w7 hv HC1.out false _ _ (lock_down _ rfl _) g rfl).mono ?_
      intro e w' h
      have hb' := h.below hb HG.out hb.size
      exact ⟨h.1, h.2.1, hb'⟩
  have HWT : Hid (b = true → (x : Int) = (wt : Int)) := fun hb => by rw [← hwt, if_pos hb]
  have HWF : Hid (b = false → (0 : Int) = (wt : Int)) := fun hb => by rw [← hwt, hb]; rfl
  clear hwt HIX HC1 HWX HV4 B4 B3 HV3' l0 l1 i0 i1 n1
  have body : Hid (∀ (u : Int), u = (wt : Int) → True) := fun _ _ => trivial
  cases b with
  | true =>
    obtain rfl : x = wt := by have := HWT.out rfl; omega
    go_wp2
    go_loopw [76] (fun si wr => ∃ k : Nat, si = .int .i64 (k : Int) ∧ k ≤ n ∧ Hid (Vlt wr (tornV g R ix true ch)) ∧ Hid (Below w.heap.size w wr)) (fun i _ => n - (intOf i).toNat)
    case atStart => exact ⟨0, rfl, Nat.zero_le _, HV5, B5⟩
    case round =>
      obtain ⟨k, rfl, hk, HV, HB⟩ := hrel
      clear HV5 B5
      by_cases hlt : k < n
      · have zlt : (k : Int) < (n : Int) := by omega
        obtain ⟨ad, rfl, hal, hI, hc⟩ := HA.out.each k hlt
        have hc2 : wr.cell? (ad.add k) = some (.int .i64 (f k)) := (HB.out.cell (p := ad.add k) (by rw [block_add]; exact hal)).trans hc
        unfold I64 at hI
        clear hc
        go_wp2_with fail
        refine ((loops.out wr HV.out HB.out).1 (f k)).mono ?_
        rintro e w7 ⟨rfl, hV7, hb7⟩
        have HV7 := Lib.hid hV7
        have B7 := Lib.hid hb7
        clear hV7 hb7 HV HB
        go_wp2_with fail
        refine (loops.out w7 HV7.out B7.out).2.mono ?_
        rintro e w8 ⟨rfl, hV8, hb8⟩
        have HV8 := Lib.hid hV8
        have B8 := Lib.hid hb8
        clear hV8 hb8 HV7 B7
        go_wp2
        go_roundw
        case rel => exact ⟨k + 1, by go_num, by omega, HV8, B8⟩
        case measure => simp [intOf]; omega
      · obtain rfl : k = n := by omega
        obtain ⟨V8, V9, hg8, hg9, hI1, hB1, hR1, hI2, hL1⟩ := finish.out wr HV.out HB.out
        have HI1 := Lib.hid hI1
        have HB1 := Lib.hid hB1
        have HR1 := Lib.hid hR1
        have HI2 := Lib.hid hI2
        have HL1 := Lib.hid hL1
        clear hI1 hB1 hR1 hI2 hL1 hg8 hg9 HV
        go_wp2_with fail
        refine HI1.out.mono ?_
        rintro e w7 ⟨rfl, rfl⟩
        go_wp2_with fail
        refine HB1.out.mono ?_
        rintro e w8 ⟨rfl, hV8, hb8⟩
        have HV8 := Lib.hid hV8
        have B8 := Lib.hid hb8
        clear hV8 hb8
        go_wp2_with fail
        refine (HR1.out w8 HV8.out B8.out).mono ?_
        rintro e w9 ⟨rfl, hV9, hb9⟩
        have HV9 := Lib.hid hV9
        have B9 := Lib.hid hb9
        clear hV9 hb9
        go_wp2_with fail
        refine (HI2.out w9 HV9.out).mono ?_
        rintro e wa ⟨rfl, rfl⟩
        go_wp2_with fail
        refine (HL1.out w9 HV9.out).mono ?_
        rintro e wa ⟨rfl, rfl⟩
        go_wp2
        go_ret
        exact ⟨rfl, B9.out⟩
  | false =>
    obtain rfl : wt = 0 := by have := HWF.out rfl; omega
    go_wp2
    go_loopw [76] (fun si wr => ∃ k : Nat, si = .int .i64 (k : Int) ∧ k ≤ n ∧ Hid (Vlt wr (tornV g R ix false ch)) ∧ Hid (Below w.heap.size w wr)) (fun i _ => n - (intOf i).toNat)
    case atStart => exact ⟨0, rfl, Nat.zero_le _, HV5, B5⟩
    case round =>
      obtain ⟨k, rfl, hk, HV, HB⟩ := hrel
      clear HV5 B5
      by_cases hlt : k < n
      · have zlt : (k : Int) < (n : Int) := by omega
        obtain ⟨ad, rfl, hal, hI, hc⟩ := HA.out.each k hlt
        have hc2 : wr.cell? (ad.add k) = some (.int .i64 (f k)) := (HB.out.cell (p := ad.add k) (by rw [block_add]; exact hal)).trans hc
        unfold I64 at hI
        clear hc
        go_wp2_with fail
        refine ((loops.out wr HV.out HB.out).1 (f k)).mono ?_
        rintro e w7 ⟨rfl, hV7, hb7⟩
        have HV7 := Lib.hid hV7
        have B7 := Lib.hid hb7
        clear hV7 hb7 HV HB
        go_wp2_with fail
        refine (loops.out w7 HV7.out B7.out).2.mono ?_
        rintro e w8 ⟨rfl, hV8, hb8⟩
        have HV8 := Lib.hid hV8
        have B8 := Lib.hid hb8
        clear hV8 hb8 HV7 B7
        go_wp2
        go_roundw
        case rel => exact ⟨k + 1, by go_num, by omega, HV8, B8⟩
        case measure => simp [intOf]; omega
      · obtain rfl : k = n := by omega
        obtain ⟨V8, V9, hg8, hg9, hI1, hB1, hR1, hI2, hL1⟩ := finish.out wr HV.out HB.out
        have HI1 := Lib.hid hI1
        have HB1 := Lib.hid hB1
        have HR1 := Lib.hid hR1
        have HI2 := Lib.hid hI2
        have HL1 := Lib.hid hL1
        clear hI1 hB1 hR1 hI2 hL1 hg8 hg9 HV
        go_wp2_with fail
        refine HI1.out.mono ?_
        rintro e w7 ⟨rfl, rfl⟩
        go_wp2_with fail
        refine HB1.out.mono ?_
        rintro e w8 ⟨rfl, hV8, hb8⟩
        have HV8 := Lib.hid hV8
        have B8 := Lib.hid hb8
        clear hV8 hb8
        go_wp2_with fail
        refine (HR1.out w8 HV8.out B8.out).mono ?_
        rintro e w9 ⟨rfl, hV9, hb9⟩
        have HV9 := Lib.hid hV9
        have B9 := Lib.hid hb9
        clear hV9 hb9
        go_wp2_with fail
        refine (HI2.out w9 HV9.out).mono ?_
        rintro e wa ⟨rfl, rfl⟩
        go_wp2_with fail
        refine (HL1.out w9 HV9.out).mono ?_
        rintro e wa ⟨rfl, rfl⟩
        go_wp2
        go_ret
        exact ⟨rfl, B9.out⟩
end Go.Proofs.Ytekfjccpcbbgfaa
