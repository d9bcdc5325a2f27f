/-
  The program's New, N0, RR: a ring that is made.
-/
import Derived.Test.YtojpbfkdkkdpcaaDoorRing5
namespace Go.Proofs.YtojpbfkdkkdpcaaDoor
set_option maxRecDepth 100000
open Go.RowKit
set_option linter.unusedVariables false
set_option linter.unusedSimpArgs false

theorem Rd.setOther {q : IntKind} {w : World} {A : Option Addr} {n : Nat} {l : List Nat} (h : Rd q w A n l) {p : Addr} {v0 : Value} (hp : w.cell? p = some v0) (hv : ∀ x : Int, v0 ≠ .int q x) (u : Value) : Rd q (w.setCell p u) A n l :=
  ⟨h.1, fun hn => by
    obtain ⟨ad, e, hlt, hc⟩ := h.2 hn
    refine ⟨ad, e, by simpa [World.setCell] using hlt, fun j x hj => ?_⟩
    have h1 := hc j x hj
    rw [World.cell?_setCell_other]
    · exact h1
    · intro hpe
      rw [← hpe, hp] at h1
      injection h1 with h1
      exact hv _ h1⟩

/-- A ring that is whole: with RR. -/
def Whole (w : World) (g k N : Nat) : Prop :=
  ∃ n0 A c ln A' c' lr, Ringed w g k N n0 A c (.slice A' k c') ln ∧ Rd .u32 w A' k lr ∧ Fit 4294967296 lr ∧ val 4294967296 lr = 4294967296 ^ (2 * k) % N
theorem Whole.below {w w' : World} {g k N : Nat} (h : Whole w g k N) (hb : Below w.heap.size w w') : Whole w' g k N := by
  obtain ⟨n0, A, c, ln, A', c', lr, h1, h2, h3, h4⟩ := h
  exact ⟨n0, A, c, ln, A', c', lr, h1.below hb, h2.below hb, h3, h4⟩
/-- An answer: a ring. -/
def GivesRing (w : World) (k N : Nat) (e : Ending) (w' : World) : Prop :=
  ∃ g, e = .returned (.tuple #[.pointer (some ⟨g, 0, none⟩), .int .i64 0]) ∧ Whole w' g k N ∧ Below w.heap.size w w'

theorem bitlen_one {x : Nat} (h : 1 < x) : bitlen x ≠ 1 := fun e => by
  have := (bitlen_le x 1).1 (by omega)
  omega
theorem odd_low {l : List Nat} {d : Nat} (hd : l[0]? = some d) : val 4294967296 l % 2 = d % 2 := by
  have e := drop_cons hd
  rw [List.drop_zero] at e
  rw [e, val]
  omega

theorem New_size (A : Option Addr) (n cap : Nat) (w : World) (h : n < 1 ∨ 128 < n) :
    Calls Tryd.prog 28 #[.slice A n cap] w fun e w' => e = .returned (.tuple #[.pointer none, .int .i64 24]) ∧ w = w' := by
  rcases h with h | h
  · obtain rfl : n = 0 := by omega
    go_enter Tryd.func28, Tryd.ntmps28
    go_wp2
    go_ret2
    exact ⟨rfl, rfl⟩
  · have h1 : ¬ (n : Int) < 1 := by omega
    have h2 : (128 : Int) < n := by omega
    go_enter Tryd.func28, Tryd.ntmps28
    go_wp2
    go_ret2
    exact ⟨rfl, rfl⟩
set_option maxHeartbeats 1000000 in
theorem New_form (A : Option Addr) (n cap : Nat) (l : List Nat) (w : World) (h : Rd .u32 w A n l) (hf : Fit 4294967296 l) (h1 : 1 ≤ n) (h2 : n ≤ 128) (hno : val 4294967296 l % 2 = 0 ∨ val 4294967296 l = 1) :
    Calls Tryd.prog 28 #[.slice A n cap] w fun e w' => e = .returned (.tuple #[.pointer none, .int .i64 12]) ∧ Below w.heap.size w w' := by
  obtain ⟨ad, d, rfl, hd, hcell⟩ := h.get (j := 0) (by omega)
  rw [add_zero_] at hcell
  have hodd := odd_low hd
  have HR := Lib.hid h
  have g1 : ¬ (n : Int) < 1 := by omega
  have g2 : ¬ (128 : Int) < n := by omega
  have g3 : 0 < n := by omega
  rcases (by omega : d % 2 = 0 ∨ d % 2 = 1) with h0 | h0
  · have hb : ((d : Int) % 2 == 0) = true := by simp; omega
    have hb2 : (d : Int) % 2 = 0 := by omega
    clear h hd hodd hno h0
    go_enter Tryd.func28, Tryd.ntmps28
    go_wp2
    go_ret2
    exact ⟨rfl, below_self⟩
  · have HE : Hid (bitlen (val 4294967296 l) = 1) := by
      show _ = _
      rcases hno with h3 | h3
      · omega
      · rw [h3]; rfl
    have hb : ((d : Int) % 2 == 0) = false := by simp; omega
    have hb2 : (d : Int) % 2 = 1 := by omega
    clear h hd hodd hno h0
    go_enter Tryd.func28, Tryd.ntmps28
    go_wp2_with fail
    refine (Bits_ok (some ad) n cap l w HR.out hf h1 (by omega)).mono ?_
    rintro e w1 ⟨rfl, hb1⟩
    rw [HE.out]
    go_wp2
    go_ret2
    exact ⟨rfl, hb1⟩

theorem neg_nat (y : Nat) : ∃ n0 : Nat, IntKind.u32.wrap (-(y : Int)) = (n0 : Int) ∧ n0 < 4294967296 ∧ (n0 : Int) = (-(y : Int)) % 4294967296 := by
  have hnn := Int.emod_nonneg (-(y : Int)) (by omega : (4294967296 : Int) ≠ 0)
  have hlt := Int.emod_lt_of_pos (-(y : Int)) (by omega : (0 : Int) < 4294967296)
  have e := Int.toNat_of_nonneg hnn
  exact ⟨_, by rw [IntKind.wrap_u32', e], by omega, e⟩
set_option maxRecDepth 100000 in
set_option maxHeartbeats 4000000 in
theorem New_ok (A : Option Addr) (n cap : Nat) (l : List Nat) (w : World) (h : Rd .u32 w A n l) (hf : Fit 4294967296 l) (h1 : 1 ≤ n) (h2 : n ≤ 128) (hodd : val 4294967296 l % 2 = 1) (hgt : 1 < val 4294967296 l) :
    Calls Tryd.prog 28 #[.slice A n cap] w (GivesRing w n (val 4294967296 l)) := by
  obtain ⟨ad, d, rfl, hd, hcell⟩ := h.get (j := 0) (by omega)
  rw [add_zero_] at hcell
  have had : ad.block < w.heap.size := h.lt (by omega) ad rfl
  have hdo : d % 2 = 1 := by rw [← odd_low hd]; exact hodd
  have hdb := hf.get hd
  obtain ⟨rr, hrr⟩ : ∃ rr, val 4294967296 l = d + 4294967296 * rr := ⟨val 4294967296 (l.drop 1), by
    have e := drop_cons hd
    rw [List.drop_zero] at e
    conv => lhs; rw [e]
    rfl⟩
  have HRR := Lib.hid hrr
  have HR := Lib.hid h
  have HO := Lib.hid hodd
  have HG := Lib.hid hgt
  have HD := Lib.hid hd
  have g1 : ¬ (n : Int) < 1 := by omega
  have g2 : ¬ (128 : Int) < n := by omega
  have g3 : 0 < n := by omega
  have hb : ((d : Int) % 2 == 0) = false := by simp; omega
  have hb2 : (d : Int) % 2 = 1 := by omega
  have hbl := bitlen_one hgt
  obtain ⟨bl, hbl2⟩ : ∃ bl, bl = bitlen (val 4294967296 l) := ⟨_, rfl⟩
  rw [← hbl2] at hbl
  have HBL := Lib.hid hbl2.symm
  have hb3 : ((bl : Int) == 1) = false := by simp; omega
  have hb4 : (bl == 1) = false := by simp [hbl]
  clear h hd hodd hgt hrr hbl2
  go_enter Tryd.func28, Tryd.ntmps28
  go_wp2_with fail
  refine (Bits_ok (some ad) n cap l w HR.out hf h1 (by omega)).mono ?_
  rintro e w1 ⟨rfl, hb1⟩
  rw [HBL.out]
  have hcell1 := (hb1.cell (p := ad) had).trans hcell
  have had1 := Nat.lt_of_lt_of_le had hb1.size
  have HR1 := Lib.hid (HR.out.below hb1)
  go_wp2
  go_region_law (first
    | (go_simp; go_at_call 54; refine (Clone_any (some ad) n cap l _ (HR1.out.drewN _) hf h1 (by omega)).mono ?_; rintro e w5 ⟨A5, c5, l5, rfl, hr5, hf5, hv5, hb5⟩; have hk5 := (hb5.cell (p := ad) had1).trans hcell1; have HR5 := Lib.hid hr5; have HV5 := Lib.hid hv5; clear hr5 hv5)
    | (go_simp; go_at_call 55; refine (inverse_any d hdb hdo _).mono ?_; rintro e w6 ⟨y, rfl, hy, hyd, rfl⟩; obtain ⟨n0, hn0, hn1, hn2⟩ := neg_nat y; have HYD := Lib.hid (inv_end hyd hn2); clear hyd hn2))
  all_goals
    have bel5 : Below w.heap.size w w5 := below_then (below_drew1 hb1) hb5
    have HRG : Hid (Ringed (w5.alloc (.cells #[.slice A5 n c5, .int .u32 (n0 : Int), .slice none 0 0] 78)) w5.heap.size n (val 4294967296 l) n0 A5 c5 (.slice none 0 0) l5) :=
      ⟨Blk.new w5 78 [.slice A5 n c5, .int .u32 (n0 : Int), .slice none 0 0], HR5.out.below ((Below.refl _ _).alloc (Nat.le_refl _) _), hf5, HV5.out, h1, h2, HO.out, HG.out, hn1, low_mul HYD.out HRR.out⟩
    have bel6 : Below w.heap.size w (w5.alloc (.cells #[.slice A5 n c5, .int .u32 (n0 : Int), .slice none 0 0] 78)) := bel5.alloc bel5.size _
    have hsz : w.heap.size ≤ w5.heap.size := bel5.size
    clear HR5 HV5 hb5 hk5
    go_wp2_with fail
    clear hn0
    generalize (w5.alloc (.cells #[.slice A5 n c5, .int .u32 (n0 : Int), .slice none 0 0] 78)) = w6 at *
    refine (square_any w5.heap.size n (val 4294967296 l) n0 A5 c5 _ l5 w6 HRG.out).mono ?_
    rintro e w7 ⟨A7, c7, l7, rfl, hr7, hf7, hv7, hb7⟩
    have q7 := (HRG.out.below hb7).c2
    have f7 := (HRG.out.below hb7).blk.frozen 2
    have HR7 := Lib.hid hr7
    have HV7 := Lib.hid hv7
    clear hr7 hv7
    go_wp2
    go_ret2
    have R7 := HRG.out.below hb7
    refine ⟨_, rfl, ⟨n0, A5, c5, l5, A7, c7, l7, ⟨?_, R7.rd.setOther q7 (fun x e => by cases e) _, R7.fit, R7.num, R7.k1, R7.k2, R7.odd, R7.gt, R7.n1, R7.inv⟩, HR7.out.setOther q7 (fun x e => by cases e) _, hf7, HV7.out⟩, (below_then bel6 hb7).setCell hsz _⟩
    exact R7.blk.set_ 2 (.slice A7 n c7)

theorem N0_any (g k N n0 : Nat) (A : Option Addr) (c : Nat) (R : Value) (ln : List Nat) (w : World) (hr : Ringed w g k N n0 A c R ln) :
    Calls Tryd.prog 35 #[.pointer (some ⟨g, 0, none⟩)] w fun e w' => e = .returned (.int .i64 (n0 : Int)) ∧ w = w' := by
  have hc1 := hr.c1
  have hn := hr.n1
  clear hr
  go_enter Tryd.func35, Tryd.ntmps35
  go_wp2
  go_ret
  exact ⟨rfl, rfl⟩
theorem RR_any (g k N : Nat) (w : World) (hr : Whole w g k N) :
    Calls Tryd.prog 36 #[.pointer (some ⟨g, 0, none⟩)] w (Elem w k (4294967296 ^ (2 * k) % N)) := by
  obtain ⟨n0, A, c, ln, A', c', lr, h1, h2, h3, h4⟩ := hr
  have hc2 := h1.c2
  have k1 := h1.k1
  have k2 := h1.k2
  have HR := Lib.hid h2
  have HV := Lib.hid h4
  clear h1 h2 h4
  go_enter Tryd.func36, Tryd.ntmps36
  go_wp2_with fail
  refine (Clone_any A' k c' lr w HR.out h3 k1 (by omega)).mono ?_
  rintro e w5 ⟨A5, c5, l5, rfl, hr5, hf5, hv5, hb5⟩
  go_wp2
  go_ret
  exact ⟨A5, c5, l5, rfl, hr5, hf5, by rw [hv5, HV.out], hb5⟩
theorem long_any (g k N : Nat) (Aa : Option Addr) (ca : Nat) (la : List Nat) (w : World) (hr : Whole w g k N) (ha : Rd .u32 w Aa k la) (hfa : Fit 4294967296 la) (hlt : val 4294967296 la < N) :
    Calls Tryd.prog 59 #[.pointer (some ⟨g, 0, none⟩), .slice Aa k ca] w (Elem w k (val 4294967296 la * 4294967296 ^ k % N)) := by
  obtain ⟨n0, A, c, ln, A', c', lr, h1, h2, h3, h4⟩ := hr
  have hc2 := h1.c2
  have k1 := h1.k1
  have k2 := h1.k2
  have HR := Lib.hid h2
  have HV := Lib.hid h4
  have HA := Lib.hid ha
  have HRR := Lib.hid h1
  have HLT := Lib.hid hlt
  clear h1 h2 h4 ha hlt
  go_enter Tryd.func59, Tryd.ntmps59
  go_wp2_with fail
  refine (short_any g k N n0 A c _ ln Aa ca la A' c' lr w HRR.out HA.out hfa HR.out h3 HLT.out).mono ?_
  rintro e w5 ⟨A5, c5, l5, rfl, hr5, hf5, hlt5, hv5, hb5⟩
  have HV5 : Hid (val 4294967296 l5 = val 4294967296 la * 4294967296 ^ k % N) := by
    rw [HV.out] at hv5
    exact short_rr HRR.out.odd hlt5 hv5
  clear hv5
  go_wp2
  go_ret
  exact ⟨A5, c5, l5, rfl, hr5, hf5, HV5.out, hb5⟩

/-- An answer with no error: a number of k limbs. -/
def ElemT (w : World) (k x : Nat) (e : Ending) (w' : World) : Prop :=
  ∃ A c l, e = .returned (.tuple #[.slice A k c, .int .i64 0]) ∧ Rd .u32 w' A k l ∧ Fit 4294967296 l ∧ val 4294967296 l = x ∧ Below w.heap.size w w'
/-- An answer with no error: the short product. -/
def ShortedT (w : World) (k N a b : Nat) (e : Ending) (w' : World) : Prop :=
  ∃ A c l, e = .returned (.tuple #[.slice A k c, .int .i64 0]) ∧ Rd .u32 w' A k l ∧ Fit 4294967296 l ∧ val 4294967296 l < N ∧ val 4294967296 l * 4294967296 ^ k % N = a * b % N ∧ Below w.heap.size w w'

set_option maxHeartbeats 1000000 in
theorem Times_yes (g k N : Nat) (Aa : Option Addr) (ca : Nat) (la : List Nat) (Ab : Option Addr) (cb : Nat) (lb : List Nat) (w : World) (hr : Whole w g k N) (ha : Rd .u32 w Aa k la) (hfa : Fit 4294967296 la) (hlt : val 4294967296 la < N) (hb : Rd .u32 w Ab k lb) (hfb : Fit 4294967296 lb) (hltb : val 4294967296 lb < N) :
    Calls Tryd.prog 29 #[.pointer (some ⟨g, 0, none⟩), .slice Aa k ca, .slice Ab k cb] w (ElemT w k (val 4294967296 la * val 4294967296 lb % N)) := by
  have HW := Lib.hid hr
  obtain ⟨n0, A, c, ln, A', c', lr, h1, h2, h3, h4⟩ := hr
  have HA := Lib.hid ha
  have HB := Lib.hid hb
  have HRR := Lib.hid h1
  have HLT := Lib.hid hlt
  have HLB := Lib.hid hltb
  clear h1 h2 h4 ha hb hlt hltb
  go_enter Tryd.func29, Tryd.ntmps29
  go_wp2_with fail
  refine (has_yes g k N n0 A c _ ln Aa ca la w HRR.out HA.out hfa HLT.out).mono ?_
  rintro e w1 ⟨rfl, hb1⟩
  go_wp2_with fail
  refine (has_yes g k N n0 A c _ ln Ab cb lb w1 (HRR.out.below hb1) (HB.out.below hb1) hfb HLB.out).mono ?_
  rintro e w2 ⟨rfl, hb2⟩
  have bel2 := below_then hb1 hb2
  go_wp2_with fail
  refine (long_any g k N Aa ca la w2 (HW.out.below bel2) (HA.out.below bel2) hfa HLT.out).mono ?_
  rintro e w3 ⟨A3, c3, l3, rfl, hr3, hf3, hv3, hb3⟩
  have bel3 := below_then bel2 hb3
  have HV3 := Lib.hid hv3
  have HR3 := Lib.hid hr3
  clear hv3 hr3
  go_wp2_with fail
  refine (short_any g k N n0 A c _ ln A3 c3 l3 Ab cb lb w3 (HRR.out.below bel3) HR3.out hf3 (HB.out.below bel3) hfb (by rw [HV3.out]; exact Nat.mod_lt _ (by have := HRR.out.gt; omega))).mono ?_
  rintro e w5 ⟨A5, c5, l5, rfl, hr5, hf5, hlt5, hv5, hb5⟩
  have HV5 : Hid (val 4294967296 l5 = val 4294967296 la * val 4294967296 lb % N) := by
    rw [HV3.out] at hv5
    exact short_plain HRR.out.odd hlt5 hv5
  clear hv5
  go_wp2
  go_ret2
  exact ⟨A5, c5, l5, rfl, hr5, hf5, HV5.out, below_then bel3 hb5⟩
end Go.Proofs.YtojpbfkdkkdpcaaDoor
