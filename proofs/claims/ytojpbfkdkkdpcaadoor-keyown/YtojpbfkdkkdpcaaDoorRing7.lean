/-
  The program's Short, Times and Power: what they refuse, and powers.
-/
import Derived.Test.YtojpbfkdkkdpcaaDoorRing6
namespace Go.Proofs.YtojpbfkdkkdpcaaDoor
set_option maxRecDepth 100000
open Go.RowKit
set_option linter.unusedVariables false
set_option linter.unusedSimpArgs false

/-- Refused: no number, and an error. -/
def Refused (w : World) (er : Int) (e : Ending) (w' : World) : Prop := e = .returned (.tuple #[.slice none 0 0, .int .i64 er]) ∧ Below w.heap.size w w'

set_option maxHeartbeats 1000000 in
theorem Times_no (g k N : Nat) (Aa : Option Addr) (na ca : Nat) (la : List Nat) (Ab : Option Addr) (nb cb : Nat) (lb : List Nat) (w : World) (hr : Whole w g k N) (ha : Rd .u32 w Aa na la) (hfa : Fit 4294967296 la) (hb : Rd .u32 w Ab nb lb) (hfb : Fit 4294967296 lb) (hno : ¬ (na = k ∧ val 4294967296 la < N) ∨ ¬ (nb = k ∧ val 4294967296 lb < N)) :
    Calls Tryd.prog 29 #[.pointer (some ⟨g, 0, none⟩), .slice Aa na ca, .slice Ab nb cb] w (Refused w 13) := by
  obtain ⟨n0, A, c, ln, A', c', lr, h1, h2, h3, h4⟩ := hr
  have HA := Lib.hid ha
  have HB := Lib.hid hb
  have HRR := Lib.hid h1
  clear h1 h2 h4 ha hb
  by_cases hya : na = k ∧ val 4294967296 la < N
  · obtain ⟨rfl, hlt⟩ := hya
    have HLT := Lib.hid hlt
    have hnb : ¬ (nb = na ∧ val 4294967296 lb < N) := by
      rcases hno with h | h
      · exact absurd ⟨rfl, hlt⟩ h
      · exact h
    have HNB := Lib.hid hnb
    clear hno hlt hnb
    go_enter Tryd.func29, Tryd.ntmps29
    go_wp2_with fail
    refine (has_yes g na N n0 A c _ ln Aa ca la w HRR.out HA.out hfa HLT.out).mono ?_
    rintro e w1 ⟨rfl, hb1⟩
    go_wp2_with fail
    refine (has_no g na N n0 A c _ ln Ab nb cb lb w1 (HRR.out.below hb1) (HB.out.below hb1) hfb HNB.out).mono ?_
    rintro e w2 ⟨rfl, hb2⟩
    go_wp2
    go_ret2
    exact ⟨rfl, below_then hb1 hb2⟩
  · have HNA := Lib.hid hya
    clear hno hya
    go_enter Tryd.func29, Tryd.ntmps29
    go_wp2_with fail
    refine (has_no g k N n0 A c _ ln Aa na ca la w HRR.out HA.out hfa HNA.out).mono ?_
    rintro e w1 ⟨rfl, hb1⟩
    go_wp2
    go_ret2
    exact ⟨rfl, hb1⟩

set_option maxHeartbeats 1000000 in
theorem Power_no (g k N : Nat) (Aa : Option Addr) (na ca : Nat) (la : List Nat) (Ae : Option Addr) (ne ce : Nat) (w : World) (hr : Whole w g k N) (ha : Rd .u32 w Aa na la) (hfa : Fit 4294967296 la) (hno : ¬ (na = k ∧ val 4294967296 la < N)) :
    Calls Tryd.prog 73 #[.pointer (some ⟨g, 0, none⟩), .slice Aa na ca, .slice Ae ne ce] w (Refused w 13) := by
  obtain ⟨n0, A, c, ln, A', c', lr, h1, h2, h3, h4⟩ := hr
  have HA := Lib.hid ha
  have HRR := Lib.hid h1
  have HNA := Lib.hid hno
  clear h1 h2 h4 ha hno
  go_enter Tryd.func73, Tryd.ntmps73
  go_wp2_with fail
  refine (has_no g k N n0 A c _ ln Aa na ca la w HRR.out HA.out hfa HNA.out).mono ?_
  rintro e w1 ⟨rfl, hb1⟩
  go_wp2
  go_ret2
  exact ⟨rfl, hb1⟩
set_option maxHeartbeats 1000000 in
theorem Power_big (g k N : Nat) (Aa : Option Addr) (ca : Nat) (la : List Nat) (Ae : Option Addr) (ne ce : Nat) (w : World) (hr : Whole w g k N) (ha : Rd .u32 w Aa k la) (hfa : Fit 4294967296 la) (hlt : val 4294967296 la < N) (hne : 1024 < ne) :
    Calls Tryd.prog 73 #[.pointer (some ⟨g, 0, none⟩), .slice Aa k ca, .slice Ae ne ce] w (Refused w 11) := by
  obtain ⟨n0, A, c, ln, A', c', lr, h1, h2, h3, h4⟩ := hr
  have HA := Lib.hid ha
  have HRR := Lib.hid h1
  have HLT := Lib.hid hlt
  have hne1 : (1024 : Int) < ne := by omega
  clear h1 h2 h4 ha hlt
  go_enter Tryd.func73, Tryd.ntmps73
  go_wp2_with fail
  refine (has_yes g k N n0 A c _ ln Aa ca la w HRR.out HA.out hfa HLT.out).mono ?_
  rintro e w1 ⟨rfl, hb1⟩
  go_wp2
  go_ret2
  exact ⟨rfl, hb1⟩

theorem bit_and {d r b : Nat} (hd : d < 4294967296) (h : d / 2 ^ r % 2 = b) : bits .and .u32 ((d : Int) / 2 ^ r) 1 = (b : Int) := by
  have e : (d : Int) / 2 ^ r = ((d / 2 ^ r : Nat) : Int) := by simp
  rw [e, show (1 : Int) = ((1 : Nat) : Int) from rfl, u32_and_nat _ _ (Nat.lt_of_le_of_lt (Nat.div_le_self _ _) hd) (by omega), Nat.and_one_is_mod, h]
theorem vbe_lt {l : List Nat} {W : Nat} (hf : Fit 256 l) (hl : l.length ≤ 4 * W) : vbe l < 4294967296 ^ W := by
  have h := val_lt hf.reverse
  rw [List.length_reverse] at h
  have h2 : (256 : Nat) ^ l.length ≤ 256 ^ (4 * W) := Nat.pow_le_pow_right (by omega) hl
  rw [pow256_32] at h2
  exact Nat.lt_of_lt_of_le h h2
theorem bitlen_fit {l : List Nat} {W : Nat} (hf : Fit 4294967296 l) (hl : l.length = W) : bitlen (val 4294967296 l) ≤ 32 * W := by
  rw [bitlen_le]
  have := val_lt hf
  rw [hl, pow32] at this
  exact this
theorem From_256 (A : Option Addr) (n cap : Nat) (l : List Nat) (w : World) (h : Rd .u8 w A n l) (hf : Fit 256 l) (hn : n ≤ cap) (hm : cap ≤ maxLen) (hn2 : n ≤ 1024) :
    Calls Tryd.prog 27 #[.slice A n cap, .int .i64 256] w fun e w' => ∃ A1 zs, e = .returned (.tuple #[.slice A1 256 256, .int .i64 0]) ∧ Limbs w w' A1 256 256 zs ∧ val 4294967296 zs = vbe l :=
  From_ok A n cap l 256 w h hf hn hm (by omega) (by omega) (by omega) (vbe_lt hf (by rw [h.1]; omega))

set_option maxRecDepth 100000 in
set_option maxHeartbeats 4000000 in
theorem Power_yes (g k N : Nat) (Aa : Option Addr) (ca : Nat) (la : List Nat) (Ae : Option Addr) (ne ce : Nat) (le : List Nat) (w : World) (hr : Whole w g k N) (ha : Rd .u32 w Aa k la) (hfa : Fit 4294967296 la) (hlt : val 4294967296 la < N) (he : Rd .u8 w Ae ne le) (hfe : Fit 256 le) (hnc : ne ≤ ce) (hcm : ce ≤ maxLen) (hne : ne ≤ 1024) :
    Calls Tryd.prog 73 #[.pointer (some ⟨g, 0, none⟩), .slice Aa k ca, .slice Ae ne ce] w (ElemT w k (val 4294967296 la ^ vbe le % N)) := by
  have HW := Lib.hid hr
  obtain ⟨n0, A, c, ln, A', c', lr, h1, h2, h3, h4⟩ := hr
  have HA := Lib.hid ha
  have HE := Lib.hid he
  have HRR := Lib.hid h1
  have HLT := Lib.hid hlt
  have HCM := Lib.hid hcm
  have hne1 : ¬ (1024 : Int) < ne := by omega
  have hN : 1 < N := h1.gt
  have k1 := h1.k1
  clear h1 h2 h4 ha hlt he hcm
  go_enter Tryd.func73, Tryd.ntmps73
  go_wp2_with fail
  refine (has_yes g k N n0 A c _ ln Aa ca la w HRR.out HA.out hfa HLT.out).mono ?_
  rintro e w1 ⟨rfl, hb1⟩
  go_wp2_with fail
  refine (From_256 Ae ne ce le w1 (HE.out.below hb1) hfe hnc HCM.out hne).mono ?_
  rintro e w2 ⟨As, zs, rfl, ⟨hrs, hfs, _, _, hb2⟩, hvs⟩
  have bel2 := below_then hb1 hb2
  have HRS := Lib.hid hrs
  have HVS := Lib.hid hvs
  clear hrs hvs
  go_wp2_with fail
  refine (long_any g k N Aa ca la w2 (HW.out.below bel2) (HA.out.below bel2) hfa HLT.out).mono ?_
  rintro e w3 ⟨Af, cf, lf, rfl, hrf, hff, hvf, hb3⟩
  have bel3 := below_then bel2 hb3
  have HRF := Lib.hid hrf
  have HVF := Lib.hid hvf
  clear hrf hvf
  go_wp2_with fail
  refine (one_any g k N n0 A c _ ln w3 (HRR.out.below bel3)).mono ?_
  rintro e w4 ⟨A4, c4, l4, rfl, hr4, hf4, hv4, hb4⟩
  have bel4 := below_then bel3 hb4
  have HR4 := Lib.hid hr4
  have HV4 := Lib.hid hv4
  clear hr4 hv4
  go_wp2_with fail
  refine (long_any g k N A4 c4 l4 w4 (HW.out.below bel4) HR4.out hf4 (by rw [HV4.out]; exact hN)).mono ?_
  rintro e w5 ⟨A5, c5, l5, rfl, hr5, hf5, hv5, hb5⟩
  have bel5 := below_then bel4 hb5
  have HR5 := Lib.hid hr5
  have HV5 : Hid (val 4294967296 l5 = 1 * 4294967296 ^ k % N) := by rw [HV4.out] at hv5; exact hv5
  have HRS5 : Hid (Rd .u32 w5 As 256 zs) := ((HRS.out.below hb3).below hb4).below hb5
  clear hr5 hv5
  go_wp2_with fail
  refine (Bits_ok As 256 256 zs w5 HRS5.out hfs (by omega) (by omega)).mono ?_
  rintro e w6 ⟨rfl, hb6⟩
  have bel6 := below_then bel5 hb6
  have HRS6 : Hid (Rd .u32 w6 As 256 zs) := HRS5.out.below hb6
  have HRF6 : Hid (Rd .u32 w6 Af k lf) := ((HRF.out.below hb4).below hb5).below hb6
  have HR6 : Hid (Rd .u32 w6 A5 k l5) := HR5.out.below hb6
  obtain ⟨bl, hbl⟩ : ∃ bl, bl = bitlen (val 4294967296 zs) := ⟨_, rfl⟩
  rw [← hbl]
  have hblb : bl ≤ 8192 := by
    rw [hbl]
    exact bitlen_fit hfs HRS6.out.1
  have hE0 : val 4294967296 zs / 2 ^ bl = 0 := Nat.div_eq_of_lt ((bitlen_le _ _).1 (by omega))
  have HE0 := Lib.hid hE0
  clear hbl hE0
  go_wp2
  go_loopw [11, 12] (fun pp ii wr => ∃ (t c1 : Nat) (A1 : Option Addr) (l1 : List Nat), t ≤ bl ∧ ii = .int .i64 ((t : Int) - 1) ∧ pp = .slice A1 k c1 ∧ Hid (Rd .u32 wr A1 k l1 ∧ Fit 4294967296 l1 ∧ val 4294967296 l1 = val 4294967296 la ^ (val 4294967296 zs / 2 ^ t) * 4294967296 ^ k % N) ∧ Below w.heap.size w wr ∧ Below w6.heap.size w6 wr) (fun _ ii _ => (intOf ii + 1).toNat)
  case atStart => exact ⟨bl, c5, A5, l5, Nat.le_refl _, rfl, rfl, ⟨HR6.out, hf5, by rw [HE0.out, Nat.pow_zero]; exact HV5.out⟩, bel6, below_self⟩
  case round =>
    obtain ⟨t, c1, A1, l1, ht, rfl, rfl, HI, hbe, hbe6⟩ := hrel
    have hlt1 : val 4294967296 l1 < N := by rw [HI.out.2.2]; exact Nat.mod_lt _ (by omega)
    have HLT1 := Lib.hid hlt1
    clear hlt1
    rcases t with _ | t
    · go_wp2_with fail
      refine (one_any g k N n0 A c _ ln wr (HRR.out.below hbe)).mono ?_
      rintro e w7 ⟨A7, c7, l7, rfl, hr7, hf7, hv7, hb7⟩
      have bel7 := below_then hbe hb7
      have HR7 := Lib.hid hr7
      have HV7 := Lib.hid hv7
      clear hr7 hv7
      go_wp2_with fail
      refine (short_any g k N n0 A c _ ln A1 c1 l1 A7 c7 l7 w7 (HRR.out.below bel7) (HI.out.1.below hb7) HI.out.2.1 HR7.out hf7 HLT1.out).mono ?_
      rintro e w8 ⟨A8, c8, l8, rfl, hr8, hf8, hlt8, hv8, hb8⟩
      have HR8 := Lib.hid hr8
      have HV8 : Hid (val 4294967296 l8 = val 4294967296 la ^ vbe le % N) := by
        show _ = _
        rw [HI.out.2.2, HV7.out] at hv8
        have := short_plain HRR.out.odd hlt8 hv8
        rw [this, Nat.mul_one, Nat.pow_zero, Nat.div_one, HVS.out]
      clear hr8 hv8 hlt8
      go_wp2
      go_ret2
      exact ⟨A8, c8, l8, rfl, HR8.out, hf8, HV8.out, below_then bel7 hb8⟩
    · obtain ⟨q, hq⟩ : ∃ q, q = t / 32 := ⟨_, rfl⟩
      obtain ⟨r, hr2⟩ : ∃ r, r = t % 32 := ⟨_, rfl⟩
      have hq1 : (t : Int) / 32 = q := by omega
      have hr1 : (t : Int) % 32 = r := by omega
      have hqb : q < 256 := by omega
      have hrb : r < 32 := by omega
      have HQ := Lib.hid hq
      have HR2 := Lib.hid hr2
      clear hq hr2
      go_wp2_with fail
      refine (short_any g k N n0 A c _ ln A1 c1 l1 A1 c1 l1 wr (HRR.out.below hbe) HI.out.1 HI.out.2.1 HI.out.1 HI.out.2.1 HLT1.out).mono ?_
      rintro e w7 ⟨A7, c7, l7, rfl, hr7, hf7, hlt7, hv7, hb7⟩
      have bel7 := below_then hbe hb7
      have bel67 := below_then hbe6 hb7
      have HR7 := Lib.hid hr7
      have HV7 := Lib.hid hv7
      have HLT7 := Lib.hid hlt7
      clear hr7 hv7 hlt7
      obtain ⟨ad, d, hAs, hd, hcell⟩ := (HRS6.out.below bel67).get (j := q) hqb
      subst hAs
      have hbit := bit_at (i := t) hfs (by rw [← HQ.out]; exact hd)
      rw [← HR2.out] at hbit
      have hdb := hfs.get hd
      have hhalf := half_bit (val 4294967296 zs) t
      have HHALF := Lib.hid hhalf
      have HI' := HI.out.2.2
      rcases (by omega : val 4294967296 zs / 2 ^ t % 2 = 0 ∨ val 4294967296 zs / 2 ^ t % 2 = 1) with hz | hz
      · have hb := bit_and hdb (hbit.trans hz)
        have hb' : (bits .and .u32 ((d : Int) / 2 ^ r) 1 == 1) = false := by rw [hb]; rfl
        have HV8 : Hid (val 4294967296 l7 = val 4294967296 la ^ (val 4294967296 zs / 2 ^ t) * 4294967296 ^ k % N) := by
          show _ = _
          have hv7 := HV7.out
          rw [HI'] at hv7
          rw [HHALF.out, hz, Nat.add_zero]
          exact power_zero HRR.out.odd HLT7.out hv7
        clear hbit hd hhalf hz HI' hb
        go_wp2
        go_roundw
        case rel => exact ⟨t, c7, A7, l7, by omega, by go_num, rfl, ⟨HR7.out, hf7, HV8.out⟩, bel7, bel67⟩
        case measure => simp [intOf]
      · have hb := bit_and hdb (hbit.trans hz)
        have hb' : (bits .and .u32 ((d : Int) / 2 ^ r) 1 == 1) = true := by rw [hb]; rfl
        have HZ := Lib.hid hz
        have HHI := Lib.hid HI'
        clear hbit hd hhalf hz HI' hb
        go_wp2_with fail
        refine (short_any g k N n0 A c _ ln A7 c7 l7 Af cf lf w7 (HRR.out.below bel7) HR7.out hf7 (HRF6.out.below bel67) hff HLT7.out).mono ?_
        rintro e w8 ⟨A8, c8, l8, rfl, hr8, hf8, hlt8, hv8, hb8⟩
        have bel8 := below_then bel7 hb8
        have bel68 := below_then bel67 hb8
        have HR8 := Lib.hid hr8
        have HV8 : Hid (val 4294967296 l8 = val 4294967296 la ^ (val 4294967296 zs / 2 ^ t) * 4294967296 ^ k % N) := by
          show _ = _
          have hv7 := HV7.out
          rw [HHI.out] at hv7
          rw [HVF.out] at hv8
          rw [HHALF.out, HZ.out]
          exact power_one (b := 0) HRR.out.odd HLT7.out hlt8 hv7 hv8
        clear hr8 hv8 hlt8
        go_wp2
        go_roundw
        case rel => exact ⟨t, c8, A8, l8, by omega, by go_num, rfl, ⟨HR8.out, hf8, HV8.out⟩, bel8, bel68⟩
        case measure => simp [intOf]
end Go.Proofs.YtojpbfkdkkdpcaaDoor
