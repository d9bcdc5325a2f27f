/-
  DriveTears returns true for every two slices of bytes, every number and every slice of bools: its walk.
-/
import Derived.Test.YtolcbmogdfnfnaaLTwice
namespace Go.Proofs.Ytolcbmogdfnfnaa
open Go.RowKit Go.MapKept
set_option linter.unusedVariables false
set_option linter.unusedSimpArgs false
set_option maxRecDepth 100000

theorem getD_get {l : List Nat} {i x : Nat} (h : l[i]? = some x) : l.getD i 0 = x := by rw [List.getD, h]; rfl
set_option maxHeartbeats 4000000 in
theorem tears_walk (A : Option Addr) (n c : Nat) (os : List Nat) (Ab : Option Addr) (nb cb : Nat) (bs : List Nat) (off : Int) (Ak : Option Addr) (nk ck : Nat) (kp : List Bool) (w : World) (ha : Bs w A n c os) (hb : Bs w Ab nb cb bs) (ho : I64 off) (hk : Ss w Ak nk ck 1 (bcells kp)) :
    Calls Try.prog 4 #[.slice A n c, .slice Ab nb cb, .int .i64 off, .slice Ak nk ck] w fun e w' => e = .returned (.bool true) ∧ Below w.heap.size w w' := by
  have HA0 := Lib.hid ha
  have HB0 := Lib.hid hb
  have HK0 := Lib.hid hk
  have hnc := ha.le
  have hcm := ha.max
  have hnb := hb.le
  have hcb := hb.max
  have hnk := hk.le
  have hck := hk.max
  have HKL : Hid (kp.length = nk) := by have := hk.len; rw [bcells_length] at this; show _ = _; omega
  unfold I64 at ho
  clear ha hb hk
  go_enter Try.func4, Try.ntmps4
  go_wp2_with fail
  refine (anchor_any w).mono ?_
  rintro e w1 ⟨rfl, hb1⟩
  have B1 := Lib.hid hb1
  clear hb1
  by_cases h1 : 640 < n
  · have z1 : 640 < (n : Int) := by omega
    go_wp2
    go_ret
    exact ⟨rfl, B1.out⟩
  have z1 : ¬ 640 < (n : Int) := by omega
  by_cases h2 : 640 < nb
  · have z2 : 640 < (nb : Int) := by omega
    go_wp2
    go_ret
    exact ⟨rfl, B1.out⟩
  have z2 : ¬ 640 < (nb : Int) := by omega
  by_cases h3 : off < 0
  · go_wp2
    go_ret
    exact ⟨rfl, B1.out⟩
  by_cases h4 : 640 - (nb : Int) < off
  · go_wp2
    go_ret
    exact ⟨rfl, B1.out⟩
  by_cases h5 : 20 < nk
  · have z5 : 20 < (nk : Int) := by omega
    go_wp2
    go_ret
    exact ⟨rfl, B1.out⟩
  have z5 : ¬ 20 < (nk : Int) := by omega
  obtain ⟨o, rfl⟩ : ∃ o : Nat, off = o := ⟨off.toNat, by omega⟩
  have H1 : Hid (n ≤ 640 ∧ o + nb ≤ 640 ∧ nk ≤ 20) := ⟨by omega, by omega, by omega⟩
  have h640 : o ≤ 640 := by omega
  have hnk20 : nk ≤ 20 := by omega
  have hnb6 : nb ≤ 640 := by omega
  clear h1 h2 h5
  go_wp2_with fail
  clear h3 h4 z1 z2 z5 ho
  have HS1 := Lib.hid (one_src2 w1 ⟨#[120]⟩ 640)
  have B2 := Lib.hid (B1.out.alloc B1.out.size (.cells #[.string ⟨#[120]⟩, .int .i64 640] 36))
  generalize w1.alloc (.cells #[.string ⟨#[120]⟩, .int .i64 640] 36) = w2 at *
  refine (New_one _ [120] 640 w2 HS1.out (by decide) (by decide) (by decide) (by decide)).mono ?_
  rintro e w3 ⟨g, O, rfl, hD, hO, hb3⟩
  have D3 := Lib.hid hD
  have HO : Hid (∀ b ∈ O, w.heap.size ≤ b) := fun b hb => Nat.le_trans B2.out.size (hO b hb)
  have B3 := Lib.hid (B2.out.trans (hb3.mono B2.out.size))
  have HAO : Hid (∀ (a : Option Addr) (k : Nat) (l : List Nat), Rd .u8 w a k l → 0 < k → ∀ ad, a = some ad → ad.block ∉ O) := fun a k l hr hk ad e hm => by
    have h1 := hr.lt hk ad e
    have h2 := HO.out _ hm
    omega
  have L0 : Hid ((List.replicate (Int.toNat 640) 0 : List Nat).length = 640) := by show _ = _; simp
  clear hD hO hb3
  obtain ⟨L, hL⟩ : ∃ L, splice (List.replicate (Int.toNat 640) 0) 0 os = L := ⟨_, rfl⟩
  have HLL : Hid (L.length = 640) := by
    show _ = _
    rw [← hL, length_splice _ _ _ (by rw [L0.out, HA0.out.rd.1]; have := H1.out; omega), L0.out]
  have W4 : Hid (Calls Try.prog 19 #[.pointer (some ⟨g, 0, none⟩), .string ⟨#[120]⟩, .int .i64 ((0 : Nat) : Int), .slice A n c] w3 (Goes w3 O (.int .i64 0) fun w' => OneD w' g O w3.heap.size ⟨#[120]⟩ L (fun _ => false) false (-1) [] 0 0)) := by
    rw [← hL]
    exact D3.out.write_ok (by omega) 0 A n c os (HA0.out.rd.below B3.out) HA0.out.fit hnc hcm (HAO.out A n os HA0.out.rd) (by rw [L0.out]; have := H1.out; omega)
  clear hL
  go_wp2_with fail
  refine W4.out.mono ?_
  rintro e w4 ⟨rfl, hD4, ht4⟩
  have D4 := Lib.hid hD4
  have B4 := Lib.hid (below_touch B3.out ht4 HO.out B3.out.size)
  clear hD4 ht4
  go_wp2_with fail
  refine (D4.out.read_ok 0 640 (by rw [HLL.out]; omega) (no_bad _ _) (by omega) (by omega)).mono ?_
  rintro e w5 ⟨r5, rfl, hr5, hK5, hD5, ht5⟩
  have e5 : (L.drop 0).take 640 = L := by rw [List.drop_zero]; exact List.take_of_length_le (by rw [HLL.out]; exact Nat.le_refl _)
  rw [e5] at hK5
  have N5 := Lib.hid (D4.out.new hr5)
  have K5 := Lib.hid hK5
  have D5 := Lib.hid hD5
  have B5 := Lib.hid (below_touch B4.out (ht5.wider (G := O) (fun b hb => by rw [List.mem_singleton.1 hb]; exact D4.out.own)) HO.out B4.out.size)
  clear hr5 hK5 hD5 ht5 e5
  have FK : Hid (0 < nk → ∀ ad, Ak = some ad → ad.block ∉ O) := fun hp ad e hm => by
    have h1 := HK0.out.rs.lt (by rw [bcells_length, HKL.out]; exact hp) ad e
    have h2 := HO.out _ hm
    omega
  go_wp2_with fail
  refine (D5.out.arm 0 (by omega) (by omega) Ak nk ck kp (HK0.out.below B5.out) FK.out (by omega)).mono ?_
  rintro e w6 ⟨rfl, hD6, ht6⟩
  have D6 := Lib.hid hD6
  have B6 := Lib.hid (below_touch B5.out ht6 HO.out B5.out.size)
  have K6 := Lib.hid (K5.out.touch ht6 N5.out)
  clear hD6 ht6
  obtain ⟨T, hT⟩ : ∃ T, torn L bs o nb kp = T := ⟨_, rfl⟩
  have HT := Lib.hid hT
  have HTL : Hid (T.length = 640) := by show _ = _; rw [← hT, torn_length]; exact HLL.out
  have W7 := Lib.hid (D6.out.write_torn o Ab nb cb bs (HB0.out.rd.below B6.out) HB0.out.fit hnb hcb (HAO.out Ab nb bs HB0.out.rd) (by rw [HLL.out]; exact H1.out.2.1))
  rw [hT] at W7
  clear hT
  go_wp2_with fail
  refine W7.out.mono ?_
  rintro e w7 ⟨rfl, hD7, ht7⟩
  have D7 := Lib.hid hD7
  have B7 := Lib.hid (below_touch B6.out ht7 HO.out B6.out.size)
  have K7 := Lib.hid (K6.out.touch ht7 N5.out)
  clear hD7 ht7
  go_wp2_with fail
  refine D7.out.boot.mono ?_
  rintro e w8 ⟨rfl, hD8, ht8⟩
  have D8 := Lib.hid hD8
  have B8 := Lib.hid (below_touch B7.out ht8 HO.out B7.out.size)
  have K8 := Lib.hid (K7.out.touch ht8 N5.out)
  clear hD8 ht8
  go_wp2_with fail
  refine (D8.out.read_ok 0 640 (by rw [HTL.out]; omega) (no_bad _ _) (by omega) (by omega)).mono ?_
  rintro e w9 ⟨r9, rfl, hr9, hK9, hD9, ht9⟩
  have e9 : (T.drop 0).take 640 = T := by rw [List.drop_zero]; exact List.take_of_length_le (by rw [HTL.out]; exact Nat.le_refl _)
  rw [e9] at hK9
  have K9 := Lib.hid hK9
  have ht9' : Touch O w8 w9 := ht9.wider (G := O) (fun b hb => by rw [List.mem_singleton.1 hb]; exact D8.out.own)
  have B9 := Lib.hid (below_touch B8.out ht9' HO.out B8.out.size)
  have J9 := Lib.hid (K8.out.touch ht9' N5.out)
  have RB := Lib.hid (HB0.out.rd.below B9.out)
  have RK := Lib.hid (HK0.out.rs.below B9.out)
  obtain ⟨p, hp⟩ : ∃ p, o / 64 = p := ⟨_, rfl⟩
  have pz : (o : Int) / 64 = (p : Int) := by omega
  have HP := Lib.hid hp
  clear hr9 hK9 hD9 ht9 ht9' e9 hp
  go_wp2
  go_loop [96] (fun si => ∃ i : Nat, si = .int .i64 (i : Int) ∧ i ≤ 640) (fun i => 640 - (intOf i).toNat)
  case atStart => exact ⟨0, rfl, Nat.zero_le _⟩
  case round =>
    obtain ⟨i, rfl, hi⟩ := hrel
    by_cases hlt : i < 640
    · have zlt : (i : Int) < 640 := by omega
      obtain ⟨x, hx⟩ := get_some (l := L) (i := i) (by rw [HLL.out]; exact hlt)
      obtain ⟨y, hy⟩ := get_some (l := T) (i := i) (by rw [HTL.out]; exact hlt)
      have c1 : w9.cell? ⟨r5, i, none⟩ = some (.int .u8 (x : Int)) := by rw [J9.out.cell]; exact cn_get hx
      have c2 : w9.cell? ⟨r9, i, none⟩ = some (.int .u8 (y : Int)) := by rw [K9.out.cell]; exact cn_get hy
      have HY : Hid (y = if o ≤ i ∧ i < o + nb ∧ kp.getD (i / 64 - o / 64) false = true then bs.getD (i - o) 0 else x) := by
        have h1 := torn_get L bs o nb kp i (by rw [HLL.out]; exact hlt)
        rw [HT.out, hy] at h1
        injection h1 with h1
        rw [getD_get hx] at h1
        exact h1
      obtain ⟨q, hq⟩ : ∃ q, i / 64 = q := ⟨_, rfl⟩
      have qz : (i : Int) / 64 = (q : Int) := by omega
      have HQ := Lib.hid hq
      have hq10 : q ≤ 10 := by omega
      have hp10 : p ≤ 10 := by have := HP.out; omega
      clear hx hy hq
      by_cases h1 : o ≤ i
      · have z1 : (o : Int) ≤ (i : Int) := by omega
        by_cases h2 : i < o + nb
        · have z2 : (i : Int) < (o : Int) + (nb : Int) := by omega
          obtain ⟨k, hk⟩ : ∃ k, q - p = k := ⟨_, rfl⟩
          have kz : (q : Int) - (p : Int) = (k : Int) := by have := HQ.out; have := HP.out; omega
          have HKK : Hid (i / 64 - o / 64 = k) := by show _ = _; rw [HQ.out, HP.out]; exact hk
          clear hk
          by_cases h3 : k < nk
          · have z3 : (k : Int) < (nk : Int) := by omega
            have hg := getB (kp := kp) (i := k) (by rw [HKL.out]; exact h3)
            obtain ⟨ka, rfl, ck1⟩ := RK.out.get hg
            cases hkb : kp.getD k false with
            | true =>
              rw [hkb] at ck1
              obtain ⟨j, hj⟩ : ∃ j, i - o = j := ⟨_, rfl⟩
              have jz : (i : Int) - (o : Int) = (j : Int) := by omega
              obtain ⟨ab, z, rfl, hz, cz⟩ := RB.out.get (j := j) (by omega)
              obtain rfl : y = z := by
                have h4 := HY.out
                rw [HKK.out, if_pos ⟨h1, h2, hkb⟩, hj, getD_get hz] at h4
                exact h4
              have jn : (j : Int) < (nb : Int) := by omega
              clear hkb hg hj hz
              go_wp2
              go_round
              case rel => exact ⟨i + 1, by go_num, by omega⟩
              case measure => simp [intOf]; omega
            | false =>
              rw [hkb] at ck1
              obtain rfl : y = x := by
                have h4 := HY.out
                rw [HKK.out, if_neg (by rw [hkb]; simp)] at h4
                exact h4
              clear hkb hg
              go_wp2
              go_round
              case rel => exact ⟨i + 1, by go_num, by omega⟩
              case measure => simp [intOf]; omega
          · have z3 : ¬ (k : Int) < (nk : Int) := by omega
            obtain rfl : y = x := by
              have h4 := HY.out
              rw [HKK.out, List.getD, List.getElem?_eq_none (by rw [HKL.out]; omega), if_neg (by simp)] at h4
              exact h4
            go_wp2
            go_round
            case rel => exact ⟨i + 1, by go_num, by omega⟩
            case measure => simp [intOf]; omega
        · have z2 : ¬ (i : Int) < (o : Int) + (nb : Int) := by omega
          obtain rfl : y = x := by
            have h4 := HY.out
            rw [if_neg (by omega)] at h4
            exact h4
          go_wp2
          go_round
          case rel => exact ⟨i + 1, by go_num, by omega⟩
          case measure => simp [intOf]; omega
      · have z1 : ¬ (o : Int) ≤ (i : Int) := by omega
        obtain rfl : y = x := by
          have h4 := HY.out
          rw [if_neg (by omega)] at h4
          exact h4
        go_wp2
        go_round
        case rel => exact ⟨i + 1, by go_num, by omega⟩
        case measure => simp [intOf]; omega
    · have zlt : ¬ (i : Int) < 640 := by omega
      go_wp2
      go_ret
      exact ⟨rfl, B9.out⟩
end Go.Proofs.Ytolcbmogdfnfnaa
