/-
  The document's four bytes of a number, and its N0.
-/
import Derived.Test.YtojpbfkdkkdpcaaDoorK4
namespace Go.Proofs.YtojpbfkdkkdpcaaDoor
open Go.RowKit
set_option linter.unusedVariables false
set_option linter.unusedSimpArgs false
set_option maxRecDepth 100000

theorem bytes4 (x : Nat) : bytesOf 4 x = [x / 256 / 256 / 256 % 256, x / 256 / 256 % 256, x / 256 % 256, x % 256] := rfl
theorem four_cells (x : Nat) (a b c d : Int) (ha : a = ((x / 256 / 256 / 256 % 256 : Nat) : Int)) (hb : b = ((x / 256 / 256 % 256 : Nat) : Int)) (hc : c = ((x / 256 % 256 : Nat) : Int)) (hd : d = ((x % 256 : Nat) : Int)) (w : World) : Blk (w.alloc (.cells #[.int .u8 a, .int .u8 b, .int .u8 c, .int .u8 d] 5)) w.heap.size 5 (cn .u8 (bytesOf 4 x)) := by
  subst ha; subst hb; subst hc; subst hd
  exact Blk.new w 5 _
theorem Four_any (x : Nat) (z : Int) (hz : z = x) (hx : x < 4294967296) (w : World) :
    Calls Tryd.prog 37 #[.int .i64 z] w fun e w' => e = .returned (.slice (some ⟨w.heap.size, 0, none⟩) 4 4) ∧ Blk w' w.heap.size 5 (cn .u8 (bytesOf 4 x)) ∧ Below w.heap.size w w' := by
  have HZ := Lib.hid hz
  have z0 : 0 ≤ z := by omega
  have z1 : z < 4294967296 := by omega
  clear hz
  go_enter Tryd.func37, Tryd.ntmps37
  go_wp2
  go_ret
  have := HZ.out
  exact ⟨rfl, four_cells x _ _ _ _ (by omega) (by omega) (by omega) (by omega) w, (Below.refl _ _).alloc (Nat.le_refl _) _⟩

theorem vbe_low {l : List Nat} {p : Nat} (hf : Fit 256 l) (hl : l.length = p + 4) : vbe (l.drop p) = vbe l % 4294967296 := by
  have e : vbe l = vbe (l.take p) * 4294967296 + vbe (l.drop p) := by
    conv => lhs; rw [← List.take_append_drop p l]
    simp only [vbe, List.reverse_append, val_append, List.length_reverse, List.length_drop]
    rw [show l.length - p = 4 by omega]
    show _ + 256 ^ 4 * _ = _
    omega
  have h2 : vbe (l.drop p) < 256 ^ (l.drop p).length := vbe_ltp (fun x hx => hf x (List.mem_of_mem_drop hx))
  rw [List.length_drop, show l.length - p = 4 by omega] at h2
  have h3 : vbe (l.drop p) < 4294967296 := h2
  omega
set_option maxHeartbeats 1000000 in
theorem RefN0_any (A : Option Addr) (n cap : Nat) (l : List Nat) (w : World) (h : Rd .u8 w A n l) (hf : Fit 256 l) (hn : 64 ≤ n) (hn2 : n ≤ 10000) (hodd : vbe l % 2 = 1) :
    Calls Tryd.prog 38 #[.slice A n cap] w fun e w' => e = .returned (.int .i64 ((n0of (vbe l) : Nat) : Int)) ∧ w = w' := by
  have HR := Lib.hid h
  obtain ⟨p, hp⟩ : ∃ p, n = p + 4 := ⟨n - 4, by omega⟩
  have HP := Lib.hid hp
  have hp2 : (n : Int) - 4 = (p : Int) := by omega
  have HV := Lib.hid (vbe_low hf (by rw [h.1]; exact hp))
  have HO := Lib.hid hodd
  clear h hp hodd
  go_enter Tryd.func38, Tryd.ntmps38
  go_wp2
  go_loop [3, 4] (fun o i => ∃ t : Nat, t ≤ 4 ∧ i = .int .i64 ((p + t : Nat) : Int) ∧ o = .int .i64 ((vbe ((l.drop p).take t) : Nat) : Int)) (fun _ i => n - (intOf i).toNat)
  case atStart => exact ⟨0, by omega, rfl, rfl⟩
  case round =>
    obtain ⟨t, ht, rfl, rfl⟩ := hrel
    by_cases htl : t < 4
    · obtain ⟨ad, x, rfl, hx, hcell⟩ := HR.out.get (j := p + t) (by have := HP.out; omega)
      have hxb := hf.get hx
      have hlt : p + t < n := by have := HP.out; omega
      have hx2 : (l.drop p)[t]? = some x := by rw [List.getElem?_drop]; exact hx
      have hnext := take_trim hx2
      have hnv : vbe ((l.drop p).take (t + 1)) = x + 256 * vbe ((l.drop p).take t) := by rw [hnext, vbe_snoc]
      have hb : vbe ((l.drop p).take t) < 16777216 := by
        have h1 := vbe_ltp (l := (l.drop p).take t) (fun y hy => hf y (List.mem_of_mem_drop (List.mem_of_mem_take hy)))
        have h2 : ((l.drop p).take t).length ≤ 3 := by rw [List.length_take]; omega
        exact Nat.lt_of_lt_of_le h1 (Nat.pow_le_pow_right (by omega) h2)
      have HNV := Lib.hid hnv
      clear hnext hx hx2 hnv
      generalize hv : vbe ((l.drop p).take t) = v at *
      go_wp2
      go_round
      case rel => exact ⟨t + 1, by omega, by go_num, by congr 1; have := HNV.out; omega⟩
      case measure => simp [intOf]; omega
    · obtain rfl : t = 4 := by omega
      have hnl : ¬ p + 4 < n := by have := HP.out; omega
      rw [List.take_of_length_le (by rw [List.length_drop, HR.out.1]; have := HP.out; omega), HV.out]
      have hlo : vbe l % 4294967296 % 2 = 1 := by have := HO.out; omega
      have hlb : vbe l % 4294967296 < 4294967296 := Nat.mod_lt _ (by omega)
      have HOK := Lib.hid (n0u_ok hlo)
      have HDEF : Hid (n0of (vbe l) = n0u (vbe l % 4294967296) 32) := rfl
      generalize vbe l % 4294967296 = low at *
      clear hlo
      go_wp2
      go_loop [5, 6] (fun o i => ∃ t : Nat, t ≤ 32 ∧ i = .int .i64 (t : Int) ∧ o = .int .i64 ((n0u low t : Nat) : Int)) (fun _ i => 32 - (intOf i).toNat)
      case atStart => exact ⟨0, by omega, rfl, rfl⟩
      case round =>
        obtain ⟨t, ht, rfl, rfl⟩ := hrel
        by_cases htl : t < 32
        · have h1 := (HOK.out t).2
          have h2 : 2 ^ t ≤ 2 ^ 31 := Nat.pow_le_pow_right (by omega) (by omega)
          have hx31 : n0u low t < 2147483648 := Nat.lt_of_lt_of_le h1 h2
          have hpow : 2 ^ t ≤ 2147483648 := h2
          obtain ⟨P, hP⟩ : ∃ P, P = n0u low t * low := ⟨_, rfl⟩
          have hPb : P + 1 ≤ 9223372036854775807 := by
            have : n0u low t * low ≤ 2147483647 * 4294967295 := Nat.mul_le_mul (by omega) (by omega)
            omega
          have hPi : ((n0u low t : Nat) : Int) * (low : Int) = (P : Int) := by rw [hP, Int.natCast_mul]
          have hnx : n0u low (t + 1) = n0u low t + (P + 1) / 2 ^ t % 2 * 2 ^ t := by rw [hP]; rfl
          have HNX := Lib.hid hnx
          clear h1 h2 hnx hP
          generalize n0u low t = X at *
          have hY : ∃ Y : Nat, 2 ^ t = Y := ⟨_, rfl⟩
          obtain ⟨Y, hY⟩ := hY
          have hYi : (2 : Int) ^ t = (Y : Int) := by rw [← hY, Int.natCast_pow]; rfl
          have hY1 : 1 ≤ Y := by rw [← hY]; exact Nat.two_pow_pos t
          rw [hY] at hpow
          have HNX2 : Hid (n0u low (t + 1) = X + (P + 1) / Y % 2 * Y) := by rw [← hY]; exact HNX.out
          have htm : (((P : Int) + 1) / (Y : Int)).tmod 2 = (((P + 1) / Y % 2 : Nat) : Int) := by
            rw [Int.tmod_eq_emod_of_nonneg (Int.ediv_nonneg (by omega) (by omega))]
            norm_cast
          clear HNX hY
          rcases (by omega : (P + 1) / Y % 2 = 0 ∨ (P + 1) / Y % 2 = 1) with hbit | hbit
          · have HBIT := Lib.hid hbit
            rw [hbit] at htm
            have hd : ((((P : Int) + 1) / (Y : Int)).tmod 2 == 1) = false := by rw [htm]; rfl
            clear hbit htm
            go_wp2
            go_round
            case rel => exact ⟨t + 1, by omega, by go_num, by congr 1; have := HNX2.out; rw [HBIT.out] at this; omega⟩
            case measure => simp [intOf]; omega
          · have HBIT := Lib.hid hbit
            rw [hbit] at htm
            have hd : ((((P : Int) + 1) / (Y : Int)).tmod 2 == 1) = true := by rw [htm]; rfl
            clear hbit htm
            go_wp2
            go_round
            case rel => exact ⟨t + 1, by omega, by go_num, by congr 1; have := HNX2.out; rw [HBIT.out] at this; omega⟩
            case measure => simp [intOf]; omega
        · obtain rfl : t = 32 := by omega
          rw [← HDEF.out]
          go_wp2
          go_ret
          exact ⟨rfl, rfl⟩
end Go.Proofs.YtojpbfkdkkdpcaaDoor
