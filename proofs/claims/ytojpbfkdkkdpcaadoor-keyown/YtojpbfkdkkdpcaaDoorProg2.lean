/-
  The program's small functions: widths, one limb added or taken away, the bits of a limb, which is the greater.
-/
import Derived.Test.YtojpbfkdkkdpcaaDoorProg1
import Derived.Lib.Tables
namespace Go.Proofs.YtojpbfkdkkdpcaaDoor
set_option maxRecDepth 100000
open Go.RowKit
set_option linter.unusedVariables false
set_option linter.unusedSimpArgs false

/-- A width. -/
def okW (n : Nat) : Bool := decide (1 ≤ n ∧ n ≤ 256)
/-- Slices that lie in memory one behind the other. -/
def Lists (w : World) (A : Option Addr) (ps : List (Option Addr × Nat × Nat)) : Prop := ∃ ad, A = some ad ∧ ∀ (j : Nat) (p : Option Addr × Nat × Nat), ps[j]? = some p → w.cell? (ad.add j) = some (.slice p.1 p.2.1 p.2.2)
theorem Lists.new1 (w : World) (A : Option Addr) (n cap : Nat) : Lists (w.alloc (.cells #[.slice A n cap] 45)) (some ⟨w.heap.size, 0, none⟩) [(A, n, cap)] := by
  refine ⟨_, rfl, fun j p hj => ?_⟩
  rw [addr_add, Nat.zero_add, cell_of_row _ _ _ _ _ _ (heap_alloc_new w _)]
  rcases j with _ | j
  · simp at hj; subst hj; rfl
  · simp at hj
theorem Lists.new2 (w : World) (A : Option Addr) (n cap : Nat) (A' : Option Addr) (n' cap' : Nat) : Lists (w.alloc (.cells #[.slice A n cap, .slice A' n' cap'] 45)) (some ⟨w.heap.size, 0, none⟩) [(A, n, cap), (A', n', cap')] := by
  refine ⟨_, rfl, fun j p hj => ?_⟩
  rw [addr_add, Nat.zero_add, cell_of_row _ _ _ _ _ _ (heap_alloc_new w _)]
  rcases j with _ | _ | j
  · simp at hj; subst hj; rfl
  · simp at hj; subst hj; rfl
  · simp at hj

set_option maxHeartbeats 800000 in
theorem areNumbers_any (A : Option Addr) (m cap : Nat) (ps : List (Option Addr × Nat × Nat)) (w : World) (h : Lists w A ps) (hm : ps.length = m) (hm2 : m ≤ 1000) :
    Calls Tryd.prog 60 #[.slice A m cap] w fun e w' => e = .returned (.bool (ps.all fun p => okW p.2.1)) ∧ w = w' := by
  obtain ⟨ad, rfl, hc⟩ := h
  have HC := Lib.hid hc
  have HM := Lib.hid hm
  clear hc hm
  go_enter Tryd.func60, Tryd.ntmps60
  go_wp2
  go_loop [7] (fun i => ∃ k : Nat, k ≤ m ∧ i = .int .i64 (k : Int) ∧ Hid ((ps.take k).all (fun p => okW p.2.1) = true)) (fun i => m - (intOf i).toNat)
  case atStart => exact ⟨0, by omega, rfl, rfl⟩
  case round =>
    obtain ⟨k, hk, rfl, HK⟩ := hrel
    by_cases hkm : k < m
    · obtain ⟨p, hp⟩ : ∃ p, ps[k]? = some p := ⟨_, List.getElem?_eq_getElem (by rw [HM.out]; exact hkm)⟩
      have hcell := HC.out k p hp
      have HP := Lib.hid hp
      obtain ⟨A1, n1, c1⟩ := p
      simp only at hcell
      clear hp
      have no : okW n1 = false → (ps.all fun p => okW p.2.1) = false := fun h => by
        rw [List.all_eq_false]
        exact ⟨_, List.mem_of_getElem? HP.out, by simpa using h⟩
      have HNO := Lib.hid no
      clear no
      by_cases h1 : n1 < 1
      · obtain rfl : n1 = 0 := by omega
        go_wp2
        go_ret
        exact ⟨by rw [HNO.out (by decide)]; rfl, rfl⟩
      · by_cases h2 : 256 < n1
        · go_wp2
          go_ret
          exact ⟨by rw [HNO.out (by simp [okW]; omega)]; rfl, rfl⟩
        · go_wp2
          go_round
          case rel =>
            refine ⟨k + 1, by omega, by go_num, ?_⟩
            show _ = true
            have hi := (List.getElem?_eq_some_iff.1 HP.out).1
            rw [List.take_succ_eq_append_getElem hi, (List.getElem?_eq_some_iff.1 HP.out).2, List.all_append, HK.out]
            simp [okW]; omega
          case measure => simp [intOf]; omega
    · have : k = ps.length := by rw [HM.out]; omega
      have ha := HK.out
      rw [this, List.take_of_length_le (Nat.le_refl _)] at ha
      have HA := Lib.hid ha
      clear this ha
      go_wp2
      go_ret
      exact ⟨by rw [HA.out]; rfl, rfl⟩

theorem Add32_any (x y c : Nat) (hx : x < 4294967296) (hy : y < 4294967296) (hc : c ≤ 1) (w : World) :
    Calls Tryd.prog 94 #[.int .u32 (x : Int), .int .u32 (y : Int), .int .u32 (c : Int)] w fun e w' => e = .returned (.tuple #[.int .u32 (((x + y + c) % 4294967296 : Nat) : Int), .int .u32 (((x + y + c) / 4294967296 : Nat) : Int)]) ∧ w = w' := by
  go_enter Tryd.func94, Tryd.ntmps94
  go_wp2
  go_ret2
  refine ⟨?_, rfl⟩
  have e1 : (((x + y + c) % 4294967296 : Nat) : Int) = ((x : Int) + y + c) % 4294967296 := by omega
  have e2 : (((x + y + c) / 4294967296 : Nat) : Int) = ((x : Int) + y + c) / 4294967296 := by omega
  rw [e1, e2]
  rfl

/-- A word as the walk's number. -/
def ui (x : BitVec 32) : Int := x.toNat
theorem ui_nat (x : BitVec 32) : x.toNat < 4294967296 := x.isLt
theorem ui_lo (x : BitVec 32) : 0 ≤ ui x := by unfold ui; omega
theorem ui_hi (x : BitVec 32) : ui x < 4294967296 := by unfold ui; have := x.isLt; omega
theorem ui_and (x y : BitVec 32) : bits .and .u32 (ui x) (ui y) = ui (x &&& y) := by
  unfold ui; rw [u32_and_nat _ _ (ui_nat x) (ui_nat y), BitVec.toNat_and]
theorem ui_or (x y : BitVec 32) : bits .or .u32 (ui x) (ui y) = ui (x ||| y) := by
  unfold ui; rw [u32_or_nat _ _ (ui_nat x) (ui_nat y), BitVec.toNat_or]
theorem ui_xor (x y : BitVec 32) : bits .xor .u32 (ui x) (ui y) = ui (x ^^^ y) := by
  unfold ui; rw [u32_xor_nat _ _ (ui_nat x) (ui_nat y), BitVec.toNat_xor]
theorem ui_not (x : BitVec 32) : bits .xor .u32 4294967295 (ui x) = ui (~~~x) := by
  have h : (4294967295 : Int) = ui (BitVec.allOnes 32) := rfl
  rw [h, ui_xor, BitVec.allOnes_xor]
theorem ui_not_if (x : BitVec 32) : bits .xor .u32 (if IntKind.u32.signed = true then -1 else IntKind.u32.max) (ui x) = ui (~~~x) := ui_not x
theorem ui_sub (x y : BitVec 32) : (ui x - ui y) % 4294967296 = ui (x - y) := by
  unfold ui; rw [BitVec.toNat_sub]; have := x.isLt; have := y.isLt; omega
theorem ui_subw (x y : BitVec 32) : IntKind.u32.wrap (ui x - ui y) = ui (x - y) := by
  rw [IntKind.wrap_u32']; exact ui_sub x y
theorem ui_top (x : BitVec 32) : ui x / 2147483648 = ui (x >>> 31) := by
  unfold ui
  rw [BitVec.toNat_ushiftRight, Nat.shiftRight_eq_div_pow]
  omega
theorem ui_of {x : Nat} (h : x < 4294967296) : (x : Int) = ui (BitVec.ofNat 32 x) := by
  unfold ui; rw [BitVec.toNat_ofNat, Nat.mod_eq_of_lt h]
theorem top_bit (z : BitVec 32) : (z >>> 31).toNat = if z.msb then 1 else 0 := by
  rw [BitVec.toNat_ushiftRight, Nat.shiftRight_eq_div_pow, BitVec.msb_eq_decide]
  have := z.isLt
  simp only [decide_eq_true_eq]
  split <;> omega
theorem sub_borrow (x y b : BitVec 32) (hb : b.toNat ≤ 1) : (((~~~x &&& y) ||| (~~~(x ^^^ y) &&& (x - y - b))) >>> 31).toNat = if x.toNat < y.toNat + b.toNat then 1 else 0 := by
  rw [top_bit, BitVec.msb_or, BitVec.msb_and, BitVec.msb_and, BitVec.msb_not, BitVec.msb_not, BitVec.msb_xor]
  simp only [BitVec.msb_eq_decide, BitVec.toNat_sub]
  have := x.isLt
  have := y.isLt
  by_cases h1 : 2 ^ (32 - 1) ≤ x.toNat <;> by_cases h2 : 2 ^ (32 - 1) ≤ y.toNat <;> simp [h1, h2] <;> simp at h1 h2 <;> (repeat' split) <;> omega
/-- What goes under. -/
def under (x y b : Nat) : Nat := if x < y + b then 1 else 0
theorem Sub32_any (x y b : Nat) (hx : x < 4294967296) (hy : y < 4294967296) (hb : b ≤ 1) (w : World) :
    Calls Tryd.prog 101 #[.int .u32 (x : Int), .int .u32 (y : Int), .int .u32 (b : Int)] w fun e w' => e = .returned (.tuple #[.int .u32 ((x + 4294967296 * under x y b - y - b : Nat) : Int), .int .u32 ((under x y b : Nat) : Int)]) ∧ w = w' := by
  have e1 : ((under x y b : Nat) : Int) = ui (((~~~(BitVec.ofNat 32 x) &&& (BitVec.ofNat 32 y)) ||| (~~~((BitVec.ofNat 32 x) ^^^ (BitVec.ofNat 32 y)) &&& ((BitVec.ofNat 32 x) - (BitVec.ofNat 32 y) - (BitVec.ofNat 32 b)))) >>> 31) := by
    unfold ui under
    rw [sub_borrow _ _ _ (by rw [BitVec.toNat_ofNat]; omega), BitVec.toNat_ofNat, BitVec.toNat_ofNat, BitVec.toNat_ofNat, Nat.mod_eq_of_lt hx, Nat.mod_eq_of_lt hy, Nat.mod_eq_of_lt (by omega : b < 2 ^ 32)]
  have e2 : ((x + 4294967296 * under x y b - y - b : Nat) : Int) = ui ((BitVec.ofNat 32 x) - (BitVec.ofNat 32 y) - (BitVec.ofNat 32 b)) := by
    unfold ui under
    rw [BitVec.toNat_sub, BitVec.toNat_sub, BitVec.toNat_ofNat, BitVec.toNat_ofNat, BitVec.toNat_ofNat]
    split <;> omega
  rw [e1, e2, ui_of hx, ui_of hy, ui_of (by omega : b < 4294967296)]
  generalize BitVec.ofNat 32 x = X
  generalize BitVec.ofNat 32 y = Y
  generalize BitVec.ofNat 32 b = B
  clear e1 e2 hx hy hb
  have r1 := ui_sub
  have r2 := ui_subw
  have r3 := ui_and
  have r4 := ui_or
  have r5 := ui_xor
  have r6 := ui_not
  have r7 := ui_top
  have r8 := ui_not_if
  go_enter Tryd.func101, Tryd.ntmps101
  go_wp2
  go_ret2
  exact ⟨by rw [← ui_top]; rfl, rfl⟩

theorem isNaN_int (x : Int) (w : World) : Calls Tryd.prog 102 #[.int .i64 x] w fun e w' => e = .returned (.bool false) ∧ w = w' := by
  go_enter Tryd.func102, Tryd.ntmps102
  go_wp2
  go_ret
  exact ⟨rfl, rfl⟩
theorem isNaN_u32 (x : Int) (w : World) : Calls Tryd.prog 103 #[.int .u32 x] w fun e w' => e = .returned (.bool false) ∧ w = w' := by
  go_enter Tryd.func103, Tryd.ntmps103
  go_wp2
  go_ret
  exact ⟨rfl, rfl⟩
theorem cmpInt_any (x y : Nat) (w : World) : Calls Tryd.prog 96 #[.int .i64 (x : Int), .int .i64 (y : Int)] w fun e w' => e = .returned (.int .i64 (ord x y)) ∧ w = w' := by
  rcases Nat.lt_trichotomy x y with h | h | h
  · go_enter Tryd.func96, Tryd.ntmps96
    go_wp2_with (go_at_call 102; refine (isNaN_int _ _).mono ?_; rintro e w' ⟨rfl, rfl⟩)
    go_ret
    exact ⟨by rw [ord, if_pos h]; rfl, rfl⟩
  · subst h
    go_enter Tryd.func96, Tryd.ntmps96
    go_wp2_with (go_at_call 102; refine (isNaN_int _ _).mono ?_; rintro e w' ⟨rfl, rfl⟩)
    go_ret
    exact ⟨by rw [ord_self]; rfl, rfl⟩
  · go_enter Tryd.func96, Tryd.ntmps96
    go_wp2_with (go_at_call 102; refine (isNaN_int _ _).mono ?_; rintro e w' ⟨rfl, rfl⟩)
    go_ret
    exact ⟨by rw [ord, if_neg (by omega), if_pos h]; rfl, rfl⟩
theorem cmpU32_any (x y : Nat) (w : World) : Calls Tryd.prog 97 #[.int .u32 (x : Int), .int .u32 (y : Int)] w fun e w' => e = .returned (.int .i64 (ord x y)) ∧ w = w' := by
  rcases Nat.lt_trichotomy x y with h | h | h
  · go_enter Tryd.func97, Tryd.ntmps97
    go_wp2_with (go_at_call 103; refine (isNaN_u32 _ _).mono ?_; rintro e w' ⟨rfl, rfl⟩)
    go_ret
    exact ⟨by rw [ord, if_pos h]; rfl, rfl⟩
  · subst h
    go_enter Tryd.func97, Tryd.ntmps97
    go_wp2_with (go_at_call 103; refine (isNaN_u32 _ _).mono ?_; rintro e w' ⟨rfl, rfl⟩)
    go_ret
    exact ⟨by rw [ord_self]; rfl, rfl⟩
  · go_enter Tryd.func97, Tryd.ntmps97
    go_wp2_with (go_at_call 103; refine (isNaN_u32 _ _).mono ?_; rintro e w' ⟨rfl, rfl⟩)
    go_ret
    exact ⟨by rw [ord, if_neg (by omega), if_pos h]; rfl, rfl⟩

theorem len8_bits {v : Nat} (h : v < 256) : Lib.len8 (v : Int) = (bitlen v : Nat) := by
  have : ((List.range 256).all fun v => Lib.len8 (v : Int) == ((bitlen v : Nat) : Int)) = true := by decide +kernel
  have := List.all_eq_true.1 this v (List.mem_range.2 h)
  simpa using this
theorem run_len8 {v : Nat} (h : v < 256) (w : World) : (Instr.index 9 (.string Lib.len8tab) (.int .u8 (v : Int))).run Tryd.prog w = .ok (.int .u8 ((bitlen v : Nat) : Int)) w := by
  have hrun := Lib.run_index_len8tab (P := Tryd.prog) w 9 .u8 (v : Int) Tryd.underlying9 (by omega) (by omega)
  rwa [len8_bits h] at hrun
theorem bitlen_shift {x k : Nat} (h : 2 ^ k ≤ x) : bitlen x = k + bitlen (x / 2 ^ k) := by
  have hp : 0 < x / 2 ^ k := Nat.div_pos h (Nat.two_pow_pos k)
  have h1 := (bitlen_le (x / 2 ^ k) (bitlen (x / 2 ^ k))).1 (Nat.le_refl _)
  have h0 : 0 < bitlen (x / 2 ^ k) := by unfold bitlen; rw [if_neg (by omega)]; omega
  have h2 : ¬ x / 2 ^ k < 2 ^ (bitlen (x / 2 ^ k) - 1) := fun h => by have := (bitlen_le (x / 2 ^ k) (bitlen (x / 2 ^ k) - 1)).2 h; omega
  generalize bitlen (x / 2 ^ k) = b at *
  refine bitlen_eq ?_ (.inr ?_)
  · rw [Nat.pow_add, Nat.mul_comm]
    exact (Nat.div_lt_iff_lt_mul (Nat.two_pow_pos k)).1 h1
  · rw [show k + b - 1 = (b - 1) + k by omega, Nat.pow_add]
    exact (Nat.le_div_iff_mul_le (Nat.two_pow_pos k)).1 (by omega)
set_option maxHeartbeats 4000000 in
set_option maxRecDepth 100000 in
theorem Len32_int (x y z q r : Int) (h0 : 0 ≤ x) (h1 : x ≤ 4294967295) (hq0 : 0 ≤ q) (hq : q ≤ 8) (hz0 : 0 ≤ z) (hz : z ≤ 255) (hix : ∀ w : World, (Instr.index 9 (.string Lib.len8tab) (.int .u8 z)).run Tryd.prog w = .ok (.int .u8 q) w) (w : World)
    (h : (65536 ≤ x ∧ x / 65536 = y ∧ 256 ≤ y ∧ y ≤ 65535 ∧ y / 256 = z ∧ r = 24 + q) ∨ (65536 ≤ x ∧ x / 65536 = z ∧ r = 16 + q) ∨ (x ≤ 65535 ∧ 256 ≤ x ∧ x / 256 = z ∧ r = 8 + q) ∨ (x = z ∧ r = q)) :
    Calls Tryd.prog 79 #[.int .u32 x] w fun e w' => e = .returned (.int .i64 r) ∧ w = w' := by
  rcases h with ⟨a1, a2, a3, a4, a5, rfl⟩ | ⟨a1, a2, rfl⟩ | ⟨a1, a2, a3, rfl⟩ | ⟨rfl, rfl⟩
  all_goals
    go_enter Tryd.func79, Tryd.ntmps79
    go_wp2
    go_ret
    exact ⟨rfl, rfl⟩
theorem Len32_any (x : Nat) (hx : x < 4294967296) (w : World) : Calls Tryd.prog 79 #[.int .u32 (x : Int)] w fun e w' => e = .returned (.int .i64 ((bitlen x : Nat) : Int)) ∧ w = w' := by
  have main : ∀ (y : Nat), y < 256 → ((bitlen y : Nat) : Int) ≤ 8 := fun y hy => by have := (bitlen_le y 8).2 hy; omega
  by_cases h1 : 65536 ≤ x
  · have b1 := bitlen_shift (k := 16) (x := x) h1
    by_cases h2 : 256 ≤ x / 2 ^ 16
    · have b2 := bitlen_shift (k := 8) (x := x / 2 ^ 16) h2
      have hz : x / 2 ^ 16 / 2 ^ 8 < 256 := by omega
      exact Len32_int x ((x / 2 ^ 16 : Nat) : Int) ((x / 2 ^ 16 / 2 ^ 8 : Nat) : Int) _ _ (by omega) (by omega) (by omega) (main _ hz) (by omega) (by omega) (run_len8 hz) w (.inl ⟨by omega, by omega, by omega, by omega, by omega, by omega⟩)
    · have hz : x / 2 ^ 16 < 256 := by omega
      exact Len32_int x 0 ((x / 2 ^ 16 : Nat) : Int) _ _ (by omega) (by omega) (by omega) (main _ hz) (by omega) (by omega) (run_len8 hz) w (.inr (.inl ⟨by omega, by omega, by omega⟩))
  · by_cases h2 : 256 ≤ x
    · have b2 := bitlen_shift (k := 8) (x := x) h2
      have hz : x / 2 ^ 8 < 256 := by omega
      exact Len32_int x 0 ((x / 2 ^ 8 : Nat) : Int) _ _ (by omega) (by omega) (by omega) (main _ hz) (by omega) (by omega) (run_len8 hz) w (.inr (.inr (.inl ⟨by omega, by omega, by omega, by omega⟩)))
    · have hz : x < 256 := by omega
      exact Len32_int x 0 (x : Int) _ _ (by omega) (by omega) (by omega) (main _ hz) (by omega) (by omega) (run_len8 hz) w (.inr (.inr (.inr ⟨rfl, rfl⟩)))
end Go.Proofs.YtojpbfkdkkdpcaaDoor
