/-
  The program's Bytes: what it answers of limbs in memory.
-/
import Derived.Test.YtojpbfkdkkdpcaaDoorBits
import Derived.Test.YtojpbfkdkkdpcaaDoorProg5
namespace Go.Proofs.YtojpbfkdkkdpcaaDoor
set_option maxRecDepth 100000
open Go.RowKit
set_option linter.unusedVariables false
set_option linter.unusedSimpArgs false

theorem limb_byte (X i r : Nat) (hr : r < 4) : X / 4294967296 ^ i % 4294967296 / 256 ^ r % 256 = X / 256 ^ (4 * i + r) % 256 := by
  rw [pow_limb, ← Nat.div_div_eq_div_mul]
  generalize X / 4294967296 ^ i = Y
  rcases r with _ | _ | _ | _ | r
  · simp only [Nat.pow_zero, Nat.div_one]; omega
  · omega
  · omega
  · omega
  · omega
/-- The bytes of a number, the highest first. -/
def bytesOf (size X : Nat) : List Nat := (nums 256 size X).reverse
theorem bytesOf_length (size X : Nat) : (bytesOf size X).length = size := by rw [bytesOf, List.length_reverse, nums_length]
theorem bytesOf_fit (size X : Nat) : Fit 256 (bytesOf size X) := (nums_fit (by omega) _ _).reverse
theorem bytesOf_val {size X : Nat} (h : X < 256 ^ size) : vbe (bytesOf size X) = X := by
  rw [vbe, bytesOf, List.reverse_reverse, nums_val, Nat.mod_eq_of_lt h]
theorem bytesOf_get {size X k u : Nat} (hu : size = k + u + 1) : (bytesOf size X)[k]? = some (X / 256 ^ u % 256) := by
  rw [bytesOf, List.getElem?_reverse (by rw [nums_length]; omega), nums_length, show size - 1 - k = u by omega, nums_get 256 size X u (by omega)]
theorem bytesOf_eq {size X : Nat} {bs : List Nat} (hl : bs.length = size) (hf : Fit 256 bs) (hv : vbe bs = X) : bs = bytesOf size X := by
  have e := nums_of (B := 256) (by omega) hf.reverse
  rw [List.length_reverse, hl, show val 256 bs.reverse = X from hv] at e
  rw [bytesOf, ← e, List.reverse_reverse]

set_option maxHeartbeats 1000000 in
theorem Bytes_size (A : Option Addr) (n cap : Nat) (size : Int) (w : World) (h : okW n = false ∨ size < 0 ∨ 1024 < size) :
    Calls Tryd.prog 30 #[.slice A n cap, .int .i64 size] w fun e w' => e = .returned (.tuple #[.slice none 0 0, .int .i64 24]) ∧ Below w.heap.size w w' := by
  have hall : ([(A, n, cap)].all fun p => okW p.2.1) = okW n := by simp
  have hb0 : Below w.heap.size w (w.alloc (.cells #[.slice A n cap] 45)) := (Below.refl _ _).alloc (Nat.le_refl _) _
  have HB0 := Lib.hid hb0
  have HALL := Lib.hid hall
  clear hall hb0
  cases hq : okW n with
  | false =>
    clear h
    go_enter Tryd.func30, Tryd.ntmps30
    go_wp2_with fail
    refine (areNumbers_any _ 1 1 _ _ (Lists.new1 w A n cap) rfl (by omega)).mono ?_
    rintro e w1 ⟨rfl, rfl⟩
    rw [HALL.out, hq]
    clear hq
    go_wp2
    go_ret2
    exact ⟨rfl, HB0.out⟩
  | true =>
    have h2 : size < 0 ∨ (0 ≤ size ∧ 1024 < size) := by
      rcases h with h | h | h
      · rw [hq] at h; cases h
      · exact .inl h
      · exact .inr ⟨by omega, h⟩
    clear h
    rcases h2 with h | ⟨h0, h⟩
    all_goals
      go_enter Tryd.func30, Tryd.ntmps30
      go_wp2_with fail
      refine (areNumbers_any _ 1 1 _ _ (Lists.new1 w A n cap) rfl (by omega)).mono ?_
      rintro e w1 ⟨rfl, rfl⟩
      rw [HALL.out, hq]
      clear hq
      go_wp2
      go_ret2
      exact ⟨rfl, HB0.out⟩

theorem bits_room (X size : Nat) : bitlen X ≤ 8 * size ↔ X < 256 ^ size := by
  rw [bitlen_le, Nat.pow_mul]
set_option maxHeartbeats 1000000 in
theorem Bytes_big (A : Option Addr) (n cap : Nat) (l : List Nat) (size : Nat) (w : World) (h : Rd .u32 w A n l) (hf : Fit 4294967296 l) (h1 : 1 ≤ n) (h2 : n ≤ 256) (hs : size ≤ 1024) (hb : 256 ^ size ≤ val 4294967296 l) :
    Calls Tryd.prog 30 #[.slice A n cap, .int .i64 (size : Int)] w fun e w' => e = .returned (.tuple #[.slice none 0 0, .int .i64 11]) ∧ Below w.heap.size w w' := by
  have HR := Lib.hid h
  have hall : ([(A, n, cap)].all fun p => okW p.2.1) = true := by simp [okW, h1, h2]
  have hb0 : Below w.heap.size w (w.alloc (.cells #[.slice A n cap] 45)) := (Below.refl _ _).alloc (Nat.le_refl _) _
  have HB0 := Lib.hid hb0
  have HALL := Lib.hid hall
  have hbits : ¬ bitlen (val 4294967296 l) ≤ 8 * size := fun h => by have := (bits_room _ _).1 h; omega
  have hb2 : (8 : Int) * size < ((bitlen (val 4294967296 l) : Nat) : Int) := by omega
  clear hall h hb0 hbits hb
  go_enter Tryd.func30, Tryd.ntmps30
  go_wp2_with fail
  refine (areNumbers_any _ 1 1 _ _ (Lists.new1 w A n cap) rfl (by omega)).mono ?_
  rintro e w1 ⟨rfl, rfl⟩
  rw [HALL.out]
  go_wp2_with fail
  refine (Bits_ok A n cap l _ (HR.out.below HB0.out) hf h1 h2).mono ?_
  rintro e w1 ⟨rfl, hb1⟩
  have B := below_then HB0.out hb1
  clear hb1
  generalize bitlen (val 4294967296 l) = q at *
  go_wp2
  go_ret2
  exact ⟨rfl, B⟩

set_option maxHeartbeats 4000000 in
theorem Bytes_ok (A : Option Addr) (n cap : Nat) (l : List Nat) (size : Nat) (w : World) (h : Rd .u32 w A n l) (hf : Fit 4294967296 l) (h1 : 1 ≤ n) (h2 : n ≤ 256) (hs : size ≤ 1024) (hb : val 4294967296 l < 256 ^ size) :
    Calls Tryd.prog 30 #[.slice A n cap, .int .i64 (size : Int)] w fun e w' => ∃ g, e = .returned (.tuple #[.slice (some ⟨g, 0, none⟩) size size, .int .i64 0]) ∧ w.heap.size ≤ g ∧ Blk w' g 5 (cn .u8 (bytesOf size (val 4294967296 l))) ∧ Below w.heap.size w w' := by
  have HR := Lib.hid h
  have hl0 := h.1
  have hall : ([(A, n, cap)].all fun p => okW p.2.1) = true := by simp [okW, h1, h2]
  have hb0 : Below w.heap.size w (w.alloc (.cells #[.slice A n cap] 45)) := (Below.refl _ _).alloc (Nat.le_refl _) _
  have HB0 := Lib.hid hb0
  have HALL := Lib.hid hall
  have hb2 : ((bitlen (val 4294967296 l) : Nat) : Int) ≤ 8 * size := by have := (bits_room _ _).2 hb; omega
  clear hall h hb0
  go_enter Tryd.func30, Tryd.ntmps30
  go_wp2_with fail
  refine (areNumbers_any _ 1 1 _ _ (Lists.new1 w A n cap) rfl (by omega)).mono ?_
  rintro e w1 ⟨rfl, rfl⟩
  rw [HALL.out]
  go_wp2_with fail
  refine (Bits_ok A n cap l _ (HR.out.below HB0.out) hf h1 h2).mono ?_
  rintro e w1 ⟨rfl, hb1⟩
  have B := below_then HB0.out hb1
  clear hb1 hb
  generalize hX : val 4294967296 l = X at *
  have HX := Lib.hid hX
  clear hX
  generalize bitlen X = q at *
  go_wp2_with (first
    | ((with_reducible refine at_dst (some 28) ?_); refine wpList_makeNums (o := ⟨some 28, _, _, _, _, _⟩) rfl (.tmp 27) (.tmp 27) 22 5 rfl .u8 1 Tryd.underlying22 byteInfo (by omega) _ _ rfl rfl size rfl (by omega) ?_; intro w2 hb2 hbel2 hs2))
  go_loopw [31] (fun i wr => ∃ (k : Nat), k ≤ size ∧ i = .int .i64 (k : Int) ∧ Hid (Blk wr w1.heap.size 5 (cn .u8 ((bytesOf size X).take k ++ List.replicate (size - k) 0))) ∧ Below w1.heap.size w1 wr) (fun i _ => size - (intOf i).toNat)
  case atStart => exact ⟨0, by omega, rfl, by simpa using hb2, hbel2⟩
  case round =>
    obtain ⟨k, hk, rfl, HB, hbe⟩ := hrel
    by_cases hkm : k < size
    · obtain ⟨u, hu⟩ : ∃ u, size = k + u + 1 := ⟨size - k - 1, by omega⟩
      have hget := bytesOf_get (X := X) hu
      have hnext := take_trim hget
      obtain ⟨i, hi⟩ : ∃ i, i = u / 4 := ⟨_, rfl⟩
      obtain ⟨r, hr⟩ : ∃ r, r = u % 4 := ⟨_, rfl⟩
      have hur : u = 4 * i + r := by omega
      have hr4 : r < 4 := by omega
      have hpl := placeOf_any (k : Int) (size : Int) u (by omega) (by omega) (by omega)
      rw [← hi, ← hr] at hpl
      have HPL := Lib.hid hpl
      have hlt : ((bytesOf size X).take k).length = k := by rw [List.length_take, bytesOf_length]; omega
      by_cases hin : i < n
      · have hR2 := (HR.out.below B).below hbe
        obtain ⟨ad, o, rfl, ho, hcell⟩ := hR2.get (j := i) (by omega)
        have ho1 := hf.get ho
        have ho2 := get_val (by omega) hf ho
        have hob : o / 256 ^ r % 256 = X / 256 ^ u % 256 := by rw [ho2, HX.out, limb_byte X i r hr4, hur]
        have hoc : wr.cell? ⟨w1.heap.size, k, none⟩ = some (.int .u8 ((0 : Nat) : Int)) := by
          have h3 := HB.out.cell k
          obtain ⟨p, hp⟩ : ∃ p, size - k = p + 1 := ⟨size - k - 1, by omega⟩
          have h4 := get_end ((bytesOf size X).take k) p
          rw [hlt, ← hp] at h4
          exact h3.trans (cn_get h4)
        have hof := HB.out.frozen k
        have FIN : Hid (∀ v : Int, v = ((X / 256 ^ u % 256 : Nat) : Int) → Blk (wr.setCell ⟨w1.heap.size, k, none⟩ (.int .u8 v)) w1.heap.size 5 (cn .u8 ((bytesOf size X).take (k + 1) ++ List.replicate (size - (k + 1)) 0))) := by
          intro v hv
          rw [hv, hnext]
          exact blk_next HB.out hlt hkm rfl
        have HOB := Lib.hid hob
        clear hR2 ho ho2 hob hnext hget hu hi hr hur hpl hlt
        rcases r with _ | _ | _ | _ | r
        · clear hr4
          go_wp2_with (first | (go_at_call 52; refine (HPL.out _).mono ?_; rintro e w' ⟨rfl, rfl⟩))
          go_roundw
          case rel => exact ⟨k + 1, by omega, by go_num, FIN.out _ (by have := HOB.out; simp only [Nat.pow_zero, Nat.div_one] at this; omega), hbe.setCell (Nat.le_refl _) _⟩
          case measure => simp [intOf]; omega
        · clear hr4
          go_wp2_with (first | (go_at_call 52; refine (HPL.out _).mono ?_; rintro e w' ⟨rfl, rfl⟩))
          go_roundw
          case rel => exact ⟨k + 1, by omega, by go_num, FIN.out _ (by have := HOB.out; omega), hbe.setCell (Nat.le_refl _) _⟩
          case measure => simp [intOf]; omega
        · clear hr4
          go_wp2_with (first | (go_at_call 52; refine (HPL.out _).mono ?_; rintro e w' ⟨rfl, rfl⟩))
          go_roundw
          case rel => exact ⟨k + 1, by omega, by go_num, FIN.out _ (by have := HOB.out; omega), hbe.setCell (Nat.le_refl _) _⟩
          case measure => simp [intOf]; omega
        · clear hr4
          go_wp2_with (first | (go_at_call 52; refine (HPL.out _).mono ?_; rintro e w' ⟨rfl, rfl⟩))
          go_roundw
          case rel => exact ⟨k + 1, by omega, by go_num, FIN.out _ (by have := HOB.out; omega), hbe.setCell (Nat.le_refl _) _⟩
          case measure => simp [intOf]; omega
        · omega
      · have hz : X / 256 ^ u % 256 = 0 := by
          have h3 : X < 4294967296 ^ n := by rw [← HX.out, ← hl0]; exact val_lt hf
          have h4 : 4294967296 ^ n ≤ 256 ^ u := by rw [← pow256_32]; exact Nat.pow_le_pow_right (by omega) (by omega)
          rw [Nat.div_eq_of_lt (by omega)]
        have FIN : Hid (Blk wr w1.heap.size 5 (cn .u8 ((bytesOf size X).take (k + 1) ++ List.replicate (size - (k + 1)) 0))) := by
          have h3 := HB.out
          rw [show size - k = size - (k + 1) + 1 by omega, List.replicate_succ] at h3
          show Blk _ _ _ _
          rw [hnext, hz, List.append_assoc]
          exact h3
        have hin2 : n ≤ i := by omega
        clear hz hnext hget hu hi hr hur hpl hlt hr4
        go_wp2_with (first | (go_at_call 52; refine (HPL.out _).mono ?_; rintro e w' ⟨rfl, rfl⟩))
        go_roundw
        case rel => exact ⟨k + 1, by omega, by go_num, FIN, hbe⟩
        case measure => simp [intOf]; omega
    · obtain rfl : k = size := by omega
      go_wp2
      go_ret2
      have hv := HB.out
      rw [List.take_of_length_le (by rw [bytesOf_length]; exact Nat.le_refl _), Nat.sub_self, List.replicate_zero, List.append_nil] at hv
      exact ⟨_, rfl, B.size, by rw [HX.out]; exact hv, below_then B hbe⟩
end Go.Proofs.YtojpbfkdkkdpcaaDoor
