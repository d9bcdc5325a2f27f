/-
  The statements' own anchor: the document's example holds. No condition.
-/
import Derived.Test.YtonjmbcagdkdiaaD12
namespace Go.Proofs.Ytonjmbcagdkdiaa
open Go.RowKit Go.MapKept
set_option linter.unusedVariables false
set_option linter.unusedSimpArgs false
set_option maxRecDepth 100000

theorem below_touch {B : Nat} {a w w' : World} {O : List Nat} (h : Below B a w) (t : Touch O w w') (hO : ∀ b ∈ O, B ≤ b) (hB : B ≤ w.heap.size) : Below B a w' := h.trans (t.below hO hB)
/-- A new drive of one partition. -/
theorem New_one (A : Option Addr) (l : List UInt8) (z : Int) (w : World) (h : Ss w A 1 1 2 (pcells [(⟨l.toArray⟩, z)])) (h1 : 1 ≤ l.length) (h2 : l.length ≤ 24) (h3 : l.all (fun c => letter (c.toNat : Int)) = true) (hz : sizeOk z = true) :
    Calls Try.prog 9 #[.slice A 1 1] w fun e w' => ∃ g O, e = .returned (.tuple #[.pointer (some ⟨g, 0, none⟩), .int .i64 0]) ∧ OneD w' g O w'.heap.size ⟨l.toArray⟩ (List.replicate z.toNat 0) (fun _ => false) false (-1) [] 0 0 ∧ (∀ b ∈ O, w.heap.size ≤ b) ∧ Below w.heap.size w w' := by
  refine (New_ok A 1 1 _ w h (fun p hp => by rw [List.mem_singleton.1 hp]; simp [ByteArray.size]; omega) (fault_one h1 h2 h3 hz)).mono ?_
  rintro e w' ⟨D, rfl, hD, hF, hb⟩
  exact ⟨D.g, D.own, rfl, OneD.of_new hD hF, hF.above, hb⟩
set_option maxHeartbeats 4000000 in
theorem anchor_any (w : World) : Calls Try.prog 8 #[] w fun e w' => e = .returned (.bool true) ∧ Below w.heap.size w w' := by
  have HB0 : Hid (Below w.heap.size w (w.alloc (.cells #[.string ⟨#[97]⟩, .int .i64 128] 36))) := (Below.refl _ _).alloc (Nat.le_refl _) _
  have HS0 := Lib.hid (one_src2 w ⟨#[97]⟩ 128)
  have HTOR : Hid (torn (List.replicate 128 0) (List.replicate 128 255) 0 128 [false, true] = List.replicate 64 0 ++ List.replicate 64 255) := by
    show _ = _
    kernel_rfl
  have HHL : Hid (∀ G, ((List.replicate 64 0 ++ List.replicate 64 255 : List Nat).drop 0).take 128 = G → G[63]? = some 0 ∧ G[64]? = some 255 ∧ G[127]? = some 255 ∧ G.length = 128) := fun G h => by subst h; exact ⟨by kernel_rfl, by kernel_rfl, by kernel_rfl, by kernel_rfl⟩
  obtain ⟨i0, hi, hz0, hz1, hz2⟩ := info_parts byteInfo
  have hmk := run_makeB 128 128 rfl (by omega)
  obtain ⟨Z, hZ⟩ : ∃ Z, (cn .u8 (List.replicate 128 0)).toArray = Z := ⟨_, rfl⟩
  rw [hZ] at hmk
  have HZ := Lib.hid hZ
  clear hi hz0 hz1 hz2 hZ
  go_enter Try.func8, Try.ntmps8
  go_wp2_with fail
  generalize w.alloc (.cells #[.string ⟨#[97]⟩, .int .i64 128] 36) = W0 at *
  refine (New_one _ [97] 128 W0 HS0.out (by decide) (by decide) (by decide) (by decide)).mono ?_
  rintro e w1 ⟨g, O, rfl, hD, hO, hb1⟩
  have HD := Lib.hid hD
  have HO : Hid (∀ b ∈ O, w.heap.size ≤ b) := fun b hb => Nat.le_trans HB0.out.size (hO b hb)
  have HB1 : Hid (Below w.heap.size w w1) := HB0.out.trans (hb1.mono HB0.out.size)
  clear hD hb1 hO
  go_wp2_with fail
  have HB2 := Lib.hid (HB1.out.alloc HB1.out.size (.cells #[.bool false, .bool true] 4))
  have HD2 := Lib.hid (HD.out.below ((Below.refl _ _).alloc (Nat.le_refl _) (.cells #[.bool false, .bool true] 4)))
  have HS2 : Hid (Ss (w1.alloc (.cells #[.bool false, .bool true] 4)) (some ⟨w1.heap.size, 0, none⟩) 2 2 1 (bcells [false, true])) := ⟨(Blk.new w1 4 [.bool false, .bool true]).rs, rfl, Nat.le_refl _, by omega, fun e => by cases e⟩
  have HF2 : Hid (∀ ad, some (⟨w1.heap.size, 0, none⟩ : Addr) = some ad → ad.block ∉ O) := fun ad e hm => by
    injection e with e
    have := HD.out.lt ad.block hm
    rw [← e] at this
    exact absurd this (Nat.lt_irrefl _)
  generalize w1.alloc (.cells #[.bool false, .bool true] 4) = W2 at *
  refine (HD2.out.arm 0 (by omega) (by omega) _ 2 2 [false, true] HS2.out (fun _ => HF2.out) (by omega)).mono ?_
  rintro e w3 ⟨rfl, hD3, ht3⟩
  have HB3 := Lib.hid (below_touch HB2.out ht3 HO.out HB2.out.size)
  have HD3 := Lib.hid hD3
  have HB4 := Lib.hid (HB3.out.alloc HB3.out.size (.cells Z 5))
  have HD4 := Lib.hid (hD3.below ((Below.refl _ _).alloc (Nat.le_refl _) (.cells Z 5)))
  have HK4 : Hid (Blk (w3.alloc (.cells Z 5)) w3.heap.size 5 (cn .u8 (List.replicate 0 255 ++ List.replicate (128 - 0) 0))) := by rw [← HZ.out]; exact Blk.new w3 5 (cn .u8 (List.replicate 128 0))
  clear hD3 ht3
  go_wp2
  generalize w3.alloc (.cells Z 5) = W4 at *
  go_loopw [25] (fun si wr => ∃ k : Nat, si = .int .i64 (k : Int) ∧ k ≤ 128 ∧ Hid (OneD wr g O w3.heap.size ⟨#[97]⟩ (List.replicate (Int.toNat 128) 0) (fun _ => false) false 0 [false, true] 0 0) ∧ Hid (Blk wr w3.heap.size 5 (cn .u8 (List.replicate k 255 ++ List.replicate (128 - k) 0))) ∧ Hid (Below w.heap.size w wr)) (fun i _ => 128 - (intOf i).toNat)
  case atStart => exact ⟨0, rfl, Nat.zero_le _, HD4, HK4, HB4⟩
  case round =>
    obtain ⟨k, rfl, hk, HDk, HKk, HBk⟩ := hrel
    clear HD4 HK4 HB4 hmk
    by_cases hlt : k < 128
    · have zlt : (k : Int) < 128 := by omega
      have hc : wr.cell? ⟨w3.heap.size, k, none⟩ = some (.int .u8 (0 : Nat)) := by
        rw [HKk.out.cell]
        refine cn_get ?_
        rw [List.getElem?_append_right (by simp), List.length_replicate, Nat.sub_self, List.getElem?_replicate, if_pos (by omega)]
      have hf : wr.frozen? ⟨w3.heap.size, k, none⟩ = false := HKk.out.frozen _
      go_wp2
      go_roundw
      case rel =>
        refine ⟨k + 1, by go_num, by omega, HDk.out.touch ((Touch.refl [w3.heap.size] wr).setCell (.inl (by simp)) _) (fun b hb => by rw [List.mem_singleton.1 hb]; exact Nat.le_refl _), ?_, HBk.out.setCell (p := ⟨w3.heap.size, k, none⟩) HB3.out.size _⟩
        have := HKk.out.set_ k (.int .u8 ((255 : Nat) : Int))
        rw [cn_set, set_rep 128 k 0 255 hlt] at this
        exact this
      case measure => simp [intOf]; omega
    · obtain rfl : k = 128 := by omega
      have HRB : Hid (Rd .u8 wr (some ⟨w3.heap.size, 0, none⟩) 128 (List.replicate 128 255)) := by
        have := HKk.out
        rw [Nat.sub_self, List.replicate_zero, List.append_nil] at this
        exact this.rd 128 (by simp)
      have HFR : Hid (∀ ad, some (⟨w3.heap.size, 0, none⟩ : Addr) = some ad → ad.block ∉ O) := fun ad e hm => by
        injection e with e
        have := HD3.out.lt ad.block hm
        rw [← e] at this
        exact absurd this (Nat.lt_irrefl _)
      have HWR := Lib.hid (HDk.out.write_torn 0 _ 128 128 _ HRB.out (Fit.replicate _ _ _ (by omega)) (Nat.le_refl _) (by omega) (fun _ => HFR.out) (by simp))
      go_wp2_with fail
      refine HWR.out.mono ?_
      rintro e w5 ⟨rfl, hD5, ht5⟩
      have HD5 := Lib.hid hD5
      have HB5 := Lib.hid (below_touch HBk.out ht5 HO.out HBk.out.size)
      clear hD5 ht5
      go_wp2_with fail
      refine HD5.out.down.mono ?_
      rintro e w6 ⟨rfl, rfl⟩
      go_wp2_with fail
      refine HD5.out.boot.mono ?_
      rintro e w6 ⟨rfl, hD6, ht6⟩
      have HD6 := Lib.hid hD6
      have HB6 := Lib.hid (below_touch HB5.out ht6 HO.out HB5.out.size)
      have HRD := Lib.hid (hD6.read_ok 0 128 (by rw [torn_length]; simp) (no_bad _ _) (by omega) (by omega))
      clear hD6 ht6
      go_wp2_with fail
      refine HRD.out.mono ?_
      rintro e w7 ⟨h, rfl, hh, hB7, hD7, ht7⟩
      have HB7 := Lib.hid (below_touch HB6.out (ht7.wider (G := g :: O) (fun x hx => by simp [List.mem_singleton.1 hx])) (fun b hb => by
        rcases List.mem_cons.1 hb with rfl | hb
        · obtain ⟨D, p, x1, x2, x3, _⟩ := HD6.out
          exact HO.out _ (by rw [← x3, ← x2]; exact own_g D)
        · exact HO.out b hb) HB6.out.size)
      obtain ⟨G, hG⟩ : ∃ G, ((List.replicate 64 0 ++ List.replicate 64 255 : List Nat).drop 0).take 128 = G := ⟨_, rfl⟩
      obtain ⟨g1, g2, g3, g4⟩ := HHL.out G hG
      have hB8 : Blk w7 h 5 (cn .u8 G) := by
        have e1 : (List.replicate (Int.toNat 128) 0 : List Nat) = List.replicate 128 0 := rfl
        rw [e1, HTOR.out, hG] at hB7
        exact hB7
      have k1 : w7.cell? ⟨h, 63, none⟩ = some (.int .u8 0) := by rw [hB8.cell]; exact cn_get g1
      have k2 : w7.cell? ⟨h, 64, none⟩ = some (.int .u8 255) := by rw [hB8.cell]; exact cn_get g2
      have k3 : w7.cell? ⟨h, 127, none⟩ = some (.int .u8 255) := by rw [hB8.cell]; exact cn_get g3
      clear hB7 hD7 ht7 hh g1 g2 g3 g4 hB8 hG
      go_wp2
      go_ret
      exact ⟨rfl, HB7.out⟩
end Go.Proofs.Ytonjmbcagdkdiaa
