/-
  TailStores: what is stored is loaded again; what has no room is refused, and changes nothing. No condition but what the statement says.
-/
import Derived.Test.YthepbadecpnepaaAn
namespace Go.Proofs.Ythepbadecpnepaa
open Go.RowKit Go.MapKept
set_option linter.unusedVariables false
set_option linter.unusedSimpArgs false
set_option maxRecDepth 100000

theorem OneD.new {w : World} {g N : Nat} {O : List Nat} {s : ByteArray} {l : List Nat} {S : Int → Bool} {dn : Bool} {lf : Int} {kp : List Bool} {ct td : Int} (h : OneD w g O N s l S dn lf kp ct td) {b : Nat} (hb : w.heap.size ≤ b) : b ∉ O := fun hm => by
  have := h.lt b hm
  omega
theorem OneD.own {w : World} {g N : Nat} {O : List Nat} {s : ByteArray} {l : List Nat} {S : Int → Bool} {dn : Bool} {lf : Int} {kp : List Bool} {ct td : Int} (h : OneD w g O N s l S dn lf kp ct td) : g ∈ O := by
  obtain ⟨D, p, h1, h2, h3, h4⟩ := h
  rw [← h2, ← h3]; exact own_g D
theorem drop_take_all {l : List Nat} {n : Nat} (h : l.length = n) : (l.drop 0).take n = l := by
  rw [List.drop_zero, List.take_of_length_le (by omega)]
theorem stored_take {l bs : List Nat} {U a : Nat} (h64 : 64 ≤ l.length) (h : U + bs.length ≤ l.length - 64) (ha : a ≤ U) : (stored l U bs a).take a = l.take a := by
  have h1 : (splice l U bs).length = l.length := length_splice _ _ _ (by omega)
  apply List.ext_getElem?
  intro j
  rw [List.getElem?_take, List.getElem?_take]
  by_cases hj : j < a
  · rw [if_pos hj, if_pos hj, stored, splice_get _ _ _ (by rw [tbytes_length, h1]; omega), if_neg (by omega), splice_get _ _ _ (by omega), if_neg (by omega)]
  · rw [if_neg hj, if_neg hj]
abbrev StoresWalk (z : Int) (A1 : Option Addr) (n1 c1 : Nat) (dt : Int) (A3 : Option Addr) (n3 c3 : Nat) (W : World) : Prop := Calls Try.prog 6 #[.int .i64 z, .slice A1 n1 c1, .int .i64 dt, .slice A3 n3 c3] W fun e w' => e = .returned (.bool true) ∧ Below W.heap.size W w'
theorem stores_big (z : Int) (A1 : Option Addr) (n1 c1 : Nat) (dt : Int) (A3 : Option Addr) (n3 c3 : Nat) (W : World) (hb : 2000 < z ∨ 2000 < n1 ∨ 3000 < n3) : StoresWalk z A1 n1 c1 dt A3 n3 c3 W := by
  have q : (2000 < z) ∨ (¬ (2000 < z) ∧ (2000 : Int) < (n1 : Int)) ∨ (¬ (2000 < z) ∧ ¬ (2000 : Int) < (n1 : Int) ∧ (3000 : Int) < (n3 : Int)) := by omega
  clear hb
  rcases q with z1 | ⟨z1, z2⟩ | ⟨z1, z2, z3⟩
  all_goals
    go_enter Try.func6, Try.ntmps6
    go_wp2_with fail
    refine (anchor_any W).mono ?_
    rintro e w1 ⟨rfl, hb1⟩
    go_wp2
    go_ret
    exact ⟨rfl, hb1⟩
theorem stores_nil (z : Int) (A1 : Option Addr) (n1 c1 : Nat) (dt : Int) (A3 : Option Addr) (n3 c3 : Nat) (W : World) (z1 : ¬ 2000 < z) (z2 : ¬ (2000 : Int) < (n1 : Int)) (z3 : ¬ (3000 : Int) < (n3 : Int)) (hz : sizeOk z = false) : StoresWalk z A1 n1 c1 dt A3 n3 c3 W := by
  have HZ := Lib.hid hz
  clear hz
  go_enter Try.func6, Try.ntmps6
  go_wp2_with fail
  refine (anchor_any W).mono ?_
  rintro e w1 ⟨rfl, hb1⟩
  go_wp2_with fail
  refine (made_no z w1 HZ.out).mono ?_
  rintro e w2 ⟨rfl, hb2⟩
  have HB : Hid (Below W.heap.size W w2) := hb1.trans (hb2.mono hb1.size)
  clear hb1 hb2
  go_wp2
  go_ret
  exact ⟨rfl, HB.out⟩
set_option maxHeartbeats 1000000 in
theorem stores_form_neg_a (n : Nat) (A1 : Option Addr) (n1 c1 : Nat) (l1 : List Nat) (dt : Int) (A3 : Option Addr) (n3 c3 : Nat) (l3 : List Nat) (W : World) (hz : sizeOk (n : Int) = true) (hn : n ≤ 2000) (g1 : Bs W A1 n1 c1 l1) (hn1 : n1 ≤ 2000) (g3 : Bs W A3 n3 c3 l3) (hn3 : n3 ≤ 3000) (hk : ¬ n < n1) (h5 : dt < 0) : StoresWalk n A1 n1 c1 dt A3 n3 c3 W := by
  have z1 : ¬ (2000 : Int) < (n : Int) := by omega
  have z2 : ¬ (2000 : Int) < (n1 : Int) := by omega
  have z3 : ¬ (3000 : Int) < (n3 : Int) := by omega
  have hup := fun w => run_upto A1 n1 c1 n1 (by have := g1.le; omega) w
  have HZ := Lib.hid hz
  have HG1 := Lib.hid g1
  have HG3 := Lib.hid g3
  have hn64 : 64 ≤ n ∧ n % 64 = 0 := by unfold sizeOk at hz; simp at hz; omega
  have HN : Hid (n ≤ 2000 ∧ n1 ≤ 2000 ∧ n3 ≤ 3000 ∧ n1 ≤ n ∧ n1 ≤ n1 ∧ 64 ≤ n) := ⟨hn, hn1, hn3, by omega, by omega, hn64.1⟩
  clear hz hn hn1 hn3 g1 g3 hn64
  have HC : Hid (dt < 0) := h5
  go_enter Try.func6, Try.ntmps6
  go_wp2_with fail
  refine (anchor_any W).mono ?_
  rintro e w1 ⟨rfl, hb1⟩
  go_wp2_with fail
  refine (made_yes (n : Int) w1 HZ.out).mono ?_
  rintro e w2 ⟨g, O, rfl, hD, hO, hb2⟩
  have D2 := Lib.hid hD
  have HO : Hid (∀ b ∈ O, W.heap.size ≤ b) := fun b hb => Nat.le_trans hb1.size (hO b hb)
  have B2 : Hid (Below W.heap.size W w2) := hb1.trans (hb2.mono hb1.size)
  have HAO : Hid (∀ (a : Option Addr) (k : Nat) (l : List Nat), Rd .u8 W a k l → 0 < k → ∀ ad, a = some ad → ad.block ∉ O) := fun a k l hr hk ad e hm => by
    have h1 := hr.lt hk ad e
    have h2 := HO.out _ hm
    omega
  have L0 : Hid ((List.replicate (Int.toNat (n : Int)) 0 : List Nat).length = n) := by show _ = _; simp
  clear hD hO hb1 hb2
  obtain ⟨L, hL⟩ : ∃ L, splice (List.replicate (Int.toNat (n : Int)) 0) 0 (l1.take n1) = L := ⟨_, rfl⟩
  have h1l : (l1.take n1).length = n1 := by rw [List.length_take, HG1.out.rd.1]; have := HN.out; omega
  have HLL : Hid (L.length = n) := by
    show _ = _
    rw [← hL, length_splice _ _ _ (by rw [L0.out, h1l]; have := HN.out; omega), L0.out]
  have W3 : Hid (Calls Try.prog 17 #[.pointer (some ⟨g, 0, none⟩), .string ⟨#[112]⟩, .int .i64 ((0 : Nat) : Int), .slice A1 n1 c1] w2 (Goes w2 O (.int .i64 0) fun w' => OneD w' g O w2.heap.size ⟨#[112]⟩ L (fun _ => false) false (-1) [] 0 0)) := by
    rw [← hL]
    exact D2.out.write_ok (by omega) 0 A1 n1 c1 (l1.take n1) ((HG1.out.rd.below B2.out).take n1 (by have := HN.out; omega)) (HG1.out.fit.take _) (by have := HG1.out.le; have := HN.out; omega) HG1.out.max (HAO.out A1 n1 _ (HG1.out.rd.take n1 (by have := HN.out; omega))) (by rw [L0.out]; have := HN.out; omega)
  clear hL h1l
  go_wp2_with fail
  refine W3.out.mono ?_
  rintro e w3 ⟨rfl, hD3, ht3⟩
  have D3 := Lib.hid hD3
  have B3 := Lib.hid (below_touch B2.out ht3 HO.out B2.out.size)
  clear hD3 ht3
  go_wp2_with fail
  refine (D3.out.read_ok 0 n (by rw [HLL.out]; omega) (no_bad _ _) (by omega) (by have := HN.out; omega)).mono ?_
  rintro e w4 ⟨r4, rfl, hr4, hK4, hD4, ht4⟩
  rw [drop_take_all HLL.out] at hK4
  have N4 := Lib.hid (D3.out.new hr4)
  have K4 := Lib.hid hK4
  have D4 := Lib.hid hD4
  have B4 := Lib.hid (below_touch B3.out (ht4.wider (G := O) (fun b hb => by rw [List.mem_singleton.1 hb]; exact D3.out.own)) HO.out B3.out.size)
  have HF : Hid (Fit 256 L) := D3.out.fit
  clear hr4 hK4 hD4 ht4 hup
  go_wp2_with fail
  refine (D4.out.store_form A3 n3 c3 (by have := HN.out; omega) dt (.inl HC.out)).mono ?_
  rintro e w5 ⟨rfl, hb5⟩
  have D5 := Lib.hid (D4.out.below hb5)
  have B5 := Lib.hid (below_then B4.out hb5)
  have K5 := Lib.hid (K4.out.below hb5 K4.out.lt)
  clear hb5
  go_wp2_with fail
  refine (D5.out.read_ok 0 n (by rw [HLL.out]; omega) (no_bad _ _) (by omega) (by have := HN.out; omega)).mono ?_
  rintro e w6 ⟨r6, rfl, hr6, hK6, hD6, ht6⟩
  rw [drop_take_all HLL.out] at hK6
  have N6 := Lib.hid (D5.out.new hr6)
  have K6 := Lib.hid hK6
  have D6 := Lib.hid hD6
  have B6 := Lib.hid (below_touch B5.out (ht6.wider (G := O) (fun b hb => by rw [List.mem_singleton.1 hb]; exact D5.out.own)) HO.out B5.out.size)
  have K4b := Lib.hid (K5.out.touch (ht6.wider (G := O) (fun b hb => by rw [List.mem_singleton.1 hb]; exact D5.out.own)) N4.out)
  clear hr6 hK6 hD6 ht6
  have q1 := rd_str (K6.out.rd n HLL.out) n
  have q2 := rd_str (K4b.out.rd n HLL.out) n
  have q3 : ((str L).toList == (str L).toList) = true := beq_self_eq_true _
  generalize str L = G at q1 q2 q3
  go_wp2
  go_ret
  exact ⟨rfl, B6.out⟩
set_option maxHeartbeats 1000000 in
theorem stores_form_none_a (n : Nat) (A1 : Option Addr) (n1 c1 : Nat) (l1 : List Nat) (dt : Int) (A3 : Option Addr) (n3 c3 : Nat) (l3 : List Nat) (W : World) (hz : sizeOk (n : Int) = true) (hn : n ≤ 2000) (g1 : Bs W A1 n1 c1 l1) (hn1 : n1 ≤ 2000) (g3 : Bs W A3 n3 c3 l3) (hn3 : n3 ≤ 3000) (hk : ¬ n < n1) (h5 : ¬ dt < 0) (h6 : ((n3 : Nat) : Int) < 1) : StoresWalk n A1 n1 c1 dt A3 n3 c3 W := by
  have z1 : ¬ (2000 : Int) < (n : Int) := by omega
  have z2 : ¬ (2000 : Int) < (n1 : Int) := by omega
  have z3 : ¬ (3000 : Int) < (n3 : Int) := by omega
  have hup := fun w => run_upto A1 n1 c1 n1 (by have := g1.le; omega) w
  have HZ := Lib.hid hz
  have HG1 := Lib.hid g1
  have HG3 := Lib.hid g3
  have hn64 : 64 ≤ n ∧ n % 64 = 0 := by unfold sizeOk at hz; simp at hz; omega
  have HN : Hid (n ≤ 2000 ∧ n1 ≤ 2000 ∧ n3 ≤ 3000 ∧ n1 ≤ n ∧ n1 ≤ n1 ∧ 64 ≤ n) := ⟨hn, hn1, hn3, by omega, by omega, hn64.1⟩
  clear hz hn hn1 hn3 g1 g3 hn64
  have HC : Hid (n3 < 1) := by show _ < _; omega
  go_enter Try.func6, Try.ntmps6
  go_wp2_with fail
  refine (anchor_any W).mono ?_
  rintro e w1 ⟨rfl, hb1⟩
  go_wp2_with fail
  refine (made_yes (n : Int) w1 HZ.out).mono ?_
  rintro e w2 ⟨g, O, rfl, hD, hO, hb2⟩
  have D2 := Lib.hid hD
  have HO : Hid (∀ b ∈ O, W.heap.size ≤ b) := fun b hb => Nat.le_trans hb1.size (hO b hb)
  have B2 : Hid (Below W.heap.size W w2) := hb1.trans (hb2.mono hb1.size)
  have HAO : Hid (∀ (a : Option Addr) (k : Nat) (l : List Nat), Rd .u8 W a k l → 0 < k → ∀ ad, a = some ad → ad.block ∉ O) := fun a k l hr hk ad e hm => by
    have h1 := hr.lt hk ad e
    have h2 := HO.out _ hm
    omega
  have L0 : Hid ((List.replicate (Int.toNat (n : Int)) 0 : List Nat).length = n) := by show _ = _; simp
  clear hD hO hb1 hb2
  obtain ⟨L, hL⟩ : ∃ L, splice (List.replicate (Int.toNat (n : Int)) 0) 0 (l1.take n1) = L := ⟨_, rfl⟩
  have h1l : (l1.take n1).length = n1 := by rw [List.length_take, HG1.out.rd.1]; have := HN.out; omega
  have HLL : Hid (L.length = n) := by
    show _ = _
    rw [← hL, length_splice _ _ _ (by rw [L0.out, h1l]; have := HN.out; omega), L0.out]
  have W3 : Hid (Calls Try.prog 17 #[.pointer (some ⟨g, 0, none⟩), .string ⟨#[112]⟩, .int .i64 ((0 : Nat) : Int), .slice A1 n1 c1] w2 (Goes w2 O (.int .i64 0) fun w' => OneD w' g O w2.heap.size ⟨#[112]⟩ L (fun _ => false) false (-1) [] 0 0)) := by
    rw [← hL]
    exact D2.out.write_ok (by omega) 0 A1 n1 c1 (l1.take n1) ((HG1.out.rd.below B2.out).take n1 (by have := HN.out; omega)) (HG1.out.fit.take _) (by have := HG1.out.le; have := HN.out; omega) HG1.out.max (HAO.out A1 n1 _ (HG1.out.rd.take n1 (by have := HN.out; omega))) (by rw [L0.out]; have := HN.out; omega)
  clear hL h1l
  go_wp2_with fail
  refine W3.out.mono ?_
  rintro e w3 ⟨rfl, hD3, ht3⟩
  have D3 := Lib.hid hD3
  have B3 := Lib.hid (below_touch B2.out ht3 HO.out B2.out.size)
  clear hD3 ht3
  go_wp2_with fail
  refine (D3.out.read_ok 0 n (by rw [HLL.out]; omega) (no_bad _ _) (by omega) (by have := HN.out; omega)).mono ?_
  rintro e w4 ⟨r4, rfl, hr4, hK4, hD4, ht4⟩
  rw [drop_take_all HLL.out] at hK4
  have N4 := Lib.hid (D3.out.new hr4)
  have K4 := Lib.hid hK4
  have D4 := Lib.hid hD4
  have B4 := Lib.hid (below_touch B3.out (ht4.wider (G := O) (fun b hb => by rw [List.mem_singleton.1 hb]; exact D3.out.own)) HO.out B3.out.size)
  have HF : Hid (Fit 256 L) := D3.out.fit
  clear hr4 hK4 hD4 ht4 hup
  go_wp2_with fail
  refine (D4.out.store_form A3 n3 c3 (by have := HN.out; omega) dt (.inr (.inl HC.out))).mono ?_
  rintro e w5 ⟨rfl, hb5⟩
  have D5 := Lib.hid (D4.out.below hb5)
  have B5 := Lib.hid (below_then B4.out hb5)
  have K5 := Lib.hid (K4.out.below hb5 K4.out.lt)
  clear hb5
  go_wp2_with fail
  refine (D5.out.read_ok 0 n (by rw [HLL.out]; omega) (no_bad _ _) (by omega) (by have := HN.out; omega)).mono ?_
  rintro e w6 ⟨r6, rfl, hr6, hK6, hD6, ht6⟩
  rw [drop_take_all HLL.out] at hK6
  have N6 := Lib.hid (D5.out.new hr6)
  have K6 := Lib.hid hK6
  have D6 := Lib.hid hD6
  have B6 := Lib.hid (below_touch B5.out (ht6.wider (G := O) (fun b hb => by rw [List.mem_singleton.1 hb]; exact D5.out.own)) HO.out B5.out.size)
  have K4b := Lib.hid (K5.out.touch (ht6.wider (G := O) (fun b hb => by rw [List.mem_singleton.1 hb]; exact D5.out.own)) N4.out)
  clear hr6 hK6 hD6 ht6
  have q1 := rd_str (K6.out.rd n HLL.out) n
  have q2 := rd_str (K4b.out.rd n HLL.out) n
  have q3 : ((str L).toList == (str L).toList) = true := beq_self_eq_true _
  generalize str L = G at q1 q2 q3
  go_wp2
  go_ret
  exact ⟨rfl, B6.out⟩
set_option maxHeartbeats 1000000 in
theorem stores_full_far_a (n : Nat) (A1 : Option Addr) (n1 c1 : Nat) (l1 : List Nat) (a : Nat) (A3 : Option Addr) (n3 c3 : Nat) (l3 : List Nat) (W : World) (hz : sizeOk (n : Int) = true) (hn : n ≤ 2000) (g1 : Bs W A1 n1 c1 l1) (hn1 : n1 ≤ 2000) (g3 : Bs W A3 n3 c3 l3) (hn3 : n3 ≤ 3000) (hk : ¬ n < n1) (ha : a ≤ 9223372036854775807) (h31 : 1 ≤ n3) (hfull : ¬ up a + n3 ≤ n - 64) (h7 : (1048576 : Int) < (a : Int)) : StoresWalk n A1 n1 c1 (a : Int) A3 n3 c3 W := by
  have z1 : ¬ (2000 : Int) < (n : Int) := by omega
  have z2 : ¬ (2000 : Int) < (n1 : Int) := by omega
  have z3 : ¬ (3000 : Int) < (n3 : Int) := by omega
  have hup := fun w => run_upto A1 n1 c1 n1 (by have := g1.le; omega) w
  have HZ := Lib.hid hz
  have HG1 := Lib.hid g1
  have HG3 := Lib.hid g3
  have hn64 : 64 ≤ n ∧ n % 64 = 0 := by unfold sizeOk at hz; simp at hz; omega
  have HN : Hid (n ≤ 2000 ∧ n1 ≤ 2000 ∧ n3 ≤ 3000 ∧ n1 ≤ n ∧ n1 ≤ n1 ∧ 64 ≤ n) := ⟨hn, hn1, hn3, by omega, by omega, hn64.1⟩
  clear hz hn hn1 hn3 g1 g3 hn64
  have h5 : ¬ ((a : Int) < 0) := by omega
  have h6 : ¬ ((n3 : Int) < 1) := by omega
  have HH : Hid (1 ≤ n3 ∧ a ≤ 9223372036854775807 ∧ ¬ up a + n3 ≤ n - 64) := ⟨h31, ha, hfull⟩
  clear h31 ha hfull
  go_enter Try.func6, Try.ntmps6
  go_wp2_with fail
  refine (anchor_any W).mono ?_
  rintro e w1 ⟨rfl, hb1⟩
  go_wp2_with fail
  refine (made_yes (n : Int) w1 HZ.out).mono ?_
  rintro e w2 ⟨g, O, rfl, hD, hO, hb2⟩
  have D2 := Lib.hid hD
  have HO : Hid (∀ b ∈ O, W.heap.size ≤ b) := fun b hb => Nat.le_trans hb1.size (hO b hb)
  have B2 : Hid (Below W.heap.size W w2) := hb1.trans (hb2.mono hb1.size)
  have HAO : Hid (∀ (a : Option Addr) (k : Nat) (l : List Nat), Rd .u8 W a k l → 0 < k → ∀ ad, a = some ad → ad.block ∉ O) := fun a k l hr hk ad e hm => by
    have h1 := hr.lt hk ad e
    have h2 := HO.out _ hm
    omega
  have L0 : Hid ((List.replicate (Int.toNat (n : Int)) 0 : List Nat).length = n) := by show _ = _; simp
  clear hD hO hb1 hb2
  obtain ⟨L, hL⟩ : ∃ L, splice (List.replicate (Int.toNat (n : Int)) 0) 0 (l1.take n1) = L := ⟨_, rfl⟩
  have h1l : (l1.take n1).length = n1 := by rw [List.length_take, HG1.out.rd.1]; have := HN.out; omega
  have HLL : Hid (L.length = n) := by
    show _ = _
    rw [← hL, length_splice _ _ _ (by rw [L0.out, h1l]; have := HN.out; omega), L0.out]
  have W3 : Hid (Calls Try.prog 17 #[.pointer (some ⟨g, 0, none⟩), .string ⟨#[112]⟩, .int .i64 ((0 : Nat) : Int), .slice A1 n1 c1] w2 (Goes w2 O (.int .i64 0) fun w' => OneD w' g O w2.heap.size ⟨#[112]⟩ L (fun _ => false) false (-1) [] 0 0)) := by
    rw [← hL]
    exact D2.out.write_ok (by omega) 0 A1 n1 c1 (l1.take n1) ((HG1.out.rd.below B2.out).take n1 (by have := HN.out; omega)) (HG1.out.fit.take _) (by have := HG1.out.le; have := HN.out; omega) HG1.out.max (HAO.out A1 n1 _ (HG1.out.rd.take n1 (by have := HN.out; omega))) (by rw [L0.out]; have := HN.out; omega)
  clear hL h1l
  go_wp2_with fail
  refine W3.out.mono ?_
  rintro e w3 ⟨rfl, hD3, ht3⟩
  have D3 := Lib.hid hD3
  have B3 := Lib.hid (below_touch B2.out ht3 HO.out B2.out.size)
  clear hD3 ht3
  go_wp2_with fail
  refine (D3.out.read_ok 0 n (by rw [HLL.out]; omega) (no_bad _ _) (by omega) (by have := HN.out; omega)).mono ?_
  rintro e w4 ⟨r4, rfl, hr4, hK4, hD4, ht4⟩
  rw [drop_take_all HLL.out] at hK4
  have N4 := Lib.hid (D3.out.new hr4)
  have K4 := Lib.hid hK4
  have D4 := Lib.hid hD4
  have B4 := Lib.hid (below_touch B3.out (ht4.wider (G := O) (fun b hb => by rw [List.mem_singleton.1 hb]; exact D3.out.own)) HO.out B3.out.size)
  have HF : Hid (Fit 256 L) := D3.out.fit
  clear hr4 hK4 hD4 ht4 hup
  go_wp2_with fail
  refine (D4.out.store_full A3 n3 c3 HH.out.1 (by have := HN.out; omega) a HH.out.2.1 (by rw [HLL.out]; exact HH.out.2.2)).mono ?_
  rintro e w5 ⟨rfl, hb5⟩
  have D5 := Lib.hid (D4.out.below hb5)
  have B5 := Lib.hid (below_then B4.out hb5)
  have K5 := Lib.hid (K4.out.below hb5 K4.out.lt)
  clear hb5
  go_wp2_with fail
  refine (D5.out.read_ok 0 n (by rw [HLL.out]; omega) (no_bad _ _) (by omega) (by have := HN.out; omega)).mono ?_
  rintro e w6 ⟨r6, rfl, hr6, hK6, hD6, ht6⟩
  rw [drop_take_all HLL.out] at hK6
  have N6 := Lib.hid (D5.out.new hr6)
  have K6 := Lib.hid hK6
  have D6 := Lib.hid hD6
  have B6 := Lib.hid (below_touch B5.out (ht6.wider (G := O) (fun b hb => by rw [List.mem_singleton.1 hb]; exact D5.out.own)) HO.out B5.out.size)
  have K4b := Lib.hid (K5.out.touch (ht6.wider (G := O) (fun b hb => by rw [List.mem_singleton.1 hb]; exact D5.out.own)) N4.out)
  clear hr6 hK6 hD6 ht6
  have q1 := rd_str (K6.out.rd n HLL.out) n
  have q2 := rd_str (K4b.out.rd n HLL.out) n
  have q3 : ((str L).toList == (str L).toList) = true := beq_self_eq_true _
  generalize str L = G at q1 q2 q3
  go_wp2
  go_ret
  exact ⟨rfl, B6.out⟩
set_option maxHeartbeats 1000000 in
theorem stores_full_room_a (n : Nat) (A1 : Option Addr) (n1 c1 : Nat) (l1 : List Nat) (a : Nat) (A3 : Option Addr) (n3 c3 : Nat) (l3 : List Nat) (W : World) (hz : sizeOk (n : Int) = true) (hn : n ≤ 2000) (g1 : Bs W A1 n1 c1 l1) (hn1 : n1 ≤ 2000) (g3 : Bs W A3 n3 c3 l3) (hn3 : n3 ≤ 3000) (hk : ¬ n < n1) (ha : a ≤ 9223372036854775807) (h31 : 1 ≤ n3) (hfull : ¬ up a + n3 ≤ n - 64) (h7 : ¬ (1048576 : Int) < (a : Int)) : StoresWalk n A1 n1 c1 (a : Int) A3 n3 c3 W := by
  have z1 : ¬ (2000 : Int) < (n : Int) := by omega
  have z2 : ¬ (2000 : Int) < (n1 : Int) := by omega
  have z3 : ¬ (3000 : Int) < (n3 : Int) := by omega
  have hup := fun w => run_upto A1 n1 c1 n1 (by have := g1.le; omega) w
  have HZ := Lib.hid hz
  have HG1 := Lib.hid g1
  have HG3 := Lib.hid g3
  have hn64 : 64 ≤ n ∧ n % 64 = 0 := by unfold sizeOk at hz; simp at hz; omega
  have HN : Hid (n ≤ 2000 ∧ n1 ≤ 2000 ∧ n3 ≤ 3000 ∧ n1 ≤ n ∧ n1 ≤ n1 ∧ 64 ≤ n) := ⟨hn, hn1, hn3, by omega, by omega, hn64.1⟩
  clear hz hn hn1 hn3 g1 g3 hn64
  have h5 : ¬ ((a : Int) < 0) := by omega
  have h6 : ¬ ((n3 : Int) < 1) := by omega
  have HH : Hid (1 ≤ n3 ∧ a ≤ 9223372036854775807 ∧ ¬ up a + n3 ≤ n - 64) := ⟨h31, ha, hfull⟩
  obtain ⟨U, hU⟩ : ∃ U, up a = U := ⟨_, rfl⟩
  have hq : ((a : Int) + 63) / 64 * 64 = (U : Int) := by rw [← hU]; unfold up; omega
  have hul := up_le a
  rw [hU] at hul hfull
  have hw1 : IntKind.i64.wrap ((a : Int) + 63) = (a : Int) + 63 := by rw [IntKind.wrap_i64]; omega
  have hg0 : ((n : Int) - 64 < (U : Int) + (n3 : Int)) := by have := HN.out; omega
  clear hul hU
  clear h31 ha hfull
  go_enter Try.func6, Try.ntmps6
  go_wp2_with fail
  refine (anchor_any W).mono ?_
  rintro e w1 ⟨rfl, hb1⟩
  go_wp2_with fail
  refine (made_yes (n : Int) w1 HZ.out).mono ?_
  rintro e w2 ⟨g, O, rfl, hD, hO, hb2⟩
  have D2 := Lib.hid hD
  have HO : Hid (∀ b ∈ O, W.heap.size ≤ b) := fun b hb => Nat.le_trans hb1.size (hO b hb)
  have B2 : Hid (Below W.heap.size W w2) := hb1.trans (hb2.mono hb1.size)
  have HAO : Hid (∀ (a : Option Addr) (k : Nat) (l : List Nat), Rd .u8 W a k l → 0 < k → ∀ ad, a = some ad → ad.block ∉ O) := fun a k l hr hk ad e hm => by
    have h1 := hr.lt hk ad e
    have h2 := HO.out _ hm
    omega
  have L0 : Hid ((List.replicate (Int.toNat (n : Int)) 0 : List Nat).length = n) := by show _ = _; simp
  clear hD hO hb1 hb2
  obtain ⟨L, hL⟩ : ∃ L, splice (List.replicate (Int.toNat (n : Int)) 0) 0 (l1.take n1) = L := ⟨_, rfl⟩
  have h1l : (l1.take n1).length = n1 := by rw [List.length_take, HG1.out.rd.1]; have := HN.out; omega
  have HLL : Hid (L.length = n) := by
    show _ = _
    rw [← hL, length_splice _ _ _ (by rw [L0.out, h1l]; have := HN.out; omega), L0.out]
  have W3 : Hid (Calls Try.prog 17 #[.pointer (some ⟨g, 0, none⟩), .string ⟨#[112]⟩, .int .i64 ((0 : Nat) : Int), .slice A1 n1 c1] w2 (Goes w2 O (.int .i64 0) fun w' => OneD w' g O w2.heap.size ⟨#[112]⟩ L (fun _ => false) false (-1) [] 0 0)) := by
    rw [← hL]
    exact D2.out.write_ok (by omega) 0 A1 n1 c1 (l1.take n1) ((HG1.out.rd.below B2.out).take n1 (by have := HN.out; omega)) (HG1.out.fit.take _) (by have := HG1.out.le; have := HN.out; omega) HG1.out.max (HAO.out A1 n1 _ (HG1.out.rd.take n1 (by have := HN.out; omega))) (by rw [L0.out]; have := HN.out; omega)
  clear hL h1l
  go_wp2_with fail
  refine W3.out.mono ?_
  rintro e w3 ⟨rfl, hD3, ht3⟩
  have D3 := Lib.hid hD3
  have B3 := Lib.hid (below_touch B2.out ht3 HO.out B2.out.size)
  clear hD3 ht3
  go_wp2_with fail
  refine (D3.out.read_ok 0 n (by rw [HLL.out]; omega) (no_bad _ _) (by omega) (by have := HN.out; omega)).mono ?_
  rintro e w4 ⟨r4, rfl, hr4, hK4, hD4, ht4⟩
  rw [drop_take_all HLL.out] at hK4
  have N4 := Lib.hid (D3.out.new hr4)
  have K4 := Lib.hid hK4
  have D4 := Lib.hid hD4
  have B4 := Lib.hid (below_touch B3.out (ht4.wider (G := O) (fun b hb => by rw [List.mem_singleton.1 hb]; exact D3.out.own)) HO.out B3.out.size)
  have HF : Hid (Fit 256 L) := D3.out.fit
  clear hr4 hK4 hD4 ht4 hup
  go_wp2_with fail
  refine (D4.out.store_full A3 n3 c3 HH.out.1 (by have := HN.out; omega) a HH.out.2.1 (by rw [HLL.out]; exact HH.out.2.2)).mono ?_
  rintro e w5 ⟨rfl, hb5⟩
  have D5 := Lib.hid (D4.out.below hb5)
  have B5 := Lib.hid (below_then B4.out hb5)
  have K5 := Lib.hid (K4.out.below hb5 K4.out.lt)
  clear hb5
  go_wp2_with fail
  refine (D5.out.read_ok 0 n (by rw [HLL.out]; omega) (no_bad _ _) (by omega) (by have := HN.out; omega)).mono ?_
  rintro e w6 ⟨r6, rfl, hr6, hK6, hD6, ht6⟩
  rw [drop_take_all HLL.out] at hK6
  have N6 := Lib.hid (D5.out.new hr6)
  have K6 := Lib.hid hK6
  have D6 := Lib.hid hD6
  have B6 := Lib.hid (below_touch B5.out (ht6.wider (G := O) (fun b hb => by rw [List.mem_singleton.1 hb]; exact D5.out.own)) HO.out B5.out.size)
  have K4b := Lib.hid (K5.out.touch (ht6.wider (G := O) (fun b hb => by rw [List.mem_singleton.1 hb]; exact D5.out.own)) N4.out)
  clear hr6 hK6 hD6 ht6
  have q1 := rd_str (K6.out.rd n HLL.out) n
  have q2 := rd_str (K4b.out.rd n HLL.out) n
  have q3 : ((str L).toList == (str L).toList) = true := beq_self_eq_true _
  generalize str L = G at q1 q2 q3
  go_wp2
  go_ret
  exact ⟨rfl, B6.out⟩
set_option maxHeartbeats 1000000 in
theorem stores_ok_a (n : Nat) (A1 : Option Addr) (n1 c1 : Nat) (l1 : List Nat) (a : Nat) (A3 : Option Addr) (n3 c3 : Nat) (l3 : List Nat) (W : World) (hz : sizeOk (n : Int) = true) (hn : n ≤ 2000) (g1 : Bs W A1 n1 c1 l1) (hn1 : n1 ≤ 2000) (g3 : Bs W A3 n3 c3 l3) (hn3 : n3 ≤ 3000) (hk : ¬ n < n1) (h31 : 1 ≤ n3) (hroom : up a + n3 ≤ n - 64) : StoresWalk n A1 n1 c1 (a : Int) A3 n3 c3 W := by
  have z1 : ¬ (2000 : Int) < (n : Int) := by omega
  have z2 : ¬ (2000 : Int) < (n1 : Int) := by omega
  have z3 : ¬ (3000 : Int) < (n3 : Int) := by omega
  have hup := fun w => run_upto A1 n1 c1 n1 (by have := g1.le; omega) w
  have HZ := Lib.hid hz
  have HG1 := Lib.hid g1
  have HG3 := Lib.hid g3
  have hn64 : 64 ≤ n ∧ n % 64 = 0 := by unfold sizeOk at hz; simp at hz; omega
  have HN : Hid (n ≤ 2000 ∧ n1 ≤ 2000 ∧ n3 ≤ 3000 ∧ n1 ≤ n ∧ n1 ≤ n1 ∧ 64 ≤ n) := ⟨hn, hn1, hn3, by omega, by omega, hn64.1⟩
  clear hz hn hn1 hn3 g1 g3 hn64
  have h5 : ¬ ((a : Int) < 0) := by omega
  have h6 : ¬ ((n3 : Int) < 1) := by omega
  have h7 : ¬ (1048576 : Int) < (a : Int) := by have h1 := up_le a; have h2 := HN.out; omega
  obtain ⟨U, hU⟩ : ∃ U, up a = U := ⟨_, rfl⟩
  have hq : ((a : Int) + 63) / 64 * 64 = (U : Int) := by rw [← hU]; unfold up; omega
  have hul := up_le a
  rw [hU] at hul hroom
  have hg0 : ¬ ((n : Int) - 64 < (U : Int) + (n3 : Int)) := by have := HN.out; omega
  have HH : Hid (1 ≤ n3 ∧ U + n3 ≤ n - 64 ∧ a ≤ U ∧ U % 64 = 0 ∧ up a = U) := ⟨h31, hroom, hul.1, hul.2.2, hU⟩
  clear hul hU h31 hroom
  go_enter Try.func6, Try.ntmps6
  go_wp2_with fail
  refine (anchor_any W).mono ?_
  rintro e w1 ⟨rfl, hb1⟩
  go_wp2_with fail
  refine (made_yes (n : Int) w1 HZ.out).mono ?_
  rintro e w2 ⟨g, O, rfl, hD, hO, hb2⟩
  have D2 := Lib.hid hD
  have HO : Hid (∀ b ∈ O, W.heap.size ≤ b) := fun b hb => Nat.le_trans hb1.size (hO b hb)
  have B2 : Hid (Below W.heap.size W w2) := hb1.trans (hb2.mono hb1.size)
  have HAO : Hid (∀ (a : Option Addr) (k : Nat) (l : List Nat), Rd .u8 W a k l → 0 < k → ∀ ad, a = some ad → ad.block ∉ O) := fun a k l hr hk ad e hm => by
    have h1 := hr.lt hk ad e
    have h2 := HO.out _ hm
    omega
  have L0 : Hid ((List.replicate (Int.toNat (n : Int)) 0 : List Nat).length = n) := by show _ = _; simp
  clear hD hO hb1 hb2
  obtain ⟨L, hL⟩ : ∃ L, splice (List.replicate (Int.toNat (n : Int)) 0) 0 (l1.take n1) = L := ⟨_, rfl⟩
  have h1l : (l1.take n1).length = n1 := by rw [List.length_take, HG1.out.rd.1]; have := HN.out; omega
  have HLL : Hid (L.length = n) := by
    show _ = _
    rw [← hL, length_splice _ _ _ (by rw [L0.out, h1l]; have := HN.out; omega), L0.out]
  have W3 : Hid (Calls Try.prog 17 #[.pointer (some ⟨g, 0, none⟩), .string ⟨#[112]⟩, .int .i64 ((0 : Nat) : Int), .slice A1 n1 c1] w2 (Goes w2 O (.int .i64 0) fun w' => OneD w' g O w2.heap.size ⟨#[112]⟩ L (fun _ => false) false (-1) [] 0 0)) := by
    rw [← hL]
    exact D2.out.write_ok (by omega) 0 A1 n1 c1 (l1.take n1) ((HG1.out.rd.below B2.out).take n1 (by have := HN.out; omega)) (HG1.out.fit.take _) (by have := HG1.out.le; have := HN.out; omega) HG1.out.max (HAO.out A1 n1 _ (HG1.out.rd.take n1 (by have := HN.out; omega))) (by rw [L0.out]; have := HN.out; omega)
  clear hL h1l
  go_wp2_with fail
  refine W3.out.mono ?_
  rintro e w3 ⟨rfl, hD3, ht3⟩
  have D3 := Lib.hid hD3
  have B3 := Lib.hid (below_touch B2.out ht3 HO.out B2.out.size)
  clear hD3 ht3
  go_wp2_with fail
  refine (D3.out.read_ok 0 n (by rw [HLL.out]; omega) (no_bad _ _) (by omega) (by have := HN.out; omega)).mono ?_
  rintro e w4 ⟨r4, rfl, hr4, hK4, hD4, ht4⟩
  rw [drop_take_all HLL.out] at hK4
  have N4 := Lib.hid (D3.out.new hr4)
  have K4 := Lib.hid hK4
  have D4 := Lib.hid hD4
  have B4 := Lib.hid (below_touch B3.out (ht4.wider (G := O) (fun b hb => by rw [List.mem_singleton.1 hb]; exact D3.out.own)) HO.out B3.out.size)
  have HF : Hid (Fit 256 L) := D3.out.fit
  clear hr4 hK4 hD4 ht4 hup
  have h3len : l3.length = n3 := HG3.out.rd.1
  obtain ⟨M, hM⟩ : ∃ M, stored L U l3 a = M := ⟨_, rfl⟩
  have hHN := HN.out
  have hHH := HH.out
  have hro : TOk (a : Nat) (U : Nat) (n3 : Nat) := by unfold TOk; omega
  have hst := stored_last (l := L) (bs := l3) (U := U) (a := a) (by rw [HLL.out]; omega) (by rw [HLL.out, h3len]; omega)
  have hlen := stored_length (l := L) (bs := l3) (U := U) (a := a) (by rw [HLL.out]; omega) (by rw [HLL.out, h3len]; omega)
  have hbl := stored_blob (l := L) (bs := l3) (U := U) (a := a) (by rw [HLL.out]; omega) (by rw [HLL.out, h3len]; omega) (by rw [h3len]; exact hro)
  have htk := stored_take (l := L) (bs := l3) (U := U) (a := a) (by rw [HLL.out]; omega) (by rw [HLL.out, h3len]; omega) (by omega)
  have W5 : Hid (Calls Try.prog 21 #[.pointer (some ⟨g, 0, none⟩), .string ⟨#[112]⟩, .int .i64 (a : Int), .slice A3 n3 c3] w4 (Goes w4 O (.int .i64 0) fun w' => OneD w' g O w2.heap.size ⟨#[112]⟩ M (fun _ => false) false (-1) [] (0 + 1) (0 + n))) := by
    rw [← hM]
    exact D4.out.store_ok (by omega) A3 n3 c3 l3 (HG3.out.rd.below B4.out) HG3.out.fit HG3.out.le HG3.out.max (HAO.out A3 n3 _ HG3.out.rd) (by omega) (by omega) a U hHH.2.2.2.2 (by rw [HLL.out]; omega)
  rw [hM] at hst hlen hbl htk
  rw [h3len] at hst
  rw [HLL.out] at hlen
  have HLV := Lib.hid (vals_of hst hro)
  have HLY : Hid (∀ er, LoadL (fun _ => false) M er → er = 0) := fun er h => load_yes hst hro (by omega) h
  have HML := Lib.hid hlen
  have HBL := Lib.hid hbl
  have HTK := Lib.hid htk
  clear hst hlen hbl htk hM hro hHN hHH h3len
  go_wp2_with fail
  refine W5.out.mono ?_
  rintro e w5 ⟨rfl, hD5, ht5⟩
  have D5 := Lib.hid hD5
  have B5 := Lib.hid (below_touch B4.out ht5 HO.out B4.out.size)
  have K5 := Lib.hid (K4.out.touch ht5 N4.out)
  clear hD5 ht5
  go_wp2_with fail
  refine (D5.out.read_ok 0 n (by rw [HML.out]; omega) (no_bad _ _) (by omega) (by have := HN.out; omega)).mono ?_
  rintro e w6 ⟨r6, rfl, hr6, hK6, hD6, ht6⟩
  rw [drop_take_all HML.out] at hK6
  have N6 := Lib.hid (D5.out.new hr6)
  have K6 := Lib.hid hK6
  have D6 := Lib.hid hD6
  have B6 := Lib.hid (below_touch B5.out (ht6.wider (G := O) (fun b hb => by rw [List.mem_singleton.1 hb]; exact D5.out.own)) HO.out B5.out.size)
  have K4b := Lib.hid (K5.out.touch (ht6.wider (G := O) (fun b hb => by rw [List.mem_singleton.1 hb]; exact D5.out.own)) N4.out)
  clear hr6 hK6 hD6 ht6
  go_wp2_with fail
  refine (D6.out.load (by omega) (by have := HN.out; omega)).mono ?_
  rintro e w7 ⟨c7, t7, hD7, hc7, ht7, hT7, (⟨er, hne, hl, rfl⟩ | ⟨g7, hl, rfl, hg7, hB7⟩)⟩
  · exact absurd (HLY.out er hl) hne
  rw [HLV.out.1, HLV.out.2.1, HLV.out.2.2]
  rw [HBL.out] at hB7
  have B7 := Lib.hid (below_touch B6.out hT7 HO.out B6.out.size)
  have K7 := Lib.hid hB7
  have K4c := Lib.hid (K4b.out.touch hT7 N4.out)
  have K6c := Lib.hid (K6.out.touch hT7 N6.out)
  clear hD7 hc7 ht7 hT7 hl hg7 hB7
  have H3 : Hid (Below w7.heap.size w7 (w7.alloc (.cells #[.int .i64 0, .int .i64 0, .int .i64 0] 23)) ∧ Blk (w7.alloc (.cells #[.int .i64 0, .int .i64 0, .int .i64 0] 23)) w7.heap.size 23 tz) := ⟨(Below.refl _ _).alloc (Nat.le_refl _) _, Blk.new w7 _ tz⟩
  go_wp2_with ((with_reducible refine at_dst none ?_); refine stopper ?_)
  refine ⟨?_, trivial⟩
  refine wpList_storeBlk (op := ⟨none, _, _, _, _, _⟩) rfl 23 (.tmp 16) (.tmp 111) rfl (g := w7.heap.size) (t := 23) (old := tz) (cs := tcells (a : Nat) (U : Nat) (n3 : Nat)) rfl rfl H3.out.2 rfl iT (tcells_one _ _ _) ?_
  intro u0 hU0 hT0
  have HT0 := Lib.hid hT0
  clear hT0
  have HBU : Hid (Below W.heap.size W u0) := (B7.out.trans (H3.out.1.mono B7.out.size)).trans (HT0.out.below (fun y hy => by rw [List.mem_singleton.1 hy]; exact B7.out.size) (Nat.le_trans B7.out.size H3.out.1.size))
  have KX : ∀ {x : Nat} {cs : List Value}, Blk w7 x 5 cs → Blk u0 x 5 cs := fun {x} {cs} h => (h.below H3.out.1 h.lt).touch HT0.out (by have := h.lt; simp; omega)
  have k4 := KX K4c.out
  have k6 := KX K6c.out
  have k7 := KX K7.out
  have c0 : u0.cell? ⟨w7.heap.size, 0, none⟩ = some (.int .i64 (a : Nat)) := hU0.cell 0
  have hrd3 := HG3.out.rd.below HBU.out
  have q1 := fun m => rd_str ((k7.rd n3 HG3.out.rd.1).drewN m) n3
  have q2 := fun m => rd_str (hrd3.drewN m) c3
  have hle : a ≤ n := by have := HN.out; have := HH.out; omega
  have q3 := fun m => rd_str (((k6.rd n HML.out).take a hle).drewN m) n
  have q4 := fun m => rd_str (((k4.rd n HLL.out).take a hle).drewN m) n
  rw [HTK.out] at q3
  have s1 := fun m => run_upto (some ⟨r6, 0, none⟩) n n a hle (u0.drewN m)
  have s2 := fun m => run_upto (some ⟨r4, 0, none⟩) n n a hle (u0.drewN m)
  have e1 : ((str l3).toList == (str l3).toList) = true := beq_self_eq_true _
  have e2 : ((str (L.take a)).toList == (str (L.take a)).toList) = true := beq_self_eq_true _
  generalize str l3 = G1 at q1 q2 e1
  generalize str (L.take a) = G2 at q3 q4 e2
  clear hrd3 k4 k6 k7 KX hU0
  go_wp2_with fail
  go_quiet (fail)
  go_wp2
  go_ret
  exact ⟨rfl, below_drewN HBU.out _⟩
set_option maxHeartbeats 1000000 in
theorem stores_form_neg_b (n : Nat) (A1 : Option Addr) (n1 c1 : Nat) (l1 : List Nat) (dt : Int) (A3 : Option Addr) (n3 c3 : Nat) (l3 : List Nat) (W : World) (hz : sizeOk (n : Int) = true) (hn : n ≤ 2000) (g1 : Bs W A1 n1 c1 l1) (hn1 : n1 ≤ 2000) (g3 : Bs W A3 n3 c3 l3) (hn3 : n3 ≤ 3000) (hk : n < n1) (h5 : dt < 0) : StoresWalk n A1 n1 c1 dt A3 n3 c3 W := by
  have z1 : ¬ (2000 : Int) < (n : Int) := by omega
  have z2 : ¬ (2000 : Int) < (n1 : Int) := by omega
  have z3 : ¬ (3000 : Int) < (n3 : Int) := by omega
  have hup := fun w => run_upto A1 n1 c1 n (by have := g1.le; omega) w
  have HZ := Lib.hid hz
  have HG1 := Lib.hid g1
  have HG3 := Lib.hid g3
  have hn64 : 64 ≤ n ∧ n % 64 = 0 := by unfold sizeOk at hz; simp at hz; omega
  have HN : Hid (n ≤ 2000 ∧ n1 ≤ 2000 ∧ n3 ≤ 3000 ∧ n ≤ n ∧ n ≤ n1 ∧ 64 ≤ n) := ⟨hn, hn1, hn3, by omega, by omega, hn64.1⟩
  clear hz hn hn1 hn3 g1 g3 hn64
  have HC : Hid (dt < 0) := h5
  go_enter Try.func6, Try.ntmps6
  go_wp2_with fail
  refine (anchor_any W).mono ?_
  rintro e w1 ⟨rfl, hb1⟩
  go_wp2_with fail
  refine (made_yes (n : Int) w1 HZ.out).mono ?_
  rintro e w2 ⟨g, O, rfl, hD, hO, hb2⟩
  have D2 := Lib.hid hD
  have HO : Hid (∀ b ∈ O, W.heap.size ≤ b) := fun b hb => Nat.le_trans hb1.size (hO b hb)
  have B2 : Hid (Below W.heap.size W w2) := hb1.trans (hb2.mono hb1.size)
  have HAO : Hid (∀ (a : Option Addr) (k : Nat) (l : List Nat), Rd .u8 W a k l → 0 < k → ∀ ad, a = some ad → ad.block ∉ O) := fun a k l hr hk ad e hm => by
    have h1 := hr.lt hk ad e
    have h2 := HO.out _ hm
    omega
  have L0 : Hid ((List.replicate (Int.toNat (n : Int)) 0 : List Nat).length = n) := by show _ = _; simp
  clear hD hO hb1 hb2
  obtain ⟨L, hL⟩ : ∃ L, splice (List.replicate (Int.toNat (n : Int)) 0) 0 (l1.take n) = L := ⟨_, rfl⟩
  have h1l : (l1.take n).length = n := by rw [List.length_take, HG1.out.rd.1]; have := HN.out; omega
  have HLL : Hid (L.length = n) := by
    show _ = _
    rw [← hL, length_splice _ _ _ (by rw [L0.out, h1l]; have := HN.out; omega), L0.out]
  have W3 : Hid (Calls Try.prog 17 #[.pointer (some ⟨g, 0, none⟩), .string ⟨#[112]⟩, .int .i64 ((0 : Nat) : Int), .slice A1 n c1] w2 (Goes w2 O (.int .i64 0) fun w' => OneD w' g O w2.heap.size ⟨#[112]⟩ L (fun _ => false) false (-1) [] 0 0)) := by
    rw [← hL]
    exact D2.out.write_ok (by omega) 0 A1 n c1 (l1.take n) ((HG1.out.rd.below B2.out).take n (by have := HN.out; omega)) (HG1.out.fit.take _) (by have := HG1.out.le; have := HN.out; omega) HG1.out.max (HAO.out A1 n _ (HG1.out.rd.take n (by have := HN.out; omega))) (by rw [L0.out]; have := HN.out; omega)
  clear hL h1l
  go_wp2_with fail
  refine W3.out.mono ?_
  rintro e w3 ⟨rfl, hD3, ht3⟩
  have D3 := Lib.hid hD3
  have B3 := Lib.hid (below_touch B2.out ht3 HO.out B2.out.size)
  clear hD3 ht3
  go_wp2_with fail
  refine (D3.out.read_ok 0 n (by rw [HLL.out]; omega) (no_bad _ _) (by omega) (by have := HN.out; omega)).mono ?_
  rintro e w4 ⟨r4, rfl, hr4, hK4, hD4, ht4⟩
  rw [drop_take_all HLL.out] at hK4
  have N4 := Lib.hid (D3.out.new hr4)
  have K4 := Lib.hid hK4
  have D4 := Lib.hid hD4
  have B4 := Lib.hid (below_touch B3.out (ht4.wider (G := O) (fun b hb => by rw [List.mem_singleton.1 hb]; exact D3.out.own)) HO.out B3.out.size)
  have HF : Hid (Fit 256 L) := D3.out.fit
  clear hr4 hK4 hD4 ht4 hup
  go_wp2_with fail
  refine (D4.out.store_form A3 n3 c3 (by have := HN.out; omega) dt (.inl HC.out)).mono ?_
  rintro e w5 ⟨rfl, hb5⟩
  have D5 := Lib.hid (D4.out.below hb5)
  have B5 := Lib.hid (below_then B4.out hb5)
  have K5 := Lib.hid (K4.out.below hb5 K4.out.lt)
  clear hb5
  go_wp2_with fail
  refine (D5.out.read_ok 0 n (by rw [HLL.out]; omega) (no_bad _ _) (by omega) (by have := HN.out; omega)).mono ?_
  rintro e w6 ⟨r6, rfl, hr6, hK6, hD6, ht6⟩
  rw [drop_take_all HLL.out] at hK6
  have N6 := Lib.hid (D5.out.new hr6)
  have K6 := Lib.hid hK6
  have D6 := Lib.hid hD6
  have B6 := Lib.hid (below_touch B5.out (ht6.wider (G := O) (fun b hb => by rw [List.mem_singleton.1 hb]; exact D5.out.own)) HO.out B5.out.size)
  have K4b := Lib.hid (K5.out.touch (ht6.wider (G := O) (fun b hb => by rw [List.mem_singleton.1 hb]; exact D5.out.own)) N4.out)
  clear hr6 hK6 hD6 ht6
  have q1 := rd_str (K6.out.rd n HLL.out) n
  have q2 := rd_str (K4b.out.rd n HLL.out) n
  have q3 : ((str L).toList == (str L).toList) = true := beq_self_eq_true _
  generalize str L = G at q1 q2 q3
  go_wp2
  go_ret
  exact ⟨rfl, B6.out⟩
set_option maxHeartbeats 1000000 in
theorem stores_form_none_b (n : Nat) (A1 : Option Addr) (n1 c1 : Nat) (l1 : List Nat) (dt : Int) (A3 : Option Addr) (n3 c3 : Nat) (l3 : List Nat) (W : World) (hz : sizeOk (n : Int) = true) (hn : n ≤ 2000) (g1 : Bs W A1 n1 c1 l1) (hn1 : n1 ≤ 2000) (g3 : Bs W A3 n3 c3 l3) (hn3 : n3 ≤ 3000) (hk : n < n1) (h5 : ¬ dt < 0) (h6 : ((n3 : Nat) : Int) < 1) : StoresWalk n A1 n1 c1 dt A3 n3 c3 W := by
  have z1 : ¬ (2000 : Int) < (n : Int) := by omega
  have z2 : ¬ (2000 : Int) < (n1 : Int) := by omega
  have z3 : ¬ (3000 : Int) < (n3 : Int) := by omega
  have hup := fun w => run_upto A1 n1 c1 n (by have := g1.le; omega) w
  have HZ := Lib.hid hz
  have HG1 := Lib.hid g1
  have HG3 := Lib.hid g3
  have hn64 : 64 ≤ n ∧ n % 64 = 0 := by unfold sizeOk at hz; simp at hz; omega
  have HN : Hid (n ≤ 2000 ∧ n1 ≤ 2000 ∧ n3 ≤ 3000 ∧ n ≤ n ∧ n ≤ n1 ∧ 64 ≤ n) := ⟨hn, hn1, hn3, by omega, by omega, hn64.1⟩
  clear hz hn hn1 hn3 g1 g3 hn64
  have HC : Hid (n3 < 1) := by show _ < _; omega
  go_enter Try.func6, Try.ntmps6
  go_wp2_with fail
  refine (anchor_any W).mono ?_
  rintro e w1 ⟨rfl, hb1⟩
  go_wp2_with fail
  refine (made_yes (n : Int) w1 HZ.out).mono ?_
  rintro e w2 ⟨g, O, rfl, hD, hO, hb2⟩
  have D2 := Lib.hid hD
  have HO : Hid (∀ b ∈ O, W.heap.size ≤ b) := fun b hb => Nat.le_trans hb1.size (hO b hb)
  have B2 : Hid (Below W.heap.size W w2) := hb1.trans (hb2.mono hb1.size)
  have HAO : Hid (∀ (a : Option Addr) (k : Nat) (l : List Nat), Rd .u8 W a k l → 0 < k → ∀ ad, a = some ad → ad.block ∉ O) := fun a k l hr hk ad e hm => by
    have h1 := hr.lt hk ad e
    have h2 := HO.out _ hm
    omega
  have L0 : Hid ((List.replicate (Int.toNat (n : Int)) 0 : List Nat).length = n) := by show _ = _; simp
  clear hD hO hb1 hb2
  obtain ⟨L, hL⟩ : ∃ L, splice (List.replicate (Int.toNat (n : Int)) 0) 0 (l1.take n) = L := ⟨_, rfl⟩
  have h1l : (l1.take n).length = n := by rw [List.length_take, HG1.out.rd.1]; have := HN.out; omega
  have HLL : Hid (L.length = n) := by
    show _ = _
    rw [← hL, length_splice _ _ _ (by rw [L0.out, h1l]; have := HN.out; omega), L0.out]
  have W3 : Hid (Calls Try.prog 17 #[.pointer (some ⟨g, 0, none⟩), .string ⟨#[112]⟩, .int .i64 ((0 : Nat) : Int), .slice A1 n c1] w2 (Goes w2 O (.int .i64 0) fun w' => OneD w' g O w2.heap.size ⟨#[112]⟩ L (fun _ => false) false (-1) [] 0 0)) := by
    rw [← hL]
    exact D2.out.write_ok (by omega) 0 A1 n c1 (l1.take n) ((HG1.out.rd.below B2.out).take n (by have := HN.out; omega)) (HG1.out.fit.take _) (by have := HG1.out.le; have := HN.out; omega) HG1.out.max (HAO.out A1 n _ (HG1.out.rd.take n (by have := HN.out; omega))) (by rw [L0.out]; have := HN.out; omega)
  clear hL h1l
  go_wp2_with fail
  refine W3.out.mono ?_
  rintro e w3 ⟨rfl, hD3, ht3⟩
  have D3 := Lib.hid hD3
  have B3 := Lib.hid (below_touch B2.out ht3 HO.out B2.out.size)
  clear hD3 ht3
  go_wp2_with fail
  refine (D3.out.read_ok 0 n (by rw [HLL.out]; omega) (no_bad _ _) (by omega) (by have := HN.out; omega)).mono ?_
  rintro e w4 ⟨r4, rfl, hr4, hK4, hD4, ht4⟩
  rw [drop_take_all HLL.out] at hK4
  have N4 := Lib.hid (D3.out.new hr4)
  have K4 := Lib.hid hK4
  have D4 := Lib.hid hD4
  have B4 := Lib.hid (below_touch B3.out (ht4.wider (G := O) (fun b hb => by rw [List.mem_singleton.1 hb]; exact D3.out.own)) HO.out B3.out.size)
  have HF : Hid (Fit 256 L) := D3.out.fit
  clear hr4 hK4 hD4 ht4 hup
  go_wp2_with fail
  refine (D4.out.store_form A3 n3 c3 (by have := HN.out; omega) dt (.inr (.inl HC.out))).mono ?_
  rintro e w5 ⟨rfl, hb5⟩
  have D5 := Lib.hid (D4.out.below hb5)
  have B5 := Lib.hid (below_then B4.out hb5)
  have K5 := Lib.hid (K4.out.below hb5 K4.out.lt)
  clear hb5
  go_wp2_with fail
  refine (D5.out.read_ok 0 n (by rw [HLL.out]; omega) (no_bad _ _) (by omega) (by have := HN.out; omega)).mono ?_
  rintro e w6 ⟨r6, rfl, hr6, hK6, hD6, ht6⟩
  rw [drop_take_all HLL.out] at hK6
  have N6 := Lib.hid (D5.out.new hr6)
  have K6 := Lib.hid hK6
  have D6 := Lib.hid hD6
  have B6 := Lib.hid (below_touch B5.out (ht6.wider (G := O) (fun b hb => by rw [List.mem_singleton.1 hb]; exact D5.out.own)) HO.out B5.out.size)
  have K4b := Lib.hid (K5.out.touch (ht6.wider (G := O) (fun b hb => by rw [List.mem_singleton.1 hb]; exact D5.out.own)) N4.out)
  clear hr6 hK6 hD6 ht6
  have q1 := rd_str (K6.out.rd n HLL.out) n
  have q2 := rd_str (K4b.out.rd n HLL.out) n
  have q3 : ((str L).toList == (str L).toList) = true := beq_self_eq_true _
  generalize str L = G at q1 q2 q3
  go_wp2
  go_ret
  exact ⟨rfl, B6.out⟩
set_option maxHeartbeats 1000000 in
theorem stores_full_far_b (n : Nat) (A1 : Option Addr) (n1 c1 : Nat) (l1 : List Nat) (a : Nat) (A3 : Option Addr) (n3 c3 : Nat) (l3 : List Nat) (W : World) (hz : sizeOk (n : Int) = true) (hn : n ≤ 2000) (g1 : Bs W A1 n1 c1 l1) (hn1 : n1 ≤ 2000) (g3 : Bs W A3 n3 c3 l3) (hn3 : n3 ≤ 3000) (hk : n < n1) (ha : a ≤ 9223372036854775807) (h31 : 1 ≤ n3) (hfull : ¬ up a + n3 ≤ n - 64) (h7 : (1048576 : Int) < (a : Int)) : StoresWalk n A1 n1 c1 (a : Int) A3 n3 c3 W := by
  have z1 : ¬ (2000 : Int) < (n : Int) := by omega
  have z2 : ¬ (2000 : Int) < (n1 : Int) := by omega
  have z3 : ¬ (3000 : Int) < (n3 : Int) := by omega
  have hup := fun w => run_upto A1 n1 c1 n (by have := g1.le; omega) w
  have HZ := Lib.hid hz
  have HG1 := Lib.hid g1
  have HG3 := Lib.hid g3
  have hn64 : 64 ≤ n ∧ n % 64 = 0 := by unfold sizeOk at hz; simp at hz; omega
  have HN : Hid (n ≤ 2000 ∧ n1 ≤ 2000 ∧ n3 ≤ 3000 ∧ n ≤ n ∧ n ≤ n1 ∧ 64 ≤ n) := ⟨hn, hn1, hn3, by omega, by omega, hn64.1⟩
  clear hz hn hn1 hn3 g1 g3 hn64
  have h5 : ¬ ((a : Int) < 0) := by omega
  have h6 : ¬ ((n3 : Int) < 1) := by omega
  have HH : Hid (1 ≤ n3 ∧ a ≤ 9223372036854775807 ∧ ¬ up a + n3 ≤ n - 64) := ⟨h31, ha, hfull⟩
  clear h31 ha hfull
  go_enter Try.func6, Try.ntmps6
  go_wp2_with fail
  refine (anchor_any W).mono ?_
  rintro e w1 ⟨rfl, hb1⟩
  go_wp2_with fail
  refine (made_yes (n : Int) w1 HZ.out).mono ?_
  rintro e w2 ⟨g, O, rfl, hD, hO, hb2⟩
  have D2 := Lib.hid hD
  have HO : Hid (∀ b ∈ O, W.heap.size ≤ b) := fun b hb => Nat.le_trans hb1.size (hO b hb)
  have B2 : Hid (Below W.heap.size W w2) := hb1.trans (hb2.mono hb1.size)
  have HAO : Hid (∀ (a : Option Addr) (k : Nat) (l : List Nat), Rd .u8 W a k l → 0 < k → ∀ ad, a = some ad → ad.block ∉ O) := fun a k l hr hk ad e hm => by
    have h1 := hr.lt hk ad e
    have h2 := HO.out _ hm
    omega
  have L0 : Hid ((List.replicate (Int.toNat (n : Int)) 0 : List Nat).length = n) := by show _ = _; simp
  clear hD hO hb1 hb2
  obtain ⟨L, hL⟩ : ∃ L, splice (List.replicate (Int.toNat (n : Int)) 0) 0 (l1.take n) = L := ⟨_, rfl⟩
  have h1l : (l1.take n).length = n := by rw [List.length_take, HG1.out.rd.1]; have := HN.out; omega
  have HLL : Hid (L.length = n) := by
    show _ = _
    rw [← hL, length_splice _ _ _ (by rw [L0.out, h1l]; have := HN.out; omega), L0.out]
  have W3 : Hid (Calls Try.prog 17 #[.pointer (some ⟨g, 0, none⟩), .string ⟨#[112]⟩, .int .i64 ((0 : Nat) : Int), .slice A1 n c1] w2 (Goes w2 O (.int .i64 0) fun w' => OneD w' g O w2.heap.size ⟨#[112]⟩ L (fun _ => false) false (-1) [] 0 0)) := by
    rw [← hL]
    exact D2.out.write_ok (by omega) 0 A1 n c1 (l1.take n) ((HG1.out.rd.below B2.out).take n (by have := HN.out; omega)) (HG1.out.fit.take _) (by have := HG1.out.le; have := HN.out; omega) HG1.out.max (HAO.out A1 n _ (HG1.out.rd.take n (by have := HN.out; omega))) (by rw [L0.out]; have := HN.out; omega)
  clear hL h1l
  go_wp2_with fail
  refine W3.out.mono ?_
  rintro e w3 ⟨rfl, hD3, ht3⟩
  have D3 := Lib.hid hD3
  have B3 := Lib.hid (below_touch B2.out ht3 HO.out B2.out.size)
  clear hD3 ht3
  go_wp2_with fail
  refine (D3.out.read_ok 0 n (by rw [HLL.out]; omega) (no_bad _ _) (by omega) (by have := HN.out; omega)).mono ?_
  rintro e w4 ⟨r4, rfl, hr4, hK4, hD4, ht4⟩
  rw [drop_take_all HLL.out] at hK4
  have N4 := Lib.hid (D3.out.new hr4)
  have K4 := Lib.hid hK4
  have D4 := Lib.hid hD4
  have B4 := Lib.hid (below_touch B3.out (ht4.wider (G := O) (fun b hb => by rw [List.mem_singleton.1 hb]; exact D3.out.own)) HO.out B3.out.size)
  have HF : Hid (Fit 256 L) := D3.out.fit
  clear hr4 hK4 hD4 ht4 hup
  go_wp2_with fail
  refine (D4.out.store_full A3 n3 c3 HH.out.1 (by have := HN.out; omega) a HH.out.2.1 (by rw [HLL.out]; exact HH.out.2.2)).mono ?_
  rintro e w5 ⟨rfl, hb5⟩
  have D5 := Lib.hid (D4.out.below hb5)
  have B5 := Lib.hid (below_then B4.out hb5)
  have K5 := Lib.hid (K4.out.below hb5 K4.out.lt)
  clear hb5
  go_wp2_with fail
  refine (D5.out.read_ok 0 n (by rw [HLL.out]; omega) (no_bad _ _) (by omega) (by have := HN.out; omega)).mono ?_
  rintro e w6 ⟨r6, rfl, hr6, hK6, hD6, ht6⟩
  rw [drop_take_all HLL.out] at hK6
  have N6 := Lib.hid (D5.out.new hr6)
  have K6 := Lib.hid hK6
  have D6 := Lib.hid hD6
  have B6 := Lib.hid (below_touch B5.out (ht6.wider (G := O) (fun b hb => by rw [List.mem_singleton.1 hb]; exact D5.out.own)) HO.out B5.out.size)
  have K4b := Lib.hid (K5.out.touch (ht6.wider (G := O) (fun b hb => by rw [List.mem_singleton.1 hb]; exact D5.out.own)) N4.out)
  clear hr6 hK6 hD6 ht6
  have q1 := rd_str (K6.out.rd n HLL.out) n
  have q2 := rd_str (K4b.out.rd n HLL.out) n
  have q3 : ((str L).toList == (str L).toList) = true := beq_self_eq_true _
  generalize str L = G at q1 q2 q3
  go_wp2
  go_ret
  exact ⟨rfl, B6.out⟩
set_option maxHeartbeats 1000000 in
theorem stores_full_room_b (n : Nat) (A1 : Option Addr) (n1 c1 : Nat) (l1 : List Nat) (a : Nat) (A3 : Option Addr) (n3 c3 : Nat) (l3 : List Nat) (W : World) (hz : sizeOk (n : Int) = true) (hn : n ≤ 2000) (g1 : Bs W A1 n1 c1 l1) (hn1 : n1 ≤ 2000) (g3 : Bs W A3 n3 c3 l3) (hn3 : n3 ≤ 3000) (hk : n < n1) (ha : a ≤ 9223372036854775807) (h31 : 1 ≤ n3) (hfull : ¬ up a + n3 ≤ n - 64) (h7 : ¬ (1048576 : Int) < (a : Int)) : StoresWalk n A1 n1 c1 (a : Int) A3 n3 c3 W := by
  have z1 : ¬ (2000 : Int) < (n : Int) := by omega
  have z2 : ¬ (2000 : Int) < (n1 : Int) := by omega
  have z3 : ¬ (3000 : Int) < (n3 : Int) := by omega
  have hup := fun w => run_upto A1 n1 c1 n (by have := g1.le; omega) w
  have HZ := Lib.hid hz
  have HG1 := Lib.hid g1
  have HG3 := Lib.hid g3
  have hn64 : 64 ≤ n ∧ n % 64 = 0 := by unfold sizeOk at hz; simp at hz; omega
  have HN : Hid (n ≤ 2000 ∧ n1 ≤ 2000 ∧ n3 ≤ 3000 ∧ n ≤ n ∧ n ≤ n1 ∧ 64 ≤ n) := ⟨hn, hn1, hn3, by omega, by omega, hn64.1⟩
  clear hz hn hn1 hn3 g1 g3 hn64
  have h5 : ¬ ((a : Int) < 0) := by omega
  have h6 : ¬ ((n3 : Int) < 1) := by omega
  have HH : Hid (1 ≤ n3 ∧ a ≤ 9223372036854775807 ∧ ¬ up a + n3 ≤ n - 64) := ⟨h31, ha, hfull⟩
  obtain ⟨U, hU⟩ : ∃ U, up a = U := ⟨_, rfl⟩
  have hq : ((a : Int) + 63) / 64 * 64 = (U : Int) := by rw [← hU]; unfold up; omega
  have hul := up_le a
  rw [hU] at hul hfull
  have hw1 : IntKind.i64.wrap ((a : Int) + 63) = (a : Int) + 63 := by rw [IntKind.wrap_i64]; omega
  have hg0 : ((n : Int) - 64 < (U : Int) + (n3 : Int)) := by have := HN.out; omega
  clear hul hU
  clear h31 ha hfull
  go_enter Try.func6, Try.ntmps6
  go_wp2_with fail
  refine (anchor_any W).mono ?_
  rintro e w1 ⟨rfl, hb1⟩
  go_wp2_with fail
  refine (made_yes (n : Int) w1 HZ.out).mono ?_
  rintro e w2 ⟨g, O, rfl, hD, hO, hb2⟩
  have D2 := Lib.hid hD
  have HO : Hid (∀ b ∈ O, W.heap.size ≤ b) := fun b hb => Nat.le_trans hb1.size (hO b hb)
  have B2 : Hid (Below W.heap.size W w2) := hb1.trans (hb2.mono hb1.size)
  have HAO : Hid (∀ (a : Option Addr) (k : Nat) (l : List Nat), Rd .u8 W a k l → 0 < k → ∀ ad, a = some ad → ad.block ∉ O) := fun a k l hr hk ad e hm => by
    have h1 := hr.lt hk ad e
    have h2 := HO.out _ hm
    omega
  have L0 : Hid ((List.replicate (Int.toNat (n : Int)) 0 : List Nat).length = n) := by show _ = _; simp
  clear hD hO hb1 hb2
  obtain ⟨L, hL⟩ : ∃ L, splice (List.replicate (Int.toNat (n : Int)) 0) 0 (l1.take n) = L := ⟨_, rfl⟩
  have h1l : (l1.take n).length = n := by rw [List.length_take, HG1.out.rd.1]; have := HN.out; omega
  have HLL : Hid (L.length = n) := by
    show _ = _
    rw [← hL, length_splice _ _ _ (by rw [L0.out, h1l]; have := HN.out; omega), L0.out]
  have W3 : Hid (Calls Try.prog 17 #[.pointer (some ⟨g, 0, none⟩), .string ⟨#[112]⟩, .int .i64 ((0 : Nat) : Int), .slice A1 n c1] w2 (Goes w2 O (.int .i64 0) fun w' => OneD w' g O w2.heap.size ⟨#[112]⟩ L (fun _ => false) false (-1) [] 0 0)) := by
    rw [← hL]
    exact D2.out.write_ok (by omega) 0 A1 n c1 (l1.take n) ((HG1.out.rd.below B2.out).take n (by have := HN.out; omega)) (HG1.out.fit.take _) (by have := HG1.out.le; have := HN.out; omega) HG1.out.max (HAO.out A1 n _ (HG1.out.rd.take n (by have := HN.out; omega))) (by rw [L0.out]; have := HN.out; omega)
  clear hL h1l
  go_wp2_with fail
  refine W3.out.mono ?_
  rintro e w3 ⟨rfl, hD3, ht3⟩
  have D3 := Lib.hid hD3
  have B3 := Lib.hid (below_touch B2.out ht3 HO.out B2.out.size)
  clear hD3 ht3
  go_wp2_with fail
  refine (D3.out.read_ok 0 n (by rw [HLL.out]; omega) (no_bad _ _) (by omega) (by have := HN.out; omega)).mono ?_
  rintro e w4 ⟨r4, rfl, hr4, hK4, hD4, ht4⟩
  rw [drop_take_all HLL.out] at hK4
  have N4 := Lib.hid (D3.out.new hr4)
  have K4 := Lib.hid hK4
  have D4 := Lib.hid hD4
  have B4 := Lib.hid (below_touch B3.out (ht4.wider (G := O) (fun b hb => by rw [List.mem_singleton.1 hb]; exact D3.out.own)) HO.out B3.out.size)
  have HF : Hid (Fit 256 L) := D3.out.fit
  clear hr4 hK4 hD4 ht4 hup
  go_wp2_with fail
  refine (D4.out.store_full A3 n3 c3 HH.out.1 (by have := HN.out; omega) a HH.out.2.1 (by rw [HLL.out]; exact HH.out.2.2)).mono ?_
  rintro e w5 ⟨rfl, hb5⟩
  have D5 := Lib.hid (D4.out.below hb5)
  have B5 := Lib.hid (below_then B4.out hb5)
  have K5 := Lib.hid (K4.out.below hb5 K4.out.lt)
  clear hb5
  go_wp2_with fail
  refine (D5.out.read_ok 0 n (by rw [HLL.out]; omega) (no_bad _ _) (by omega) (by have := HN.out; omega)).mono ?_
  rintro e w6 ⟨r6, rfl, hr6, hK6, hD6, ht6⟩
  rw [drop_take_all HLL.out] at hK6
  have N6 := Lib.hid (D5.out.new hr6)
  have K6 := Lib.hid hK6
  have D6 := Lib.hid hD6
  have B6 := Lib.hid (below_touch B5.out (ht6.wider (G := O) (fun b hb => by rw [List.mem_singleton.1 hb]; exact D5.out.own)) HO.out B5.out.size)
  have K4b := Lib.hid (K5.out.touch (ht6.wider (G := O) (fun b hb => by rw [List.mem_singleton.1 hb]; exact D5.out.own)) N4.out)
  clear hr6 hK6 hD6 ht6
  have q1 := rd_str (K6.out.rd n HLL.out) n
  have q2 := rd_str (K4b.out.rd n HLL.out) n
  have q3 : ((str L).toList == (str L).toList) = true := beq_self_eq_true _
  generalize str L = G at q1 q2 q3
  go_wp2
  go_ret
  exact ⟨rfl, B6.out⟩
set_option maxHeartbeats 1000000 in
theorem stores_ok_b (n : Nat) (A1 : Option Addr) (n1 c1 : Nat) (l1 : List Nat) (a : Nat) (A3 : Option Addr) (n3 c3 : Nat) (l3 : List Nat) (W : World) (hz : sizeOk (n : Int) = true) (hn : n ≤ 2000) (g1 : Bs W A1 n1 c1 l1) (hn1 : n1 ≤ 2000) (g3 : Bs W A3 n3 c3 l3) (hn3 : n3 ≤ 3000) (hk : n < n1) (h31 : 1 ≤ n3) (hroom : up a + n3 ≤ n - 64) : StoresWalk n A1 n1 c1 (a : Int) A3 n3 c3 W := by
  have z1 : ¬ (2000 : Int) < (n : Int) := by omega
  have z2 : ¬ (2000 : Int) < (n1 : Int) := by omega
  have z3 : ¬ (3000 : Int) < (n3 : Int) := by omega
  have hup := fun w => run_upto A1 n1 c1 n (by have := g1.le; omega) w
  have HZ := Lib.hid hz
  have HG1 := Lib.hid g1
  have HG3 := Lib.hid g3
  have hn64 : 64 ≤ n ∧ n % 64 = 0 := by unfold sizeOk at hz; simp at hz; omega
  have HN : Hid (n ≤ 2000 ∧ n1 ≤ 2000 ∧ n3 ≤ 3000 ∧ n ≤ n ∧ n ≤ n1 ∧ 64 ≤ n) := ⟨hn, hn1, hn3, by omega, by omega, hn64.1⟩
  clear hz hn hn1 hn3 g1 g3 hn64
  have h5 : ¬ ((a : Int) < 0) := by omega
  have h6 : ¬ ((n3 : Int) < 1) := by omega
  have h7 : ¬ (1048576 : Int) < (a : Int) := by have h1 := up_le a; have h2 := HN.out; omega
  obtain ⟨U, hU⟩ : ∃ U, up a = U := ⟨_, rfl⟩
  have hq : ((a : Int) + 63) / 64 * 64 = (U : Int) := by rw [← hU]; unfold up; omega
  have hul := up_le a
  rw [hU] at hul hroom
  have hg0 : ¬ ((n : Int) - 64 < (U : Int) + (n3 : Int)) := by have := HN.out; omega
  have HH : Hid (1 ≤ n3 ∧ U + n3 ≤ n - 64 ∧ a ≤ U ∧ U % 64 = 0 ∧ up a = U) := ⟨h31, hroom, hul.1, hul.2.2, hU⟩
  clear hul hU h31 hroom
  go_enter Try.func6, Try.ntmps6
  go_wp2_with fail
  refine (anchor_any W).mono ?_
  rintro e w1 ⟨rfl, hb1⟩
  go_wp2_with fail
  refine (made_yes (n : Int) w1 HZ.out).mono ?_
  rintro e w2 ⟨g, O, rfl, hD, hO, hb2⟩
  have D2 := Lib.hid hD
  have HO : Hid (∀ b ∈ O, W.heap.size ≤ b) := fun b hb => Nat.le_trans hb1.size (hO b hb)
  have B2 : Hid (Below W.heap.size W w2) := hb1.trans (hb2.mono hb1.size)
  have HAO : Hid (∀ (a : Option Addr) (k : Nat) (l : List Nat), Rd .u8 W a k l → 0 < k → ∀ ad, a = some ad → ad.block ∉ O) := fun a k l hr hk ad e hm => by
    have h1 := hr.lt hk ad e
    have h2 := HO.out _ hm
    omega
  have L0 : Hid ((List.replicate (Int.toNat (n : Int)) 0 : List Nat).length = n) := by show _ = _; simp
  clear hD hO hb1 hb2
  obtain ⟨L, hL⟩ : ∃ L, splice (List.replicate (Int.toNat (n : Int)) 0) 0 (l1.take n) = L := ⟨_, rfl⟩
  have h1l : (l1.take n).length = n := by rw [List.length_take, HG1.out.rd.1]; have := HN.out; omega
  have HLL : Hid (L.length = n) := by
    show _ = _
    rw [← hL, length_splice _ _ _ (by rw [L0.out, h1l]; have := HN.out; omega), L0.out]
  have W3 : Hid (Calls Try.prog 17 #[.pointer (some ⟨g, 0, none⟩), .string ⟨#[112]⟩, .int .i64 ((0 : Nat) : Int), .slice A1 n c1] w2 (Goes w2 O (.int .i64 0) fun w' => OneD w' g O w2.heap.size ⟨#[112]⟩ L (fun _ => false) false (-1) [] 0 0)) := by
    rw [← hL]
    exact D2.out.write_ok (by omega) 0 A1 n c1 (l1.take n) ((HG1.out.rd.below B2.out).take n (by have := HN.out; omega)) (HG1.out.fit.take _) (by have := HG1.out.le; have := HN.out; omega) HG1.out.max (HAO.out A1 n _ (HG1.out.rd.take n (by have := HN.out; omega))) (by rw [L0.out]; have := HN.out; omega)
  clear hL h1l
  go_wp2_with fail
  refine W3.out.mono ?_
  rintro e w3 ⟨rfl, hD3, ht3⟩
  have D3 := Lib.hid hD3
  have B3 := Lib.hid (below_touch B2.out ht3 HO.out B2.out.size)
  clear hD3 ht3
  go_wp2_with fail
  refine (D3.out.read_ok 0 n (by rw [HLL.out]; omega) (no_bad _ _) (by omega) (by have := HN.out; omega)).mono ?_
  rintro e w4 ⟨r4, rfl, hr4, hK4, hD4, ht4⟩
  rw [drop_take_all HLL.out] at hK4
  have N4 := Lib.hid (D3.out.new hr4)
  have K4 := Lib.hid hK4
  have D4 := Lib.hid hD4
  have B4 := Lib.hid (below_touch B3.out (ht4.wider (G := O) (fun b hb => by rw [List.mem_singleton.1 hb]; exact D3.out.own)) HO.out B3.out.size)
  have HF : Hid (Fit 256 L) := D3.out.fit
  clear hr4 hK4 hD4 ht4 hup
  have h3len : l3.length = n3 := HG3.out.rd.1
  obtain ⟨M, hM⟩ : ∃ M, stored L U l3 a = M := ⟨_, rfl⟩
  have hHN := HN.out
  have hHH := HH.out
  have hro : TOk (a : Nat) (U : Nat) (n3 : Nat) := by unfold TOk; omega
  have hst := stored_last (l := L) (bs := l3) (U := U) (a := a) (by rw [HLL.out]; omega) (by rw [HLL.out, h3len]; omega)
  have hlen := stored_length (l := L) (bs := l3) (U := U) (a := a) (by rw [HLL.out]; omega) (by rw [HLL.out, h3len]; omega)
  have hbl := stored_blob (l := L) (bs := l3) (U := U) (a := a) (by rw [HLL.out]; omega) (by rw [HLL.out, h3len]; omega) (by rw [h3len]; exact hro)
  have htk := stored_take (l := L) (bs := l3) (U := U) (a := a) (by rw [HLL.out]; omega) (by rw [HLL.out, h3len]; omega) (by omega)
  have W5 : Hid (Calls Try.prog 21 #[.pointer (some ⟨g, 0, none⟩), .string ⟨#[112]⟩, .int .i64 (a : Int), .slice A3 n3 c3] w4 (Goes w4 O (.int .i64 0) fun w' => OneD w' g O w2.heap.size ⟨#[112]⟩ M (fun _ => false) false (-1) [] (0 + 1) (0 + n))) := by
    rw [← hM]
    exact D4.out.store_ok (by omega) A3 n3 c3 l3 (HG3.out.rd.below B4.out) HG3.out.fit HG3.out.le HG3.out.max (HAO.out A3 n3 _ HG3.out.rd) (by omega) (by omega) a U hHH.2.2.2.2 (by rw [HLL.out]; omega)
  rw [hM] at hst hlen hbl htk
  rw [h3len] at hst
  rw [HLL.out] at hlen
  have HLV := Lib.hid (vals_of hst hro)
  have HLY : Hid (∀ er, LoadL (fun _ => false) M er → er = 0) := fun er h => load_yes hst hro (by omega) h
  have HML := Lib.hid hlen
  have HBL := Lib.hid hbl
  have HTK := Lib.hid htk
  clear hst hlen hbl htk hM hro hHN hHH h3len
  go_wp2_with fail
  refine W5.out.mono ?_
  rintro e w5 ⟨rfl, hD5, ht5⟩
  have D5 := Lib.hid hD5
  have B5 := Lib.hid (below_touch B4.out ht5 HO.out B4.out.size)
  have K5 := Lib.hid (K4.out.touch ht5 N4.out)
  clear hD5 ht5
  go_wp2_with fail
  refine (D5.out.read_ok 0 n (by rw [HML.out]; omega) (no_bad _ _) (by omega) (by have := HN.out; omega)).mono ?_
  rintro e w6 ⟨r6, rfl, hr6, hK6, hD6, ht6⟩
  rw [drop_take_all HML.out] at hK6
  have N6 := Lib.hid (D5.out.new hr6)
  have K6 := Lib.hid hK6
  have D6 := Lib.hid hD6
  have B6 := Lib.hid (below_touch B5.out (ht6.wider (G := O) (fun b hb => by rw [List.mem_singleton.1 hb]; exact D5.out.own)) HO.out B5.out.size)
  have K4b := Lib.hid (K5.out.touch (ht6.wider (G := O) (fun b hb => by rw [List.mem_singleton.1 hb]; exact D5.out.own)) N4.out)
  clear hr6 hK6 hD6 ht6
  go_wp2_with fail
  refine (D6.out.load (by omega) (by have := HN.out; omega)).mono ?_
  rintro e w7 ⟨c7, t7, hD7, hc7, ht7, hT7, (⟨er, hne, hl, rfl⟩ | ⟨g7, hl, rfl, hg7, hB7⟩)⟩
  · exact absurd (HLY.out er hl) hne
  rw [HLV.out.1, HLV.out.2.1, HLV.out.2.2]
  rw [HBL.out] at hB7
  have B7 := Lib.hid (below_touch B6.out hT7 HO.out B6.out.size)
  have K7 := Lib.hid hB7
  have K4c := Lib.hid (K4b.out.touch hT7 N4.out)
  have K6c := Lib.hid (K6.out.touch hT7 N6.out)
  clear hD7 hc7 ht7 hT7 hl hg7 hB7
  have H3 : Hid (Below w7.heap.size w7 (w7.alloc (.cells #[.int .i64 0, .int .i64 0, .int .i64 0] 23)) ∧ Blk (w7.alloc (.cells #[.int .i64 0, .int .i64 0, .int .i64 0] 23)) w7.heap.size 23 tz) := ⟨(Below.refl _ _).alloc (Nat.le_refl _) _, Blk.new w7 _ tz⟩
  go_wp2_with ((with_reducible refine at_dst none ?_); refine stopper ?_)
  refine ⟨?_, trivial⟩
  refine wpList_storeBlk (op := ⟨none, _, _, _, _, _⟩) rfl 23 (.tmp 16) (.tmp 111) rfl (g := w7.heap.size) (t := 23) (old := tz) (cs := tcells (a : Nat) (U : Nat) (n3 : Nat)) rfl rfl H3.out.2 rfl iT (tcells_one _ _ _) ?_
  intro u0 hU0 hT0
  have HT0 := Lib.hid hT0
  clear hT0
  have HBU : Hid (Below W.heap.size W u0) := (B7.out.trans (H3.out.1.mono B7.out.size)).trans (HT0.out.below (fun y hy => by rw [List.mem_singleton.1 hy]; exact B7.out.size) (Nat.le_trans B7.out.size H3.out.1.size))
  have KX : ∀ {x : Nat} {cs : List Value}, Blk w7 x 5 cs → Blk u0 x 5 cs := fun {x} {cs} h => (h.below H3.out.1 h.lt).touch HT0.out (by have := h.lt; simp; omega)
  have k4 := KX K4c.out
  have k6 := KX K6c.out
  have k7 := KX K7.out
  have c0 : u0.cell? ⟨w7.heap.size, 0, none⟩ = some (.int .i64 (a : Nat)) := hU0.cell 0
  have hrd3 := HG3.out.rd.below HBU.out
  have q1 := fun m => rd_str ((k7.rd n3 HG3.out.rd.1).drewN m) n3
  have q2 := fun m => rd_str (hrd3.drewN m) c3
  have hle : a ≤ n := by have := HN.out; have := HH.out; omega
  have q3 := fun m => rd_str (((k6.rd n HML.out).take a hle).drewN m) n
  have q4 := fun m => rd_str (((k4.rd n HLL.out).take a hle).drewN m) n
  rw [HTK.out] at q3
  have s1 := fun m => run_upto (some ⟨r6, 0, none⟩) n n a hle (u0.drewN m)
  have s2 := fun m => run_upto (some ⟨r4, 0, none⟩) n n a hle (u0.drewN m)
  have e1 : ((str l3).toList == (str l3).toList) = true := beq_self_eq_true _
  have e2 : ((str (L.take a)).toList == (str (L.take a)).toList) = true := beq_self_eq_true _
  generalize str l3 = G1 at q1 q2 e1
  generalize str (L.take a) = G2 at q3 q4 e2
  clear hrd3 k4 k6 k7 KX hU0
  go_wp2_with fail
  go_quiet (fail)
  go_wp2
  go_ret
  exact ⟨rfl, below_drewN HBU.out _⟩
theorem stores_walk (z : Int) (A1 : Option Addr) (n1 c1 : Nat) (l1 : List Nat) (dt : Int) (A3 : Option Addr) (n3 c3 : Nat) (l3 : List Nat) (W : World) (hz : I64 z) (g1 : Bs W A1 n1 c1 l1) (hd : I64 dt) (g3 : Bs W A3 n3 c3 l3) : StoresWalk z A1 n1 c1 dt A3 n3 c3 W := by
  unfold I64 at hz hd
  by_cases hb : 2000 < z ∨ 2000 < n1 ∨ 3000 < n3
  · exact stores_big z A1 n1 c1 dt A3 n3 c3 W hb
  have hb1 : ¬ 2000 < z := by omega
  have hb2 : n1 ≤ 2000 := by omega
  have hb3 : n3 ≤ 3000 := by omega
  cases hs : sizeOk z with
  | false => exact stores_nil z A1 n1 c1 dt A3 n3 c3 W hb1 (by omega) (by omega) hs
  | true =>
    obtain ⟨n, rfl⟩ : ∃ n : Nat, z = n := ⟨z.toNat, by unfold sizeOk at hs; simp at hs; omega⟩
    have hn : n ≤ 2000 := by omega
    by_cases hk : n < n1
    · by_cases h5 : dt < 0
      · exact stores_form_neg_b n A1 n1 c1 l1 dt A3 n3 c3 l3 W hs hn g1 hb2 g3 hb3 hk h5
      · by_cases h6 : (n3 : Int) < 1
        · exact stores_form_none_b n A1 n1 c1 l1 dt A3 n3 c3 l3 W hs hn g1 hb2 g3 hb3 hk h5 h6
        · obtain ⟨a, rfl⟩ : ∃ a : Nat, dt = a := ⟨dt.toNat, by omega⟩
          by_cases hr : up a + n3 ≤ n - 64
          · exact stores_ok_b n A1 n1 c1 l1 a A3 n3 c3 l3 W hs hn g1 hb2 g3 hb3 hk (by omega) hr
          · by_cases h7 : (1048576 : Int) < (a : Int)
            · exact stores_full_far_b n A1 n1 c1 l1 a A3 n3 c3 l3 W hs hn g1 hb2 g3 hb3 hk (by omega) (by omega) hr h7
            · exact stores_full_room_b n A1 n1 c1 l1 a A3 n3 c3 l3 W hs hn g1 hb2 g3 hb3 hk (by omega) (by omega) hr h7
    · by_cases h5 : dt < 0
      · exact stores_form_neg_a n A1 n1 c1 l1 dt A3 n3 c3 l3 W hs hn g1 hb2 g3 hb3 hk h5
      · by_cases h6 : (n3 : Int) < 1
        · exact stores_form_none_a n A1 n1 c1 l1 dt A3 n3 c3 l3 W hs hn g1 hb2 g3 hb3 hk h5 h6
        · obtain ⟨a, rfl⟩ : ∃ a : Nat, dt = a := ⟨dt.toNat, by omega⟩
          by_cases hr : up a + n3 ≤ n - 64
          · exact stores_ok_a n A1 n1 c1 l1 a A3 n3 c3 l3 W hs hn g1 hb2 g3 hb3 hk (by omega) hr
          · by_cases h7 : (1048576 : Int) < (a : Int)
            · exact stores_full_far_a n A1 n1 c1 l1 a A3 n3 c3 l3 W hs hn g1 hb2 g3 hb3 hk (by omega) (by omega) hr h7
            · exact stores_full_room_a n A1 n1 c1 l1 a A3 n3 c3 l3 W hs hn g1 hb2 g3 hb3 hk (by omega) (by omega) hr h7
end Go.Proofs.Ythepbadecpnepaa
