/-
  TailLoads: what is loaded of a partition with any bytes is the document's, or the first error. No condition but what the statement says.
-/
import Derived.Test.YthepbadecpnepaaLLoadsH
namespace Go.Proofs.Ythepbadecpnepaa
open Go.RowKit Go.MapKept
set_option linter.unusedVariables false
set_option linter.unusedSimpArgs false
set_option maxRecDepth 100000

set_option maxHeartbeats 4000000 in
theorem loads_some_b (n r : Nat) (hrn : r + 64 = n) (h64 : n % 64 = 0) (A1 : Option Addr) (n1 c1 : Nat) (l1 : List Nat) (A2 : Option Addr) (n2 c2 : Nat) (l2 : List Nat) (k : Int) (W : World) (hz : sizeOk (n : Int) = true) (hn : n ≤ 2000) (g1 : Bs W A1 n1 c1 l1) (hn1 : n1 ≤ 2000) (g2 : Bs W A2 n2 c2 l2) (hn2 : n2 ≤ 64) (hk : n < n1) : LoadsWalk (n : Int) A1 n1 c1 A2 n2 c2 k W := by
  have z1 : ¬ (2000 : Int) < (n : Int) := by omega
  have z2 : ¬ (2000 : Int) < (n1 : Int) := by omega
  have z3 : ¬ (64 : Int) < (n2 : Int) := by omega
  have hr64 : (n : Int) - 64 = (r : Int) := by omega
  have hup := fun w => run_upto A1 n1 c1 n (by have := g1.le; omega) w
  have HZ := Lib.hid hz
  have HG1 := Lib.hid g1
  have HG2 := Lib.hid g2
  have HN : Hid (n ≤ 2000 ∧ n1 ≤ 2000 ∧ n2 ≤ 64 ∧ n ≤ n ∧ n ≤ n1 ∧ r + 64 = n ∧ n % 64 = 0) := ⟨hn, hn1, hn2, by omega, by omega, hrn, h64⟩
  clear hz hn hn1 hn2 g1 g2 hrn h64
  go_enter Try.func5, Try.ntmps5
  go_wp2_with fail
  refine (anchor_any W).mono ?_
  rintro e w1 ⟨rfl, hb1⟩
  go_wp2_with fail
  refine (made_yes (n : Int) w1 HZ.out).mono ?_
  rintro e w2 ⟨g, O, rfl, hD, hO, hb2⟩
  have D2 := Lib.hid hD
  have HO : Hid (∀ b ∈ O, W.heap.size ≤ b) := fun b hb => Nat.le_trans hb1.size (hO b hb)
  have B2 : Hid (Below W.heap.size W w2) := hb1.trans (hb2.mono hb1.size)
  have HAO : Hid (∀ (a : Option Addr) (k : Nat) (l : List Nat), Rd .u8 W a k l → 0 < k → ∀ ad, a = some ad → ad.block ∉ O) := fun a k l hr hk ad e hm => by
    have h1 := hr.lt hk ad e
    have h2 := HO.out _ hm
    omega
  have NW0 : True := trivial
  have L0 : Hid ((List.replicate (Int.toNat (n : Int)) 0 : List Nat).length = n) := by show _ = _; simp
  clear hD hO hb1 hb2
  obtain ⟨L, hL⟩ : ∃ L, splice (List.replicate (Int.toNat (n : Int)) 0) 0 (l1.take n) = L := ⟨_, rfl⟩
  have h1l : (l1.take n).length = n := by rw [List.length_take, HG1.out.rd.1]; have := HN.out; omega
  have HLL : Hid (L.length = n) := by
    show _ = _
    rw [← hL, length_splice _ _ _ (by rw [L0.out, h1l]; have := HN.out; omega), L0.out]
  have W3 : Hid (Calls Try.prog 17 #[.pointer (some ⟨g, 0, none⟩), .string ⟨#[112]⟩, .int .i64 ((0 : Nat) : Int), .slice A1 n c1] w2 (Goes w2 O (.int .i64 0) fun w' => OneD w' g O w2.heap.size ⟨#[112]⟩ L (fun _ => false) false (-1) [] 0 0)) := by
    rw [← hL]
    exact D2.out.write_ok (by omega) 0 A1 n c1 (l1.take n) ((HG1.out.rd.below B2.out).take n (by have := HN.out; omega)) (HG1.out.fit.take _) (by have := HG1.out.le; have := HN.out; omega) HG1.out.max (HAO.out A1 n _ (HG1.out.rd.take n (by have := HN.out; omega))) (by rw [L0.out]; have := HN.out; omega)
  clear hL h1l
  go_wp2_with fail
  refine W3.out.mono ?_
  rintro e w3 ⟨rfl, hD3, ht3⟩
  have D3 := Lib.hid hD3
  have B3 := Lib.hid (below_touch B2.out ht3 HO.out B2.out.size)
  have hN3 : Hid (w2.heap.size ≤ w3.heap.size) := ht3.size
  clear hD3 ht3 hup
  obtain ⟨M, hM⟩ : ∃ M, splice L r l2 = M := ⟨_, rfl⟩
  have HML : Hid (M.length = n) := by
    show _ = _
    rw [← hM, length_splice _ _ _ (by rw [HLL.out, HG2.out.rd.1]; have := HN.out; omega), HLL.out]
  have W4 : Hid (Calls Try.prog 17 #[.pointer (some ⟨g, 0, none⟩), .string ⟨#[112]⟩, .int .i64 (r : Int), .slice A2 n2 c2] w3 (Goes w3 O (.int .i64 0) fun w' => OneD w' g O w2.heap.size ⟨#[112]⟩ M (fun _ => false) false (-1) [] 0 0)) := by
    rw [← hM]
    exact D3.out.write_ok (by omega) r A2 n2 c2 l2 (HG2.out.rd.below B3.out) HG2.out.fit HG2.out.le HG2.out.max (HAO.out A2 n2 _ HG2.out.rd) (by rw [HLL.out]; have := HN.out; omega)
  clear hM
  go_wp2_with fail
  refine W4.out.mono ?_
  rintro e w4 ⟨rfl, hD4, ht4⟩
  have D4 := Lib.hid hD4
  have B4 := Lib.hid (below_touch B3.out ht4 HO.out B3.out.size)
  have HF : Hid (Fit 256 M) := hD4.fit
  have hN4 : Hid (w2.heap.size ≤ w4.heap.size) := Nat.le_trans hN3.out ht4.size
  clear hD4 ht4
  go_wp2_with fail
  refine (D4.out.read_ok 0 n (by rw [HML.out]; omega) (no_bad _ _) (by omega) (by have := HN.out; omega)).mono ?_
  rintro e w5 ⟨r5, rfl, hr5, hK5, hD5, ht5⟩
  rw [drop_take_all HML.out] at hK5
  have N5 := Lib.hid (D4.out.new hr5)
  have K5 := Lib.hid hK5
  have D5 := Lib.hid hD5
  have B5 := Lib.hid (below_touch B4.out (ht5.wider (G := O) (fun b hb => by rw [List.mem_singleton.1 hb]; exact D4.out.own)) HO.out B4.out.size)
  have hN5 : Hid (w2.heap.size ≤ w5.heap.size) := Nat.le_trans hN4.out ht5.size
  clear hr5 hK5 hD5 ht5 W3 W4 D2 D3 D4 B2 B3 B4
  go_wp2_with fail
  refine (D5.out.bad_any k n HML.out).mono ?_
  rintro e w6 ⟨b6, rfl, hD6, ht6⟩
  have D6 := Lib.hid hD6
  have B6 := Lib.hid (below_touch B5.out ht6 HO.out B5.out.size)
  have K6 := Lib.hid (K5.out.touch ht6 N5.out)
  have NW : Hid (w2.heap.size ≤ w6.heap.size) := by show _ ≤ _; have h1 := hN5.out; have h2 := ht6.size; omega
  clear hD6 ht6 K5 D5 B5
  have hfr : ∀ w : World, (Instr.slice 25 (.slice (some ⟨r5, 0, none⟩) n n) (some (.int .i64 (r : Int))) none none).run Try.prog w = .ok (.slice (some ⟨r5, r, none⟩) 64 64) w := fun w => by
    have h1 := HN.out
    have h2 := run_from (some ⟨r5, 0, none⟩) n n r (by omega) (by omega) (r : Int) rfl w
    rw [if_neg (by omega)] at h2
    rw [h2]
    have e1 : n - r = 64 := by omega
    rw [e1]
    simp [Addr.add]
    exact fun h => h.symm
  have HPT : Hid (∀ w', Blk w' r5 5 (cn .u8 M) → Bs w' (some ⟨r5, r, none⟩) 64 64 (lastOf M)) := fun w' hb => by
    have h1 := HN.out
    have h2 := HML.out
    have e1 : lastOf M = (M.drop r).take 64 := by unfold lastOf; rw [h2, show n - 64 = r from by omega, List.take_of_length_le (by rw [List.length_drop]; omega)]
    exact ⟨hb.rdAt r 64 e1 (by omega), by unfold lastOf; exact HF.out.drop _, by omega, by omega, fun e => by cases e⟩
  go_wp2_with fail
  refine (D6.out.load (by omega) (by have := HN.out; omega)).mono ?_
  rintro e w7 ⟨c7, t7, hD7, hc7, ht7, hT7, (⟨er, hne, hl, rfl⟩ | ⟨g7, hl, rfl, hg7, hB7⟩)⟩
  · have D7 := Lib.hid hD7
    have B7 := Lib.hid (below_touch B6.out hT7 HO.out B6.out.size)
    have K7 := Lib.hid (K6.out.touch hT7 N5.out)
    have HL := Lib.hid hl
    have HE := Lib.hid hne
    clear hD7 hc7 ht7 hT7 hl hne D6 B6 K6
    have H3 : Hid (Below w7.heap.size w7 (w7.alloc (.cells #[.int .i64 0, .int .i64 0, .int .i64 0] 23)) ∧ Blk (w7.alloc (.cells #[.int .i64 0, .int .i64 0, .int .i64 0] 23)) w7.heap.size 23 tz) := ⟨(Below.refl _ _).alloc (Nat.le_refl _) _, Blk.new w7 _ tz⟩
    go_wp2_with ((with_reducible refine at_dst none ?_); refine wpList_storeBlk (op := ⟨none, _, _, _, _, _⟩) rfl 23 (.tmp 13) (.tmp 65) rfl (g := w7.heap.size) (t := 23) (old := tz) (cs := tz) rfl rfl H3.out.2 rfl iT (tz_one) ?_; intro u0 hu0 tu0; have Hu0 := Lib.hid hu0; have Tu0 := Lib.hid tu0; clear tu0 hu0)
    have BU : Hid (Below W.heap.size W u0) := (B7.out.trans (H3.out.1.mono B7.out.size)).trans (Tu0.out.below (fun y hy => by rw [List.mem_singleton.1 hy]; exact B7.out.size) (Nat.le_trans B7.out.size H3.out.1.size))
    have KU := Lib.hid ((K7.out.below H3.out.1 K7.out.lt).touch Tu0.out (by have := K7.out.lt; simp; omega))
    clear B7 K7 D7
    refine (Parse_any (some ⟨r5, r, none⟩) 64 64 (lastOf M) u0 (HPT.out u0 KU.out) (by omega)).mono ?_
    rintro e w8 ⟨a, b, c, rfl, hab, hno, hb8⟩
    have B8 : Hid (Below W.heap.size W w8) := BU.out.trans (hb8.mono BU.out.size)
    have S8 : Hid (w7.heap.size < w8.heap.size) := Nat.lt_of_lt_of_le Hu0.out.lt hb8.size
    have G8 : Hid (Blk w8 w7.heap.size 23 tz) := Hu0.out.below hb8 Hu0.out.lt
    have HAB := Lib.hid hab
    have HNO := Lib.hid hno
    clear hab hno hb8 KU BU Hu0 Tu0 H3
    obtain ⟨X, hX⟩ : ∃ X, w7.heap.size = X := ⟨_, rfl⟩
    rw [hX] at S8 G8
    simp only [hX]
    clear hX
    have H4 : Hid (Below w8.heap.size w8 (w8.alloc (.cells #[.int .i64 0, .int .i64 0, .int .i64 0] 23)) ∧ Blk (w8.alloc (.cells #[.int .i64 0, .int .i64 0, .int .i64 0] 23)) w8.heap.size 23 tz) := ⟨(Below.refl _ _).alloc (Nat.le_refl _) _, Blk.new w8 _ tz⟩
    have hq : ((n : Int) / 64 - 1) = ((r / 64 : Nat) : Int) := by have := HN.out; omega
    obtain ⟨q, hqq⟩ : ∃ q, r / 64 = q := ⟨_, rfl⟩
    rw [hqq] at hq
    by_cases hA : k = (q : Int)
    · obtain rfl : er = 41 := want_bad HML.out HN.out.2.2.2.2.2.1 HN.out.2.2.2.2.2.2 (by rw [hqq]; exact hA) HL.out
      clear HL HE HAB HNO hqq
      go_wp2_with ((with_reducible refine at_dst none ?_); refine wpList_storeBlk (op := ⟨none, _, _, _, _, _⟩) rfl 23 (.tmp 15) (.tmp 73) rfl (g := w8.heap.size) (t := 23) (old := tz) (cs := tcells (a) (b) (c)) rfl rfl H4.out.2 rfl iT (tcells_one _ _ _) ?_; intro u1 hu1 tu1; have Hu1 := Lib.hid hu1; have Tu1 := Lib.hid tu1; clear tu1 hu1; have k3 := (G8.out.below H4.out.1 G8.out.lt).touch Tu1.out (by have := G8.out.lt; simp; omega); have d0 : u1.cell? ⟨X, 0, none⟩ = some (.int .i64 0) := k3.cell 0; have d1 : u1.cell? ⟨X, 1, none⟩ = some (.int .i64 0) := k3.cell 1; have d2 : u1.cell? ⟨X, 2, none⟩ = some (.int .i64 0) := k3.cell 2; have heq := fun w => eqlTT 0 0 0 w; have c1 : u1.cell? ⟨w8.heap.size, 1, none⟩ = some (.int .i64 (b)) := Hu1.out.cell 1; have c2 : u1.cell? ⟨w8.heap.size, 2, none⟩ = some (.int .i64 (c)) := Hu1.out.cell 2; clear k3)
      have BV : Hid (Below W.heap.size W u1) := (B8.out.trans (H4.out.1.mono B8.out.size)).trans (Tu1.out.below (fun y hy => by rw [List.mem_singleton.1 hy]; exact B8.out.size) (Nat.le_trans B8.out.size H4.out.1.size))
      go_ret
      exact ⟨rfl, BV.out⟩

    have hA2 : ¬ k = ((r / 64 : Nat) : Int) := by rw [hqq]; exact hA
    by_cases h0 : terr (lastOf M) = 0
    rotate_left
    · have her : er = terr (lastOf M) := want_err HML.out HN.out.2.2.2.2.2.1 HN.out.2.2.2.2.2.2 hA2 h0 HL.out
      obtain ⟨rfl, rfl, rfl⟩ := HNO.out h0
      rw [← her] at h0
      rw [← her]
      have hne2 : (er != 0) = true := by simpa using h0
      clear HL HE HAB HNO her hqq hA2
      go_wp2_with ((with_reducible refine at_dst none ?_); refine wpList_storeBlk (op := ⟨none, _, _, _, _, _⟩) rfl 23 (.tmp 15) (.tmp 73) rfl (g := w8.heap.size) (t := 23) (old := tz) (cs := tcells (0) (0) (0)) rfl rfl H4.out.2 rfl iT (tcells_one _ _ _) ?_; intro u1 hu1 tu1; have Hu1 := Lib.hid hu1; have Tu1 := Lib.hid tu1; clear tu1 hu1; have k3 := (G8.out.below H4.out.1 G8.out.lt).touch Tu1.out (by have := G8.out.lt; simp; omega); have d0 : u1.cell? ⟨X, 0, none⟩ = some (.int .i64 0) := k3.cell 0; have d1 : u1.cell? ⟨X, 1, none⟩ = some (.int .i64 0) := k3.cell 1; have d2 : u1.cell? ⟨X, 2, none⟩ = some (.int .i64 0) := k3.cell 2; have heq := fun w => eqlTT 0 0 0 w; have c1 : u1.cell? ⟨w8.heap.size, 1, none⟩ = some (.int .i64 (0)) := Hu1.out.cell 1; have c2 : u1.cell? ⟨w8.heap.size, 2, none⟩ = some (.int .i64 (0)) := Hu1.out.cell 2; clear k3)
      have BV : Hid (Below W.heap.size W u1) := (B8.out.trans (H4.out.1.mono B8.out.size)).trans (Tu1.out.below (fun y hy => by rw [List.mem_singleton.1 hy]; exact B8.out.size) (Nat.le_trans B8.out.size H4.out.1.size))
      go_ret
      exact ⟨rfl, BV.out⟩

    obtain ⟨rfl, rfl, rfl⟩ := HAB.out h0
    have hto := (terr_ok h0).1
    unfold TOk at hto
    obtain ⟨a, ha⟩ : ∃ a, ta (lastOf M) = a := ⟨_, rfl⟩
    obtain ⟨b, hb⟩ : ∃ b, tb (lastOf M) = b := ⟨_, rfl⟩
    obtain ⟨c, hc⟩ : ∃ c, tc (lastOf M) = c := ⟨_, rfl⟩
    have hwr := fun hw => want_range HML.out HN.out.2.2.2.2.2.1 HN.out.2.2.2.2.2.2 hA2 h0 hw HL.out
    have hwl := fun hw => want_last HML.out HN.out.2.2.2.2.2.1 HN.out.2.2.2.2.2.2 hA2 h0 hw HL.out
    rw [ha, hb, hc] at hto ⊢
    rw [hb, hc] at hwr hwl
    rw [h0]
    clear ha hb hc h0 HL HAB HNO hqq hA2
    have hc16 : c ≤ 65536 := by omega
    have hb40 : b ≤ 1099511627776 := by omega
    have hc1 : 1 ≤ c := by omega
    by_cases hw : b + c ≤ r
    · rcases hwl hw with ⟨⟨h1, h2⟩, rfl⟩ | ⟨_, h2⟩
      · have y1 : ¬ (r : Int) < (c : Int) := by omega
        have y2 : ¬ (r : Int) - (c : Int) < (b : Int) := by omega
        have y3 : (b : Int) / 64 ≤ k := by omega
        have y4 : k ≤ ((b : Int) + (c : Int) - 1) / 64 := by omega
        have hr2 : r ≤ 2000 := by have := HN.out; omega
        clear hwr hwl hto HE h1 h2
        go_wp2_with ((with_reducible refine at_dst none ?_); refine wpList_storeBlk (op := ⟨none, _, _, _, _, _⟩) rfl 23 (.tmp 15) (.tmp 73) rfl (g := w8.heap.size) (t := 23) (old := tz) (cs := tcells ((a : Nat)) ((b : Nat)) ((c : Nat))) rfl rfl H4.out.2 rfl iT (tcells_one _ _ _) ?_; intro u1 hu1 tu1; have Hu1 := Lib.hid hu1; have Tu1 := Lib.hid tu1; clear tu1 hu1; have k3 := (G8.out.below H4.out.1 G8.out.lt).touch Tu1.out (by have := G8.out.lt; simp; omega); have d0 : u1.cell? ⟨X, 0, none⟩ = some (.int .i64 0) := k3.cell 0; have d1 : u1.cell? ⟨X, 1, none⟩ = some (.int .i64 0) := k3.cell 1; have d2 : u1.cell? ⟨X, 2, none⟩ = some (.int .i64 0) := k3.cell 2; have heq := fun w => eqlTT 0 0 0 w; have c1 : u1.cell? ⟨w8.heap.size, 1, none⟩ = some (.int .i64 ((b : Nat))) := Hu1.out.cell 1; have c2 : u1.cell? ⟨w8.heap.size, 2, none⟩ = some (.int .i64 ((c : Nat))) := Hu1.out.cell 2; clear k3)
        have BV : Hid (Below W.heap.size W u1) := (B8.out.trans (H4.out.1.mono B8.out.size)).trans (Tu1.out.below (fun y hy => by rw [List.mem_singleton.1 hy]; exact B8.out.size) (Nat.le_trans B8.out.size H4.out.1.size))
        go_ret
        exact ⟨rfl, BV.out⟩

      · exact absurd h2 HE.out
    · obtain rfl : er = 13 := hwr hw
      have hr2 : r ≤ 2000 := by have := HN.out; omega
      by_cases y1 : (r : Int) < (c : Int)
      · clear hwr hwl HE hto
        go_wp2_with ((with_reducible refine at_dst none ?_); refine wpList_storeBlk (op := ⟨none, _, _, _, _, _⟩) rfl 23 (.tmp 15) (.tmp 73) rfl (g := w8.heap.size) (t := 23) (old := tz) (cs := tcells ((a : Nat)) ((b : Nat)) ((c : Nat))) rfl rfl H4.out.2 rfl iT (tcells_one _ _ _) ?_; intro u1 hu1 tu1; have Hu1 := Lib.hid hu1; have Tu1 := Lib.hid tu1; clear tu1 hu1; have k3 := (G8.out.below H4.out.1 G8.out.lt).touch Tu1.out (by have := G8.out.lt; simp; omega); have d0 : u1.cell? ⟨X, 0, none⟩ = some (.int .i64 0) := k3.cell 0; have d1 : u1.cell? ⟨X, 1, none⟩ = some (.int .i64 0) := k3.cell 1; have d2 : u1.cell? ⟨X, 2, none⟩ = some (.int .i64 0) := k3.cell 2; have heq := fun w => eqlTT 0 0 0 w; have c1 : u1.cell? ⟨w8.heap.size, 1, none⟩ = some (.int .i64 ((b : Nat))) := Hu1.out.cell 1; have c2 : u1.cell? ⟨w8.heap.size, 2, none⟩ = some (.int .i64 ((c : Nat))) := Hu1.out.cell 2; clear k3)
        have BV : Hid (Below W.heap.size W u1) := (B8.out.trans (H4.out.1.mono B8.out.size)).trans (Tu1.out.below (fun y hy => by rw [List.mem_singleton.1 hy]; exact B8.out.size) (Nat.le_trans B8.out.size H4.out.1.size))
        go_ret
        exact ⟨rfl, BV.out⟩

      · have y2 : (r : Int) - (c : Int) < (b : Int) := by omega
        clear hwr hwl HE hto
        go_wp2_with ((with_reducible refine at_dst none ?_); refine wpList_storeBlk (op := ⟨none, _, _, _, _, _⟩) rfl 23 (.tmp 15) (.tmp 73) rfl (g := w8.heap.size) (t := 23) (old := tz) (cs := tcells ((a : Nat)) ((b : Nat)) ((c : Nat))) rfl rfl H4.out.2 rfl iT (tcells_one _ _ _) ?_; intro u1 hu1 tu1; have Hu1 := Lib.hid hu1; have Tu1 := Lib.hid tu1; clear tu1 hu1; have k3 := (G8.out.below H4.out.1 G8.out.lt).touch Tu1.out (by have := G8.out.lt; simp; omega); have d0 : u1.cell? ⟨X, 0, none⟩ = some (.int .i64 0) := k3.cell 0; have d1 : u1.cell? ⟨X, 1, none⟩ = some (.int .i64 0) := k3.cell 1; have d2 : u1.cell? ⟨X, 2, none⟩ = some (.int .i64 0) := k3.cell 2; have heq := fun w => eqlTT 0 0 0 w; have c1 : u1.cell? ⟨w8.heap.size, 1, none⟩ = some (.int .i64 ((b : Nat))) := Hu1.out.cell 1; have c2 : u1.cell? ⟨w8.heap.size, 2, none⟩ = some (.int .i64 ((c : Nat))) := Hu1.out.cell 2; clear k3)
        have BV : Hid (Below W.heap.size W u1) := (B8.out.trans (H4.out.1.mono B8.out.size)).trans (Tu1.out.below (fun y hy => by rw [List.mem_singleton.1 hy]; exact B8.out.size) (Nat.le_trans B8.out.size H4.out.1.size))
        go_ret
        exact ⟨rfl, BV.out⟩

  · have h0 : terr (lastOf M) = 0 ∧ (¬ k = ((r / 64 : Nat) : Int)) ∧ tb (lastOf M) + tc (lastOf M) ≤ r := by
      have h1 := HN.out
      have hA2 : ¬ k = ((r / 64 : Nat) : Int) := fun h => by have := want_bad HML.out h1.2.2.2.2.2.1 h1.2.2.2.2.2.2 h hl; cases this
      have h0 : terr (lastOf M) = 0 := Classical.byContradiction fun h => h (want_err HML.out h1.2.2.2.2.2.1 h1.2.2.2.2.2.2 hA2 h hl).symm
      exact ⟨h0, hA2, Classical.byContradiction fun h => by have := want_range HML.out h1.2.2.2.2.2.1 h1.2.2.2.2.2.2 hA2 h0 h hl; cases this⟩
    obtain ⟨h0, hA2, hw⟩ := h0
    have hwl := want_last HML.out HN.out.2.2.2.2.2.1 HN.out.2.2.2.2.2.2 hA2 h0 hw hl
    have hto := (terr_ok h0).1
    unfold TOk at hto
    have HBL : Hid (blobOf M = (M.drop (tb (lastOf M))).take (tc (lastOf M))) := rfl
    rw [HBL.out] at hB7
    obtain ⟨a, ha⟩ : ∃ a, ta (lastOf M) = a := ⟨_, rfl⟩
    obtain ⟨b, hb⟩ : ∃ b, tb (lastOf M) = b := ⟨_, rfl⟩
    obtain ⟨c, hc⟩ : ∃ c, tc (lastOf M) = c := ⟨_, rfl⟩
    have HABC : Hid (ta (lastOf M) = a ∧ tb (lastOf M) = b ∧ tc (lastOf M) = c) := ⟨ha, hb, hc⟩
    rw [hb, hc] at hB7 hw hwl
    rw [ha, hb, hc] at hto ⊢
    have D7 := Lib.hid hD7
    have B7 := Lib.hid (below_touch B6.out hT7 HO.out B6.out.size)
    have K7 := Lib.hid (K6.out.touch hT7 N5.out)
    have R7 := Lib.hid hB7
    have N7 : Hid (w2.heap.size ≤ w7.heap.size) := by obtain ⟨D9, _, hh⟩ := hD7; have := hT7.size; exact Nat.le_trans NW.out this
    have HE0 := Lib.hid h0
    clear hD7 hc7 ht7 hT7 hl D6 B6 K6 HBL hB7 hg7 ha hb hc h0
    have H3 : Hid (Below w7.heap.size w7 (w7.alloc (.cells #[.int .i64 0, .int .i64 0, .int .i64 0] 23)) ∧ Blk (w7.alloc (.cells #[.int .i64 0, .int .i64 0, .int .i64 0] 23)) w7.heap.size 23 tz) := ⟨(Below.refl _ _).alloc (Nat.le_refl _) _, Blk.new w7 _ tz⟩
    go_wp2_with ((with_reducible refine at_dst none ?_); refine wpList_storeBlk (op := ⟨none, _, _, _, _, _⟩) rfl 23 (.tmp 13) (.tmp 65) rfl (g := w7.heap.size) (t := 23) (old := tz) (cs := tcells (a : Nat) (b : Nat) (c : Nat)) rfl rfl H3.out.2 rfl iT (tcells_one _ _ _) ?_; intro u0 hu0 tu0; have Hu0 := Lib.hid hu0; have Tu0 := Lib.hid tu0; clear tu0 hu0)
    have BU : Hid (Below W.heap.size W u0) := (B7.out.trans (H3.out.1.mono B7.out.size)).trans (Tu0.out.below (fun y hy => by rw [List.mem_singleton.1 hy]; exact B7.out.size) (Nat.le_trans B7.out.size H3.out.1.size))
    have KU := Lib.hid ((K7.out.below H3.out.1 K7.out.lt).touch Tu0.out (by have := K7.out.lt; simp; omega))
    have RU := Lib.hid ((R7.out.below H3.out.1 R7.out.lt).touch Tu0.out (by have := R7.out.lt; simp; omega))
    have DU := Lib.hid ((D7.out.below H3.out.1).touch Tu0.out (fun x hx => by rw [List.mem_singleton.1 hx]; exact N7.out))
    clear B7 K7 D7 R7
    refine (Parse_any (some ⟨r5, r, none⟩) 64 64 (lastOf M) u0 (HPT.out u0 KU.out) (by omega)).mono ?_
    rintro e w8 ⟨a8, b8, c8, rfl, hab, hno, hb8⟩
    obtain ⟨rfl, rfl, rfl⟩ := hab HE0.out
    rw [HE0.out, HABC.out.1, HABC.out.2.1, HABC.out.2.2]
    have B8 : Hid (Below W.heap.size W w8) := BU.out.trans (hb8.mono BU.out.size)
    have S8 : Hid (w7.heap.size < w8.heap.size) := Nat.lt_of_lt_of_le Hu0.out.lt hb8.size
    have G8 : Hid (Blk w8 w7.heap.size 23 (tcells (a : Nat) (b : Nat) (c : Nat))) := Hu0.out.below hb8 Hu0.out.lt
    have K8 := Lib.hid (KU.out.below hb8 KU.out.lt)
    have R8 := Lib.hid (RU.out.below hb8 RU.out.lt)
    have D8 := Lib.hid (DU.out.below hb8)
    have N8 : Hid (w2.heap.size ≤ w8.heap.size) := by show _ ≤ _; have h1 := N7.out; have h2 := S8.out; omega
    clear hab hno hb8 KU BU Hu0 Tu0 H3 RU DU N7
    obtain ⟨X, hX⟩ : ∃ X, w7.heap.size = X := ⟨_, rfl⟩
    rw [hX] at S8 G8
    simp only [hX]
    clear hX
    have H4 : Hid (Below w8.heap.size w8 (w8.alloc (.cells #[.int .i64 0, .int .i64 0, .int .i64 0] 23)) ∧ Blk (w8.alloc (.cells #[.int .i64 0, .int .i64 0, .int .i64 0] 23)) w8.heap.size 23 tz) := ⟨(Below.refl _ _).alloc (Nat.le_refl _) _, Blk.new w8 _ tz⟩
    have hq : ((n : Int) / 64 - 1) = ((r / 64 : Nat) : Int) := by have := HN.out; omega
    obtain ⟨q, hqq⟩ : ∃ q, r / 64 = q := ⟨_, rfl⟩
    rw [hqq] at hq hA2
    have hc16 : c ≤ 65536 := by omega
    have hc1 : 1 ≤ c := by omega
    have hr2 : r ≤ 2000 := by have := HN.out; omega
    have y1 : ¬ (r : Int) < (c : Int) := by omega
    have y2 : ¬ (r : Int) - (c : Int) < (b : Int) := by omega
    rcases hwl with ⟨_, hh⟩ | ⟨hns, _⟩
    · cases hh
    have yy : ¬ ((b : Int) / 64 ≤ k) ∨ ((b : Int) / 64 ≤ k ∧ ¬ (k ≤ ((b : Int) + (c : Int) - 1) / 64)) := by omega
    clear hns hto
    obtain ⟨S, hS⟩ : ∃ S, b + c = S := ⟨_, rfl⟩
    have hSI : (b : Int) + (c : Int) = (S : Int) := by omega
    rw [hSI] at yy
    have HSN : Hid (b + c = S ∧ S ≤ r) := ⟨hS, by omega⟩
    clear hS hw hqq
    rcases yy with y3 | ⟨y3, y4⟩
    · go_wp2_with ((with_reducible refine at_dst none ?_); refine wpList_storeBlk (op := ⟨none, _, _, _, _, _⟩) rfl 23 (.tmp 15) (.tmp 73) rfl (g := w8.heap.size) (t := 23) (old := tz) (cs := tcells (a : Nat) (b : Nat) (c : Nat)) rfl rfl H4.out.2 rfl iT (tcells_one _ _ _) ?_; intro u1 hu1 tu1; have Hu1 := Lib.hid hu1; have Tu1 := Lib.hid tu1; clear tu1 hu1; have c1 : u1.cell? ⟨w8.heap.size, 1, none⟩ = some (.int .i64 (b : Nat)) := Hu1.out.cell 1; have c2 : u1.cell? ⟨w8.heap.size, 2, none⟩ = some (.int .i64 (c : Nat)) := Hu1.out.cell 2)
      have BV : Hid (Below W.heap.size W u1) := (B8.out.trans (H4.out.1.mono B8.out.size)).trans (Tu1.out.below (fun y hy => by rw [List.mem_singleton.1 hy]; exact B8.out.size) (Nat.le_trans B8.out.size H4.out.1.size))
      have KV := Lib.hid ((K8.out.below H4.out.1 K8.out.lt).touch Tu1.out (by have := K8.out.lt; simp; omega))
      have RV := Lib.hid ((R8.out.below H4.out.1 R8.out.lt).touch Tu1.out (by have := R8.out.lt; simp; omega))
      have GV := Lib.hid ((G8.out.below H4.out.1 G8.out.lt).touch Tu1.out (by have := G8.out.lt; simp; omega))
      have DV := Lib.hid ((D8.out.below H4.out.1).touch Tu1.out (fun x hx => by rw [List.mem_singleton.1 hx]; exact N8.out))
      have hsz : X < w8.heap.size := S8.out
      clear K8 R8 G8 D8 B8 H4 Tu1
      clear c1 c2
      refine (DV.out.load_part ⟨#[113]⟩ (by decide)).mono ?_
      rintro e w9 ⟨rfl, hb9⟩
      have B9 : Hid (Below W.heap.size W w9) := BV.out.trans (hb9.mono BV.out.size)
      have K9 := Lib.hid (KV.out.below hb9 KV.out.lt)
      have R9 := Lib.hid (RV.out.below hb9 RV.out.lt)
      have G9 := Lib.hid (GV.out.below hb9 GV.out.lt)
      have F9 := Lib.hid (Hu1.out.below hb9 Hu1.out.lt)
      obtain ⟨Y, hY⟩ : ∃ Y, w8.heap.size = Y := ⟨_, rfl⟩
      rw [hY] at F9 hsz
      simp only [hY]
      clear hY hb9 KV RV GV Hu1 BV DV
      have H5 : Hid (Below w9.heap.size w9 (w9.alloc (.cells #[.int .i64 0, .int .i64 0, .int .i64 0] 23)) ∧ Blk (w9.alloc (.cells #[.int .i64 0, .int .i64 0, .int .i64 0] 23)) w9.heap.size 23 tz) := ⟨(Below.refl _ _).alloc (Nat.le_refl _) _, Blk.new w9 _ tz⟩
      go_wp2_with ((with_reducible refine at_dst none ?_); refine stopper ?_)
      refine ⟨?_, trivial⟩
      refine wpList_storeBlk (op := ⟨none, _, _, _, _, _⟩) rfl 23 (.tmp 19) (.tmp 135) rfl (g := w9.heap.size) (t := 23) (old := tz) (cs := tz) rfl rfl H5.out.2 rfl iT tz_one ?_
      intro u2 hu2 tu2
      have Tu2 := Lib.hid tu2
      clear hu2 tu2
      have BX : Hid (Below W.heap.size W u2) := (B9.out.trans (H5.out.1.mono B9.out.size)).trans (Tu2.out.below (fun y hy => by rw [List.mem_singleton.1 hy]; exact B9.out.size) (Nat.le_trans B9.out.size H5.out.1.size))
      have kx := (K9.out.below H5.out.1 K9.out.lt).touch Tu2.out (by have := K9.out.lt; simp; omega)
      have rx := (R9.out.below H5.out.1 R9.out.lt).touch Tu2.out (by have := R9.out.lt; simp; omega)
      have gx := (G9.out.below H5.out.1 G9.out.lt).touch Tu2.out (by have := G9.out.lt; simp; omega)
      have fx := (F9.out.below H5.out.1 F9.out.lt).touch Tu2.out (by have := F9.out.lt; simp; omega)
      have x0 : u2.cell? ⟨X, 0, none⟩ = some (.int .i64 (a : Nat)) := gx.cell 0
      have x1 : u2.cell? ⟨X, 1, none⟩ = some (.int .i64 (b : Nat)) := gx.cell 1
      have x2 : u2.cell? ⟨X, 2, none⟩ = some (.int .i64 (c : Nat)) := gx.cell 2
      have v0 : u2.cell? ⟨Y, 0, none⟩ = some (.int .i64 (a : Nat)) := fx.cell 0
      have v1 : u2.cell? ⟨Y, 1, none⟩ = some (.int .i64 (b : Nat)) := fx.cell 1
      have v2 : u2.cell? ⟨Y, 2, none⟩ = some (.int .i64 (c : Nat)) := fx.cell 2
      have heq := fun m => eqlTT (a : Nat) (b : Nat) (c : Nat) (u2.drewN m)
      have hSN := HSN.out
      have hHN := HN.out
      have q1 := fun m => rd_str ((rx.rd c (by rw [List.length_take, List.length_drop, HML.out]; omega)).drewN m) c
      have q2 := fun m => rd_str ((kx.rdAt b c rfl (by rw [HML.out]; omega)).drewN m) (n - b)
      have o1 : b ≤ S := by omega
      have o2 : S ≤ n := by omega
      have o3 : S - b = c := by omega
      have o4 : ¬ n = b := by omega
      have e1 : ((str ((M.drop b).take c)).toList == (str ((M.drop b).take c)).toList) = true := beq_self_eq_true _
      generalize str ((M.drop b).take c) = G1 at q1 q2 e1
      clear kx rx gx fx hSN hHN
      go_wp2_with fail
      go_quiet (fail)
      go_wp2
      go_ret
      exact ⟨rfl, below_drewN BX.out _⟩

    · go_wp2_with ((with_reducible refine at_dst none ?_); refine wpList_storeBlk (op := ⟨none, _, _, _, _, _⟩) rfl 23 (.tmp 15) (.tmp 73) rfl (g := w8.heap.size) (t := 23) (old := tz) (cs := tcells (a : Nat) (b : Nat) (c : Nat)) rfl rfl H4.out.2 rfl iT (tcells_one _ _ _) ?_; intro u1 hu1 tu1; have Hu1 := Lib.hid hu1; have Tu1 := Lib.hid tu1; clear tu1 hu1; have c1 : u1.cell? ⟨w8.heap.size, 1, none⟩ = some (.int .i64 (b : Nat)) := Hu1.out.cell 1; have c2 : u1.cell? ⟨w8.heap.size, 2, none⟩ = some (.int .i64 (c : Nat)) := Hu1.out.cell 2)
      have BV : Hid (Below W.heap.size W u1) := (B8.out.trans (H4.out.1.mono B8.out.size)).trans (Tu1.out.below (fun y hy => by rw [List.mem_singleton.1 hy]; exact B8.out.size) (Nat.le_trans B8.out.size H4.out.1.size))
      have KV := Lib.hid ((K8.out.below H4.out.1 K8.out.lt).touch Tu1.out (by have := K8.out.lt; simp; omega))
      have RV := Lib.hid ((R8.out.below H4.out.1 R8.out.lt).touch Tu1.out (by have := R8.out.lt; simp; omega))
      have GV := Lib.hid ((G8.out.below H4.out.1 G8.out.lt).touch Tu1.out (by have := G8.out.lt; simp; omega))
      have DV := Lib.hid ((D8.out.below H4.out.1).touch Tu1.out (fun x hx => by rw [List.mem_singleton.1 hx]; exact N8.out))
      have hsz : X < w8.heap.size := S8.out
      clear K8 R8 G8 D8 B8 H4 Tu1
      clear c1 c2
      refine (DV.out.load_part ⟨#[113]⟩ (by decide)).mono ?_
      rintro e w9 ⟨rfl, hb9⟩
      have B9 : Hid (Below W.heap.size W w9) := BV.out.trans (hb9.mono BV.out.size)
      have K9 := Lib.hid (KV.out.below hb9 KV.out.lt)
      have R9 := Lib.hid (RV.out.below hb9 RV.out.lt)
      have G9 := Lib.hid (GV.out.below hb9 GV.out.lt)
      have F9 := Lib.hid (Hu1.out.below hb9 Hu1.out.lt)
      obtain ⟨Y, hY⟩ : ∃ Y, w8.heap.size = Y := ⟨_, rfl⟩
      rw [hY] at F9 hsz
      simp only [hY]
      clear hY hb9 KV RV GV Hu1 BV DV
      have H5 : Hid (Below w9.heap.size w9 (w9.alloc (.cells #[.int .i64 0, .int .i64 0, .int .i64 0] 23)) ∧ Blk (w9.alloc (.cells #[.int .i64 0, .int .i64 0, .int .i64 0] 23)) w9.heap.size 23 tz) := ⟨(Below.refl _ _).alloc (Nat.le_refl _) _, Blk.new w9 _ tz⟩
      go_wp2_with ((with_reducible refine at_dst none ?_); refine stopper ?_)
      refine ⟨?_, trivial⟩
      refine wpList_storeBlk (op := ⟨none, _, _, _, _, _⟩) rfl 23 (.tmp 19) (.tmp 135) rfl (g := w9.heap.size) (t := 23) (old := tz) (cs := tz) rfl rfl H5.out.2 rfl iT tz_one ?_
      intro u2 hu2 tu2
      have Tu2 := Lib.hid tu2
      clear hu2 tu2
      have BX : Hid (Below W.heap.size W u2) := (B9.out.trans (H5.out.1.mono B9.out.size)).trans (Tu2.out.below (fun y hy => by rw [List.mem_singleton.1 hy]; exact B9.out.size) (Nat.le_trans B9.out.size H5.out.1.size))
      have kx := (K9.out.below H5.out.1 K9.out.lt).touch Tu2.out (by have := K9.out.lt; simp; omega)
      have rx := (R9.out.below H5.out.1 R9.out.lt).touch Tu2.out (by have := R9.out.lt; simp; omega)
      have gx := (G9.out.below H5.out.1 G9.out.lt).touch Tu2.out (by have := G9.out.lt; simp; omega)
      have fx := (F9.out.below H5.out.1 F9.out.lt).touch Tu2.out (by have := F9.out.lt; simp; omega)
      have x0 : u2.cell? ⟨X, 0, none⟩ = some (.int .i64 (a : Nat)) := gx.cell 0
      have x1 : u2.cell? ⟨X, 1, none⟩ = some (.int .i64 (b : Nat)) := gx.cell 1
      have x2 : u2.cell? ⟨X, 2, none⟩ = some (.int .i64 (c : Nat)) := gx.cell 2
      have v0 : u2.cell? ⟨Y, 0, none⟩ = some (.int .i64 (a : Nat)) := fx.cell 0
      have v1 : u2.cell? ⟨Y, 1, none⟩ = some (.int .i64 (b : Nat)) := fx.cell 1
      have v2 : u2.cell? ⟨Y, 2, none⟩ = some (.int .i64 (c : Nat)) := fx.cell 2
      have heq := fun m => eqlTT (a : Nat) (b : Nat) (c : Nat) (u2.drewN m)
      have hSN := HSN.out
      have hHN := HN.out
      have q1 := fun m => rd_str ((rx.rd c (by rw [List.length_take, List.length_drop, HML.out]; omega)).drewN m) c
      have q2 := fun m => rd_str ((kx.rdAt b c rfl (by rw [HML.out]; omega)).drewN m) (n - b)
      have o1 : b ≤ S := by omega
      have o2 : S ≤ n := by omega
      have o3 : S - b = c := by omega
      have o4 : ¬ n = b := by omega
      have e1 : ((str ((M.drop b).take c)).toList == (str ((M.drop b).take c)).toList) = true := beq_self_eq_true _
      generalize str ((M.drop b).take c) = G1 at q1 q2 e1
      clear kx rx gx fx hSN hHN
      go_wp2_with fail
      go_quiet (fail)
      go_wp2
      go_ret
      exact ⟨rfl, below_drewN BX.out _⟩

end Go.Proofs.Ythepbadecpnepaa
