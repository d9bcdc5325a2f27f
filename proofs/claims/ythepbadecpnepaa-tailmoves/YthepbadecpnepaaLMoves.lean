/-
  TailMoves: a blob that is stored again is the one that is loaded; other partitions have theirs. No condition but what the statement says.
-/
import Derived.Test.YthepbadecpnepaaM2
namespace Go.Proofs.Ythepbadecpnepaa
open Go.RowKit Go.MapKept
set_option linter.unusedVariables false
set_option linter.unusedSimpArgs false
set_option maxRecDepth 100000

abbrev MovesWalk (A : Option Addr) (n c : Nat) (B : Option Addr) (nb cb : Nat) (W : World) : Prop := Calls Try.prog 7 #[.slice A n c, .slice B nb cb] W fun e w' => e = .returned (.bool true) ∧ Below W.heap.size W w'
theorem moves_big (A : Option Addr) (n c : Nat) (B : Option Addr) (nb cb : Nat) (W : World) (hn : 20 < n) : MovesWalk A n c B nb cb W := by
  have z1 : (20 : Int) < (n : Int) := by omega
  go_enter Try.func7, Try.ntmps7
  go_wp2_with fail
  refine (anchor_any W).mono ?_
  rintro e w1 ⟨rfl, hb1⟩
  go_wp2
  go_ret
  exact ⟨rfl, hb1⟩
def other : List Nat := [111, 116, 104, 101, 114]
theorem other_fit : Fit 256 other := by unfold Fit other; decide
theorem LastIs.some {w : World} {la : Option Addr} {ln lc : Nat} {l1 : List Nat} (h : LastIs w la ln lc l1) (hn : la ≠ none) : ∃ ad lb a U, la = some ad ∧ Bs w la ln lc lb ∧ lastOf l1 = tbytes a U ln ∧ TOk (a : Nat) (U : Nat) (ln : Nat) ∧ U + ln ≤ 960 ∧ blobOf l1 = lb := by
  rcases h.2 with h | h
  · exact absurd h.1 hn
  · exact h
/-- What is stored is what was stored last. -/
theorem LastIs.next {w : World} {A : Option Addr} {n c : Nat} {l l1 : List Nat} {ad : Addr} (hl : l1.length = 1024) (h : Bs w A n c l) (hA : A = Option.some ad) (h1 : 1 ≤ n) (h2 : n ≤ 65536) (a U : Nat) (hU : up a = U) (hr : U + n ≤ l1.length - 64) : LastIs w A n c (stored l1 U l a) := by
  have hn := h.rd.1
  have hu := up_le a
  rw [hU] at hu
  have ht : TOk (a : Nat) (U : Nat) (n : Nat) := by unfold TOk; omega
  refine ⟨by rw [stored_length (by omega) (by omega)]; exact hl, .inr ⟨ad, l, a, U, hA, h, ?_, ht, by omega, stored_blob (by omega) (by omega) (by rw [hn]; exact ht)⟩⟩
  rw [stored_last (by omega) (by omega), hn]
set_option maxHeartbeats 4000000 in
theorem moves_some (A : Option Addr) (n c : Nat) (f : Nat → Tx) (B : Option Addr) (nb cb : Nat) (fi : Nat → Int) (W : World) (hn : n ≤ 20) (gt : Txs W A n c f) (gi : Is W B nb cb fi) : MovesWalk A n c B nb cb W := by
  have z1 : ¬ (20 : Int) < (n : Int) := by omega
  have HN : Hid (n ≤ 20) := hn
  have HT := Lib.hid gt
  have HI := Lib.hid gi
  clear gt gi
  have kc := fun (w : World) (C : Array Value) (n c : Nat) => Lib.run_convert_bytes_const (P := Try.prog) w 25 5 C n c Try.underlying25 Try.underlying5
  go_enter Try.func7, Try.ntmps7
  go_wp2_with fail
  refine (anchor_any W).mono ?_
  rintro e w1 ⟨rfl, hb1⟩
  have B1 := Lib.hid hb1
  clear hb1
  go_wp2_with fail
  have HS1 := Lib.hid (two_src w1)
  have B2 := Lib.hid (B1.out.alloc B1.out.size (.cells #[.string ⟨#[112]⟩, .int .i64 1024, .string ⟨#[113]⟩, .int .i64 256] 50))
  generalize w1.alloc (.cells #[.string ⟨#[112]⟩, .int .i64 1024, .string ⟨#[113]⟩, .int .i64 256] 50) = w2 at *
  refine (New_two _ w2 HS1.out).mono ?_
  rintro e w3 ⟨g, O, rfl, hD, hO, hb3⟩
  have HO : Hid (∀ b ∈ O, W.heap.size ≤ b) := fun b hb => Nat.le_trans B2.out.size (hO b hb)
  have B3 := Lib.hid (B2.out.trans (hb3.mono B2.out.size))
  have HAO : Hid (∀ (a : Option Addr) (k : Nat) (l : List Nat), Rd .u8 W a k l → 0 < k → ∀ ad, a = some ad → ad.block ∉ O) := fun a k l hr hk ad e hm => by
    have h1 := hr.lt hk ad e
    have h2 := HO.out _ hm
    omega
  have D3 := Lib.hid hD
  clear hD hO hb3 B1
  go_wp2_with fail
  have R4 : Hid (Rd .u8 (w3.alloc (.cells #[.int .u8 111, .int .u8 116, .int .u8 104, .int .u8 101, .int .u8 114] 5 (5, 6))) (some ⟨w3.heap.size, 0, none⟩) 5 other) := rd_alloc13 w3 other (5, 6) _ rfl 5 rfl
  have B4 := Lib.hid (B3.out.alloc B3.out.size (.cells #[.int .u8 111, .int .u8 116, .int .u8 104, .int .u8 101, .int .u8 114] 5 (5, 6)))
  have D4 := Lib.hid (D3.out.below ((Below.refl _ _).alloc (Nat.le_refl _) (.cells #[.int .u8 111, .int .u8 116, .int .u8 104, .int .u8 101, .int .u8 114] 5 (5, 6))))
  have N4 : Hid (w3.heap.size ≤ (w3.alloc (.cells #[.int .u8 111, .int .u8 116, .int .u8 104, .int .u8 101, .int .u8 114] 5 (5, 6))).heap.size) := by show _ ≤ _; simp
  have F4 : Hid (0 < 5 → ∀ ad, (some ⟨w3.heap.size, 0, none⟩ : Option Addr) = some ad → ad.block ∉ O) := fun _ ad e hm => by
    injection e with e
    have := D3.out.lt ad.block hm
    rw [← e] at this
    exact absurd this (Nat.lt_irrefl _)
  generalize w3.alloc (.cells #[.int .u8 111, .int .u8 116, .int .u8 104, .int .u8 101, .int .u8 114] 5 (5, 6)) = w4 at *
  obtain ⟨N, hN⟩ : ∃ N, w3.heap.size = N := ⟨_, rfl⟩
  have hros : TOk (5 : Nat) (64 : Nat) (5 : Nat) := by unfold TOk; omega
  have hq1 := stored_last (l := List.replicate 256 0) (bs := other) (U := 64) (a := 5) (by simp) (by simp [other])
  have hq2 := stored_length (l := List.replicate 256 0) (bs := other) (U := 64) (a := 5) (by simp) (by simp [other])
  have hq3 := stored_blob (l := List.replicate 256 0) (bs := other) (U := 64) (a := 5) (by simp) (by simp [other]) hros
  have W5 := Lib.hid (D4.out.store_q (some ⟨w3.heap.size, 0, none⟩) 5 5 other R4.out other_fit (by omega) (by omega) F4.out (by omega) (by omega) 5 64 rfl (by simp))
  obtain ⟨Q, hQ⟩ : ∃ Q, stored (List.replicate 256 0) 64 other 5 = Q := ⟨_, rfl⟩
  rw [hQ] at hq1 hq2 hq3 W5
  have HQV := Lib.hid (vals_of (a := 5) (b := 64) (c := 5) hq1 hros)
  have HQY : Hid (∀ er, LoadL (fun _ => false) Q er → er = 0) := fun er h => load_yes (a := 5) (b := 64) (c := 5) hq1 hros (by rw [hq2]; simp) h
  have HQB : Hid (blobOf Q = other) := hq3
  have HLS0 : Hid (LastIs W none 0 0 (List.replicate 1024 0)) := ⟨by simp, .inl ⟨rfl, rfl, rfl, fun er h => fresh_no h⟩⟩
  clear hq1 hq2 hq3 hQ
  clear kc
  refine W5.out.mono ?_
  rintro e w5 ⟨rfl, hD5, ht5⟩
  have D5 := Lib.hid hD5
  have B5 := Lib.hid (below_touch B4.out ht5 HO.out B4.out.size)
  have N5 : Hid (N ≤ w5.heap.size) := by show _ ≤ _; rw [← hN]; exact Nat.le_trans N4.out ht5.size
  rw [hN] at D5
  obtain ⟨Z1, hZ1⟩ : ∃ Z1 : List Nat, List.replicate 1024 0 = Z1 := ⟨_, rfl⟩
  rw [hZ1] at D5 HLS0
  clear hZ1 hD5 ht5 W5 D3 D4 R4 F4 HS1 B2 B3 B4 N4
  simp only [hN]
  clear hN
  go_wp2
  go_loopw [4, 7, 44] (fun s4 s7 si wr => ∃ (i : Nat) (la : Option Addr) (ln lc : Nat) (l1 : List Nat), s4 = .bool false ∧ si = .int .i64 (i : Int) ∧ s7 = .slice la ln lc ∧ i ≤ n ∧ Hid (LastIs W la ln lc l1) ∧ Hid (TwoD wr g O N l1 Q i) ∧ Hid (Below W.heap.size W wr) ∧ Hid (N ≤ wr.heap.size)) (fun _ _ i _ => n - (intOf i).toNat)
  case atStart => exact ⟨0, none, 0, 0, Z1, rfl, rfl, rfl, Nat.zero_le _, HLS0, D5, B5, N5⟩
  case round =>
    obtain ⟨i, la, ln, lc, l1, rfl, rfl, rfl, hin, HLS, DK, BK, NK⟩ := hrel
    clear D5 B5 HLS0 N5
    by_cases hlt : i < n
    · have zlt : (i : Int) < (n : Int) := by omega
      obtain ⟨ad, rfl, had, hcell, hbs⟩ := HT.out.each i hlt
      generalize f i = t at *
      obtain ⟨rA, rn, rc, rl⟩ := t
      simp only [] at hcell hbs
      have HR := Lib.hid hbs
      have c1 := (BK.out.cell (p := ad.add i) (by rw [block_add]; exact had)).trans hcell
      clear hcell hbs
      by_cases h2 : 2000 < rn
      · have zr : (2000 : Int) < (rn : Int) := by omega
        go_wp2
        go_ret
        exact ⟨rfl, BK.out⟩
      have zr : ¬ (2000 : Int) < (rn : Int) := by omega
      have hr2 : rn ≤ 2000 := by omega
      clear h2
      by_cases hj : i < nb
      · have zj : (i : Int) < (nb : Int) := by omega
        obtain ⟨bd, rfl, hbd, hI, hcb⟩ := HI.out.each i hj
        generalize fi i = dt at *
        have c2 := (BK.out.cell (p := bd.add i) (by rw [block_add]; exact hbd)).trans hcb
        unfold I64 at hI
        clear hcb hbd
        go_wp2_with fail
        by_cases hroom : 0 ≤ dt ∧ 1 ≤ rn ∧ up dt.toNat + rn ≤ l1.length - 64
        · obtain ⟨ra, rfl⟩ : ∃ ra, rA = some ra := by
            obtain ⟨ra, e, _⟩ := HR.out.rd.2 hroom.2.1
            exact ⟨ra, e⟩
          obtain ⟨x, rfl⟩ : ∃ x : Nat, dt = x := ⟨dt.toNat, by omega⟩
          rw [Int.toNat_natCast] at hroom
          obtain ⟨U, hU⟩ : ∃ U, up x = U := ⟨_, rfl⟩
          rw [hU] at hroom
          have HLS2 := Lib.hid (LastIs.next HLS.out.1 HR.out rfl hroom.2.1 (by omega) x U hU hroom.2.2)
          obtain ⟨L, hL⟩ : ∃ L, stored l1 U rl x = L := ⟨_, rfl⟩
          have W6 := Lib.hid (DK.out.store_p (some ra) rn rc rl (HR.out.rd.below BK.out) HR.out.fit HR.out.le HR.out.max (HAO.out (some ra) rn rl HR.out.rd) hroom.2.1 (by omega) x U hU hroom.2.2)
          rw [hL] at W6 HLS2
          obtain ⟨xad, lb, xa, xU, hxa, hbs, hst, hro, hrm, hbl⟩ := HLS2.out.some (fun e => by cases e)
          have hlen := HLS2.out.1
          have HLV := Lib.hid (vals_of hst hro)
          have HLY : Hid (∀ er, LoadL (fun _ => false) L er → er = 0) := fun er h => load_yes hst hro (by omega) h
          have HBT := Lib.hid hbl
          have HBS := Lib.hid hbs
          have zr2 : 1 ≤ rn := hroom.2.1
          clear hroom hU hL hxa hst hro hrm hbl hbs hlen
          refine W6.out.mono ?_
          rintro e w6 ⟨rfl, hD6, ht6⟩
          have D6 := Lib.hid hD6
          have B6 := Lib.hid (below_touch BK.out ht6 HO.out BK.out.size)
          have N6 : Hid (N ≤ w6.heap.size) := Nat.le_trans NK.out ht6.size
          clear hD6 ht6 W6
          go_wp2_with fail
          refine (D6.out.load_p (by have := HN.out; omega)).mono ?_
          rintro e w7 ⟨hD7, hT7, (⟨e7, hn7, hl7, rfl⟩ | ⟨g7, hl7, rfl, hg7, hB7⟩)⟩
          · exact absurd (HLY.out e7 hl7) hn7
          · have D7 := Lib.hid hD7
            have B7 := Lib.hid (below_touch B6.out hT7 HO.out B6.out.size)
            have N7 : Hid (N ≤ w7.heap.size) := Nat.le_trans N6.out hT7.size
            rw [HLV.out.1, HLV.out.2.1, HLV.out.2.2]
            rw [HBT.out] at hB7
            have K7 := Lib.hid hB7
            clear hD7 hT7 hl7 hg7 hB7
            have H3 : Hid (Below w7.heap.size w7 (w7.alloc (.cells #[.int .i64 0, .int .i64 0, .int .i64 0] 23)) ∧ Blk (w7.alloc (.cells #[.int .i64 0, .int .i64 0, .int .i64 0] 23)) w7.heap.size 23 tz) := ⟨(Below.refl _ _).alloc (Nat.le_refl _) _, Blk.new w7 _ tz⟩
            go_wp2_with (first
              | ((with_reducible refine at_dst none ?_); refine wpList_storeBlk (op := ⟨none, _, _, _, _, _⟩) rfl 23 (.tmp 12) (.tmp 70) rfl (g := w7.heap.size) (t := 23) (old := tz) (cs := tcells (xa : Nat) (xU : Nat) (rn : Nat)) rfl rfl H3.out.2 rfl iT (tcells_one _ _ _) ?_; intro u0 hu0 tu0; have Hu0 := Lib.hid hu0; have Tu0 := Lib.hid tu0; clear tu0 hu0; have k7 := (K7.out.below H3.out.1 K7.out.lt).touch Tu0.out (by have := K7.out.lt; simp; omega); have q1 := rd_str (k7.rd rn HBS.out.rd.1) rn; have q2 := rd_str (HBS.out.rd.below (((B7.out.trans (H3.out.1.mono B7.out.size)).trans (Tu0.out.below (fun y hy => by rw [List.mem_singleton.1 hy]; exact B7.out.size) (Nat.le_trans B7.out.size H3.out.1.size))))) rc; have e1 : ((str lb).toList == (str lb).toList) = true := beq_self_eq_true _; have e2 : ((str lb).toList != (str lb).toList) = false := (by simp); clear k7; generalize str lb = G1 at q1 q2 e1 e2)
              | ((with_reducible refine at_dst (some 73) ?_); refine wpList_eqNil (op := ⟨some 73, _, _, _, _, _⟩) rfl (.tmp 72) rfl (some ra) rn rc false rfl rfl ?_)
              | ((with_reducible refine at_dst (some 80) ?_); refine wpList_neNil (op := ⟨some 80, _, _, _, _, _⟩) rfl (.tmp 79) rfl (some ra) rn rc true rfl rfl ?_))
            have BU : Hid (Below W.heap.size W u0) := (B7.out.trans (H3.out.1.mono B7.out.size)).trans (Tu0.out.below (fun y hy => by rw [List.mem_singleton.1 hy]; exact B7.out.size) (Nat.le_trans B7.out.size H3.out.1.size))
            have DU := Lib.hid ((D7.out.below H3.out.1).touch Tu0.out (fun x hx => by rw [List.mem_singleton.1 hx]; exact N7.out))
            have NU : Hid (N ≤ u0.heap.size) := Nat.le_trans N7.out (Nat.le_trans H3.out.1.size Tu0.out.size)
            go_roundw
            case rel => exact ⟨i + 1, (some ra), rn, rc, L, rfl, by go_num, rfl, by omega, HLS2, DU, BU, NU⟩
            case measure => simp [intOf]; omega


        · have W6 := Lib.hid (DK.out.store_no rA rn rc (by omega) dt (by omega) hroom)
          clear hroom
          refine W6.out.mono ?_
          rintro e w6 ⟨e6, hn6, rfl, hb6⟩
          have D6 := Lib.hid (DK.out.below hb6)
          have B6 := Lib.hid (below_then BK.out hb6)
          have N6 : Hid (N ≤ w6.heap.size) := Nat.le_trans NK.out hb6.size
          have y6 : (e6 == 0) = false := by simpa using hn6
          clear hb6 hn6 W6
          rcases HLS.out.2 with ⟨rfl, rfl, rfl, hnl⟩ | ⟨lad, lb, xa, xU, rfl, hbs, hst, hro, hrm, hbl⟩
          · go_wp2_with fail
            refine (D6.out.load_p (by have := HN.out; omega)).mono ?_
            rintro e w7 ⟨hD7, hT7, (⟨e7, hn7, hl7, rfl⟩ | ⟨g7, hl7, rfl, hg7, hB7⟩)⟩
            · have D7 := Lib.hid hD7
              have B7 := Lib.hid (below_touch B6.out hT7 HO.out B6.out.size)
              have N7 : Hid (N ≤ w7.heap.size) := Nat.le_trans N6.out hT7.size
              have y7 : (e7 == 0) = false := by simpa using hn7
              have y8 : (e7 != 0) = true := by simpa using hn7
              clear hD7 hT7 hl7 hn7
              have H3 : Hid (Below w7.heap.size w7 (w7.alloc (.cells #[.int .i64 0, .int .i64 0, .int .i64 0] 23)) ∧ Blk (w7.alloc (.cells #[.int .i64 0, .int .i64 0, .int .i64 0] 23)) w7.heap.size 23 tz) := ⟨(Below.refl _ _).alloc (Nat.le_refl _) _, Blk.new w7 _ tz⟩
              go_wp2_with (first
                | ((with_reducible refine at_dst none ?_); refine wpList_storeBlk (op := ⟨none, _, _, _, _, _⟩) rfl 23 (.tmp 12) (.tmp 70) rfl (g := w7.heap.size) (t := 23) (old := tz) (cs := tz) rfl rfl H3.out.2 rfl iT (tz_one) ?_; intro u0 hu0 tu0; have Hu0 := Lib.hid hu0; have Tu0 := Lib.hid tu0; clear tu0 hu0)
                | ((with_reducible refine at_dst (some 73) ?_); refine wpList_eqNil (op := ⟨some 73, _, _, _, _, _⟩) rfl (.tmp 72) rfl none 0 0 true rfl rfl ?_)
                | ((with_reducible refine at_dst (some 80) ?_); refine wpList_neNil (op := ⟨some 80, _, _, _, _, _⟩) rfl (.tmp 79) rfl none 0 0 false rfl rfl ?_))
              have BU : Hid (Below W.heap.size W u0) := (B7.out.trans (H3.out.1.mono B7.out.size)).trans (Tu0.out.below (fun y hy => by rw [List.mem_singleton.1 hy]; exact B7.out.size) (Nat.le_trans B7.out.size H3.out.1.size))
              have DU := Lib.hid ((D7.out.below H3.out.1).touch Tu0.out (fun x hx => by rw [List.mem_singleton.1 hx]; exact N7.out))
              have NU : Hid (N ≤ u0.heap.size) := Nat.le_trans N7.out (Nat.le_trans H3.out.1.size Tu0.out.size)
              go_roundw
              case rel => exact ⟨i + 1, none, 0, 0, l1, rfl, by go_num, rfl, by omega, HLS, DU, BU, NU⟩
              case measure => simp [intOf]; omega

            · exact absurd rfl (hnl 0 hl7)

          · have hlen := HLS.out.1
            have HLV := Lib.hid (vals_of hst hro)
            have HLY : Hid (∀ er, LoadL (fun _ => false) l1 er → er = 0) := fun er h => load_yes hst hro (by omega) h
            have HBT := Lib.hid hbl
            have HBS := Lib.hid hbs
            clear hst hro hrm hbl hbs hlen
            go_wp2_with fail
            refine (D6.out.load_p (by have := HN.out; omega)).mono ?_
            rintro e w7 ⟨hD7, hT7, (⟨e7, hn7, hl7, rfl⟩ | ⟨g7, hl7, rfl, hg7, hB7⟩)⟩
            · exact absurd (HLY.out e7 hl7) hn7
            · have D7 := Lib.hid hD7
              have B7 := Lib.hid (below_touch B6.out hT7 HO.out B6.out.size)
              have N7 : Hid (N ≤ w7.heap.size) := Nat.le_trans N6.out hT7.size
              rw [HLV.out.1, HLV.out.2.1, HLV.out.2.2]
              rw [HBT.out] at hB7
              have K7 := Lib.hid hB7
              clear hD7 hT7 hl7 hg7 hB7
              have H3 : Hid (Below w7.heap.size w7 (w7.alloc (.cells #[.int .i64 0, .int .i64 0, .int .i64 0] 23)) ∧ Blk (w7.alloc (.cells #[.int .i64 0, .int .i64 0, .int .i64 0] 23)) w7.heap.size 23 tz) := ⟨(Below.refl _ _).alloc (Nat.le_refl _) _, Blk.new w7 _ tz⟩
              go_wp2_with (first
                | ((with_reducible refine at_dst none ?_); refine wpList_storeBlk (op := ⟨none, _, _, _, _, _⟩) rfl 23 (.tmp 12) (.tmp 70) rfl (g := w7.heap.size) (t := 23) (old := tz) (cs := tcells (xa : Nat) (xU : Nat) (ln : Nat)) rfl rfl H3.out.2 rfl iT (tcells_one _ _ _) ?_; intro u0 hu0 tu0; have Hu0 := Lib.hid hu0; have Tu0 := Lib.hid tu0; clear tu0 hu0; have k7 := (K7.out.below H3.out.1 K7.out.lt).touch Tu0.out (by have := K7.out.lt; simp; omega); have q1 := rd_str (k7.rd ln HBS.out.rd.1) ln; have q2 := rd_str (HBS.out.rd.below (((B7.out.trans (H3.out.1.mono B7.out.size)).trans (Tu0.out.below (fun y hy => by rw [List.mem_singleton.1 hy]; exact B7.out.size) (Nat.le_trans B7.out.size H3.out.1.size))))) lc; have e1 : ((str lb).toList == (str lb).toList) = true := beq_self_eq_true _; have e2 : ((str lb).toList != (str lb).toList) = false := (by simp); clear k7; generalize str lb = G1 at q1 q2 e1 e2)
                | ((with_reducible refine at_dst (some 73) ?_); refine wpList_eqNil (op := ⟨some 73, _, _, _, _, _⟩) rfl (.tmp 72) rfl (some lad) ln lc false rfl rfl ?_)
                | ((with_reducible refine at_dst (some 80) ?_); refine wpList_neNil (op := ⟨some 80, _, _, _, _, _⟩) rfl (.tmp 79) rfl (some lad) ln lc true rfl rfl ?_))
              have BU : Hid (Below W.heap.size W u0) := (B7.out.trans (H3.out.1.mono B7.out.size)).trans (Tu0.out.below (fun y hy => by rw [List.mem_singleton.1 hy]; exact B7.out.size) (Nat.le_trans B7.out.size H3.out.1.size))
              have DU := Lib.hid ((D7.out.below H3.out.1).touch Tu0.out (fun x hx => by rw [List.mem_singleton.1 hx]; exact N7.out))
              have NU : Hid (N ≤ u0.heap.size) := Nat.le_trans N7.out (Nat.le_trans H3.out.1.size Tu0.out.size)
              go_roundw
              case rel => exact ⟨i + 1, (some lad), ln, lc, l1, rfl, by go_num, rfl, by omega, HLS, DU, BU, NU⟩
              case measure => simp [intOf]; omega



      · have zj : ¬ (i : Int) < (nb : Int) := by omega
        go_wp2_with fail
        by_cases hroom : (0 : Int) ≤ 0 ∧ 1 ≤ rn ∧ up (0 : Int).toNat + rn ≤ l1.length - 64
        · obtain ⟨ra, rfl⟩ : ∃ ra, rA = some ra := by
            obtain ⟨ra, e, _⟩ := HR.out.rd.2 hroom.2.1
            exact ⟨ra, e⟩
          rw [show (0 : Int).toNat = 0 from rfl] at hroom
          obtain ⟨U, hU⟩ : ∃ U, up 0 = U := ⟨_, rfl⟩
          rw [hU] at hroom
          have HLS2 := Lib.hid (LastIs.next HLS.out.1 HR.out rfl hroom.2.1 (by omega) 0 U hU hroom.2.2)
          obtain ⟨L, hL⟩ : ∃ L, stored l1 U rl 0 = L := ⟨_, rfl⟩
          have W6 := Lib.hid (DK.out.store_p (some ra) rn rc rl (HR.out.rd.below BK.out) HR.out.fit HR.out.le HR.out.max (HAO.out (some ra) rn rl HR.out.rd) hroom.2.1 (by omega) 0 U hU hroom.2.2)
          rw [hL] at W6 HLS2
          obtain ⟨xad, lb, xa, xU, hxa, hbs, hst, hro, hrm, hbl⟩ := HLS2.out.some (fun e => by cases e)
          have hlen := HLS2.out.1
          have HLV := Lib.hid (vals_of hst hro)
          have HLY : Hid (∀ er, LoadL (fun _ => false) L er → er = 0) := fun er h => load_yes hst hro (by omega) h
          have HBT := Lib.hid hbl
          have HBS := Lib.hid hbs
          have zr2 : 1 ≤ rn := hroom.2.1
          clear hroom hU hL hxa hst hro hrm hbl hbs hlen
          refine W6.out.mono ?_
          rintro e w6 ⟨rfl, hD6, ht6⟩
          have D6 := Lib.hid hD6
          have B6 := Lib.hid (below_touch BK.out ht6 HO.out BK.out.size)
          have N6 : Hid (N ≤ w6.heap.size) := Nat.le_trans NK.out ht6.size
          clear hD6 ht6 W6
          go_wp2_with fail
          refine (D6.out.load_p (by have := HN.out; omega)).mono ?_
          rintro e w7 ⟨hD7, hT7, (⟨e7, hn7, hl7, rfl⟩ | ⟨g7, hl7, rfl, hg7, hB7⟩)⟩
          · exact absurd (HLY.out e7 hl7) hn7
          · have D7 := Lib.hid hD7
            have B7 := Lib.hid (below_touch B6.out hT7 HO.out B6.out.size)
            have N7 : Hid (N ≤ w7.heap.size) := Nat.le_trans N6.out hT7.size
            rw [HLV.out.1, HLV.out.2.1, HLV.out.2.2]
            rw [HBT.out] at hB7
            have K7 := Lib.hid hB7
            clear hD7 hT7 hl7 hg7 hB7
            have H3 : Hid (Below w7.heap.size w7 (w7.alloc (.cells #[.int .i64 0, .int .i64 0, .int .i64 0] 23)) ∧ Blk (w7.alloc (.cells #[.int .i64 0, .int .i64 0, .int .i64 0] 23)) w7.heap.size 23 tz) := ⟨(Below.refl _ _).alloc (Nat.le_refl _) _, Blk.new w7 _ tz⟩
            go_wp2_with (first
              | ((with_reducible refine at_dst none ?_); refine wpList_storeBlk (op := ⟨none, _, _, _, _, _⟩) rfl 23 (.tmp 12) (.tmp 70) rfl (g := w7.heap.size) (t := 23) (old := tz) (cs := tcells (xa : Nat) (xU : Nat) (rn : Nat)) rfl rfl H3.out.2 rfl iT (tcells_one _ _ _) ?_; intro u0 hu0 tu0; have Hu0 := Lib.hid hu0; have Tu0 := Lib.hid tu0; clear tu0 hu0; have k7 := (K7.out.below H3.out.1 K7.out.lt).touch Tu0.out (by have := K7.out.lt; simp; omega); have q1 := rd_str (k7.rd rn HBS.out.rd.1) rn; have q2 := rd_str (HBS.out.rd.below (((B7.out.trans (H3.out.1.mono B7.out.size)).trans (Tu0.out.below (fun y hy => by rw [List.mem_singleton.1 hy]; exact B7.out.size) (Nat.le_trans B7.out.size H3.out.1.size))))) rc; have e1 : ((str lb).toList == (str lb).toList) = true := beq_self_eq_true _; have e2 : ((str lb).toList != (str lb).toList) = false := (by simp); clear k7; generalize str lb = G1 at q1 q2 e1 e2)
              | ((with_reducible refine at_dst (some 73) ?_); refine wpList_eqNil (op := ⟨some 73, _, _, _, _, _⟩) rfl (.tmp 72) rfl (some ra) rn rc false rfl rfl ?_)
              | ((with_reducible refine at_dst (some 80) ?_); refine wpList_neNil (op := ⟨some 80, _, _, _, _, _⟩) rfl (.tmp 79) rfl (some ra) rn rc true rfl rfl ?_))
            have BU : Hid (Below W.heap.size W u0) := (B7.out.trans (H3.out.1.mono B7.out.size)).trans (Tu0.out.below (fun y hy => by rw [List.mem_singleton.1 hy]; exact B7.out.size) (Nat.le_trans B7.out.size H3.out.1.size))
            have DU := Lib.hid ((D7.out.below H3.out.1).touch Tu0.out (fun x hx => by rw [List.mem_singleton.1 hx]; exact N7.out))
            have NU : Hid (N ≤ u0.heap.size) := Nat.le_trans N7.out (Nat.le_trans H3.out.1.size Tu0.out.size)
            go_roundw
            case rel => exact ⟨i + 1, (some ra), rn, rc, L, rfl, by go_num, rfl, by omega, HLS2, DU, BU, NU⟩
            case measure => simp [intOf]; omega


        · have W6 := Lib.hid (DK.out.store_no rA rn rc (by omega) 0 (by omega) hroom)
          clear hroom
          refine W6.out.mono ?_
          rintro e w6 ⟨e6, hn6, rfl, hb6⟩
          have D6 := Lib.hid (DK.out.below hb6)
          have B6 := Lib.hid (below_then BK.out hb6)
          have N6 : Hid (N ≤ w6.heap.size) := Nat.le_trans NK.out hb6.size
          have y6 : (e6 == 0) = false := by simpa using hn6
          clear hb6 hn6 W6
          rcases HLS.out.2 with ⟨rfl, rfl, rfl, hnl⟩ | ⟨lad, lb, xa, xU, rfl, hbs, hst, hro, hrm, hbl⟩
          · go_wp2_with fail
            refine (D6.out.load_p (by have := HN.out; omega)).mono ?_
            rintro e w7 ⟨hD7, hT7, (⟨e7, hn7, hl7, rfl⟩ | ⟨g7, hl7, rfl, hg7, hB7⟩)⟩
            · have D7 := Lib.hid hD7
              have B7 := Lib.hid (below_touch B6.out hT7 HO.out B6.out.size)
              have N7 : Hid (N ≤ w7.heap.size) := Nat.le_trans N6.out hT7.size
              have y7 : (e7 == 0) = false := by simpa using hn7
              have y8 : (e7 != 0) = true := by simpa using hn7
              clear hD7 hT7 hl7 hn7
              have H3 : Hid (Below w7.heap.size w7 (w7.alloc (.cells #[.int .i64 0, .int .i64 0, .int .i64 0] 23)) ∧ Blk (w7.alloc (.cells #[.int .i64 0, .int .i64 0, .int .i64 0] 23)) w7.heap.size 23 tz) := ⟨(Below.refl _ _).alloc (Nat.le_refl _) _, Blk.new w7 _ tz⟩
              go_wp2_with (first
                | ((with_reducible refine at_dst none ?_); refine wpList_storeBlk (op := ⟨none, _, _, _, _, _⟩) rfl 23 (.tmp 12) (.tmp 70) rfl (g := w7.heap.size) (t := 23) (old := tz) (cs := tz) rfl rfl H3.out.2 rfl iT (tz_one) ?_; intro u0 hu0 tu0; have Hu0 := Lib.hid hu0; have Tu0 := Lib.hid tu0; clear tu0 hu0)
                | ((with_reducible refine at_dst (some 73) ?_); refine wpList_eqNil (op := ⟨some 73, _, _, _, _, _⟩) rfl (.tmp 72) rfl none 0 0 true rfl rfl ?_)
                | ((with_reducible refine at_dst (some 80) ?_); refine wpList_neNil (op := ⟨some 80, _, _, _, _, _⟩) rfl (.tmp 79) rfl none 0 0 false rfl rfl ?_))
              have BU : Hid (Below W.heap.size W u0) := (B7.out.trans (H3.out.1.mono B7.out.size)).trans (Tu0.out.below (fun y hy => by rw [List.mem_singleton.1 hy]; exact B7.out.size) (Nat.le_trans B7.out.size H3.out.1.size))
              have DU := Lib.hid ((D7.out.below H3.out.1).touch Tu0.out (fun x hx => by rw [List.mem_singleton.1 hx]; exact N7.out))
              have NU : Hid (N ≤ u0.heap.size) := Nat.le_trans N7.out (Nat.le_trans H3.out.1.size Tu0.out.size)
              go_roundw
              case rel => exact ⟨i + 1, none, 0, 0, l1, rfl, by go_num, rfl, by omega, HLS, DU, BU, NU⟩
              case measure => simp [intOf]; omega

            · exact absurd rfl (hnl 0 hl7)

          · have hlen := HLS.out.1
            have HLV := Lib.hid (vals_of hst hro)
            have HLY : Hid (∀ er, LoadL (fun _ => false) l1 er → er = 0) := fun er h => load_yes hst hro (by omega) h
            have HBT := Lib.hid hbl
            have HBS := Lib.hid hbs
            clear hst hro hrm hbl hbs hlen
            go_wp2_with fail
            refine (D6.out.load_p (by have := HN.out; omega)).mono ?_
            rintro e w7 ⟨hD7, hT7, (⟨e7, hn7, hl7, rfl⟩ | ⟨g7, hl7, rfl, hg7, hB7⟩)⟩
            · exact absurd (HLY.out e7 hl7) hn7
            · have D7 := Lib.hid hD7
              have B7 := Lib.hid (below_touch B6.out hT7 HO.out B6.out.size)
              have N7 : Hid (N ≤ w7.heap.size) := Nat.le_trans N6.out hT7.size
              rw [HLV.out.1, HLV.out.2.1, HLV.out.2.2]
              rw [HBT.out] at hB7
              have K7 := Lib.hid hB7
              clear hD7 hT7 hl7 hg7 hB7
              have H3 : Hid (Below w7.heap.size w7 (w7.alloc (.cells #[.int .i64 0, .int .i64 0, .int .i64 0] 23)) ∧ Blk (w7.alloc (.cells #[.int .i64 0, .int .i64 0, .int .i64 0] 23)) w7.heap.size 23 tz) := ⟨(Below.refl _ _).alloc (Nat.le_refl _) _, Blk.new w7 _ tz⟩
              go_wp2_with (first
                | ((with_reducible refine at_dst none ?_); refine wpList_storeBlk (op := ⟨none, _, _, _, _, _⟩) rfl 23 (.tmp 12) (.tmp 70) rfl (g := w7.heap.size) (t := 23) (old := tz) (cs := tcells (xa : Nat) (xU : Nat) (ln : Nat)) rfl rfl H3.out.2 rfl iT (tcells_one _ _ _) ?_; intro u0 hu0 tu0; have Hu0 := Lib.hid hu0; have Tu0 := Lib.hid tu0; clear tu0 hu0; have k7 := (K7.out.below H3.out.1 K7.out.lt).touch Tu0.out (by have := K7.out.lt; simp; omega); have q1 := rd_str (k7.rd ln HBS.out.rd.1) ln; have q2 := rd_str (HBS.out.rd.below (((B7.out.trans (H3.out.1.mono B7.out.size)).trans (Tu0.out.below (fun y hy => by rw [List.mem_singleton.1 hy]; exact B7.out.size) (Nat.le_trans B7.out.size H3.out.1.size))))) lc; have e1 : ((str lb).toList == (str lb).toList) = true := beq_self_eq_true _; have e2 : ((str lb).toList != (str lb).toList) = false := (by simp); clear k7; generalize str lb = G1 at q1 q2 e1 e2)
                | ((with_reducible refine at_dst (some 73) ?_); refine wpList_eqNil (op := ⟨some 73, _, _, _, _, _⟩) rfl (.tmp 72) rfl (some lad) ln lc false rfl rfl ?_)
                | ((with_reducible refine at_dst (some 80) ?_); refine wpList_neNil (op := ⟨some 80, _, _, _, _, _⟩) rfl (.tmp 79) rfl (some lad) ln lc true rfl rfl ?_))
              have BU : Hid (Below W.heap.size W u0) := (B7.out.trans (H3.out.1.mono B7.out.size)).trans (Tu0.out.below (fun y hy => by rw [List.mem_singleton.1 hy]; exact B7.out.size) (Nat.le_trans B7.out.size H3.out.1.size))
              have DU := Lib.hid ((D7.out.below H3.out.1).touch Tu0.out (fun x hx => by rw [List.mem_singleton.1 hx]; exact N7.out))
              have NU : Hid (N ≤ u0.heap.size) := Nat.le_trans N7.out (Nat.le_trans H3.out.1.size Tu0.out.size)
              go_roundw
              case rel => exact ⟨i + 1, (some lad), ln, lc, l1, rfl, by go_num, rfl, by omega, HLS, DU, BU, NU⟩
              case measure => simp [intOf]; omega



    · obtain rfl : i = n := by omega
      have zlt : ¬ (i : Int) < (i : Int) := by omega
      go_wp2_with fail
      refine (DK.out.load_q (by have := HN.out; omega)).mono ?_
      rintro e w7 ⟨hD7, hT7, (⟨e7, hn7, hl7, rfl⟩ | ⟨g7, hl7, rfl, hg7, hB7⟩)⟩
      · exact absurd (HQY.out e7 hl7) hn7
      rw [HQV.out.1, HQV.out.2.1, HQV.out.2.2]
      rw [HQB.out] at hB7
      have B7 := Lib.hid (below_touch BK.out hT7 HO.out BK.out.size)
      have K7 := Lib.hid hB7
      clear hD7 hT7 hl7 hg7 hB7
      have H3 : Hid (Below w7.heap.size w7 (w7.alloc (.cells #[.int .i64 0, .int .i64 0, .int .i64 0] 23)) ∧ Blk (w7.alloc (.cells #[.int .i64 0, .int .i64 0, .int .i64 0] 23)) w7.heap.size 23 tz) := ⟨(Below.refl _ _).alloc (Nat.le_refl _) _, Blk.new w7 _ tz⟩
      go_wp2_with ((with_reducible refine at_dst none ?_); refine stopper ?_)
      refine ⟨?_, trivial⟩
      refine wpList_storeBlk (op := ⟨none, _, _, _, _, _⟩) rfl 23 (.tmp 15) (.tmp 98) rfl (g := w7.heap.size) (t := 23) (old := tz) (cs := tcells (5 : Nat) (64 : Nat) (5 : Nat)) rfl rfl H3.out.2 rfl iT (tcells_one _ _ _) ?_
      intro u0 hU0 hT0
      have Tu0 := Lib.hid hT0
      clear hT0
      have BU : Hid (Below W.heap.size W u0) := (B7.out.trans (H3.out.1.mono B7.out.size)).trans (Tu0.out.below (fun y hy => by rw [List.mem_singleton.1 hy]; exact B7.out.size) (Nat.le_trans B7.out.size H3.out.1.size))
      have k7 := (K7.out.below H3.out.1 K7.out.lt).touch Tu0.out (by have := K7.out.lt; simp; omega)
      have d0 : u0.cell? ⟨w7.heap.size, 0, none⟩ = some (.int .i64 (5 : Nat)) := hU0.cell 0
      have d1 : u0.cell? ⟨w7.heap.size, 1, none⟩ = some (.int .i64 (64 : Nat)) := hU0.cell 1
      have d2 : u0.cell? ⟨w7.heap.size, 2, none⟩ = some (.int .i64 (5 : Nat)) := hU0.cell 2
      have heq := fun w => eqlTT 5 64 5 w
      have q1 := rd_str (k7.rd 5 rfl) 5
      have hsm : str other = ⟨#[111, 116, 104, 101, 114]⟩ := rfl
      rw [hsm] at q1
      clear k7 hU0
      go_wp2
      go_ret
      exact ⟨rfl, BU.out⟩
theorem moves_walk (A : Option Addr) (n c : Nat) (f : Nat → Tx) (B : Option Addr) (nb cb : Nat) (fi : Nat → Int) (W : World) (gt : Txs W A n c f) (gi : Is W B nb cb fi) : MovesWalk A n c B nb cb W := by
  by_cases hn : 20 < n
  · exact moves_big A n c B nb cb W hn
  · exact moves_some A n c f B nb cb fi W (by omega) gt gi
end Go.Proofs.Ythepbadecpnepaa
