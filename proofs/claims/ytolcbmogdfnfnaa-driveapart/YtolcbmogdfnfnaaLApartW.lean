/-
  DriveApart returns true for every slice of bytes and every slice of operations: its walk.
-/
import Derived.Test.YtolcbmogdfnfnaaLApart
namespace Go.Proofs.Ytolcbmogdfnfnaa
open Go.RowKit Go.MapKept
set_option linter.unusedVariables false
set_option linter.unusedSimpArgs false
set_option maxRecDepth 100000

theorem keep_eq (nm : ByteArray) : (nm.toList == [107, 101, 101, 112]) = decide (nm = ⟨#[107, 101, 101, 112]⟩) := by
  rw [← str_eq, ByteArray.toList_eq ⟨#[107, 101, 101, 112]⟩]
set_option maxHeartbeats 4000000 in
theorem apart_walk (A : Option Addr) (n c : Nat) (bs : List Nat) (Ao : Option Addr) (no co : Nat) (f : Nat → OpV) (w : World) (hb : Bs w A n c bs) (ho : Ops w Ao no co f) :
    Calls Try.prog 6 #[.slice A n c, .slice Ao no co] w fun e w' => e = .returned (.bool true) ∧ Below w.heap.size w w' := by
  have HB0 := Lib.hid hb
  have HO0 := Lib.hid ho
  have hnc := hb.le
  have hcm := hb.max
  have hnx := ho.le
  have hcx := ho.max
  clear hb ho
  go_enter Try.func6, Try.ntmps6
  go_wp2_with fail
  refine (anchor_any w).mono ?_
  rintro e w1 ⟨rfl, hb1⟩
  have B1 := Lib.hid hb1
  clear hb1
  by_cases h1 : 128 < n
  · have z1 : 128 < (n : Int) := by omega
    go_wp2
    go_ret
    exact ⟨rfl, B1.out⟩
  have z1 : ¬ 128 < (n : Int) := by omega
  have H128 : Hid (n ≤ 128) := by show _ ≤ _; omega
  by_cases h2 : 60 < no
  · have z2 : 60 < (no : Int) := by omega
    go_wp2
    go_ret
    exact ⟨rfl, B1.out⟩
  have z2 : ¬ 60 < (no : Int) := by omega
  have hn60 : no ≤ 60 := by omega
  clear h1 h2
  go_wp2_with fail
  have HS1 := Lib.hid (three_src w1)
  have B2 := Lib.hid (B1.out.alloc B1.out.size (.cells #[.string ⟨#[107, 101, 101, 112]⟩, .int .i64 128, .string ⟨#[97]⟩, .int .i64 192, .string ⟨#[98]⟩, .int .i64 64] 36))
  generalize w1.alloc (.cells #[.string ⟨#[107, 101, 101, 112]⟩, .int .i64 128, .string ⟨#[97]⟩, .int .i64 192, .string ⟨#[98]⟩, .int .i64 64] 36) = w2 at *
  refine (New_three _ w2 HS1.out).mono ?_
  rintro e w3 ⟨D, p, rfl, hD, hp0, hnm, hpl, hbad, hdn, hlf, hct, htd, hO, hb3⟩
  obtain ⟨g, hg⟩ : ∃ g, D.g = g := ⟨_, rfl⟩
  obtain ⟨O, hOO⟩ : ∃ O, D.own = O := ⟨_, rfl⟩
  obtain ⟨L, hL⟩ : ∃ L : List Nat, splice (List.replicate 128 0) 0 bs = L := ⟨_, rfl⟩
  have HO : Hid (∀ b ∈ O, w.heap.size ≤ b) := fun b hb => Nat.le_trans B2.out.size (hO b (by rw [hOO]; exact hb))
  have B3 := Lib.hid (B2.out.trans (hb3.mono B2.out.size))
  have HAO : Hid (∀ (b : Nat), b < w.heap.size → b ∉ O) := fun b h1 hm => by
    have h2 := HO.out _ hm
    omega
  have HLL : Hid (L.length = 128) := by
    show _ = _
    rw [← hL, length_splice _ _ _ (by rw [HB0.out.rd.1]; have := H128.out; simp; omega)]
    simp
  have W4 : Hid (Calls Try.prog 19 #[.pointer (some ⟨g, 0, none⟩), .string ⟨#[107, 101, 101, 112]⟩, .int .i64 0, .slice A n c] w3 fun e w' => e = .returned (.int .i64 0) ∧ KeptD w' g O false L 0 ∧ Touch O w3 w') := by
    show Calls _ _ _ _ _
    subst hg hOO
    refine (Write_ok D w3 hD hdn (-1) (.inl ⟨by omega, hlf.symm⟩) 0 p hp0 _ hnm 0 A n c bs (HB0.out.rd.below B3.out) HB0.out.fit hnc hcm (fun hn ad e => HAO.out _ (HB0.out.rd.lt hn ad e)) (by rw [hpl]; have := H128.out; simp; omega)).mono ?_
    rintro e w' ⟨rfl, hD', hT⟩
    refine ⟨rfl, ⟨_, { p with l := splice p.l 0 bs }, hD', rfl, own_put hp0 rfl rfl, ?_, hnm, ?_, hbad, hdn, ?_, ?_⟩, hT⟩
    · show (D.pts.set 0 _)[0]? = _
      rw [List.getElem?_set]
      simp [(List.getElem?_eq_some_iff.1 hp0).1]
    · show splice p.l 0 bs = L
      rw [hpl, hL]
    · show D.count ≤ _; omega
    · show D.told ≤ _; omega
  rw [hg]
  clear hD hp0 hnm hpl hbad hdn hlf hct htd hO hb3 hg hOO hL z1 z2
  go_wp2_with fail
  refine W4.out.mono ?_
  rintro e w4 ⟨rfl, hD4, ht4⟩
  have D4 := Lib.hid hD4
  have B4 := Lib.hid (below_touch B3.out ht4 HO.out B3.out.size)
  clear hD4 ht4 W4
  go_wp2_with fail
  refine (D4.out.read_ok HLL.out (by omega)).mono ?_
  rintro e w5 ⟨r5, rfl, hr5, hK5, hD5, ht5⟩
  have N5 := Lib.hid (D4.out.new hr5)
  have K5 := Lib.hid hK5
  have D5 := Lib.hid hD5
  have B5 := Lib.hid (below_touch B4.out (ht5.wider (G := O) (fun b hb => by rw [List.mem_singleton.1 hb]; exact D4.out.own)) HO.out B4.out.size)
  clear hr5 hK5 hD5 ht5
  go_wp2
  go_loopw [50] (fun si wr => ∃ (i M : Nat) (dn : Bool), si = .int .i64 (i : Int) ∧ i ≤ no ∧ M ≤ i + 1 ∧ Hid (KeptD wr g O dn L M) ∧ Hid (Blk wr r5 5 (cn .u8 L)) ∧ Hid (Below w.heap.size w wr)) (fun i _ => no - (intOf i).toNat)
  case atStart => exact ⟨0, 1, false, rfl, Nat.zero_le _, by omega, D5, K5, B5⟩
  case round =>
    obtain ⟨i, M, dn, rfl, hin, hMi, DK, KK, BK⟩ := hrel
    clear D4 B4 D5 K5 B5
    by_cases hlt : i < no
    · have zlt : (i : Int) < (no : Int) := by omega
      obtain ⟨ad, rfl, hop⟩ := HO0.out.each i hlt
      generalize f i = o at *
      obtain ⟨kind, off, k, nm, dA, dl, dc, db, on, kA, kn, kc, kp⟩ := o
      have HOP := Lib.hid hop
      obtain ⟨c0, c1, c2, c3, c4, c5, c6, _, _, _, _, _, _⟩ := hop.below BK.out
      simp only [] at c0 c1 c2 c3 c4 c5 c6
      have DW := Lib.hid (DK.out.below ((Below.refl _ _).alloc (Nat.le_refl _) (.cells #[.int .i64 kind, .int .i64 off, .int .i64 k, .string nm, .slice dA dl dc, .bool on, .slice kA kn kc] 41)))
      have BW := Lib.hid (BK.out.alloc BK.out.size (.cells #[.int .i64 kind, .int .i64 off, .int .i64 k, .string nm, .slice dA dl dc, .bool on, .slice kA kn kc] 41))
      have KW := Lib.hid (KK.out.below ((Below.refl _ _).alloc (Nat.le_refl _) (.cells #[.int .i64 kind, .int .i64 off, .int .i64 k, .string nm, .slice dA dl dc, .bool on, .slice kA kn kc] 41)) KK.out.lt)
      have HAK : Hid (0 < kn → ∀ ad, kA = some ad → ad.block ∉ O) := fun hn ad e => HAO.out _ (by
        obtain ⟨ad', e', hlt, _⟩ := HOP.out.keep.rs (by have h7 : (bcells kp).length = kn * 1 := HOP.out.keep.len; show 0 < (bcells kp).length; rw [h7]; omega)
        simp only [] at e'
        rw [e] at e'
        injection e' with e'
        rw [e']; exact hlt)
      clear hop
      by_cases hs : nm = ⟨#[107, 101, 101, 112]⟩
      · have q : (nm.toList == [107, 101, 101, 112]) = true := by rw [keep_eq, decide_eq_true hs]
        subst hs
        go_wp2
        go_roundw
        case rel => exact ⟨i + 1, M, dn, by go_num, by omega, by omega, DW, KW, BW⟩
        case measure => simp [intOf]; omega
      have q : (nm.toList == [107, 101, 101, 112]) = false := by rw [keep_eq, decide_eq_false hs]
      by_cases hd : 300 < dl
      · have zd : 300 < (dl : Int) := by omega
        go_wp2
        go_roundw
        case rel => exact ⟨i + 1, M, dn, by go_num, by omega, by omega, DW, KW, BW⟩
        case measure => simp [intOf]; omega
      have zd : ¬ 300 < (dl : Int) := by omega
      by_cases hk : 30 < kn
      · have zk : 30 < (kn : Int) := by omega
        go_wp2
        go_roundw
        case rel => exact ⟨i + 1, M, dn, by go_num, by omega, by omega, DW, KW, BW⟩
        case measure => simp [intOf]; omega
      have zk : ¬ 30 < (kn : Int) := by omega
      have hkn : kn ≤ 30 := by omega
      clear hd hk
      by_cases hk2 : kind = 2
      · subst hk2
        go_wp2_with fail
        refine (DW.out.write nm hs off HOP.out.offOk _ _ _ _ (HOP.out.data.below BW.out) (fun hn ad e => HAO.out _ (HOP.out.data.rd.lt hn ad e))).mono ?_
        rintro e w6 ⟨⟨v6, rfl⟩, ⟨dn, hD6⟩, ht6⟩
        have D6 := Lib.hid hD6
        have B6 := Lib.hid (below_touch BW.out ht6 HO.out BW.out.size)
        have K6 := Lib.hid (KW.out.touch ht6 N5.out)
        clear hD6 ht6
        cases dn with
        | true =>
          go_wp2_with fail
          refine (D6.out.read_down _ _ _).mono ?_
          rintro e w7 ⟨rfl, hb7⟩
          have D7 := Lib.hid (D6.out.below hb7)
          have K7 := Lib.hid (K6.out.below hb7 K6.out.lt)
          have B7 := Lib.hid (below_then B6.out hb7)
          clear hb7
          go_wp2_with fail
          refine D7.out.down.mono ?_
          rintro e w8 ⟨rfl, rfl⟩
          go_wp2_with fail
          refine D7.out.down.mono ?_
          rintro e w8 ⟨rfl, rfl⟩
          go_wp2
          go_roundw
          case rel => exact ⟨i + 1, M, true, by go_num, by omega, by omega, D7, K7, B7⟩
          case measure => simp [intOf]; omega
        | false =>
          go_wp2_with fail
          refine (D6.out.read_ok HLL.out (by omega)).mono ?_
          rintro e w7 ⟨r7, rfl, hr7, hK7, hD7, ht7⟩
          have D7 := Lib.hid hD7
          have K7 := Lib.hid (K6.out.touch (ht7.wider (G := O) (fun b hb => by rw [List.mem_singleton.1 hb]; exact D6.out.own)) N5.out)
          have B7 := Lib.hid (below_touch B6.out (ht7.wider (G := O) (fun b hb => by rw [List.mem_singleton.1 hb]; exact D6.out.own)) HO.out B6.out.size)
          have X7 := Lib.hid hK7
          clear hr7 hK7 hD7 ht7
          go_wp2_with fail
          refine D7.out.down.mono ?_
          rintro e w8 ⟨rfl, rfl⟩
          go_wp2_with fail
          refine D7.out.down.mono ?_
          rintro e w8 ⟨rfl, rfl⟩
          have q1 := rd_str (K7.out.rd 128 HLL.out) 128
          have q2 := rd_str (X7.out.rd 128 HLL.out) 128
          have q3 : ((str L).toList == (str L).toList) = true := beq_self_eq_true _
          generalize str L = G at q1 q2 q3
          go_wp2
          go_roundw
          case rel => exact ⟨i + 1, M + 1, false, by go_num, by omega, by omega, D7, K7, B7⟩
          case measure => simp [intOf]; omega
      by_cases hk3 : kind = 3
      · subst hk3
        go_wp2_with fail
        refine (DW.out.turn nm hs off HOP.out.offOk _ _ _ _ (HOP.out.data.below BW.out) (fun hn ad e => HAO.out _ (HOP.out.data.rd.lt hn ad e))).mono ?_
        rintro e w6 ⟨⟨v6, rfl⟩, ⟨dn, hD6⟩, ht6⟩
        have D6 := Lib.hid hD6
        have B6 := Lib.hid (below_touch BW.out ht6 HO.out BW.out.size)
        have K6 := Lib.hid (KW.out.touch ht6 N5.out)
        clear hD6 ht6
        cases dn with
        | true =>
          go_wp2_with fail
          refine (D6.out.read_down _ _ _).mono ?_
          rintro e w7 ⟨rfl, hb7⟩
          have D7 := Lib.hid (D6.out.below hb7)
          have K7 := Lib.hid (K6.out.below hb7 K6.out.lt)
          have B7 := Lib.hid (below_then B6.out hb7)
          clear hb7
          go_wp2_with fail
          refine D7.out.down.mono ?_
          rintro e w8 ⟨rfl, rfl⟩
          go_wp2_with fail
          refine D7.out.down.mono ?_
          rintro e w8 ⟨rfl, rfl⟩
          go_wp2
          go_roundw
          case rel => exact ⟨i + 1, M, true, by go_num, by omega, by omega, D7, K7, B7⟩
          case measure => simp [intOf]; omega
        | false =>
          go_wp2_with fail
          refine (D6.out.read_ok HLL.out (by omega)).mono ?_
          rintro e w7 ⟨r7, rfl, hr7, hK7, hD7, ht7⟩
          have D7 := Lib.hid hD7
          have K7 := Lib.hid (K6.out.touch (ht7.wider (G := O) (fun b hb => by rw [List.mem_singleton.1 hb]; exact D6.out.own)) N5.out)
          have B7 := Lib.hid (below_touch B6.out (ht7.wider (G := O) (fun b hb => by rw [List.mem_singleton.1 hb]; exact D6.out.own)) HO.out B6.out.size)
          have X7 := Lib.hid hK7
          clear hr7 hK7 hD7 ht7
          go_wp2_with fail
          refine D7.out.down.mono ?_
          rintro e w8 ⟨rfl, rfl⟩
          go_wp2_with fail
          refine D7.out.down.mono ?_
          rintro e w8 ⟨rfl, rfl⟩
          have q1 := rd_str (K7.out.rd 128 HLL.out) 128
          have q2 := rd_str (X7.out.rd 128 HLL.out) 128
          have q3 : ((str L).toList == (str L).toList) = true := beq_self_eq_true _
          generalize str L = G at q1 q2 q3
          go_wp2
          go_roundw
          case rel => exact ⟨i + 1, M + 1, false, by go_num, by omega, by omega, D7, K7, B7⟩
          case measure => simp [intOf]; omega
      by_cases hk4 : kind = 4
      · subst hk4
        go_wp2_with fail
        refine (DW.out.bad nm hs off on).mono ?_
        rintro e w6 ⟨⟨v6, rfl⟩, ⟨dn, hD6⟩, ht6⟩
        have D6 := Lib.hid hD6
        have B6 := Lib.hid (below_touch BW.out ht6 HO.out BW.out.size)
        have K6 := Lib.hid (KW.out.touch ht6 N5.out)
        clear hD6 ht6
        cases dn with
        | true =>
          go_wp2_with fail
          refine (D6.out.read_down _ _ _).mono ?_
          rintro e w7 ⟨rfl, hb7⟩
          have D7 := Lib.hid (D6.out.below hb7)
          have K7 := Lib.hid (K6.out.below hb7 K6.out.lt)
          have B7 := Lib.hid (below_then B6.out hb7)
          clear hb7
          go_wp2_with fail
          refine D7.out.down.mono ?_
          rintro e w8 ⟨rfl, rfl⟩
          go_wp2_with fail
          refine D7.out.down.mono ?_
          rintro e w8 ⟨rfl, rfl⟩
          go_wp2
          go_roundw
          case rel => exact ⟨i + 1, M, true, by go_num, by omega, by omega, D7, K7, B7⟩
          case measure => simp [intOf]; omega
        | false =>
          go_wp2_with fail
          refine (D6.out.read_ok HLL.out (by omega)).mono ?_
          rintro e w7 ⟨r7, rfl, hr7, hK7, hD7, ht7⟩
          have D7 := Lib.hid hD7
          have K7 := Lib.hid (K6.out.touch (ht7.wider (G := O) (fun b hb => by rw [List.mem_singleton.1 hb]; exact D6.out.own)) N5.out)
          have B7 := Lib.hid (below_touch B6.out (ht7.wider (G := O) (fun b hb => by rw [List.mem_singleton.1 hb]; exact D6.out.own)) HO.out B6.out.size)
          have X7 := Lib.hid hK7
          clear hr7 hK7 hD7 ht7
          go_wp2_with fail
          refine D7.out.down.mono ?_
          rintro e w8 ⟨rfl, rfl⟩
          go_wp2_with fail
          refine D7.out.down.mono ?_
          rintro e w8 ⟨rfl, rfl⟩
          have q1 := rd_str (K7.out.rd 128 HLL.out) 128
          have q2 := rd_str (X7.out.rd 128 HLL.out) 128
          have q3 : ((str L).toList == (str L).toList) = true := beq_self_eq_true _
          generalize str L = G at q1 q2 q3
          go_wp2
          go_roundw
          case rel => exact ⟨i + 1, M + 1, false, by go_num, by omega, by omega, D7, K7, B7⟩
          case measure => simp [intOf]; omega
      by_cases hk5 : kind = 5
      · subst hk5
        go_wp2_with fail
        refine (DW.out.arm k HOP.out.nOk _ _ _ _ (HOP.out.keep.below BW.out) HAK.out (Nat.le_trans hkn (by decide))).mono ?_
        rintro e w6 ⟨⟨v6, rfl⟩, ⟨dn, hD6⟩, ht6⟩
        have D6 := Lib.hid hD6
        have B6 := Lib.hid (below_touch BW.out ht6 HO.out BW.out.size)
        have K6 := Lib.hid (KW.out.touch ht6 N5.out)
        clear hD6 ht6
        cases dn with
        | true =>
          go_wp2_with fail
          refine (D6.out.read_down _ _ _).mono ?_
          rintro e w7 ⟨rfl, hb7⟩
          have D7 := Lib.hid (D6.out.below hb7)
          have K7 := Lib.hid (K6.out.below hb7 K6.out.lt)
          have B7 := Lib.hid (below_then B6.out hb7)
          clear hb7
          go_wp2_with fail
          refine D7.out.down.mono ?_
          rintro e w8 ⟨rfl, rfl⟩
          go_wp2_with fail
          refine D7.out.down.mono ?_
          rintro e w8 ⟨rfl, rfl⟩
          go_wp2
          go_roundw
          case rel => exact ⟨i + 1, M, true, by go_num, by omega, by omega, D7, K7, B7⟩
          case measure => simp [intOf]; omega
        | false =>
          go_wp2_with fail
          refine (D6.out.read_ok HLL.out (by omega)).mono ?_
          rintro e w7 ⟨r7, rfl, hr7, hK7, hD7, ht7⟩
          have D7 := Lib.hid hD7
          have K7 := Lib.hid (K6.out.touch (ht7.wider (G := O) (fun b hb => by rw [List.mem_singleton.1 hb]; exact D6.out.own)) N5.out)
          have B7 := Lib.hid (below_touch B6.out (ht7.wider (G := O) (fun b hb => by rw [List.mem_singleton.1 hb]; exact D6.out.own)) HO.out B6.out.size)
          have X7 := Lib.hid hK7
          clear hr7 hK7 hD7 ht7
          go_wp2_with fail
          refine D7.out.down.mono ?_
          rintro e w8 ⟨rfl, rfl⟩
          go_wp2_with fail
          refine D7.out.down.mono ?_
          rintro e w8 ⟨rfl, rfl⟩
          have q1 := rd_str (K7.out.rd 128 HLL.out) 128
          have q2 := rd_str (X7.out.rd 128 HLL.out) 128
          have q3 : ((str L).toList == (str L).toList) = true := beq_self_eq_true _
          generalize str L = G at q1 q2 q3
          go_wp2
          go_roundw
          case rel => exact ⟨i + 1, M + 1, false, by go_num, by omega, by omega, D7, K7, B7⟩
          case measure => simp [intOf]; omega
      by_cases hk6 : kind = 6
      · subst hk6
        go_wp2_with fail
        refine (DW.out.boot).mono ?_
        rintro e w6 ⟨rfl, _, ⟨dn, hD6⟩, ht6⟩
        have D6 := Lib.hid hD6
        have B6 := Lib.hid (below_touch BW.out ht6 HO.out BW.out.size)
        have K6 := Lib.hid (KW.out.touch ht6 N5.out)
        clear hD6 ht6
        cases dn with
        | true =>
          go_wp2_with fail
          refine (D6.out.read_down _ _ _).mono ?_
          rintro e w7 ⟨rfl, hb7⟩
          have D7 := Lib.hid (D6.out.below hb7)
          have K7 := Lib.hid (K6.out.below hb7 K6.out.lt)
          have B7 := Lib.hid (below_then B6.out hb7)
          clear hb7
          go_wp2_with fail
          refine D7.out.down.mono ?_
          rintro e w8 ⟨rfl, rfl⟩
          go_wp2_with fail
          refine D7.out.down.mono ?_
          rintro e w8 ⟨rfl, rfl⟩
          go_wp2
          go_roundw
          case rel => exact ⟨i + 1, M, true, by go_num, by omega, by omega, D7, K7, B7⟩
          case measure => simp [intOf]; omega
        | false =>
          go_wp2_with fail
          refine (D6.out.read_ok HLL.out (by omega)).mono ?_
          rintro e w7 ⟨r7, rfl, hr7, hK7, hD7, ht7⟩
          have D7 := Lib.hid hD7
          have K7 := Lib.hid (K6.out.touch (ht7.wider (G := O) (fun b hb => by rw [List.mem_singleton.1 hb]; exact D6.out.own)) N5.out)
          have B7 := Lib.hid (below_touch B6.out (ht7.wider (G := O) (fun b hb => by rw [List.mem_singleton.1 hb]; exact D6.out.own)) HO.out B6.out.size)
          have X7 := Lib.hid hK7
          clear hr7 hK7 hD7 ht7
          go_wp2_with fail
          refine D7.out.down.mono ?_
          rintro e w8 ⟨rfl, rfl⟩
          go_wp2_with fail
          refine D7.out.down.mono ?_
          rintro e w8 ⟨rfl, rfl⟩
          have q1 := rd_str (K7.out.rd 128 HLL.out) 128
          have q2 := rd_str (X7.out.rd 128 HLL.out) 128
          have q3 : ((str L).toList == (str L).toList) = true := beq_self_eq_true _
          generalize str L = G at q1 q2 q3
          go_wp2
          go_roundw
          case rel => exact ⟨i + 1, M + 1, false, by go_num, by omega, by omega, D7, K7, B7⟩
          case measure => simp [intOf]; omega
      have D6 := DW
      have B6 := BW
      have K6 := KW
      cases dn with
      | true =>
        go_wp2_with fail
        refine (D6.out.read_down _ _ _).mono ?_
        rintro e w7 ⟨rfl, hb7⟩
        have D7 := Lib.hid (D6.out.below hb7)
        have K7 := Lib.hid (K6.out.below hb7 K6.out.lt)
        have B7 := Lib.hid (below_then B6.out hb7)
        clear hb7
        go_wp2_with fail
        refine D7.out.down.mono ?_
        rintro e w8 ⟨rfl, rfl⟩
        go_wp2_with fail
        refine D7.out.down.mono ?_
        rintro e w8 ⟨rfl, rfl⟩
        go_wp2
        go_roundw
        case rel => exact ⟨i + 1, M, true, by go_num, by omega, by omega, D7, K7, B7⟩
        case measure => simp [intOf]; omega
      | false =>
        go_wp2_with fail
        refine (D6.out.read_ok HLL.out (by omega)).mono ?_
        rintro e w7 ⟨r7, rfl, hr7, hK7, hD7, ht7⟩
        have D7 := Lib.hid hD7
        have K7 := Lib.hid (K6.out.touch (ht7.wider (G := O) (fun b hb => by rw [List.mem_singleton.1 hb]; exact D6.out.own)) N5.out)
        have B7 := Lib.hid (below_touch B6.out (ht7.wider (G := O) (fun b hb => by rw [List.mem_singleton.1 hb]; exact D6.out.own)) HO.out B6.out.size)
        have X7 := Lib.hid hK7
        clear hr7 hK7 hD7 ht7
        go_wp2_with fail
        refine D7.out.down.mono ?_
        rintro e w8 ⟨rfl, rfl⟩
        go_wp2_with fail
        refine D7.out.down.mono ?_
        rintro e w8 ⟨rfl, rfl⟩
        have q1 := rd_str (K7.out.rd 128 HLL.out) 128
        have q2 := rd_str (X7.out.rd 128 HLL.out) 128
        have q3 : ((str L).toList == (str L).toList) = true := beq_self_eq_true _
        generalize str L = G at q1 q2 q3
        go_wp2
        go_roundw
        case rel => exact ⟨i + 1, M + 1, false, by go_num, by omega, by omega, D7, K7, B7⟩
        case measure => simp [intOf]; omega
    · obtain rfl : i = no := by omega
      go_wp2
      go_ret
      exact ⟨rfl, BK.out⟩
end Go.Proofs.Ytolcbmogdfnfnaa
