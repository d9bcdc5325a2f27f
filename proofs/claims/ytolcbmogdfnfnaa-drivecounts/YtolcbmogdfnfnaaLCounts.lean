/-
  DriveCounts returns true for every slice of pairs and every number: its walk.
-/
import Derived.Test.YtolcbmogdfnfnaaD15
import Derived.Test.YtolcbmogdfnfnaaLTwice
namespace Go.Proofs.Ytolcbmogdfnfnaa
open Go.RowKit Go.MapKept
set_option linter.unusedVariables false
set_option linter.unusedSimpArgs false
set_option maxRecDepth 100000

set_option maxHeartbeats 4000000 in
theorem counts_walk (A : Option Addr) (n c : Nat) (ps : List (Int × Int)) (bad : Int) (w : World) (hp : Prs w A n c ps) (hb : I64 bad) :
    Calls Try.prog 7 #[.slice A n c, .int .i64 bad] w fun e w' => e = .returned (.bool true) ∧ Below w.heap.size w w' := by
  have HP0 := Lib.hid hp
  have hnc := hp.le
  have hcm := hp.max
  unfold I64 at hb
  clear hp
  go_enter Try.func7, Try.ntmps7
  go_wp2_with fail
  refine (anchor_any w).mono ?_
  rintro e w1 ⟨rfl, hb1⟩
  have B1 := Lib.hid hb1
  clear hb1
  by_cases h1 : 60 < n
  · have z1 : 60 < (n : Int) := by omega
    go_wp2
    go_ret
    exact ⟨rfl, B1.out⟩
  have z1 : ¬ 60 < (n : Int) := by omega
  have hn60 : n ≤ 60 := by omega
  clear h1
  go_wp2_with fail
  have HS1 := Lib.hid (one_src2 w1 ⟨#[97]⟩ 256)
  have B2 := Lib.hid (B1.out.alloc B1.out.size (.cells #[.string ⟨#[97]⟩, .int .i64 256] 36))
  generalize w1.alloc (.cells #[.string ⟨#[97]⟩, .int .i64 256] 36) = w2 at *
  refine (New_one _ [97] 256 w2 HS1.out (by decide) (by decide) (by decide) (by decide)).mono ?_
  rintro e w3 ⟨g, O, rfl, hD, hO, hb3⟩
  have D3 := Lib.hid hD
  have HO : Hid (∀ b ∈ O, w.heap.size ≤ b) := fun b hb => Nat.le_trans B2.out.size (hO b hb)
  have B3 := Lib.hid (B2.out.trans (hb3.mono B2.out.size))
  obtain ⟨L, hL⟩ : ∃ L : List Nat, List.replicate (Int.toNat 256) 0 = L := ⟨_, rfl⟩
  have HLL : Hid (L.length = 256) := by show _ = _; rw [← hL]; simp
  rw [hL] at D3
  clear hD hO hb3 z1 hL
  go_wp2_with fail
  have HBAD : Hid (Calls Try.prog 16 #[.pointer (some ⟨g, 0, none⟩), .string ⟨#[97]⟩, .int .i64 bad, .bool true] w3 fun e w' => (∃ v, e = .returned (.bool v)) ∧ (∃ S, OneD w' g O w3.heap.size ⟨#[97]⟩ L S false (-1) [] 0 0) ∧ Below w.heap.size w w') := by
    by_cases hin : 0 ≤ bad ∧ bad < 4
    · obtain ⟨k, rfl⟩ : ∃ k : Nat, bad = k := ⟨bad.toNat, by omega⟩
      refine (D3.out.bad_ok k true (by rw [HLL.out]; omega)).mono ?_
      rintro e w8 ⟨rfl, hD8, ht8⟩
      exact ⟨⟨_, rfl⟩, ⟨_, hD8⟩, below_touch B3.out ht8 HO.out B3.out.size⟩
    · refine (D3.out.bad_end bad true (by rw [HLL.out]; omega)).mono ?_
      rintro e w8 ⟨rfl, hb8⟩
      exact ⟨⟨_, rfl⟩, ⟨_, D3.out.below hb8⟩, below_then B3.out hb8⟩
  refine HBAD.out.mono ?_
  rintro e w4 ⟨⟨vb, rfl⟩, ⟨S, hD4⟩, hb4⟩
  have D4 := Lib.hid hD4
  have B4 := Lib.hid hb4
  clear hD4 hb4 HBAD D3 hb
  go_wp2
  go_loopw [7, 8, 37] (fun s7 s8 si wr => ∃ (i k : Nat) (t : Int), s7 = .int .i64 (k : Int) ∧ s8 = .int .i64 t ∧ si = .int .i64 (i : Int) ∧ i ≤ n ∧ k ≤ i ∧ 0 ≤ t ∧ t ≤ 256 * i ∧ Hid (OneD wr g O w3.heap.size ⟨#[97]⟩ L S false (-1) [] k t) ∧ Hid (Below w.heap.size w wr)) (fun _ _ i _ => n - (intOf i).toNat)
  case atStart => exact ⟨0, 0, 0, rfl, rfl, rfl, Nat.zero_le _, Nat.le_refl _, by omega, by omega, D4, B4⟩
  case round =>
    obtain ⟨i, k, t, rfl, rfl, rfl, hin, hki, ht0, hti, DK, BK⟩ := hrel
    clear D4 B4
    by_cases hlt : i < n
    · have zlt : (i : Int) < (n : Int) := by omega
      obtain ⟨p, hp⟩ : ∃ p, ps[i]? = some p := ⟨_, List.getElem?_eq_getElem (by rw [HP0.out.len]; exact hlt)⟩
      obtain ⟨ad, rfl, c0, c1⟩ := (HP0.out.rs.below BK.out).pair hp
      have HI := Lib.hid (HP0.out.i64 p (List.mem_of_getElem? hp))
      obtain ⟨a, b⟩ := p
      simp only [] at c0 c1 HI
      clear hp
      go_wp2_with fail
      have DW := Lib.hid (DK.out.below ((Below.refl _ _).alloc (Nat.le_refl _) (.cells #[.int .i64 a, .int .i64 b] 58)))
      have BW := Lib.hid (BK.out.alloc BK.out.size (.cells #[.int .i64 a, .int .i64 b] 58))
      have KW := Lib.hid (Blk.new wr 58 [.int .i64 a, .int .i64 b])
      have hGW : Hid (wr.heap.size ≤ wr.heap.size) := Nat.le_refl _
      have hGO : Hid (wr.heap.size ∉ O) := DK.out.new (Nat.le_refl _)
      clear c0 c1
      generalize wr.alloc (.cells #[.int .i64 a, .int .i64 b] 58) = W at *
      generalize wr.heap.size = G at *
      have HI1 := HI.out.1
      have HI2 := HI.out.2
      unfold I64 at HI1 HI2
      by_cases hlie : Lies a b 256
      · obtain ⟨o, rfl⟩ : ∃ o : Nat, a = o := ⟨a.toNat, by have := hlie.1; omega⟩
        obtain ⟨m, rfl⟩ : ∃ m : Nat, b = m := ⟨b.toNat, by have := hlie.2.1; omega⟩
        have HLI : Hid (o + m ≤ 256) := by show _ ≤ _; have := hlie.2.2; omega
        have hm256 : m ≤ 256 := by have := hlie.2.2; omega
        clear hlie HI1 HI2
        by_cases hsp : Spoilt S o m
        · have hsp := Lib.hid hsp
          refine (DW.out.read_bad o m (by rw [HLL.out]; exact HLI.out) hsp.out).mono ?_
          rintro e w5 ⟨rfl, hb5⟩
          have D5 := Lib.hid (DW.out.below hb5)
          have B5 := Lib.hid (below_then BW.out hb5)
          have X0 := (KW.out.below hb5 KW.out.lt).cell 0
          have X1 := (KW.out.below hb5 KW.out.lt).cell 1
          simp only [List.getElem?_cons_zero, List.getElem?_cons_succ] at X0 X1
          clear hb5
          go_wp2_with fail
          refine D5.out.reads.mono ?_
          rintro e w6 ⟨rfl, q, rfl⟩
          have D6 := Lib.hid (D5.out.below (below_drewN (Below.refl _ w5) q))
          have B6 := Lib.hid (below_drewN B5.out q)
          have hk6 : k ≤ i + 1 := by omega
          have ht6 : t ≤ 256 * ((i + 1 : Nat) : Int) := by omega
          go_wp2
          go_roundw
          case rel => exact ⟨i + 1, k, t, rfl, rfl, by go_num, by omega, hk6, ht0, ht6, D6, B6⟩
          case measure => simp [intOf]; omega
        · have hsp := Lib.hid hsp
          refine (DW.out.read_ok o m (by rw [HLL.out]; exact HLI.out) hsp.out (by omega) (by omega)).mono ?_
          rintro e w5 ⟨r5, rfl, hr5, hK5, hD5, ht5⟩
          have D5 := Lib.hid hD5
          have B5 := Lib.hid (below_touch BW.out (ht5.wider (G := O) (fun b hb => by rw [List.mem_singleton.1 hb]; exact DW.out.own)) HO.out BW.out.size)
          have K5 := Lib.hid (KW.out.touch (ht5.wider (G := O) (fun b hb => by rw [List.mem_singleton.1 hb]; exact DW.out.own)) hGO.out)
          have X0 := K5.out.cell 0
          have X1 := K5.out.cell 1
          simp only [List.getElem?_cons_zero, List.getElem?_cons_succ] at X0 X1
          clear hr5 hK5 hD5 ht5
          have q1 : IntKind.i64.wrap ((k : Int) + 1) = ((k + 1 : Nat) : Int) := by rw [IntKind.wrap_i64]; omega
          have q2 : IntKind.i64.wrap (t + (m : Int)) = t + m := by rw [IntKind.wrap_i64]; omega
          have hk6 : k + 1 ≤ i + 1 := by omega
          have ht6 : t + (m : Int) ≤ 256 * ((i + 1 : Nat) : Int) := by omega
          have ht60 : 0 ≤ t + (m : Int) := by omega
          go_wp2_with fail
          trace_state
          go_quiet (fail)
          go_wp2_with fail
          refine (D5.out.below (below_drewN (Below.refl _ w5) nq)).reads.mono ?_
          rintro e w6 ⟨rfl, q, rfl⟩
          have D6 : Hid (OneD (w5.drewN (nq + q)) g O w3.heap.size ⟨#[97]⟩ L S false (-1) [] ((k + 1 : Nat) : Int) (t + m)) := D5.out.below (below_drewN (Below.refl _ w5) (nq + q))
          have B6 := Lib.hid (below_drewN B5.out (nq + q))
          go_wp2
          go_roundw
          case rel => exact ⟨i + 1, k + 1, t + m, rfl, rfl, by go_num, by omega, hk6, ht60, ht6, D6, B6⟩
          case measure => simp [intOf]; omega
      · have hlie := Lib.hid hlie
        have HI1 := Lib.hid HI1
        have HI2 := Lib.hid HI2
        refine (DW.out.read_end a b (by rw [HLL.out]; exact hlie.out) HI1.out.2 HI2.out.2).mono ?_
        rintro e w5 ⟨rfl, hb5⟩
        have D5 := Lib.hid (DW.out.below hb5)
        have B5 := Lib.hid (below_then BW.out hb5)
        have X0 := (KW.out.below hb5 KW.out.lt).cell 0
        have X1 := (KW.out.below hb5 KW.out.lt).cell 1
        simp only [List.getElem?_cons_zero, List.getElem?_cons_succ] at X0 X1
        clear hb5
        go_wp2_with fail
        refine D5.out.reads.mono ?_
        rintro e w6 ⟨rfl, q, rfl⟩
        have D6 := Lib.hid (D5.out.below (below_drewN (Below.refl _ w5) q))
        have B6 := Lib.hid (below_drewN B5.out q)
        have hk6 : k ≤ i + 1 := by omega
        have ht6 : t ≤ 256 * ((i + 1 : Nat) : Int) := by omega
        go_wp2
        go_roundw
        case rel => exact ⟨i + 1, k, t, rfl, rfl, by go_num, by omega, hk6, ht0, ht6, D6, B6⟩
        case measure => simp [intOf]; omega
    · obtain rfl : i = n := by omega
      go_wp2
      go_ret
      exact ⟨rfl, BK.out⟩
end Go.Proofs.Ytolcbmogdfnfnaa
