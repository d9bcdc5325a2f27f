/-
  DrivePlays returns true for every slice of partitions and every slice of operations: its walk.
-/
import Derived.Test.YtonjmbcagdkdiaaT20
import Derived.Test.YtonjmbcagdkdiaaD17
namespace Go.Proofs.Ytonjmbcagdkdiaa
open Go.RowKit Go.MapKept
set_option linter.unusedVariables false
set_option linter.unusedSimpArgs false
set_option maxRecDepth 100000

theorem fault_some (ps : List (ByteArray × Int)) : ∃ er, FaultIs ps er := by
  by_cases h1 : 16 < ps.length
  · exact ⟨40, .inl ⟨h1, rfl⟩⟩
  by_cases h2 : Right ps
  · by_cases h3 : 1048576 < total ps
    · exact ⟨11, .inr (.inr (.inl ⟨by omega, h2, h3, rfl⟩))⟩
    · exact ⟨0, .inr (.inr (.inr ⟨by omega, h2, by omega, rfl⟩))⟩
  · exact ⟨40, .inr (.inl ⟨by omega, h2, rfl⟩)⟩
theorem fault_zero {ps : List (ByteArray × Int)} (h : FaultIs ps 0) : ps.length ≤ 16 ∧ Right ps := by
  rcases h with h | h | h | h
  · omega
  · omega
  · omega
  · exact ⟨h.1, h.2.1⟩
set_option maxHeartbeats 4000000 in
theorem plays_walk (A : Option Addr) (n c : Nat) (ps : List (ByteArray × Int)) (Ao : Option Addr) (no co : Nat) (f : Nat → OpV) (w : World) (hp : Ptn w A n c ps) (hO : Ops w Ao no co f) :
    Calls Try.prog 3 #[.slice A n c, .slice Ao no co] w fun e w' => e = .returned (.bool true) ∧ Below w.heap.size w w' := by
  have HP := Lib.hid hp
  have HO := Lib.hid hO
  have hnc := hp.ss.le
  have hcx := hp.ss.max
  have hoc := hO.le
  have hox := hO.max
  obtain ⟨er, her⟩ := fault_some ps
  have HER := Lib.hid her
  clear hp hO her
  go_enter Try.func3, Try.ntmps3
  go_wp2_with fail
  refine (anchor_any w).mono ?_
  rintro e w1 ⟨rfl, hb1⟩
  have B1 := Lib.hid hb1
  clear hb1
  by_cases n1 : 30 < n
  · have zn : 30 < (n : Int) := by omega
    go_wp2
    go_ret
    exact ⟨rfl, B1.out⟩
  have zn : ¬ 30 < (n : Int) := by omega
  by_cases n2 : 80 < no
  · have zo : 80 < (no : Int) := by omega
    go_wp2
    go_ret
    exact ⟨rfl, B1.out⟩
  have zo : ¬ 80 < (no : Int) := by omega
  have HN : Hid (no ≤ 80 ∧ n ≤ 30) := ⟨by omega, by omega⟩
  -- the drive
  obtain ⟨Z, hZ⟩ : ∃ Z : Dv → World → Prop, Z = fun D w' => Drv w' D ∧ Fresh w1.heap.size ps D := ⟨_, rfl⟩
  have HZ := Lib.hid hZ
  have HNEW : Hid (Calls Try.prog 9 #[.slice A n c] w1 fun e w' => ∃ v, e = .returned (.tuple #[v, .int .i64 er]) ∧ Below w1.heap.size w1 w' ∧ (er ≠ 0 → v = .pointer none) ∧ (er = 0 → ∃ D, v = .pointer (some ⟨D.g, 0, none⟩) ∧ Z D w')) := by
    by_cases h0 : er = 0
    · have he0 := HER.out
      rw [h0] at he0
      refine (New_ok A n c ps w1 (HP.out.ss.below B1.out) (fun p hp => (HP.out.each p hp).1) he0).mono ?_
      rintro e w' ⟨D, rfl, hD, hF, hb⟩
      exact ⟨_, by rw [h0], hb, fun h => absurd h0 h, fun _ => ⟨D, rfl, by rw [HZ.out]; exact ⟨hD, hF⟩⟩⟩
    · refine (New_bad A n c ps w1 (HP.out.ss.below B1.out) (fun p hp => (HP.out.each p hp).1) er HER.out h0).mono ?_
      rintro e w' ⟨rfl, hb⟩
      exact ⟨_, rfl, hb, fun _ => rfl, fun h => absurd h h0⟩
  clear hZ
  go_wp2_with fail
  refine HNEW.out.mono ?_
  rintro e w2 ⟨v, rfl, hb2, hv1, hv2⟩
  have B2 := Lib.hid (below_then B1.out hb2)
  have HV1 := Lib.hid hv1
  have HV2 := Lib.hid hv2
  have HS2 : Hid (w.heap.size ≤ w1.heap.size ∧ w1.heap.size ≤ w2.heap.size) := ⟨B1.out.size, hb2.size⟩
  clear hb2 hv1 hv2 HNEW
  obtain ⟨W3, hW⟩ : ∃ W3, w2.alloc (.cells #[.slice none 0 0, .slice none 0 0, .slice none 0 0, .int .i64 0, .bool false, .slice none 0 0, .bool false, .int .i64 0, .int .i64 0] 34) = W3 := ⟨_, rfl⟩
  have HZ3 : Hid (Blk W3 w2.heap.size 34 (mkCells 0 none 0 0 none 0 0 none 0)) := by rw [← hW]; exact Blk.new w2 34 (mkCells 0 none 0 0 none 0 0 none 0)
  have B3 : Hid (Below w.heap.size w W3) := by rw [← hW]; exact B2.out.alloc B2.out.size _
  have B23 : Hid (Below w2.heap.size w2 W3) := by rw [← hW]; exact (Below.refl _ _).alloc (Nat.le_refl _) _
  go_wp2
  go_loopw [43] (fun si wr => ∃ k : Nat, si = .int .i64 (k : Int) ∧ k ≤ n ∧ Hid (∀ i q, ps[i]? = some q → i < k → q.1.size ≤ 100 ∧ (q.2 ≤ 1000 ∨ 1048576 < q.2)) ∧ Hid (Below W3.heap.size W3 wr) ∧ Hid (Below w.heap.size w wr)) (fun i _ => n - (intOf i).toNat)
  case atStart => exact ⟨0, rfl, Nat.zero_le _, (fun i q _ hi => absurd hi (Nat.not_lt_zero _)), Below.refl _ _, B3⟩
  case round =>
    obtain ⟨k, rfl, hkn, HA, HBr, HBw⟩ := hrel
    by_cases hlt : k < n
    · have zlt : (k : Int) < (n : Int) := by omega
      obtain ⟨p, hp⟩ : ∃ p, ps[k]? = some p := ⟨_, List.getElem?_eq_getElem (by rw [HP.out.len]; exact hlt)⟩
      have HPk := Lib.hid hp
      obtain ⟨ad, hA, c0, c1⟩ := (HP.out.ss.rs.below HBw.out).part hp
      have hz := HP.out.each p (List.mem_of_getElem? hp)
      obtain ⟨nm, sz⟩ := p
      simp only [] at c0 c1 hz
      have HNS := Lib.hid hz
      subst hA
      have HBn := Lib.hid (HBr.out.alloc HBr.out.size (.cells #[.string nm, .int .i64 sz] 36))
      have HBwn := Lib.hid (HBw.out.alloc HBw.out.size (.cells #[.string nm, .int .i64 sz] 36))
      clear hp hz
      have HREL : Hid (nm.size ≤ 100 → (sz ≤ 1000 ∨ 1048576 < sz) → ∀ i q, ps[i]? = some q → i < k + 1 → q.1.size ≤ 100 ∧ (q.2 ≤ 1000 ∨ 1048576 < q.2)) := fun h1 h2 i q hi hlt => by
        by_cases e : i = k
        · subst e
          rw [HPk.out] at hi
          injection hi with hi
          rw [← hi]; exact ⟨h1, h2⟩
        · exact HA.out i q hi (by omega)
      by_cases g1 : 100 < nm.size
      · have zg : 100 < (nm.size : Int) := by omega
        go_wp2
        go_ret
        exact ⟨rfl, HBwn.out⟩
      have zg : ¬ 100 < (nm.size : Int) := by omega
      by_cases g2 : sz ≤ 1000
      · have zg2 : ¬ 1000 < sz := by omega
        go_wp2
        go_roundw
        case rel => exact ⟨k + 1, by go_num, by omega, HREL.out (by omega) (.inl g2), HBn, HBwn⟩
        case measure => simp [intOf]; omega
      have zg2 : 1000 < sz := by omega
      by_cases g3 : sz ≤ 1048576
      · go_wp2
        go_ret
        exact ⟨rfl, HBwn.out⟩
      · go_wp2
        go_roundw
        case rel => exact ⟨k + 1, by go_num, by omega, HREL.out (by omega) (.inr (by omega)), HBn, HBwn⟩
        case measure => simp [intOf]; omega
    · obtain rfl : k = n := by omega
      have HLE : Hid (er = 0 → ∀ q ∈ ps, q.2 ≤ 1000) := fun h0 q hq => by
        have hr := (fault_zero (h0 ▸ HER.out)).2
        obtain ⟨i, hi⟩ := List.mem_iff_getElem?.1 hq
        have hik : i < k := by have := (List.getElem?_eq_some_iff.1 hi).1; have := HP.out.len; omega
        rcases (HA.out i q hi hik).2 with h | h
        · exact h
        · have := sizeOk_bd (hr.1 q hq).2; omega
      have HMD := Lib.hid (tmade_any A k c ps wr w2.heap.size (HP.out.ss.below HBw.out) (fun p hp => (HP.out.each p hp).1) (fun p hp => (HP.out.each p hp).2) er HER.out (HZ3.out.below HBr.out HZ3.out.lt) HLE.out (fun h0 ad e => by
        obtain ⟨ad', e', hl, _⟩ := HP.out.ss.rs (by rw [pcells_length, HP.out.len]; omega)
        rw [e] at e'
        injection e' with e'
        have := B2.out.size
        rw [e']; omega))
      clear HA
      go_wp2_with fail
      refine HMD.out.mono ?_
      rintro e w4 ⟨rfl, ht4, hM4⟩
      have B4 : Hid (Below w.heap.size w w4) := below_touch HBw.out ht4 (fun b hb => by rw [List.mem_singleton.1 hb]; exact B2.out.size) HBw.out.size
      have B24 : Hid (Below w2.heap.size w2 w4) := below_touch (below_then B23.out HBr.out) ht4 (fun b hb => by rw [List.mem_singleton.1 hb]; exact Nat.le_refl _) (below_then B23.out HBr.out).size
      have M4 := Lib.hid hM4
      clear hM4 ht4 HMD
      by_cases h0 : er = 0
      case neg =>
        have hv := HV1.out h0
        subst hv
        have hne : (er != 0) = true := by simp [h0]
        go_wp2
        go_ret
        exact ⟨by simp, B4.out⟩
      case pos =>
        subst h0
        obtain ⟨D, rfl, hD⟩ := HV2.out rfl
        have hDF : Drv w2 D ∧ Fresh w1.heap.size ps D := by have := hD; rw [HZ.out] at this; exact this
        obtain ⟨B, pa, pc, rows, ba, bc, sa, sc, hM, hB, hpa⟩ := M4.out rfl
        have hfz := fault_zero HER.out
        have hln := HP.out.len
        have HFZ := Lib.hid hfz
        have hk16 : k ≤ 16 := by omega
        have h2r := (below_then B23.out HBr.out).size
        have hPL : ∃ T D', Play w w4 w2.heap.size D.g ps 0 T D' := play_new B1.out HS2.out.2 hDF.1 hDF.2 B24.out B4.out hM hln hfz (HLE.out rfl) (fun x hx => by have := hpa x hx; omega)
        have PL := Lib.hid hPL
        have HLN := Lib.hid hln
        have HPT : Hid (Calls Try.prog 11 #[.pointer (some ⟨D.g, 0, none⟩)] w4 fun e w' => ∃ A c, e = .returned (.slice A k c) ∧ Below w4.heap.size w4 w') := by
          obtain ⟨T, D', h⟩ := hPL
          have := play_parts h
          rwa [hln] at this
        clear hDF hM hB hpa hfz hln hPL h2r M4 HV1 HV2 hD HLE HZ
        obtain ⟨g, hg⟩ : ∃ g, D.g = g := ⟨_, rfl⟩
        obtain ⟨t, ht⟩ : ∃ t, w2.heap.size = t := ⟨_, rfl⟩
        rw [hg] at HPT
        rw [ht, hg] at PL
        rw [ht, hg]
        clear HZ3 B24 HBr B23 hW HS2 B3 B2 B1 HBw hg ht
        go_wp2_with fail
        refine HPT.out.mono ?_
        rintro e w5 ⟨Ap, cp, rfl, hb5⟩
        have PL5 : Hid (∃ T D', Play w w5 t g ps 0 T D') := by
          obtain ⟨T, D', h⟩ := PL.out
          exact ⟨T, D', h.below hb5⟩
        clear hb5 PL HPT B4
        go_wp2
        go_loopw [90] (fun si wr => ∃ (i : Nat) (T : Tv) (D' : Dv), si = .int .i64 (i : Int) ∧ i ≤ no ∧ Hid (Play w wr t g ps i T D')) (fun i _ => no - (intOf i).toNat)
        case atStart =>
          obtain ⟨T, D', h⟩ := PL5.out
          exact ⟨0, T, D', rfl, Nat.zero_le _, h⟩
        case round =>
          obtain ⟨i, T, D', rfl, hin, PLi⟩ := hrel
          clear PL5
          by_cases hlt2 : i < no
          · have zlt2 : (i : Int) < (no : Int) := by omega
            obtain ⟨ad, rfl, hop⟩ := HO.out.each i hlt2
            obtain ⟨o, ho⟩ : ∃ o, f i = o := ⟨_, rfl⟩
            rw [ho] at hop
            clear ho
            have HOP := Lib.hid hop
            obtain ⟨c0, c1, c2, c3, c4, c5, c6, _, _, _, _, _, _⟩ := hop.below PLi.out.bel
            obtain ⟨kind, off, kn', nm, dA, dl, dc, db, on, kA, kn, kc, kp⟩ := o
            simp only [] at c0 c1 c2 c3 c4 c5 c6
            have PLn := Lib.hid (PLi.out.below ((Below.refl _ _).alloc (Nat.le_refl _) (.cells #[.int .i64 kind, .int .i64 off, .int .i64 kn', .string nm, .slice dA dl dc, .bool on, .slice kA kn kc] 41)))
            clear hop
            by_cases g1 : 500 < dl
            · have z1 : 500 < (dl : Int) := by omega
              go_wp2
              go_ret
              exact ⟨rfl, PLn.out.bel⟩
            have z1 : ¬ 500 < (dl : Int) := by omega
            by_cases g2 : 30 < kn
            · have z2 : 30 < (kn : Int) := by omega
              go_wp2
              go_ret
              exact ⟨rfl, PLn.out.bel⟩
            have z2 : ¬ 30 < (kn : Int) := by omega
            by_cases g3 : 100 < nm.size
            · have z3 : 100 < (nm.size : Int) := by omega
              go_wp2
              go_ret
              exact ⟨rfl, PLn.out.bel⟩
            have z3 : ¬ 100 < (nm.size : Int) := by omega
            have hno80 := HN.out.1
            have HST := Lib.hid (play_step PLn.out (by omega) (W := wr) _ _ HOP.out (by show kn ≤ 30; omega) kind off kn' nm dA dl dc on kA kn kc rfl)
            clear g1 g2 g3
            go_wp2_with fail
            refine HST.out.mono ?_
            rintro e w6 ⟨rfl, T6, D6, hP6⟩
            have PL6 := Lib.hid hP6
            have HRD := Lib.hid (play_reads hP6)
            clear hP6 HST PLn PLi
            go_wp2_with fail
            refine HRD.out.mono ?_
            rintro e w7 ⟨rfl, q, hq⟩
            have PL7 : Hid (Play w w7 t g ps (i + 1) T6 D6) := by rw [hq]; exact PL6.out.drewN q
            have HDN : Hid (∀ m, Calls Try.prog 14 #[.pointer (some ⟨g, 0, none⟩)] (w7.drewN m) fun e w' => e = .returned (.bool T6.off) ∧ w' = w7.drewN m) := fun m => (play_down PL7.out m).mono (fun _ _ h => ⟨h.1, h.2.symm⟩)
            have hB := (PL7.out.both.tw.blk)
            rw [PL7.out.tt] at hB
            have x6 : w7.cell? ⟨t, 6, none⟩ = some (.bool T6.off) := hB.cell 6
            have x7 : w7.cell? ⟨t, 7, none⟩ = some (.int .i64 T6.count) := hB.cell 7
            have x8 : w7.cell? ⟨t, 8, none⟩ = some (.int .i64 T6.told) := hB.cell 8
            have HPN : Hid (∀ m, Play w (w7.drewN m) t g ps (i + 1) T6 D6) := fun m => PL7.out.drewN m
            clear hq PL6
            clear hB HRD
            obtain ⟨ct, hct⟩ : ∃ ct, T6.count = ct := ⟨_, rfl⟩
            obtain ⟨td, htd⟩ : ∃ td, T6.told = td := ⟨_, rfl⟩
            obtain ⟨of, hof⟩ : ∃ of, T6.off = of := ⟨_, rfl⟩
            rw [hct] at x7
            rw [htd] at x8
            rw [hof] at x6 HDN
            rw [hct, htd]
            clear hct htd hof
            go_wp2_with fail
            go_quiet ((go_at_call 14; exact Calls.quiet_of_same (HDN.out _)))
            go_wp2
            go_roundw
            case rel => exact ⟨i + 1, T6, D6, by go_num, by omega, HPN.out nq⟩
            case measure => simp [intOf]; omega
          · obtain rfl : i = no := by omega
            have hno80 := HN.out.1
            have hn16 := HFZ.out.1
            have HROWS : Hid (∀ (j : Nat) nm z, ps[j]? = some (nm, z) → ∃ p, T.rows[j]? = some p ∧ p.nm = nm ∧ z = p.l.length) := fun j nm z h => row_at PLi.out.ps h
            have HPS : Hid (T.ps = ps) := PLi.out.ps
            have HBT := Lib.hid (last_boot PLi.out)
            obtain ⟨O, hO⟩ : ∃ O, D'.own = O := ⟨_, rfl⟩
            rw [hO] at HBT
            go_wp2_with fail
            refine HBT.out.mono ?_
            rintro e w6 ⟨rfl, D6, hL6⟩
            have LA6 := Lib.hid hL6
            clear hL6 HBT PLi hO
            go_wp2
            clear HN HLN HO hno80
            have HK16 : Hid (k ≤ 16 ∧ i ≤ 80) := ⟨hk16, by omega⟩
            go_loopw [148] (fun si wr => ∃ (j : Nat) (M : Int) (D' : Dv), si = .int .i64 (j : Int) ∧ j ≤ k ∧ Hid (M ≤ 80 + (j : Int)) ∧ Hid (Last w wr t g O T D' M)) (fun i _ => k - (intOf i).toNat)
            case atStart => exact ⟨0, i, D6, rfl, Nat.zero_le _, by have := HK16.out.2; show (i : Int) ≤ 80 + ((0 : Nat) : Int); omega, LA6⟩
            case round =>
              rename World => wo
              obtain ⟨j, M, D7, rfl, hjk, HM, LAj⟩ := hrel
              clear LA6
              by_cases hlt3 : j < k
              · have zlt3 : (j : Int) < (k : Int) := by omega
                obtain ⟨⟨nm, sz⟩, hp⟩ : ∃ p, ps[j]? = some p := ⟨_, List.getElem?_eq_getElem (by rw [HP.out.len]; exact hlt3)⟩
                obtain ⟨ad, hA, c0, c1⟩ := (HP.out.ss.rs.below LAj.out.bel).part hp
                obtain ⟨p, hi, hnm, hsz⟩ := HROWS.out j nm sz hp
                simp only [] at c0 c1
                subst hA
                obtain ⟨S, hS⟩ : ∃ S, p.sb.length = S := ⟨_, rfl⟩
                obtain ⟨Z, hZ⟩ : ∃ Z, p.l.length = Z := ⟨_, rfl⟩
                obtain ⟨N, hN⟩ : ∃ N, T.rows.length = N := ⟨_, rfl⟩
                rw [hZ] at hsz
                subst hsz
                have HPR := Lib.hid (List.mem_of_getElem? hi)
                have HPI := Lib.hid hi
                have HNM := Lib.hid hnm
                have HSS := Lib.hid hS
                have HZZ := Lib.hid hZ
                have HNN := Lib.hid hN
                have hsz := LAj.out.fin.tw.size p HPR.out
                have hsl : S ≤ 16000 := by rw [← hS]; omega
                have hzl : Z ≤ 1000000 := by rw [← hZ]; omega
                have hjN : j < N := by rw [← hN]; exact (List.getElem?_eq_some_iff.1 hi).1
                have hN16 : N ≤ 16 := by rw [← hN]; exact LAj.out.fin.tw.few
                have zjN : (j : Int) < (N : Int) := by omega
                obtain ⟨W, hW⟩ : ∃ W, wo.alloc (.cells #[.string nm, .int .i64 (Z : Int)] 36) = W := ⟨_, rfl⟩
                have HXB : Hid (Blk W wo.heap.size 36 [.string nm, .int .i64 (Z : Int)]) := by rw [← hW]; exact Blk.new wo 36 [.string nm, .int .i64 (Z : Int)]
                have LAW : Hid (Last w W t g O T D7 M) := by rw [← hW]; exact LAj.out.below ((Below.refl _ _).alloc (Nat.le_refl _) _)
                have HOX : Hid (wo.heap.size ∉ O) := fun hm => by
                  rw [← LAj.out.own] at hm
                  exact absurd (LAj.out.fin.drv.lt _ hm) (Nat.lt_irrefl _)
                have hB := LAW.out.fin.tw.blk
                rw [LAW.out.tt] at hB
                have x2 : W.cell? ⟨t, 2, none⟩ = some (.slice T.sa T.rows.length T.sc) := hB.cell 2
                obtain ⟨ads, es, _, hcs⟩ := LAW.out.fin.tw.tabS (by simp; rw [hN]; omega)
                have x9 := hcs j p.sv (by simp [hi])
                rw [es, hN] at x2
                unfold TRow.sv at x9
                rw [hS] at x9
                clear hB hp hi hnm hS hZ hN hcs es hsz
                go_wp2
                clear x2 x9
                go_loopw [161] (fun si wr => ∃ (q : Nat) (D' : Dv), si = .int .i64 (q : Int) ∧ q ≤ S ∧ Hid (Last w wr t g O T D' M) ∧ Hid (Clr D' j q) ∧ Hid (Blk wr wo.heap.size 36 [.string nm, .int .i64 (Z : Int)])) (fun i _ => S - (intOf i).toNat)
                case atStart => exact ⟨0, D7, rfl, Nat.zero_le _, LAW, (fun q _ k' hk' => absurd hk' (Nat.not_lt_zero _)), HXB⟩
                case round =>
                  obtain ⟨q, D8, rfl, hqS, LAq, HC, HXq⟩ := hrel
                  clear LAW HXB hW
                  have x0 := HXq.out.cell 0
                  have x1 := HXq.out.cell 1
                  simp only [List.getElem?_cons_zero, List.getElem?_cons_succ] at x0 x1
                  by_cases hlt4 : q < S
                  · have zlt4 : (q : Int) < (S : Int) := by omega
                    have hbd := last_bad LAq.out j p HPI.out q (by rw [HSS.out]; exact hlt4) HC.out
                    rw [HNM.out] at hbd
                    have HBD := Lib.hid hbd
                    clear hbd
                    go_wp2_with fail
                    refine HBD.out.mono ?_
                    rintro e w7 ⟨rfl, D9, hL9, hC9, ht9⟩
                    have LA9 := Lib.hid hL9
                    have HC9 := Lib.hid hC9
                    have HX9 := Lib.hid (HXq.out.touch ht9 HOX.out)
                    clear hL9 hC9 ht9 HBD
                    go_wp2
                    go_roundw
                    case rel => exact ⟨q + 1, D9, by go_num, by omega, LA9, HC9, HX9⟩
                    case measure => simp [intOf]; omega
                  · obtain rfl : q = S := by omega
                    have hrd := last_read LAq.out (by have := HM.out; have := HK16.out.1; omega) j p HPI.out (by rw [HSS.out]; exact HC.out)
                    rw [HNM.out, HZZ.out] at hrd
                    have HRD := Lib.hid hrd
                    clear hrd
                    go_wp2_with fail
                    refine HRD.out.mono ?_
                    rintro e w7 ⟨r, rfl, hBr, D9, hL9, ht9⟩
                    have LA9 := Lib.hid hL9
                    have HX9 := Lib.hid (HXq.out.touch ht9 HOX.out)
                    have HR9 := Lib.hid hBr
                    have x0 := HX9.out.cell 0
                    have x1 := HX9.out.cell 1
                    simp only [List.getElem?_cons_zero, List.getElem?_cons_succ] at x0 x1
                    have hsz := last_size hL9 j p HPI.out
                    rw [HNM.out, HZZ.out] at hsz
                    have HSZ := Lib.hid hsz
                    clear hL9 ht9 HRD hBr hsz LAq
                    go_wp2_with fail
                    refine HSZ.out.mono ?_
                    rintro e w8 ⟨rfl, hb8⟩
                    have LA8 := Lib.hid (LA9.out.below hb8)
                    have HX8 := HX9.out.below hb8 HX9.out.lt
                    have HR8 := Lib.hid (HR9.out.below hb8 HR9.out.lt)
                    have HP8 := Lib.hid (LA8.out.fin.tw.bytes p HPR.out)
                    have x0 := HX8.cell 0
                    have x1 := HX8.cell 1
                    simp only [List.getElem?_cons_zero, List.getElem?_cons_succ] at x0 x1
                    have hB := LA8.out.fin.tw.blk
                    rw [LA8.out.tt] at hB
                    have y1 : w8.cell? ⟨t, 1, none⟩ = some (.slice T.ba T.rows.length T.bc) := hB.cell 1
                    obtain ⟨adb, eb, _, hcb⟩ := LA8.out.fin.tw.tabB (by simp; rw [HNN.out]; omega)
                    have y9 := hcb j p.bv (by simp [HPI.out])
                    rw [eb, HNN.out] at y1
                    unfold TRow.bv at y9
                    rw [HZZ.out] at y9
                    have q1 : ∀ m, (convert 39 9 (.slice (some ⟨r, 0, none⟩) Z Z)).run Try.prog (w8.drewN m) = .ok (.string (str p.l)) (w8.drewN m) := fun m => rd_str ((HR8.out.drewN m).rd Z HZZ.out) Z
                    have q2 : ∀ m, (convert 39 9 (.slice (some ⟨p.bb, 0, none⟩) Z Z)).run Try.prog (w8.drewN m) = .ok (.string (str p.l)) (w8.drewN m) := fun m => rd_str ((HP8.out.drewN m).rd Z HZZ.out) Z
                    have q3 : ((str p.l).toList == (str p.l).toList) = true := beq_self_eq_true _
                    generalize str p.l = G at q1 q2 q3
                    have HLN : Hid (∀ m, Last w (w8.drewN m) t g O T D9 (M + 1)) := fun m => LA8.out.drewN m
                    clear hb8 hB hcb eb HX8 HSZ
                    go_wp2_with fail
                    go_quiet (fail)
                    go_wp2
                    go_roundw
                    case rel => exact ⟨j + 1, M + 1, D9, by go_num, by omega, by have := HM.out; show M + 1 ≤ 80 + ((j + 1 : Nat) : Int); omega, HLN.out nq⟩
                    case measure => simp [intOf]; omega
              · obtain rfl : j = k := by omega
                have HNO := Lib.hid (last_none LAj.out HPS.out HFZ.out.2)
                go_wp2_with fail
                refine HNO.out.mono ?_
                rintro e w7 ⟨rfl, hb7⟩
                have B7 : Hid (Below w.heap.size w w7) := below_then LAj.out.bel hb7
                clear hb7 HNO LAj
                go_wp2
                go_ret
                exact ⟨rfl, B7.out⟩
end Go.Proofs.Ytonjmbcagdkdiaa
