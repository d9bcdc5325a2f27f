/-
  GroveSame returns true for every seed, number and list of texts: its walk.
-/
import Derived.Test.YtijblgbpfffagaaDoorGs
namespace Go.Proofs.YtijblgbpfffagaaDoor
open Go.RowKit
set_option linter.unusedVariables false
set_option linter.unusedSimpArgs false
set_option maxRecDepth 100000

theorem add_zero_ (a : Addr) : a.add 0 = a := by unfold Addr.add; split <;> first | rfl | (rename_i h; exact absurd rfl h)
set_option maxHeartbeats 16000000 in
theorem same_walk (z b : Int) (A : Option Addr) (nA cA : Nat) (salt : List Nat) (Ad : Option Addr) (nd cd : Nat) (data : List Nat) (i : Int) (Ao : Option Addr) (no co : Nat) (ps : List Bt) (w : World) (hz : I64 z) (hb : I64 b) (hs : Bs w A nA cA salt) (hd : Bs w Ad nd cd data) (hi : I64 i) (hp : Ls w Ao no co ps) (hsp : ∀ p ∈ ps, p.n ≤ 140737488355328) (ht : Both w) : Calls Tryd.prog 6 #[.agg #[.int .i64 z, .int .i64 b, .slice A nA cA, .slice Ad nd cd], .int .i64 i, .slice Ao no co] w fun e w' => e = .returned (.bool true) ∧ Below w.heap.size w w' := by
  have hnc := hp.2.1
  have hcm := hp.2.2.1
  obtain ⟨D, hDD⟩ : ∃ D, sizeOfAlg z = D := ⟨_, rfl⟩
  have HDD := Lib.hid hDD
  have HZ := Lib.hid hz
  have HIB := Lib.hid hb
  have HB1 : Hid (Below w.heap.size w (w.alloc (.cells #[.int .i64 z, .int .i64 b, .slice A nA cA, .slice Ad nd cd] 24))) := (Below.refl _ _).alloc (Nat.le_refl _) _
  have HK := Lib.hid (Blk.new w 24 [.int .i64 z, .int .i64 b, .slice A nA cA, .slice Ad nd cd])
  have HS0 := Lib.hid hs
  have HD0 := Lib.hid hd
  have HTB := Lib.hid ht
  have HP0 := Lib.hid hp
  have HI := Lib.hid hi
  clear hDD hz hb hs hd ht hp hi hsp
  go_enter Tryd.func6, Tryd.ntmps6
  go_wp2_with fail
  generalize w.alloc (.cells #[.int .i64 z, .int .i64 b, .slice A nA cA, .slice Ad nd cd] 24) = W at *
  refine (anchor9_any W (HTB.out.below HB1.out)).mono ?_
  rintro e w1 ⟨rfl, hb1⟩
  have BK1 := Lib.hid (HK.out.below hb1 HK.out.lt)
  have BEL1 := Lib.hid (below_then HB1.out hb1)
  have c10 : w1.cell? ⟨w.heap.size, 0, none⟩ = some (.int .i64 z) := BK1.out.cell 0
  have c11 : w1.cell? ⟨w.heap.size, 1, none⟩ = some (.int .i64 b) := BK1.out.cell 1
  have c12 : w1.cell? ⟨w.heap.size, 2, none⟩ = some (.slice A nA cA) := BK1.out.cell 2
  have c13 : w1.cell? ⟨w.heap.size, 3, none⟩ = some (.slice Ad nd cd) := BK1.out.cell 3
  clear hb1
  go_wp2_with fail
  refine (shape9_any z b A nA cA Ad nd cd D HDD.out w1).mono ?_
  obtain ⟨ok, hok⟩ : ∃ ok, decide (Rgt nd b D ∧ nA ≤ 64) = ok := ⟨_, rfl⟩
  rw [hok]
  have HOK := Lib.hid hok
  clear hok
  rintro e w2 ⟨rfl, hb2⟩
  have BK2 := Lib.hid (BK1.out.below hb2 BK1.out.lt)
  have BEL2 := Lib.hid (below_then BEL1.out hb2)
  have c20 : w2.cell? ⟨w.heap.size, 0, none⟩ = some (.int .i64 z) := BK2.out.cell 0
  have c21 : w2.cell? ⟨w.heap.size, 1, none⟩ = some (.int .i64 b) := BK2.out.cell 1
  have c22 : w2.cell? ⟨w.heap.size, 2, none⟩ = some (.slice A nA cA) := BK2.out.cell 2
  have c23 : w2.cell? ⟨w.heap.size, 3, none⟩ = some (.slice Ad nd cd) := BK2.out.cell 3
  clear hb2 c10 c11 c12 c13
  have hb3 : Below w2.heap.size w2 (w2.alloc (.cells #[.int .i64 (nd : Int), .int .i64 b, .int .i64 (D : Int)] 32)) := (Below.refl _ _).alloc (Nat.le_refl _) _
  have hsb := Blk.new w2 32 [.int .i64 (nd : Int), .int .i64 b, .int .i64 (D : Int)]
  have d30 : (w2.alloc (.cells #[.int .i64 (nd : Int), .int .i64 b, .int .i64 (D : Int)] 32)).cell? ⟨w.heap.size, 0, none⟩ = some (.int .i64 z) := (BK2.out.below hb3 BK2.out.lt).cell 0
  have d31 : (w2.alloc (.cells #[.int .i64 (nd : Int), .int .i64 b, .int .i64 (D : Int)] 32)).cell? ⟨w.heap.size, 1, none⟩ = some (.int .i64 b) := (BK2.out.below hb3 BK2.out.lt).cell 1
  have d32 : (w2.alloc (.cells #[.int .i64 (nd : Int), .int .i64 b, .int .i64 (D : Int)] 32)).cell? ⟨w.heap.size, 2, none⟩ = some (.slice A nA cA) := (BK2.out.below hb3 BK2.out.lt).cell 2
  have d33 : (w2.alloc (.cells #[.int .i64 (nd : Int), .int .i64 b, .int .i64 (D : Int)] 32)).cell? ⟨w.heap.size, 3, none⟩ = some (.slice Ad nd cd) := (BK2.out.below hb3 BK2.out.lt).cell 3
  have HB3 := Lib.hid hb3
  have HSB := Lib.hid hsb
  clear hb3 hsb c20 c21 c22 c23
  go_wp2_with fail
  have hb3 := HB3.out
  have hsb := HSB.out
  clear HB3 HSB d30 d31 d32 d33
  generalize w2.alloc (.cells #[.int .i64 (nd : Int), .int .i64 b, .int .i64 (D : Int)] 32) = w3 at *
  obtain ⟨g, hg⟩ : ∃ g, w2.heap.size = g := ⟨_, rfl⟩
  have SB3 : Hid (Blk w3 g 32 [.int .i64 (nd : Int), .int .i64 b, .int .i64 (D : Int)]) := by rw [← hg]; exact hsb
  have BK3 := Lib.hid (BK2.out.below hb3 BK2.out.lt)
  have BEL3 := Lib.hid (below_then BEL2.out hb3)
  rw [hg]
  clear hb3 hsb hg
  refine (small_any z b A nA cA Ad nd cd w3).mono ?_
  obtain ⟨sm, hsm⟩ : ∃ sm, decide (nA ≤ 100 ∧ nd ≤ 1500) = sm := ⟨_, rfl⟩
  rw [hsm]
  rintro e w4 ⟨rfl, hb4⟩
  have BK4 := Lib.hid (BK3.out.below hb4 BK3.out.lt)
  have BEL4 := Lib.hid (below_then BEL3.out hb4)
  have SB4 := Lib.hid (SB3.out.below hb4 SB3.out.lt)
  have c40 : w4.cell? ⟨w.heap.size, 0, none⟩ = some (.int .i64 z) := BK4.out.cell 0
  have c41 : w4.cell? ⟨w.heap.size, 1, none⟩ = some (.int .i64 b) := BK4.out.cell 1
  have c42 : w4.cell? ⟨w.heap.size, 2, none⟩ = some (.slice A nA cA) := BK4.out.cell 2
  have c43 : w4.cell? ⟨w.heap.size, 3, none⟩ = some (.slice Ad nd cd) := BK4.out.cell 3
  have s40 : w4.cell? ⟨g, 0, none⟩ = some (.int .i64 (nd : Int)) := SB4.out.cell 0
  have s41 : w4.cell? ⟨g, 1, none⟩ = some (.int .i64 b) := SB4.out.cell 1
  have s42 : w4.cell? ⟨g, 2, none⟩ = some (.int .i64 (D : Int)) := SB4.out.cell 2
  clear hb4
  cases sm
  · go_wp2
    go_ret
    exact ⟨rfl, BEL4.out⟩
  have hsm2 := of_decide_eq_true hsm
  have HSM := Lib.hid hsm2
  clear hsm hsm2
  cases ok
  · go_wp2
    go_ret
    exact ⟨rfl, BEL4.out⟩
  obtain ⟨hR, h64⟩ : Rgt nd b D ∧ nA ≤ 64 := of_decide_eq_true HOK.out
  by_cases hi0 : i < 0
  · go_wp2
    go_ret
    exact ⟨rfl, BEL4.out⟩
  obtain ⟨k, rfl⟩ : ∃ k : Nat, i = k := ⟨i.toNat, by omega⟩
  obtain ⟨s, rfl, hs12⟩ : ∃ s : Nat, z = s ∧ (s = 1 ∨ s = 2) := algYes (by rw [HDD.out]; obtain ⟨_, _, h, _⟩ := hR; omega)
  obtain ⟨S, B, D', a, n, eS, rfl, eD, hShp⟩ := hR.shp
  obtain rfl : nd = S := by omega
  obtain rfl : D = D' := by omega
  obtain ⟨m, hm⟩ : ∃ m, (cs a n).length = m := ⟨_, rfl⟩
  have HM := Lib.hid hm
  have HSHP := Lib.hid hShp
  have HS12 := Lib.hid hs12
  have hpos : 1 ≤ m := by rw [← hm]; exact List.length_pos_iff.2 (cnts_ne a 40 n)
  have h41 : m ≤ 41 := by rw [← hm]; exact cnts_len _ _ _
  clear hm hShp hs12 hR eS eD hi0
  go_wp2_with fail
  refine (RefCounts_any nd B D a n w4 HSHP.out).mono ?_
  rintro e w5 ⟨A5, m5, c5, rfl, hrow5, hb5⟩
  have hm5 : m5 = m := by rw [← HM.out]; have := hrow5.length; rw [cn_length] at this; exact this.symm
  subst hm5
  obtain ⟨g5, rfl, _, _, hcs5⟩ := hrow5.cells (by omega)
  have hn5 : w5.cell? ⟨g5, 0, none⟩ = some (.int .i64 (n : Int)) := hcs5 0 _ (cn_get (cs_get (by rw [HM.out]; omega)))
  have BK5 := Lib.hid (BK4.out.below hb5 BK4.out.lt)
  have BEL5 := Lib.hid (below_then BEL4.out hb5)
  have SB5 := Lib.hid (SB4.out.below hb5 SB4.out.lt)
  have c50 : w5.cell? ⟨w.heap.size, 0, none⟩ = some (.int .i64 (s : Int)) := BK5.out.cell 0
  have c51 : w5.cell? ⟨w.heap.size, 1, none⟩ = some (.int .i64 (B : Int)) := BK5.out.cell 1
  have c52 : w5.cell? ⟨w.heap.size, 2, none⟩ = some (.slice A nA cA) := BK5.out.cell 2
  have c53 : w5.cell? ⟨w.heap.size, 3, none⟩ = some (.slice Ad nd cd) := BK5.out.cell 3
  have s50 : w5.cell? ⟨g, 0, none⟩ = some (.int .i64 (nd : Int)) := SB5.out.cell 0
  have s51 : w5.cell? ⟨g, 1, none⟩ = some (.int .i64 (B : Int)) := SB5.out.cell 1
  have s52 : w5.cell? ⟨g, 2, none⟩ = some (.int .i64 (D : Int)) := SB5.out.cell 2
  clear c40 c41 c42 c43 s40 s41 s42
  clear hb5 hrow5 hcs5
  by_cases hin : n ≤ k
  · have zin : (n : Int) ≤ k := by omega
    go_wp2
    go_ret
    exact ⟨rfl, BEL5.out⟩
  have zin : ¬ (n : Int) ≤ k := by omega
  by_cases h30 : 30 < no
  · have z30 : (30 : Int) < no := by omega
    go_wp2
    go_ret
    exact ⟨rfl, BEL5.out⟩
  have z30 : ¬ (30 : Int) < no := by omega
  have HOV : Hid (∀ u : World, Below w.heap.size w u → Over u s nd B D a n A nA cA Ad cd salt data) := fun u hu => ⟨HSHP.out, HS12.out, HDD.out, HS0.out.rd.below hu, HS0.out.fit, HS0.out.nil, by omega, HD0.out.rd.below hu, HD0.out.fit, HD0.out.le⟩
  have hdig : sizeOfAlg (s : Int) = D := HDD.out
  have HDIG := Lib.hid hdig
  have hb4k : B ≤ 4096 := HSHP.out.b.2.1
  have hkn : k < n := by omega
  clear hdig hin h30
  go_wp2
  go_loopw [51] (fun v wr => ∃ j : Nat, j ≤ no ∧ v = .int .i64 (j : Int) ∧ Hid (∀ q p, q < j → ps[q]? = some p → p.n ≤ 5000) ∧ w5 = wr) (fun v _ => no - (intOf v).toNat)
  case atStart => exact ⟨0, Nat.zero_le _, rfl, fun q p hq => absurd hq (Nat.not_lt_zero _), rfl⟩
  case round =>
    obtain ⟨j, hjM, rfl, HQ, rfl⟩ := hrel
    unfold maxLen at hcm
    by_cases hj : j < no
    · have zj : (j : Int) < no := by omega
      obtain ⟨ad, p, rfl, hp, hcp, hrp, hfp⟩ := (HP0.out.below BEL5.out).get hj
      have HPk := Lib.hid hp
      clear hp hrp hfp
      by_cases hbig : 5000 < p.n
      · have zb : (5000 : Int) < p.n := by omega
        go_wp2
        go_ret
        exact ⟨rfl, BEL5.out⟩
      · have zb : ¬ (5000 : Int) < p.n := by omega
        go_wp2
        go_roundw
        case rel =>
          refine ⟨j + 1, by omega, by go_num, fun q p' hq hp' => ?_, trivial⟩
          rcases Nat.lt_or_ge q j with h1 | h1
          · exact HQ.out q p' h1 hp'
          · obtain rfl : q = j := by omega
            rw [HPk.out] at hp'
            injection hp' with hp'
            rw [← hp']; omega
        case measure => simp [intOf]; omega
    · have zj : ¬ (j : Int) < no := by omega
      have HALL : Hid (∀ p ∈ ps, p.n ≤ 5000) := fun p hp => by
        obtain ⟨q, hq⟩ := List.mem_iff_getElem?.1 hp
        have := (List.getElem?_eq_some_iff.1 hq).1
        have h2 := HP0.out.1.1
        exact HQ.out q p (by omega) hq
      go_wp2_with fail
      refine (Make_ok s nd B D a n A nA cA Ad cd salt data w5 m5 (HOV.out w5 BEL5.out) (HS0.out.below BEL5.out) (HD0.out.below BEL5.out) h64 (by have := HSM.out; omega) (HTB.out.below BEL5.out) HM.out).mono ?_
      obtain ⟨RT, hRT⟩ : ∃ RT, hsh s salt (blk (hsh s salt) B a n data (m5 - 1) 0) = RT := ⟨_, rfl⟩
      have HRT := Lib.hid hRT
      rw [hRT]
      clear hRT
      rintro e w6 ⟨At, nt, ct, Ar, cr, rfl, _, hbr, hb6⟩
      have HBR := Lib.hid hbr
      have BK6 := Lib.hid (BK5.out.below hb6 BK5.out.lt)
      have BEL6 := Lib.hid (below_then BEL5.out hb6)
      have SB6 := Lib.hid (SB5.out.below hb6 SB5.out.lt)
      have c60 : w6.cell? ⟨w.heap.size, 0, none⟩ = some (.int .i64 (s : Int)) := BK6.out.cell 0
      have c61 : w6.cell? ⟨w.heap.size, 1, none⟩ = some (.int .i64 (B : Int)) := BK6.out.cell 1
      have c62 : w6.cell? ⟨w.heap.size, 2, none⟩ = some (.slice A nA cA) := BK6.out.cell 2
      have c63 : w6.cell? ⟨w.heap.size, 3, none⟩ = some (.slice Ad nd cd) := BK6.out.cell 3
      have s60 : w6.cell? ⟨g, 0, none⟩ = some (.int .i64 (nd : Int)) := SB6.out.cell 0
      have s61 : w6.cell? ⟨g, 1, none⟩ = some (.int .i64 (B : Int)) := SB6.out.cell 1
      have s62 : w6.cell? ⟨g, 2, none⟩ = some (.int .i64 (D : Int)) := SB6.out.cell 2
      clear c50 c51 c52 c53 s50 s51 s52
      clear hb6 hbr
      go_wp2_with fail
      refine (blocks_any (B : Int) k w6 (HOV.out w6 BEL6.out) hkn m5 HM.out).mono ?_
      rintro e w7 ⟨Al, cl, qs, rfl, hrow7, hpt7, hb7⟩
      have hHl : ∀ t, (hsh s salt t).length = D := fun t => hsh_length HS12.out HDIG.out salt t
      have hql : Ls w7 Al m5 cl qs := way_ls hrow7 hpt7 (fun j => blk_length hHl HSHP.out.aD _ _) (fun j => blk_fit HD0.out.fit _ _ _ _ _) hb4k
      have hqm : qs.map (·.l) = way (hsh s salt) B a n data k m5 := way_map (hql.1.1) hpt7
      have HQL := Lib.hid hql
      have HQM := Lib.hid hqm
      have HBR7 := Lib.hid (HBR.out.below hb7)
      have BK7 := Lib.hid (BK6.out.below hb7 BK6.out.lt)
      have BEL7 := Lib.hid (below_then BEL6.out hb7)
      have SB7 := Lib.hid (SB6.out.below hb7 SB6.out.lt)
      have c70 : w7.cell? ⟨w.heap.size, 0, none⟩ = some (.int .i64 (s : Int)) := BK7.out.cell 0
      have c71 : w7.cell? ⟨w.heap.size, 1, none⟩ = some (.int .i64 (B : Int)) := BK7.out.cell 1
      have c72 : w7.cell? ⟨w.heap.size, 2, none⟩ = some (.slice A nA cA) := BK7.out.cell 2
      have c73 : w7.cell? ⟨w.heap.size, 3, none⟩ = some (.slice Ad nd cd) := BK7.out.cell 3
      have s70 : w7.cell? ⟨g, 0, none⟩ = some (.int .i64 (nd : Int)) := SB7.out.cell 0
      have s71 : w7.cell? ⟨g, 1, none⟩ = some (.int .i64 (B : Int)) := SB7.out.cell 1
      have s72 : w7.cell? ⟨g, 2, none⟩ = some (.int .i64 (D : Int)) := SB7.out.cell 2
      clear c60 c61 c62 c63 s60 s61 s62
      have HSLT := Lib.hid BK7.out.lt
      have HGLT := Lib.hid SB7.out.lt
      have HWAY : Hid (Climbs (hsh s salt) B D a k m5 (way (hsh s salt) B a n data k m5) RT) := by
        have := way_climbs (data := data) hHl HSHP.out.aD (by have := HSHP.out.a2; omega) hkn (m := m5) (by omega) (by rw [← HM.out]; exact HSHP.out.top1)
        rw [HRT.out] at this
        exact this
      obtain ⟨er, her, hcl0, _, hcall⟩ := climb_any s nd B D a n k A nA cA salt Ao no co ps Ar D cr RT w7 HSHP.out HS12.out HDIG.out (HS0.out.below BEL7.out) h64 (HP0.out.below BEL7.out) HBR7.out hkn (by omega) (HTB.out.below BEL7.out)
      have HCALL := Lib.hid hcall
      have HCL0 := Lib.hid hcl0
      have HP7 := Lib.hid (HP0.out.below BEL7.out)
      clear hb7 hrow7 hpt7 hql hqm hHl hcall hcl0
      by_cases her0 : er = 0
      · subst her0
        have hcli := HCL0.out rfl
        rw [HM.out] at hcli
        have hnom : no = m5 := by have := hcli.len; rw [List.length_map, HP0.out.1.1] at this; exact this
        subst hnom
        obtain ⟨ad, p0, rfl, hp0, hcp0, hrp0, hfp0⟩ := HP7.out.get (show 0 < no by omega)
        obtain ⟨aq, q0, rfl, hq0, hcq0, hrq0, hfq0⟩ := HQL.out.get (show 0 < no by omega)
        have hqb : ∀ p ∈ qs, p.n ≤ 4096 := fun p hp => by
          have h1 := (HQL.out.1.2.2 p hp).1.1
          have h2 := HWAY.out.form p.l (by rw [← HQM.out]; exact List.mem_map.2 ⟨p, hp, rfl⟩)
          omega
        have HQB := Lib.hid hqb
        have HF2 : Hid ((ps.map (·.l))[0]? = some p0.l) := by show _ = _; rw [List.getElem?_map, hp0]; rfl
        have HF1 : Hid ((way (hsh s salt) B a n data k no)[0]? = some q0.l) := by show _ = _; rw [← HQM.out, List.getElem?_map, hq0]; rfl
        have hmp := HP7.out.2.2.2.2 p0 (List.mem_of_getElem? hp0)
        have hcp' := (HP7.out.1.2.2 p0 (List.mem_of_getElem? hp0)).2.2
        have hmq := HQL.out.2.2.2.2 q0 (List.mem_of_getElem? hq0)
        have hcq' := (HQL.out.1.2.2 q0 (List.mem_of_getElem? hq0)).2.2
        obtain ⟨pA, pn, pc, pl⟩ := p0
        obtain ⟨qA, qn, qc, ql⟩ := q0
        simp only at hcp0 hrp0 hfp0 hcq0 hrq0 hfq0 HF1 HF2 hmp hcp' hmq hcq'
        have hcp0 : w7.cell? ad = some (.slice pA pn pc) := by have := hcp0; rwa [show ad.add 0 = ad from add_zero_ ad] at this
        have hcq0 : w7.cell? aq = some (.slice qA qn qc) := by have := hcq0; rwa [show aq.add 0 = aq from add_zero_ aq] at this
        have HPP : Hid (Bs w7 pA pn pc pl) := ⟨hrp0, hfp0, hcp', hmp.1, hmp.2⟩
        have HQQ : Hid (Bs w7 qA qn qc ql) := ⟨hrq0, hfq0, hcq', hmq.1, hmq.2⟩
        have HLP := Lib.hid (cell_lt hcp0)
        have HLQ := Lib.hid (cell_lt hcq0)
        have HCLI := Lib.hid hcli
        clear hp0 hq0 hrp0 hfp0 hrq0 hfq0 hmp hcp' hmq hcq' hcli hqb
        go_wp2
        rename_i hKx
        refine wp_region_eachW (by kernel_rfl) (by kernel_rfl) (fun u u' => Below u.heap.size u u') (fun iX v u => match iX with
            | 0 => v = .pointer (some ⟨w.heap.size, 0, none⟩)
            | 1 => v = .int .i64 (s : Int)
            | 2 => v = .pointer (some ⟨w.heap.size, 2, none⟩)
            | 3 => v = .slice A nA cA
            | 4 => v = .agg #[.int .i64 (nd : Int), .int .i64 (B : Int), .int .i64 (D : Int)]
            | 5 => v = .int .i64 (k : Int)
            | 6 => v = .slice (some ad) no co
            | 7 => v = .slice Ar D cr
            | 8 => v = .int .i64 0
            | 9 => v = .bool false
            | 10 => v = .bool false
            | 11 => v = .slice (some ad) no co
            | 12 => v = .pointer (some ad)
            | 13 => v = .slice pA pn pc
            | 14 => v = .string (str pl)
            | 15 => v = .slice (some aq) no cl
            | 16 => v = .pointer (some aq)
            | 17 => v = .slice qA qn qc
            | 18 => v = .string (str ql)
            | 19 => v = .bool (decide (pl = ql))
            | 20 => v = .bool (decide (pl = ql))
            | _ => True) (fun u => Below w7.heap.size w7 u) ?b1 (fun _ _ h1 h2 => h1.trans (h2.mono h1.size)) ⟨rfl, rfl, rfl, Nat.le_refl _, fun _ _ => rfl⟩ ?b2 ?b3
        case b1 =>
          intro iX v u u' h hr hb
          rcases iX with _ | _ | _ | _ | _ | _ | _ | _ | _ | _ | _ | _ | _ | _ | _ | _ | _ | _ | _ | _ | _ | iX
          · exact h
          · exact h
          · exact h
          · exact h
          · exact h
          · exact h
          · exact h
          · exact h
          · exact h
          · exact h
          · exact h
          · exact h
          · exact h
          · exact h
          · exact h
          · exact h
          · exact h
          · exact h
          · exact h
          · exact h
          · exact h
          · trivial
        case b2 =>
          intro iX o ho aX u hr hk hpre K hK
          have e3 : aX.tmps.getD 3 undef = .pointer (some ⟨w.heap.size, 0, none⟩) := hk.slot 3 (by simp)
          have e7 : aX.tmps.getD 7 undef = .pointer (some ⟨g, 0, none⟩) := hk.slot 7 (by simp)
          have e1 : aX.tmps.getD 1 undef = .int .i64 (k : Int) := hk.slot 1 (by simp)
          have e2 : aX.tmps.getD 2 undef = .slice (some ad) no co := hk.slot 2 (by simp)
          have e12 : aX.tmps.getD 12 undef = .slice Ar D cr := hk.slot 12 (by simp)
          have e14 : aX.tmps.getD 14 undef = .slice (some aq) no cl := hk.slot 14 (by simp)
          have u0 : u.cell? ⟨w.heap.size, 0, none⟩ = some (.int .i64 (s : Int)) := (hr.cell (p := ⟨w.heap.size, 0, none⟩) HSLT.out).trans c70
          have u2 : u.cell? ⟨w.heap.size, 2, none⟩ = some (.slice A nA cA) := (hr.cell (p := ⟨w.heap.size, 2, none⟩) HSLT.out).trans c72
          have v0 : u.cell? ⟨g, 0, none⟩ = some (.int .i64 (nd : Int)) := (hr.cell (p := ⟨g, 0, none⟩) HGLT.out).trans s70
          have v1 : u.cell? ⟨g, 1, none⟩ = some (.int .i64 (B : Int)) := (hr.cell (p := ⟨g, 1, none⟩) HGLT.out).trans s71
          have v2 : u.cell? ⟨g, 2, none⟩ = some (.int .i64 (D : Int)) := (hr.cell (p := ⟨g, 2, none⟩) HGLT.out).trans s72
          have hp0 : u.cell? ad = some (.slice pA pn pc) := (hr.cell (p := ad) HLP.out).trans hcp0
          have hq0 : u.cell? aq = some (.slice qA qn qc) := (hr.cell (p := aq) HLQ.out).trans hcq0
          have rf : Below u.heap.size u u := Below.refl _ _
          rcases iX with _ | _ | _ | _ | _ | _ | _ | _ | _ | _ | _ | _ | _ | _ | _ | _ | _ | _ | _ | _ | _ | iX
          · obtain rfl := Option.some.inj ho
            have y3 : aX.eval (.tmp 3) = .pointer (some ⟨w.heap.size, 0, none⟩) := e3
            refine st_run (want_none rfl) (.pointer (some ⟨w.heap.size, 0, none⟩)) (w' := u) ?_ (hK _ _ rfl rf)
            simp only [execOp, y3]
            go_simp
          · obtain rfl := Option.some.inj ho
            have y78 : aX.eval (.tmp 78) = .pointer (some ⟨w.heap.size, 0, none⟩) := (hpre 0 _ rfl ⟨⟨0, .data⟩, by simp, rfl, rfl⟩)
            refine st_run (want_none rfl) (.int .i64 (s : Int)) (w' := u) ?_ (hK _ _ rfl rf)
            simp only [execOp, y78]
            go_simp
          · obtain rfl := Option.some.inj ho
            have y3 : aX.eval (.tmp 3) = .pointer (some ⟨w.heap.size, 0, none⟩) := e3
            refine st_run (want_none rfl) (.pointer (some ⟨w.heap.size, 2, none⟩)) (w' := u) ?_ (hK _ _ rfl rf)
            simp only [execOp, y3]
            go_simp
          · obtain rfl := Option.some.inj ho
            have y80 : aX.eval (.tmp 80) = .pointer (some ⟨w.heap.size, 2, none⟩) := (hpre 2 _ rfl ⟨⟨2, .data⟩, by simp, rfl, rfl⟩)
            refine st_run (want_none rfl) (.slice A nA cA) (w' := u) ?_ (hK _ _ rfl rf)
            simp only [execOp, y80]
            go_simp
          · obtain rfl := Option.some.inj ho
            have y7 : aX.eval (.tmp 7) = .pointer (some ⟨g, 0, none⟩) := e7
            refine st_run (want_none rfl) (.agg #[.int .i64 (nd : Int), .int .i64 (B : Int), .int .i64 (D : Int)]) (w' := u) ?_ (hK _ _ rfl rf)
            simp only [execOp, y7]
            go_simp
          · obtain rfl := Option.some.inj ho
            exact st_move (.tmp 1) rfl (want_none rfl) _ e1 (hK _ _ rfl rf)
          · obtain rfl := Option.some.inj ho
            exact st_move (.tmp 2) rfl (want_none rfl) _ e2 (hK _ _ rfl rf)
          · obtain rfl := Option.some.inj ho
            exact st_move (.tmp 12) rfl (want_none rfl) _ e12 (hK _ _ rfl rf)
          · obtain rfl := Option.some.inj ho
            have x0 : aX.eval (.tmp 79) = .int .i64 (s : Int) := (hpre 1 _ rfl ⟨⟨1, .data⟩, by simp, rfl, rfl⟩)
            have x1 : aX.eval (.tmp 81) = .slice A nA cA := (hpre 3 _ rfl ⟨⟨3, .data⟩, by simp, rfl, rfl⟩)
            have x2 : aX.eval (.tmp 82) = .agg #[.int .i64 (nd : Int), .int .i64 (B : Int), .int .i64 (D : Int)] := (hpre 4 _ rfl ⟨⟨4, .data⟩, by simp, rfl, rfl⟩)
            have x3 : aX.eval (.tmp 83) = .int .i64 (k : Int) := (hpre 5 _ rfl ⟨⟨5, .data⟩, by simp, rfl, rfl⟩)
            have x4 : aX.eval (.tmp 84) = .slice (some ad) no co := (hpre 6 _ rfl ⟨⟨6, .data⟩, by simp, rfl, rfl⟩)
            have x5 : aX.eval (.tmp 85) = .slice Ar D cr := (hpre 7 _ rfl ⟨⟨7, .data⟩, by simp, rfl, rfl⟩)
            exact st_callN 20 _ _ rfl (want_none rfl) #[.int .i64 (s : Int), .slice A nA cA, .agg #[.int .i64 (nd : Int), .int .i64 (B : Int), .int .i64 (D : Int)], .int .i64 (k : Int), .slice (some ad) no co, .slice Ar D cr] (by simp [x0, x1, x2, x3, x4, x5]) (by kernel_rfl) _ (HCALL.out u hr) (fun e u' he => ⟨_, he.1, hK _ _ rfl he.2⟩)
          · obtain rfl := Option.some.inj ho
            have y86 : aX.eval (.tmp 86) = .int .i64 0 := (hpre 8 _ rfl ⟨⟨8, .data⟩, by simp, rfl, rfl⟩)
            refine st_run (want_none rfl) (.bool false) (w' := u) ?_ (hK _ _ rfl rf)
            simp only [execOp, y86]
            go_simp
          · obtain rfl := Option.some.inj ho
            exact st_move (.tmp 87) rfl (want_none rfl) _ (hpre 9 _ rfl ⟨⟨9, .data⟩, by simp, rfl, rfl⟩) (hK _ _ rfl rf)
          · obtain rfl := Option.some.inj ho
            exact st_move (.tmp 2) rfl (want_some rfl rfl rfl (hpre 10 _ rfl ⟨⟨10, .guard⟩, by simp, rfl, rfl⟩)) _ e2 (hK _ _ rfl rf)
          · obtain rfl := Option.some.inj ho
            have y89 : aX.eval (.tmp 89) = .slice (some ad) no co := (hpre 11 _ rfl ⟨⟨11, .data⟩, by simp, rfl, rfl⟩)
            refine st_run (want_some rfl rfl rfl (hpre 10 _ rfl ⟨⟨10, .guard⟩, by simp, rfl, rfl⟩)) (.pointer (some ad)) (w' := u) ?_ (hK _ _ rfl rf)
            simp only [execOp, y89]
            go_simp
          · obtain rfl := Option.some.inj ho
            have y90 : aX.eval (.tmp 90) = .pointer (some ad) := (hpre 12 _ rfl ⟨⟨12, .data⟩, by simp, rfl, rfl⟩)
            refine st_run (want_some rfl rfl rfl (hpre 10 _ rfl ⟨⟨10, .guard⟩, by simp, rfl, rfl⟩)) (.slice pA pn pc) (w' := u) ?_ (hK _ _ rfl rf)
            simp only [execOp, y90]
            go_simp
          · obtain rfl := Option.some.inj ho
            exact st_conv (.tmp 91) rfl (want_some rfl rfl rfl (hpre 10 _ rfl ⟨⟨10, .guard⟩, by simp, rfl, rfl⟩)) _ _ _ _ (hpre 13 _ rfl ⟨⟨13, .data⟩, by simp, rfl, rfl⟩) (HPP.out.rd.below hr) (hK _ _ rfl rf)
          · obtain rfl := Option.some.inj ho
            exact st_move (.tmp 14) rfl (want_some rfl rfl rfl (hpre 10 _ rfl ⟨⟨10, .guard⟩, by simp, rfl, rfl⟩)) _ e14 (hK _ _ rfl rf)
          · obtain rfl := Option.some.inj ho
            have y93 : aX.eval (.tmp 93) = .slice (some aq) no cl := (hpre 15 _ rfl ⟨⟨15, .data⟩, by simp, rfl, rfl⟩)
            refine st_run (want_some rfl rfl rfl (hpre 10 _ rfl ⟨⟨10, .guard⟩, by simp, rfl, rfl⟩)) (.pointer (some aq)) (w' := u) ?_ (hK _ _ rfl rf)
            simp only [execOp, y93]
            go_simp
          · obtain rfl := Option.some.inj ho
            have y94 : aX.eval (.tmp 94) = .pointer (some aq) := (hpre 16 _ rfl ⟨⟨16, .data⟩, by simp, rfl, rfl⟩)
            refine st_run (want_some rfl rfl rfl (hpre 10 _ rfl ⟨⟨10, .guard⟩, by simp, rfl, rfl⟩)) (.slice qA qn qc) (w' := u) ?_ (hK _ _ rfl rf)
            simp only [execOp, y94]
            go_simp
          · obtain rfl := Option.some.inj ho
            exact st_conv (.tmp 95) rfl (want_some rfl rfl rfl (hpre 10 _ rfl ⟨⟨10, .guard⟩, by simp, rfl, rfl⟩)) _ _ _ _ (hpre 17 _ rfl ⟨⟨17, .data⟩, by simp, rfl, rfl⟩) (HQQ.out.rd.below hr) (hK _ _ rfl rf)
          · obtain rfl := Option.some.inj ho
            exact st_eqlStrB (.tmp 92) (.tmp 96) rfl (want_some rfl rfl rfl (hpre 10 _ rfl ⟨⟨10, .guard⟩, by simp, rfl, rfl⟩)) _ _ (HPP.out.fit) (HQQ.out.fit) (hpre 14 _ rfl ⟨⟨14, .data⟩, by simp, rfl, rfl⟩) (hpre 18 _ rfl ⟨⟨18, .data⟩, by simp, rfl, rfl⟩) (hK _ _ rfl rf)
          · obtain rfl := Option.some.inj ho
            exact st_pick (.tmp 88) (.const (.bool true)) (.tmp 97) rfl (want_none rfl) false (hpre 10 _ rfl ⟨⟨10, .data⟩, by simp, rfl, rfl⟩) _ ((if_neg (by decide)).trans (hpre 19 _ rfl ⟨⟨19, .data⟩, by simp, rfl, rfl⟩)) (hK _ _ rfl rf)
          · cases ho
        case b3 =>
          intro aX u hr hk hv
          have q98 : aX.tmps.getD 98 undef = .bool (decide (pl = ql)) := hv 20 _ rfl
          have hfr := keeps_frameP (fun s => decide ((78 ≤ s ∧ s ≤ 98))) hk (by simp)
          refine hKx aX u ?_
          rw [hfr]
          generalize hff : (fun s => aX.tmps.getD s undef) = ff
          have hf98 : ff 98 = .bool (decide (pl = ql)) := by rw [← hff]; exact q98
          simp only [mixP, hf98, decide_eq_true_eq, Nat.reduceAdd, Nat.reduceLeDiff, Nat.reduceEqDiff, false_or, true_or, or_false, or_true, and_true, and_false, true_and, false_and, and_self, if_true, if_false, Nat.zero_le]
          clear hfr hff hf98 q98 hv hk
          have BELu := Lib.hid (below_then BEL7.out hr)
          by_cases hsame : pl = ql
          · rw [decide_eq_true hsame]
            go_wp2
            go_ret
            exact ⟨rfl, BELu.out⟩
          rw [decide_eq_false hsame]
          have HQLu := Lib.hid (HQL.out.below hr)
          have HPu := Lib.hid (HP7.out.below hr)
          have BKu := Lib.hid (BK7.out.below hr BK7.out.lt)
          obtain ⟨x, y, hxy, hne, hlen, hH⟩ := two_ways HWAY.out HCLI.out (by omega) (by rw [HF1.out, HF2.out]; exact fun e => hsame (by injection e with e; exact e.symm))
          clear c70 c72 s70 s71 s72
          go_wp2_with fail
          refine (Differ_any (some aq) no cl qs (some ad) no co ps u HQLu.out HPu.out (by omega) (by omega) (fun p hp => by have := HQB.out p hp; omega) (fun p hp => by have := HALL.out p hp; omega)).mono ?_
          rw [HQM.out, hxy]
          rintro e w8 ⟨A1, n1, c1, A2, n2, c2, rfl, hb8, hx1, hx2⟩
          have hn12 : n2 = n1 := by have h1 := hx1.rd.1; have h2 := hx2.rd.1; omega
          subst hn12
          have HX1 := Lib.hid hx1
          have HX2 := Lib.hid hx2
          have BEL8 := Lib.hid (below_then BELu.out hb8)
          have BK8 := Lib.hid (BKu.out.below hb8 BKu.out.lt)
          have c80 : w8.cell? ⟨w.heap.size, 0, none⟩ = some (.int .i64 (s : Int)) := BK8.out.cell 0
          have c82 : w8.cell? ⟨w.heap.size, 2, none⟩ = some (.slice A nA cA) := BK8.out.cell 2
          have HLT8 := Lib.hid BK8.out.lt
          have es : ((str x).toList == (str y).toList) = false := by rw [str_same hx1.fit hx2.fit, decide_eq_false hne]
          obtain ⟨Zd, hZd⟩ : ∃ Zd, hsh s salt x = Zd := ⟨_, rfl⟩
          have hxl : n2 ≤ 10000 := by
            have h1 := hx1.rd.1
            have hf := HWAY.out.form x (by
              have hd : differ (way (hsh s salt) B a n data k no) (ps.map (·.l)) = some (x, y) := hxy
              obtain ⟨q, hq, _⟩ := parting_some _ _ _ _ hd
              have := List.mem_of_getElem? hq
              rwa [List.mem_reverse] at this)
            omega
          have HDG1 : Hid (∀ u', Below w8.heap.size w8 u' → Calls Tryd.prog 22 #[.int .i64 (s : Int), .slice A nA cA, .slice A1 n2 c1] u' (GivesRd u' D Zd)) := fun u' hu' => by
            rw [← hZd]
            exact RefDigest_z s D HS12.out HDIG.out A nA cA salt A1 n2 c1 x u' ((HS0.out.below BEL8.out).rd.below hu') HS0.out.fit HS0.out.nil (by omega) (HX1.out.rd.below hu') HX1.out.fit HX1.out.nil hxl
          have HDG2 : Hid (∀ u', Below w8.heap.size w8 u' → Calls Tryd.prog 22 #[.int .i64 (s : Int), .slice A nA cA, .slice A2 n2 c2] u' (GivesRd u' D Zd)) := fun u' hu' => by
            rw [← hZd, hH]
            exact RefDigest_z s D HS12.out HDIG.out A nA cA salt A2 n2 c2 y u' ((HS0.out.below BEL8.out).rd.below hu') HS0.out.fit HS0.out.nil (by omega) (HX2.out.rd.below hu') HX2.out.fit HX2.out.nil hxl
          have ez : ((str Zd).toList == (str Zd).toList) = true := by simp
          clear hx1 hx2 hb8 hxy hne hlen hH hZd
          go_wp2
          rename_i hKx
          refine wp_region_eachW (by kernel_rfl) (by kernel_rfl) (fun u u' => Below u.heap.size u u') (fun iX v u => match iX with
              | 0 => v = .bool true
              | 1 => v = .bool true
              | 2 => v = .slice A1 n2 c1
              | 3 => v = .string (str x)
              | 4 => v = .slice A2 n2 c2
              | 5 => v = .string (str y)
              | 6 => v = .bool true
              | 7 => v = .bool true
              | 8 => v = .bool true
              | 9 => v = .slice A1 n2 c1
              | 10 => v = .int .i64 (n2 : Int)
              | 11 => v = .slice A2 n2 c2
              | 12 => v = .int .i64 (n2 : Int)
              | 13 => v = .bool true
              | 14 => v = .bool true
              | 15 => v = .bool true
              | 16 => v = .pointer (some ⟨w.heap.size, 0, none⟩)
              | 17 => v = .int .i64 (s : Int)
              | 18 => v = .pointer (some ⟨w.heap.size, 2, none⟩)
              | 19 => v = .slice A nA cA
              | 20 => v = .slice A1 n2 c1
              | 21 => ∃ A9 c9, v = .slice A9 D c9 ∧ Rd .u8 u A9 D Zd
              | 22 => v = .string (str Zd)
              | 23 => v = .pointer (some ⟨w.heap.size, 0, none⟩)
              | 24 => v = .int .i64 (s : Int)
              | 25 => v = .pointer (some ⟨w.heap.size, 2, none⟩)
              | 26 => v = .slice A nA cA
              | 27 => v = .slice A2 n2 c2
              | 28 => ∃ A9 c9, v = .slice A9 D c9 ∧ Rd .u8 u A9 D Zd
              | 29 => v = .string (str Zd)
              | 30 => v = .bool true
              | 31 => v = .bool true
              | 32 => v = .bool true
              | _ => True) (fun u => Below w8.heap.size w8 u) ?d1 (fun _ _ h1 h2 => h1.trans (h2.mono h1.size)) ⟨rfl, rfl, rfl, Nat.le_refl _, fun _ _ => rfl⟩ ?d2 ?d3
          case d1 =>
            intro iX v u u' h hr hb
            rcases iX with _ | _ | _ | _ | _ | _ | _ | _ | _ | _ | _ | _ | _ | _ | _ | _ | _ | _ | _ | _ | _ | _ | _ | _ | _ | _ | _ | _ | _ | _ | _ | _ | _ | iX
            · exact h
            · exact h
            · exact h
            · exact h
            · exact h
            · exact h
            · exact h
            · exact h
            · exact h
            · exact h
            · exact h
            · exact h
            · exact h
            · exact h
            · exact h
            · exact h
            · exact h
            · exact h
            · exact h
            · exact h
            · exact h
            · (obtain ⟨A9, c9, e9, h9⟩ := h; exact ⟨A9, c9, e9, h9.below hb⟩)
            · exact h
            · exact h
            · exact h
            · exact h
            · exact h
            · exact h
            · (obtain ⟨A9, c9, e9, h9⟩ := h; exact ⟨A9, c9, e9, h9.below hb⟩)
            · exact h
            · exact h
            · exact h
            · exact h
            · trivial
          case d2 =>
            intro iX o ho aX u hr hk hpre K hK
            have e3 : aX.tmps.getD 3 undef = .pointer (some ⟨w.heap.size, 0, none⟩) := hk.slot 3 (by simp)
            have e15 : aX.tmps.getD 15 undef = .slice A1 n2 c1 := hk.slot 15 (by simp)
            have e16 : aX.tmps.getD 16 undef = .slice A2 n2 c2 := hk.slot 16 (by simp)
            have e17 : aX.tmps.getD 17 undef = .bool true := hk.slot 17 (by simp)
            have u0 : u.cell? ⟨w.heap.size, 0, none⟩ = some (.int .i64 (s : Int)) := (hr.cell (p := ⟨w.heap.size, 0, none⟩) HLT8.out).trans c80
            have u2 : u.cell? ⟨w.heap.size, 2, none⟩ = some (.slice A nA cA) := (hr.cell (p := ⟨w.heap.size, 2, none⟩) HLT8.out).trans c82
            have rf : Below u.heap.size u u := Below.refl _ _
            rcases iX with _ | _ | _ | _ | _ | _ | _ | _ | _ | _ | _ | _ | _ | _ | _ | _ | _ | _ | _ | _ | _ | _ | _ | _ | _ | _ | _ | _ | _ | _ | _ | _ | _ | iX
            · obtain rfl := Option.some.inj ho
              exact st_move (.tmp 17) rfl (want_none rfl) _ e17 (hK _ _ rfl rf)
            · obtain rfl := Option.some.inj ho
              exact st_move (.tmp 106) rfl (want_none rfl) _ (hpre 0 _ rfl ⟨⟨0, .data⟩, by simp, rfl, rfl⟩) (hK _ _ rfl rf)
            · obtain rfl := Option.some.inj ho
              exact st_move (.tmp 15) rfl (want_some rfl rfl rfl (hpre 1 _ rfl ⟨⟨1, .guard⟩, by simp, rfl, rfl⟩)) _ e15 (hK _ _ rfl rf)
            · obtain rfl := Option.some.inj ho
              exact st_conv (.tmp 108) rfl (want_some rfl rfl rfl (hpre 1 _ rfl ⟨⟨1, .guard⟩, by simp, rfl, rfl⟩)) _ _ _ _ (hpre 2 _ rfl ⟨⟨2, .data⟩, by simp, rfl, rfl⟩) (HX1.out.rd.below hr) (hK _ _ rfl rf)
            · obtain rfl := Option.some.inj ho
              exact st_move (.tmp 16) rfl (want_some rfl rfl rfl (hpre 1 _ rfl ⟨⟨1, .guard⟩, by simp, rfl, rfl⟩)) _ e16 (hK _ _ rfl rf)
            · obtain rfl := Option.some.inj ho
              exact st_conv (.tmp 110) rfl (want_some rfl rfl rfl (hpre 1 _ rfl ⟨⟨1, .guard⟩, by simp, rfl, rfl⟩)) _ _ _ _ (hpre 4 _ rfl ⟨⟨4, .data⟩, by simp, rfl, rfl⟩) (HX2.out.rd.below hr) (hK _ _ rfl rf)
            · obtain rfl := Option.some.inj ho
              have y109 : aX.eval (.tmp 109) = .string (str x) := (hpre 3 _ rfl ⟨⟨3, .data⟩, by simp, rfl, rfl⟩)
              have y111 : aX.eval (.tmp 111) = .string (str y) := (hpre 5 _ rfl ⟨⟨5, .data⟩, by simp, rfl, rfl⟩)
              refine st_run (want_some rfl rfl rfl (hpre 1 _ rfl ⟨⟨1, .guard⟩, by simp, rfl, rfl⟩)) (.bool true) (w' := u) ?_ (hK _ _ rfl rf)
              simp only [execOp, y109, y111]
              go_simp
            · obtain rfl := Option.some.inj ho
              exact st_pick (.tmp 107) (.tmp 112) (.const (.bool false)) rfl (want_none rfl) true (hpre 1 _ rfl ⟨⟨1, .data⟩, by simp, rfl, rfl⟩) _ ((if_pos rfl).trans (hpre 6 _ rfl ⟨⟨6, .data⟩, by simp, rfl, rfl⟩)) (hK _ _ rfl rf)
            · obtain rfl := Option.some.inj ho
              exact st_move (.tmp 113) rfl (want_none rfl) _ (hpre 7 _ rfl ⟨⟨7, .data⟩, by simp, rfl, rfl⟩) (hK _ _ rfl rf)
            · obtain rfl := Option.some.inj ho
              exact st_move (.tmp 15) rfl (want_some rfl rfl rfl (hpre 8 _ rfl ⟨⟨8, .guard⟩, by simp, rfl, rfl⟩)) _ e15 (hK _ _ rfl rf)
            · obtain rfl := Option.some.inj ho
              exact st_len (.tmp 115) rfl (want_some rfl rfl rfl (hpre 8 _ rfl ⟨⟨8, .guard⟩, by simp, rfl, rfl⟩)) _ _ _ (hpre 9 _ rfl ⟨⟨9, .data⟩, by simp, rfl, rfl⟩) (hK _ _ rfl rf)
            · obtain rfl := Option.some.inj ho
              exact st_move (.tmp 16) rfl (want_some rfl rfl rfl (hpre 8 _ rfl ⟨⟨8, .guard⟩, by simp, rfl, rfl⟩)) _ e16 (hK _ _ rfl rf)
            · obtain rfl := Option.some.inj ho
              exact st_len (.tmp 117) rfl (want_some rfl rfl rfl (hpre 8 _ rfl ⟨⟨8, .guard⟩, by simp, rfl, rfl⟩)) _ _ _ (hpre 11 _ rfl ⟨⟨11, .data⟩, by simp, rfl, rfl⟩) (hK _ _ rfl rf)
            · obtain rfl := Option.some.inj ho
              have y116 : aX.eval (.tmp 116) = .int .i64 (n2 : Int) := (hpre 10 _ rfl ⟨⟨10, .data⟩, by simp, rfl, rfl⟩)
              have y118 : aX.eval (.tmp 118) = .int .i64 (n2 : Int) := (hpre 12 _ rfl ⟨⟨12, .data⟩, by simp, rfl, rfl⟩)
              refine st_run (want_some rfl rfl rfl (hpre 8 _ rfl ⟨⟨8, .guard⟩, by simp, rfl, rfl⟩)) (.bool true) (w' := u) ?_ (hK _ _ rfl rf)
              simp only [execOp, y116, y118]
              go_simp
            · obtain rfl := Option.some.inj ho
              exact st_pick (.tmp 114) (.tmp 119) (.const (.bool false)) rfl (want_none rfl) true (hpre 8 _ rfl ⟨⟨8, .data⟩, by simp, rfl, rfl⟩) _ ((if_pos rfl).trans (hpre 13 _ rfl ⟨⟨13, .data⟩, by simp, rfl, rfl⟩)) (hK _ _ rfl rf)
            · obtain rfl := Option.some.inj ho
              exact st_move (.tmp 120) rfl (want_none rfl) _ (hpre 14 _ rfl ⟨⟨14, .data⟩, by simp, rfl, rfl⟩) (hK _ _ rfl rf)
            · obtain rfl := Option.some.inj ho
              have y3 : aX.eval (.tmp 3) = .pointer (some ⟨w.heap.size, 0, none⟩) := e3
              refine st_run (want_some rfl rfl rfl (hpre 15 _ rfl ⟨⟨15, .guard⟩, by simp, rfl, rfl⟩)) (.pointer (some ⟨w.heap.size, 0, none⟩)) (w' := u) ?_ (hK _ _ rfl rf)
              simp only [execOp, y3]
              go_simp
            · obtain rfl := Option.some.inj ho
              have y122 : aX.eval (.tmp 122) = .pointer (some ⟨w.heap.size, 0, none⟩) := (hpre 16 _ rfl ⟨⟨16, .data⟩, by simp, rfl, rfl⟩)
              refine st_run (want_some rfl rfl rfl (hpre 15 _ rfl ⟨⟨15, .guard⟩, by simp, rfl, rfl⟩)) (.int .i64 (s : Int)) (w' := u) ?_ (hK _ _ rfl rf)
              simp only [execOp, y122]
              go_simp
            · obtain rfl := Option.some.inj ho
              have y3 : aX.eval (.tmp 3) = .pointer (some ⟨w.heap.size, 0, none⟩) := e3
              refine st_run (want_some rfl rfl rfl (hpre 15 _ rfl ⟨⟨15, .guard⟩, by simp, rfl, rfl⟩)) (.pointer (some ⟨w.heap.size, 2, none⟩)) (w' := u) ?_ (hK _ _ rfl rf)
              simp only [execOp, y3]
              go_simp
            · obtain rfl := Option.some.inj ho
              have y124 : aX.eval (.tmp 124) = .pointer (some ⟨w.heap.size, 2, none⟩) := (hpre 18 _ rfl ⟨⟨18, .data⟩, by simp, rfl, rfl⟩)
              refine st_run (want_some rfl rfl rfl (hpre 15 _ rfl ⟨⟨15, .guard⟩, by simp, rfl, rfl⟩)) (.slice A nA cA) (w' := u) ?_ (hK _ _ rfl rf)
              simp only [execOp, y124]
              go_simp
            · obtain rfl := Option.some.inj ho
              exact st_move (.tmp 15) rfl (want_some rfl rfl rfl (hpre 15 _ rfl ⟨⟨15, .guard⟩, by simp, rfl, rfl⟩)) _ e15 (hK _ _ rfl rf)
            · obtain rfl := Option.some.inj ho
              have x0 : aX.eval (.tmp 123) = .int .i64 (s : Int) := (hpre 17 _ rfl ⟨⟨17, .data⟩, by simp, rfl, rfl⟩)
              have x1 : aX.eval (.tmp 125) = .slice A nA cA := (hpre 19 _ rfl ⟨⟨19, .data⟩, by simp, rfl, rfl⟩)
              have x2 : aX.eval (.tmp 126) = .slice A1 n2 c1 := (hpre 20 _ rfl ⟨⟨20, .data⟩, by simp, rfl, rfl⟩)
              exact st_callN 22 _ _ rfl (want_some rfl rfl rfl (hpre 15 _ rfl ⟨⟨15, .guard⟩, by simp, rfl, rfl⟩)) #[.int .i64 (s : Int), .slice A nA cA, .slice A1 n2 c1] (by simp [x0, x1, x2]) (by kernel_rfl) _ (HDG1.out u hr) (fun e u' ⟨A9, c9, he, hrd, _, _, _, hb⟩ => ⟨_, he, hK _ _ ⟨A9, c9, rfl, hrd⟩ hb⟩)
            · obtain rfl := Option.some.inj ho
              obtain ⟨A9, c9, e9, h9⟩ := (hpre 21 _ rfl ⟨⟨21, .data⟩, by simp, rfl, rfl⟩)
              exact st_conv (.tmp 127) rfl (want_some rfl rfl rfl (hpre 15 _ rfl ⟨⟨15, .guard⟩, by simp, rfl, rfl⟩)) _ _ _ _ e9 h9 (hK _ _ rfl rf)
            · obtain rfl := Option.some.inj ho
              have y3 : aX.eval (.tmp 3) = .pointer (some ⟨w.heap.size, 0, none⟩) := e3
              refine st_run (want_some rfl rfl rfl (hpre 15 _ rfl ⟨⟨15, .guard⟩, by simp, rfl, rfl⟩)) (.pointer (some ⟨w.heap.size, 0, none⟩)) (w' := u) ?_ (hK _ _ rfl rf)
              simp only [execOp, y3]
              go_simp
            · obtain rfl := Option.some.inj ho
              have y129 : aX.eval (.tmp 129) = .pointer (some ⟨w.heap.size, 0, none⟩) := (hpre 23 _ rfl ⟨⟨23, .data⟩, by simp, rfl, rfl⟩)
              refine st_run (want_some rfl rfl rfl (hpre 15 _ rfl ⟨⟨15, .guard⟩, by simp, rfl, rfl⟩)) (.int .i64 (s : Int)) (w' := u) ?_ (hK _ _ rfl rf)
              simp only [execOp, y129]
              go_simp
            · obtain rfl := Option.some.inj ho
              have y3 : aX.eval (.tmp 3) = .pointer (some ⟨w.heap.size, 0, none⟩) := e3
              refine st_run (want_some rfl rfl rfl (hpre 15 _ rfl ⟨⟨15, .guard⟩, by simp, rfl, rfl⟩)) (.pointer (some ⟨w.heap.size, 2, none⟩)) (w' := u) ?_ (hK _ _ rfl rf)
              simp only [execOp, y3]
              go_simp
            · obtain rfl := Option.some.inj ho
              have y131 : aX.eval (.tmp 131) = .pointer (some ⟨w.heap.size, 2, none⟩) := (hpre 25 _ rfl ⟨⟨25, .data⟩, by simp, rfl, rfl⟩)
              refine st_run (want_some rfl rfl rfl (hpre 15 _ rfl ⟨⟨15, .guard⟩, by simp, rfl, rfl⟩)) (.slice A nA cA) (w' := u) ?_ (hK _ _ rfl rf)
              simp only [execOp, y131]
              go_simp
            · obtain rfl := Option.some.inj ho
              exact st_move (.tmp 16) rfl (want_some rfl rfl rfl (hpre 15 _ rfl ⟨⟨15, .guard⟩, by simp, rfl, rfl⟩)) _ e16 (hK _ _ rfl rf)
            · obtain rfl := Option.some.inj ho
              have x0 : aX.eval (.tmp 130) = .int .i64 (s : Int) := (hpre 24 _ rfl ⟨⟨24, .data⟩, by simp, rfl, rfl⟩)
              have x1 : aX.eval (.tmp 132) = .slice A nA cA := (hpre 26 _ rfl ⟨⟨26, .data⟩, by simp, rfl, rfl⟩)
              have x2 : aX.eval (.tmp 133) = .slice A2 n2 c2 := (hpre 27 _ rfl ⟨⟨27, .data⟩, by simp, rfl, rfl⟩)
              exact st_callN 22 _ _ rfl (want_some rfl rfl rfl (hpre 15 _ rfl ⟨⟨15, .guard⟩, by simp, rfl, rfl⟩)) #[.int .i64 (s : Int), .slice A nA cA, .slice A2 n2 c2] (by simp [x0, x1, x2]) (by kernel_rfl) _ (HDG2.out u hr) (fun e u' ⟨A9, c9, he, hrd, _, _, _, hb⟩ => ⟨_, he, hK _ _ ⟨A9, c9, rfl, hrd⟩ hb⟩)
            · obtain rfl := Option.some.inj ho
              obtain ⟨A9, c9, e9, h9⟩ := (hpre 28 _ rfl ⟨⟨28, .data⟩, by simp, rfl, rfl⟩)
              exact st_conv (.tmp 134) rfl (want_some rfl rfl rfl (hpre 15 _ rfl ⟨⟨15, .guard⟩, by simp, rfl, rfl⟩)) _ _ _ _ e9 h9 (hK _ _ rfl rf)
            · obtain rfl := Option.some.inj ho
              have y128 : aX.eval (.tmp 128) = .string (str Zd) := (hpre 22 _ rfl ⟨⟨22, .data⟩, by simp, rfl, rfl⟩)
              have y135 : aX.eval (.tmp 135) = .string (str Zd) := (hpre 29 _ rfl ⟨⟨29, .data⟩, by simp, rfl, rfl⟩)
              refine st_run (want_some rfl rfl rfl (hpre 15 _ rfl ⟨⟨15, .guard⟩, by simp, rfl, rfl⟩)) (.bool true) (w' := u) ?_ (hK _ _ rfl rf)
              simp only [execOp, y128, y135]
              go_simp
            · obtain rfl := Option.some.inj ho
              exact st_pick (.tmp 121) (.tmp 136) (.const (.bool false)) rfl (want_none rfl) true (hpre 15 _ rfl ⟨⟨15, .data⟩, by simp, rfl, rfl⟩) _ ((if_pos rfl).trans (hpre 30 _ rfl ⟨⟨30, .data⟩, by simp, rfl, rfl⟩)) (hK _ _ rfl rf)
            · obtain rfl := Option.some.inj ho
              exact st_assign (.tmp 137) rfl (want_none rfl) _ (hpre 31 _ rfl ⟨⟨31, .data⟩, by simp, rfl, rfl⟩) (hK _ _ rfl rf)
            · cases ho
          case d3 =>
            intro aX u hr hk hv
            have h6 := hv 32 _ rfl
            refine hKx aX u (wp_ret (bodyPost_ret (results_tmp rfl _ _ _) hk.defers ⟨?_, below_then BEL8.out hr⟩))
            exact congrArg Ending.returned h6
      · have d0 : (er != 0) = true := by simpa using her0
        go_wp2
        rename_i hKx
        refine wp_region_eachW (by kernel_rfl) (by kernel_rfl) (fun u u' => Below u.heap.size u u') (fun iX v u => match iX with
            | 0 => v = .pointer (some ⟨w.heap.size, 0, none⟩)
            | 1 => v = .int .i64 (s : Int)
            | 2 => v = .pointer (some ⟨w.heap.size, 2, none⟩)
            | 3 => v = .slice A nA cA
            | 4 => v = .agg #[.int .i64 (nd : Int), .int .i64 (B : Int), .int .i64 (D : Int)]
            | 5 => v = .int .i64 (k : Int)
            | 6 => v = .slice Ao no co
            | 7 => v = .slice Ar D cr
            | 8 => v = .int .i64 er
            | 9 => v = .bool true
            | 10 => v = .bool true
            | 11 => True
            | 12 => True
            | 13 => True
            | 14 => True
            | 15 => True
            | 16 => True
            | 17 => True
            | 18 => True
            | 19 => True
            | 20 => v = .bool true
            | _ => True) (fun u => Below w7.heap.size w7 u) ?a1 (fun _ _ h1 h2 => h1.trans (h2.mono h1.size)) ⟨rfl, rfl, rfl, Nat.le_refl _, fun _ _ => rfl⟩ ?a2 ?a3
        case a1 =>
          intro iX v u u' h hr hb
          rcases iX with _ | _ | _ | _ | _ | _ | _ | _ | _ | _ | _ | _ | _ | _ | _ | _ | _ | _ | _ | _ | _ | iX
          · exact h
          · exact h
          · exact h
          · exact h
          · exact h
          · exact h
          · exact h
          · exact h
          · exact h
          · exact h
          · exact h
          · trivial
          · trivial
          · trivial
          · trivial
          · trivial
          · trivial
          · trivial
          · trivial
          · trivial
          · exact h
          · trivial
        case a2 =>
          intro iX o ho aX u hr hk hpre K hK
          have e3 : aX.tmps.getD 3 undef = .pointer (some ⟨w.heap.size, 0, none⟩) := hk.slot 3 (by simp)
          have e7 : aX.tmps.getD 7 undef = .pointer (some ⟨g, 0, none⟩) := hk.slot 7 (by simp)
          have e1 : aX.tmps.getD 1 undef = .int .i64 (k : Int) := hk.slot 1 (by simp)
          have e2 : aX.tmps.getD 2 undef = .slice Ao no co := hk.slot 2 (by simp)
          have e12 : aX.tmps.getD 12 undef = .slice Ar D cr := hk.slot 12 (by simp)
          have e14 : aX.tmps.getD 14 undef = .slice Al m5 cl := hk.slot 14 (by simp)
          have u0 : u.cell? ⟨w.heap.size, 0, none⟩ = some (.int .i64 (s : Int)) := (hr.cell (p := ⟨w.heap.size, 0, none⟩) HSLT.out).trans c70
          have u2 : u.cell? ⟨w.heap.size, 2, none⟩ = some (.slice A nA cA) := (hr.cell (p := ⟨w.heap.size, 2, none⟩) HSLT.out).trans c72
          have v0 : u.cell? ⟨g, 0, none⟩ = some (.int .i64 (nd : Int)) := (hr.cell (p := ⟨g, 0, none⟩) HGLT.out).trans s70
          have v1 : u.cell? ⟨g, 1, none⟩ = some (.int .i64 (B : Int)) := (hr.cell (p := ⟨g, 1, none⟩) HGLT.out).trans s71
          have v2 : u.cell? ⟨g, 2, none⟩ = some (.int .i64 (D : Int)) := (hr.cell (p := ⟨g, 2, none⟩) HGLT.out).trans s72
          have rf : Below u.heap.size u u := Below.refl _ _
          rcases iX with _ | _ | _ | _ | _ | _ | _ | _ | _ | _ | _ | _ | _ | _ | _ | _ | _ | _ | _ | _ | _ | iX
          · obtain rfl := Option.some.inj ho
            have y3 : aX.eval (.tmp 3) = .pointer (some ⟨w.heap.size, 0, none⟩) := e3
            refine st_run (want_none rfl) (.pointer (some ⟨w.heap.size, 0, none⟩)) (w' := u) ?_ (hK _ _ rfl rf)
            simp only [execOp, y3]
            go_simp
          · obtain rfl := Option.some.inj ho
            have y78 : aX.eval (.tmp 78) = .pointer (some ⟨w.heap.size, 0, none⟩) := (hpre 0 _ rfl ⟨⟨0, .data⟩, by simp, rfl, rfl⟩)
            refine st_run (want_none rfl) (.int .i64 (s : Int)) (w' := u) ?_ (hK _ _ rfl rf)
            simp only [execOp, y78]
            go_simp
          · obtain rfl := Option.some.inj ho
            have y3 : aX.eval (.tmp 3) = .pointer (some ⟨w.heap.size, 0, none⟩) := e3
            refine st_run (want_none rfl) (.pointer (some ⟨w.heap.size, 2, none⟩)) (w' := u) ?_ (hK _ _ rfl rf)
            simp only [execOp, y3]
            go_simp
          · obtain rfl := Option.some.inj ho
            have y80 : aX.eval (.tmp 80) = .pointer (some ⟨w.heap.size, 2, none⟩) := (hpre 2 _ rfl ⟨⟨2, .data⟩, by simp, rfl, rfl⟩)
            refine st_run (want_none rfl) (.slice A nA cA) (w' := u) ?_ (hK _ _ rfl rf)
            simp only [execOp, y80]
            go_simp
          · obtain rfl := Option.some.inj ho
            have y7 : aX.eval (.tmp 7) = .pointer (some ⟨g, 0, none⟩) := e7
            refine st_run (want_none rfl) (.agg #[.int .i64 (nd : Int), .int .i64 (B : Int), .int .i64 (D : Int)]) (w' := u) ?_ (hK _ _ rfl rf)
            simp only [execOp, y7]
            go_simp
          · obtain rfl := Option.some.inj ho
            exact st_move (.tmp 1) rfl (want_none rfl) _ e1 (hK _ _ rfl rf)
          · obtain rfl := Option.some.inj ho
            exact st_move (.tmp 2) rfl (want_none rfl) _ e2 (hK _ _ rfl rf)
          · obtain rfl := Option.some.inj ho
            exact st_move (.tmp 12) rfl (want_none rfl) _ e12 (hK _ _ rfl rf)
          · obtain rfl := Option.some.inj ho
            have x0 : aX.eval (.tmp 79) = .int .i64 (s : Int) := (hpre 1 _ rfl ⟨⟨1, .data⟩, by simp, rfl, rfl⟩)
            have x1 : aX.eval (.tmp 81) = .slice A nA cA := (hpre 3 _ rfl ⟨⟨3, .data⟩, by simp, rfl, rfl⟩)
            have x2 : aX.eval (.tmp 82) = .agg #[.int .i64 (nd : Int), .int .i64 (B : Int), .int .i64 (D : Int)] := (hpre 4 _ rfl ⟨⟨4, .data⟩, by simp, rfl, rfl⟩)
            have x3 : aX.eval (.tmp 83) = .int .i64 (k : Int) := (hpre 5 _ rfl ⟨⟨5, .data⟩, by simp, rfl, rfl⟩)
            have x4 : aX.eval (.tmp 84) = .slice Ao no co := (hpre 6 _ rfl ⟨⟨6, .data⟩, by simp, rfl, rfl⟩)
            have x5 : aX.eval (.tmp 85) = .slice Ar D cr := (hpre 7 _ rfl ⟨⟨7, .data⟩, by simp, rfl, rfl⟩)
            exact st_callN 20 _ _ rfl (want_none rfl) #[.int .i64 (s : Int), .slice A nA cA, .agg #[.int .i64 (nd : Int), .int .i64 (B : Int), .int .i64 (D : Int)], .int .i64 (k : Int), .slice Ao no co, .slice Ar D cr] (by simp [x0, x1, x2, x3, x4, x5]) (by kernel_rfl) _ (HCALL.out u hr) (fun e u' he => ⟨_, he.1, hK _ _ rfl he.2⟩)
          · obtain rfl := Option.some.inj ho
            have y86 : aX.eval (.tmp 86) = .int .i64 er := (hpre 8 _ rfl ⟨⟨8, .data⟩, by simp, rfl, rfl⟩)
            refine st_run (want_none rfl) (.bool true) (w' := u) ?_ (hK _ _ rfl rf)
            simp only [execOp, y86]
            go_simp
          · obtain rfl := Option.some.inj ho
            exact st_move (.tmp 87) rfl (want_none rfl) _ (hpre 9 _ rfl ⟨⟨9, .data⟩, by simp, rfl, rfl⟩) (hK _ _ rfl rf)
          · obtain rfl := Option.some.inj ho
            exact st_fall (want_fall rfl rfl rfl (hpre 10 _ rfl ⟨⟨10, .guard⟩, by simp, rfl, rfl⟩) (by decide)) (hK undef _ trivial rf)
          · obtain rfl := Option.some.inj ho
            exact st_fall (want_fall rfl rfl rfl (hpre 10 _ rfl ⟨⟨10, .guard⟩, by simp, rfl, rfl⟩) (by decide)) (hK undef _ trivial rf)
          · obtain rfl := Option.some.inj ho
            exact st_fall (want_fall rfl rfl rfl (hpre 10 _ rfl ⟨⟨10, .guard⟩, by simp, rfl, rfl⟩) (by decide)) (hK undef _ trivial rf)
          · obtain rfl := Option.some.inj ho
            exact st_fall (want_fall rfl rfl rfl (hpre 10 _ rfl ⟨⟨10, .guard⟩, by simp, rfl, rfl⟩) (by decide)) (hK undef _ trivial rf)
          · obtain rfl := Option.some.inj ho
            exact st_fall (want_fall rfl rfl rfl (hpre 10 _ rfl ⟨⟨10, .guard⟩, by simp, rfl, rfl⟩) (by decide)) (hK undef _ trivial rf)
          · obtain rfl := Option.some.inj ho
            exact st_fall (want_fall rfl rfl rfl (hpre 10 _ rfl ⟨⟨10, .guard⟩, by simp, rfl, rfl⟩) (by decide)) (hK undef _ trivial rf)
          · obtain rfl := Option.some.inj ho
            exact st_fall (want_fall rfl rfl rfl (hpre 10 _ rfl ⟨⟨10, .guard⟩, by simp, rfl, rfl⟩) (by decide)) (hK undef _ trivial rf)
          · obtain rfl := Option.some.inj ho
            exact st_fall (want_fall rfl rfl rfl (hpre 10 _ rfl ⟨⟨10, .guard⟩, by simp, rfl, rfl⟩) (by decide)) (hK undef _ trivial rf)
          · obtain rfl := Option.some.inj ho
            exact st_fall (want_fall rfl rfl rfl (hpre 10 _ rfl ⟨⟨10, .guard⟩, by simp, rfl, rfl⟩) (by decide)) (hK undef _ trivial rf)
          · obtain rfl := Option.some.inj ho
            exact st_pick (.tmp 88) (.const (.bool true)) (.tmp 97) rfl (want_none rfl) true (hpre 10 _ rfl ⟨⟨10, .data⟩, by simp, rfl, rfl⟩) _ ((if_pos rfl).trans rfl) (hK _ _ rfl rf)
          · cases ho
        case a3 =>
          intro aX u hr hk hv
          have q98 : aX.tmps.getD 98 undef = .bool true := hv 20 _ rfl
          have hfr := keeps_frameP (fun s => decide ((78 ≤ s ∧ s ≤ 98))) hk (by simp)
          refine hKx aX u ?_
          rw [hfr]
          generalize hff : (fun s => aX.tmps.getD s undef) = ff
          have hf98 : ff 98 = .bool true := by rw [← hff]; exact q98
          simp only [mixP, hf98, decide_eq_true_eq, Nat.reduceAdd, Nat.reduceLeDiff, Nat.reduceEqDiff, false_or, true_or, or_false, or_true, and_true, and_false, true_and, false_and, and_self, if_true, if_false, Nat.zero_le]
          clear hfr hff hf98 q98 hv hk
          go_wp2
          go_ret
          exact ⟨rfl, below_then BEL7.out hr⟩
end Go.Proofs.YtijblgbpfffagaaDoor
