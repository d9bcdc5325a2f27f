/-
  TailTorn: a Store that the power cuts off leaves the old tail, or the new one. No condition but what the statement says.
-/
import Derived.Test.YthepbadecpnepaaLStores
namespace Go.Proofs.Ythepbadecpnepaa
open Go.RowKit Go.MapKept
set_option linter.unusedVariables false
set_option linter.unusedSimpArgs false
set_option maxRecDepth 100000

theorem torn_same {l bs : List Nat} {off q : Nat} {kp : List Bool} {j : Nat} (h : ¬ (off ≤ j ∧ j < off + q)) : (torn l bs off q kp)[j]? = l[j]? := by
  by_cases hj : j < l.length
  · rw [torn_get _ _ _ _ _ _ hj, if_neg (fun hh => h ⟨hh.1, hh.2.1⟩), List.getElem?_eq_getElem hj]
    simp [List.getD, List.getElem?_eq_getElem hj]
  · rw [List.getElem?_eq_none (by rw [torn_length]; omega), List.getElem?_eq_none (by omega)]
theorem last_same {l l' : List Nat} (hl : l.length = 1024) (hl' : l'.length = 1024) (h : ∀ j, j < 448 ∨ 960 ≤ j → l'[j]? = l[j]?) : lastOf l' = lastOf l := by
  unfold lastOf
  rw [hl, hl']
  apply List.ext_getElem?
  intro j
  rw [List.getElem?_drop, List.getElem?_drop, h _ (by omega)]
theorem blob_same {l l' : List Nat} (hl : l.length = 1024) (hl' : l'.length = 1024) (h : ∀ j, j < 448 ∨ 960 ≤ j → l'[j]? = l[j]?) (hb : tb (lastOf l) + tc (lastOf l) ≤ 448) : blobOf l' = blobOf l := by
  unfold blobOf
  rw [last_same hl hl' h]
  apply List.ext_getElem?
  intro j
  rw [List.getElem?_take, List.getElem?_take]
  by_cases hj : j < tc (lastOf l)
  · rw [if_pos hj, if_pos hj, List.getElem?_drop, List.getElem?_drop, h _ (by omega)]
  · rw [if_neg hj, if_neg hj]
/-- Of a tail that is one sector, the first of what is kept decides. -/
theorem torn_tail_yes {l ts : List Nat} {kp : List Bool} (hl : l.length = 1024) (ht : ts.length = 64) (hk : kp.getD 0 false = true) : torn l ts 960 64 kp = splice l 960 ts := by
  have h1 := torn_yes (l := l) (bs := ts) (off := 960) (q := 0) (q' := 64) (kp := kp) (by omega) (by omega) (by omega) (fun j h1 h2 => by rw [show j / 64 - 960 / 64 = 0 from by omega]; exact hk)
  rw [torn_zero] at h1
  rw [h1, List.drop_zero, List.take_of_length_le (by omega)]
theorem torn_tail_no {l ts : List Nat} {kp : List Bool} (hk : kp.getD 0 false = false) : torn l ts 960 64 kp = l := by
  have h1 := torn_no (l := l) (bs := ts) (off := 960) (q := 0) (q' := 64) (kp := kp) (by omega) (fun j h1 h2 => by rw [show j / 64 - 960 / 64 = 0 from by omega]; exact hk)
  rw [torn_zero] at h1
  exact h1
abbrev TornWalk (A : Option Addr) (na ca : Nat) (B : Option Addr) (nb cb : Nat) (k : Int) (Ak : Option Addr) (nk ck : Nat) (W : World) : Prop := Calls Try.prog 8 #[.slice A na ca, .slice B nb cb, .int .i64 k, .slice Ak nk ck] W fun e w' => e = .returned (.bool true) ∧ Below W.heap.size W w'
set_option maxHeartbeats 2000000 in
theorem torn_big (A : Option Addr) (na ca : Nat) (B : Option Addr) (nb cb : Nat) (k : Int) (Ak : Option Addr) (nk ck : Nat) (W : World) (hb : na < 1 ∨ 300 < na ∨ nb < 1 ∨ 300 < nb ∨ k < 0 ∨ 1 < k ∨ 20 < nk) : TornWalk A na ca B nb cb k Ak nk ck W := by
  have q : ((na : Int) < 1) ∨ (¬ ((na : Int) < 1) ∧ ((300 : Int) < na ∨ (¬ ((300 : Int) < na) ∧ ((nb : Int) < 1 ∨ (¬ ((nb : Int) < 1) ∧ ((300 : Int) < nb ∨ (¬ ((300 : Int) < nb) ∧ (k < 0 ∨ (¬ k < 0 ∧ (1 < k ∨ (¬ 1 < k ∧ (20 : Int) < nk))))))))))) := by omega
  clear hb
  rcases q with z1 | ⟨z1, z2 | ⟨z2, z3 | ⟨z3, z4 | ⟨z4, z5 | ⟨z5, z6 | ⟨z6, z7⟩⟩⟩⟩⟩⟩
  all_goals
    go_enter Try.func8, Try.ntmps8
    go_wp2_with fail
    refine (anchor_any W).mono ?_
    rintro e w1 ⟨rfl, hb1⟩
    go_wp2
    go_ret
    exact ⟨rfl, hb1⟩
set_option maxHeartbeats 1000000 in
theorem torn_z (A : Option Addr) (na ca : Nat) (la : List Nat) (B : Option Addr) (nb cb : Nat) (lb : List Nat) (Ak : Option Addr) (nk ck : Nat) (kp : List Bool) (W : World) (ga : Bs W A na ca la) (gb : Bs W B nb cb lb) (gk : Ss W Ak nk ck 1 (bcells kp)) (h1 : 1 ≤ na ∧ na ≤ 300) (h2 : 1 ≤ nb ∧ nb ≤ 300) (h3 : nk ≤ 20)  : TornWalk A na ca B nb cb 0 Ak nk ck W := by
  have z1 : ¬ ((na : Int) < 1) := by omega
  have z2 : ¬ ((300 : Int) < na) := by omega
  have z3 : ¬ ((nb : Int) < 1) := by omega
  have z4 : ¬ ((300 : Int) < nb) := by omega
  have z7 : ¬ ((20 : Int) < nk) := by omega
  have HA := Lib.hid ga
  have HB := Lib.hid gb
  have HK := Lib.hid gk
  have HN : Hid (1 ≤ na ∧ na ≤ 300 ∧ 1 ≤ nb ∧ nb ≤ 300 ∧ nk ≤ 20 ∧ la.length = na ∧ lb.length = nb) := ⟨h1.1, h1.2, h2.1, h2.2, h3, ga.rd.1, gb.rd.1⟩
  have HKL : Hid (kp.length = nk) := by have := gk.len; rw [bcells_length] at this; show _ = _; omega
  clear ga gb gk h1 h2 h3  
  go_enter Try.func8, Try.ntmps8
  go_wp2_with fail
  refine (anchor_any W).mono ?_
  rintro e w1 ⟨rfl, hb1⟩
  go_wp2_with fail
  refine (made_yes 1024 w1 (by decide)).mono ?_
  rintro e w2 ⟨g, O, rfl, hD, hO, hb2⟩
  have D2 := Lib.hid hD
  have HO : Hid (∀ b ∈ O, W.heap.size ≤ b) := fun b hb => Nat.le_trans hb1.size (hO b hb)
  have B2 : Hid (Below W.heap.size W w2) := hb1.trans (hb2.mono hb1.size)
  have HAO : Hid (∀ (a : Option Addr) (k : Nat) (l : List Nat), Rd .u8 W a k l → 0 < k → ∀ ad, a = some ad → ad.block ∉ O) := fun a k l hr hk ad e hm => by
    have h1 := hr.lt hk ad e
    have h2 := HO.out _ hm
    omega
  have FK : Hid (0 < nk → ∀ ad, Ak = some ad → ad.block ∉ O) := fun hp ad e hm => by
    have h1 := HK.out.rs.lt (by rw [bcells_length, HKL.out]; exact hp) ad e
    have h2 := HO.out _ hm
    omega
  have L0 : Hid ((List.replicate (Int.toNat 1024) 0 : List Nat).length = 1024) := by show _ = _; simp
  clear hD hO hb1 hb2
  obtain ⟨M, hM⟩ : ∃ M, stored (List.replicate (Int.toNat 1024) 0) 0 la 0 = M := ⟨_, rfl⟩
  have hHN := HN.out
  have hro1 : TOk (0 : Nat) (0 : Nat) (na : Nat) := by unfold TOk; omega
  have hst := stored_last (l := List.replicate (Int.toNat 1024) 0) (bs := la) (U := 0) (a := 0) (by rw [L0.out]; omega) (by rw [L0.out]; omega)
  have hlen := stored_length (l := List.replicate (Int.toNat 1024) 0) (bs := la) (U := 0) (a := 0) (by rw [L0.out]; omega) (by rw [L0.out]; omega)
  have hbl := stored_blob (l := List.replicate (Int.toNat 1024) 0) (bs := la) (U := 0) (a := 0) (by rw [L0.out]; omega) (by rw [L0.out]; omega) (by rw [hHN.2.2.2.2.2.1]; exact hro1)
  have W3 : Hid (Calls Try.prog 21 #[.pointer (some ⟨g, 0, none⟩), .string ⟨#[112]⟩, .int .i64 ((0 : Nat) : Int), .slice A na ca] w2 (Goes w2 O (.int .i64 0) fun w' => OneD w' g O w2.heap.size ⟨#[112]⟩ M (fun _ => false) false (-1) [] 0 0)) := by
    rw [← hM]
    exact D2.out.store_ok (by omega) A na ca la (HA.out.rd.below B2.out) HA.out.fit HA.out.le HA.out.max (HAO.out A na _ HA.out.rd) (by omega) (by omega) 0 0 rfl (by rw [L0.out]; omega)
  rw [hM] at hst hlen hbl
  rw [L0.out] at hlen
  rw [hHN.2.2.2.2.2.1] at hst
  have hv1 := vals_of hst hro1
  have HML := Lib.hid hlen
  have HST := Lib.hid hst
  have HBL := Lib.hid hbl
  have HV1 := Lib.hid hv1
  clear hM hst hlen hbl hv1 hro1
  go_wp2_with fail
  refine W3.out.mono ?_
  rintro e w3 ⟨rfl, hD3, ht3⟩
  have D3 := Lib.hid hD3
  have B3 := Lib.hid (below_touch B2.out ht3 HO.out B2.out.size)
  clear hD3 ht3 hHN
  go_wp2_with fail
  refine (D3.out.arm 0 (by omega) (by omega) Ak nk ck kp (HK.out.below B3.out) FK.out (by have := HN.out; omega)).mono ?_
  rintro e w4 ⟨rfl, hD4, ht4⟩
  have D4 := Lib.hid hD4
  have B4 := Lib.hid (below_touch B3.out ht4 HO.out B3.out.size)
  clear hD4 ht4
  obtain ⟨T, hT⟩ : ∃ T, torn M lb 448 nb kp = T := ⟨_, rfl⟩
  have HTL : T.length = 1024 := by rw [← hT, torn_length]; exact HML.out
  have hsm : ∀ j, j < 448 ∨ 960 ≤ j → T[j]? = M[j]? := fun j hj => by
    rw [← hT]
    exact torn_same (by have := HN.out; omega)
  have hst : lastOf T = tbytes 0 0 na := by rw [last_same HML.out HTL hsm]; exact HST.out
  have HBT : Hid (blobOf T = la) := by
    show _ = _
    rw [blob_same HML.out HTL hsm (by have := HV1.out; have := HN.out; omega)]
    exact HBL.out
  clear hsm
  have hro : TOk (0 : Nat) (0 : Nat) (na : Nat) := by have := HN.out; unfold TOk; omega
  have HLV := Lib.hid (vals_of hst hro)
  have HLY : Hid (∀ er, LoadL (fun _ => false) T er → er = 0) := fun er h => load_yes hst hro (by have := HN.out; omega) h
  have W5 := Lib.hid (D4.out.store_torn1 B nb cb lb (HB.out.rd.below B4.out) HB.out.fit HB.out.le HB.out.max (HAO.out B nb _ HB.out.rd) HN.out.2.2.1 (by have := HN.out; omega) 400 448 rfl (by rw [HML.out]; have := HN.out; omega))
  rw [hT] at W5
  clear hT hst hro HTL
  go_wp2_with fail
  refine W5.out.mono ?_
  rintro e w5 ⟨rfl, hD5, ht5⟩
  have D5 := Lib.hid hD5
  have B5 := Lib.hid (below_touch B4.out ht5 HO.out B4.out.size)
  clear hD5 ht5
  go_wp2_with fail
  refine D5.out.boot.mono ?_
  rintro e w6 ⟨rfl, hD6, ht6⟩
  have D6 := Lib.hid hD6
  have B6 := Lib.hid (below_touch B5.out ht6 HO.out B5.out.size)
  clear hD6 ht6 W3 W5 D2 D3 D4 D5 B2 B3 B4 B5
  go_wp2_with fail
  refine (D6.out.load (by omega) (by omega)).mono ?_
  rintro e w7 ⟨c7, t7, hD7, hc7, ht7, hT7, (⟨er, hne, hl, rfl⟩ | ⟨g7, hl, rfl, hg7, hB7⟩)⟩
  · exact absurd (HLY.out er hl) hne
  rw [HLV.out.1, HLV.out.2.1, HLV.out.2.2]
  rw [HBT.out] at hB7
  have B7 := Lib.hid (below_touch B6.out hT7 HO.out B6.out.size)
  have K7 := Lib.hid hB7
  clear hD7 hc7 ht7 hT7 hl hg7 hB7
  have H3 : Hid (Below w7.heap.size w7 (w7.alloc (.cells #[.int .i64 0, .int .i64 0, .int .i64 0] 23)) ∧ Blk (w7.alloc (.cells #[.int .i64 0, .int .i64 0, .int .i64 0] 23)) w7.heap.size 23 tz) := ⟨(Below.refl _ _).alloc (Nat.le_refl _) _, Blk.new w7 _ tz⟩
  go_wp2_with ((with_reducible refine at_dst none ?_); refine stopper ?_)
  refine ⟨?_, trivial⟩
  refine wpList_storeBlk (op := ⟨none, _, _, _, _, _⟩) rfl 23 (.tmp 11) (.tmp 69) rfl (g := w7.heap.size) (t := 23) (old := tz) (cs := tcells (0 : Nat) (0 : Nat) (na : Nat)) rfl rfl H3.out.2 rfl iT (tcells_one _ _ _) ?_
  intro u0 hU0 hT0
  have HT0 := Lib.hid hT0
  clear hT0
  have HBU : Hid (Below W.heap.size W u0) := (B7.out.trans (H3.out.1.mono B7.out.size)).trans (HT0.out.below (fun y hy => by rw [List.mem_singleton.1 hy]; exact B7.out.size) (Nat.le_trans B7.out.size H3.out.1.size))
  have k7 := (K7.out.below H3.out.1 K7.out.lt).touch HT0.out (by have := K7.out.lt; simp; omega)
  have c0 : u0.cell? ⟨w7.heap.size, 0, none⟩ = some (.int .i64 (0 : Nat)) := hU0.cell 0
  have q1 := rd_str (k7.rd na HA.out.rd.1) na
  have q2 := rd_str (HA.out.rd.below HBU.out) ca
  have e1 : ((str la).toList == (str la).toList) = true := beq_self_eq_true _
  generalize str la = G1 at q1 q2 e1
  clear k7 hU0
  go_wp2
  go_ret
  exact ⟨rfl, HBU.out⟩
set_option maxHeartbeats 1000000 in
theorem torn_e (A : Option Addr) (na ca : Nat) (la : List Nat) (B : Option Addr) (nb cb : Nat) (lb : List Nat) (Ak : Option Addr) (nk ck : Nat) (kp : List Bool) (W : World) (ga : Bs W A na ca la) (gb : Bs W B nb cb lb) (gk : Ss W Ak nk ck 1 (bcells kp)) (h1 : 1 ≤ na ∧ na ≤ 300) (h2 : 1 ≤ nb ∧ nb ≤ 300) (h3 : nk ≤ 20) (hk0 : nk = 0) : TornWalk A na ca B nb cb 1 Ak nk ck W := by
  have z1 : ¬ ((na : Int) < 1) := by omega
  have z2 : ¬ ((300 : Int) < na) := by omega
  have z3 : ¬ ((nb : Int) < 1) := by omega
  have z4 : ¬ ((300 : Int) < nb) := by omega
  have z7 : ¬ ((20 : Int) < nk) := by omega
  have HA := Lib.hid ga
  have HB := Lib.hid gb
  have HK := Lib.hid gk
  have HN : Hid (1 ≤ na ∧ na ≤ 300 ∧ 1 ≤ nb ∧ nb ≤ 300 ∧ nk ≤ 20 ∧ la.length = na ∧ lb.length = nb) := ⟨h1.1, h1.2, h2.1, h2.2, h3, ga.rd.1, gb.rd.1⟩
  have HKL : Hid (kp.length = nk) := by have := gk.len; rw [bcells_length] at this; show _ = _; omega
  have HKD : Hid (kp.getD 0 false = false) := by have := HKL.out; rw [hk0] at this; rw [List.eq_nil_of_length_eq_zero this]; rfl
  have y1 : ¬ ((0 : Int) < nk) := by omega
  clear ga gb gk h1 h2 h3 hk0 
  go_enter Try.func8, Try.ntmps8
  go_wp2_with fail
  refine (anchor_any W).mono ?_
  rintro e w1 ⟨rfl, hb1⟩
  go_wp2_with fail
  refine (made_yes 1024 w1 (by decide)).mono ?_
  rintro e w2 ⟨g, O, rfl, hD, hO, hb2⟩
  have D2 := Lib.hid hD
  have HO : Hid (∀ b ∈ O, W.heap.size ≤ b) := fun b hb => Nat.le_trans hb1.size (hO b hb)
  have B2 : Hid (Below W.heap.size W w2) := hb1.trans (hb2.mono hb1.size)
  have HAO : Hid (∀ (a : Option Addr) (k : Nat) (l : List Nat), Rd .u8 W a k l → 0 < k → ∀ ad, a = some ad → ad.block ∉ O) := fun a k l hr hk ad e hm => by
    have h1 := hr.lt hk ad e
    have h2 := HO.out _ hm
    omega
  have FK : Hid (0 < nk → ∀ ad, Ak = some ad → ad.block ∉ O) := fun hp ad e hm => by
    have h1 := HK.out.rs.lt (by rw [bcells_length, HKL.out]; exact hp) ad e
    have h2 := HO.out _ hm
    omega
  have L0 : Hid ((List.replicate (Int.toNat 1024) 0 : List Nat).length = 1024) := by show _ = _; simp
  clear hD hO hb1 hb2
  obtain ⟨M, hM⟩ : ∃ M, stored (List.replicate (Int.toNat 1024) 0) 0 la 0 = M := ⟨_, rfl⟩
  have hHN := HN.out
  have hro1 : TOk (0 : Nat) (0 : Nat) (na : Nat) := by unfold TOk; omega
  have hst := stored_last (l := List.replicate (Int.toNat 1024) 0) (bs := la) (U := 0) (a := 0) (by rw [L0.out]; omega) (by rw [L0.out]; omega)
  have hlen := stored_length (l := List.replicate (Int.toNat 1024) 0) (bs := la) (U := 0) (a := 0) (by rw [L0.out]; omega) (by rw [L0.out]; omega)
  have hbl := stored_blob (l := List.replicate (Int.toNat 1024) 0) (bs := la) (U := 0) (a := 0) (by rw [L0.out]; omega) (by rw [L0.out]; omega) (by rw [hHN.2.2.2.2.2.1]; exact hro1)
  have W3 : Hid (Calls Try.prog 21 #[.pointer (some ⟨g, 0, none⟩), .string ⟨#[112]⟩, .int .i64 ((0 : Nat) : Int), .slice A na ca] w2 (Goes w2 O (.int .i64 0) fun w' => OneD w' g O w2.heap.size ⟨#[112]⟩ M (fun _ => false) false (-1) [] 0 0)) := by
    rw [← hM]
    exact D2.out.store_ok (by omega) A na ca la (HA.out.rd.below B2.out) HA.out.fit HA.out.le HA.out.max (HAO.out A na _ HA.out.rd) (by omega) (by omega) 0 0 rfl (by rw [L0.out]; omega)
  rw [hM] at hst hlen hbl
  rw [L0.out] at hlen
  rw [hHN.2.2.2.2.2.1] at hst
  have hv1 := vals_of hst hro1
  have HML := Lib.hid hlen
  have HST := Lib.hid hst
  have HBL := Lib.hid hbl
  have HV1 := Lib.hid hv1
  clear hM hst hlen hbl hv1 hro1
  go_wp2_with fail
  refine W3.out.mono ?_
  rintro e w3 ⟨rfl, hD3, ht3⟩
  have D3 := Lib.hid hD3
  have B3 := Lib.hid (below_touch B2.out ht3 HO.out B2.out.size)
  clear hD3 ht3 hHN
  go_wp2_with fail
  refine (D3.out.arm 1 (by omega) (by omega) Ak nk ck kp (HK.out.below B3.out) FK.out (by have := HN.out; omega)).mono ?_
  rintro e w4 ⟨rfl, hD4, ht4⟩
  have D4 := Lib.hid hD4
  have B4 := Lib.hid (below_touch B3.out ht4 HO.out B3.out.size)
  clear hD4 ht4
  obtain ⟨T, hT⟩ : ∃ T, torn (splice M 448 lb) (tbytes (400 : Nat) 448 nb) (M.length - 64) 64 kp = T := ⟨_, rfl⟩
  have HTL : T.length = 1024 := by rw [← hT, torn_length, length_splice _ _ _ (by have := HN.out; rw [HML.out]; omega)]; exact HML.out
  have hsm : ∀ j, j < 448 ∨ 960 ≤ j → T[j]? = M[j]? := fun j hj => by
    have hHN := HN.out
    rw [← hT, HML.out, show 1024 - 64 = 960 from rfl, torn_tail_no HKD.out, splice_get _ _ _ (by rw [HML.out]; omega), if_neg (by omega)]
  have hst : lastOf T = tbytes 0 0 na := by rw [last_same HML.out HTL hsm]; exact HST.out
  have HBT : Hid (blobOf T = la) := by
    show _ = _
    rw [blob_same HML.out HTL hsm (by have := HV1.out; have := HN.out; omega)]
    exact HBL.out
  clear hsm
  have hro : TOk (0 : Nat) (0 : Nat) (na : Nat) := by have := HN.out; unfold TOk; omega
  have HLV := Lib.hid (vals_of hst hro)
  have HLY : Hid (∀ er, LoadL (fun _ => false) T er → er = 0) := fun er h => load_yes hst hro (by have := HN.out; omega) h
  have W5 := Lib.hid (D4.out.store_torn2 B nb cb lb (HB.out.rd.below B4.out) HB.out.fit HB.out.le HB.out.max (HAO.out B nb _ HB.out.rd) HN.out.2.2.1 (by have := HN.out; omega) 400 448 rfl (by rw [HML.out]; have := HN.out; omega))
  rw [hT] at W5
  clear hT hst hro HTL
  go_wp2_with fail
  refine W5.out.mono ?_
  rintro e w5 ⟨rfl, hD5, ht5⟩
  have D5 := Lib.hid hD5
  have B5 := Lib.hid (below_touch B4.out ht5 HO.out B4.out.size)
  clear hD5 ht5
  go_wp2_with fail
  refine D5.out.boot.mono ?_
  rintro e w6 ⟨rfl, hD6, ht6⟩
  have D6 := Lib.hid hD6
  have B6 := Lib.hid (below_touch B5.out ht6 HO.out B5.out.size)
  clear hD6 ht6 W3 W5 D2 D3 D4 D5 B2 B3 B4 B5
  go_wp2_with fail
  refine (D6.out.load (by omega) (by omega)).mono ?_
  rintro e w7 ⟨c7, t7, hD7, hc7, ht7, hT7, (⟨er, hne, hl, rfl⟩ | ⟨g7, hl, rfl, hg7, hB7⟩)⟩
  · exact absurd (HLY.out er hl) hne
  rw [HLV.out.1, HLV.out.2.1, HLV.out.2.2]
  rw [HBT.out] at hB7
  have B7 := Lib.hid (below_touch B6.out hT7 HO.out B6.out.size)
  have K7 := Lib.hid hB7
  clear hD7 hc7 ht7 hT7 hl hg7 hB7
  have H3 : Hid (Below w7.heap.size w7 (w7.alloc (.cells #[.int .i64 0, .int .i64 0, .int .i64 0] 23)) ∧ Blk (w7.alloc (.cells #[.int .i64 0, .int .i64 0, .int .i64 0] 23)) w7.heap.size 23 tz) := ⟨(Below.refl _ _).alloc (Nat.le_refl _) _, Blk.new w7 _ tz⟩
  go_wp2_with ((with_reducible refine at_dst none ?_); refine stopper ?_)
  refine ⟨?_, trivial⟩
  refine wpList_storeBlk (op := ⟨none, _, _, _, _, _⟩) rfl 23 (.tmp 11) (.tmp 69) rfl (g := w7.heap.size) (t := 23) (old := tz) (cs := tcells (0 : Nat) (0 : Nat) (na : Nat)) rfl rfl H3.out.2 rfl iT (tcells_one _ _ _) ?_
  intro u0 hU0 hT0
  have HT0 := Lib.hid hT0
  clear hT0
  have HBU : Hid (Below W.heap.size W u0) := (B7.out.trans (H3.out.1.mono B7.out.size)).trans (HT0.out.below (fun y hy => by rw [List.mem_singleton.1 hy]; exact B7.out.size) (Nat.le_trans B7.out.size H3.out.1.size))
  have k7 := (K7.out.below H3.out.1 K7.out.lt).touch HT0.out (by have := K7.out.lt; simp; omega)
  have c0 : u0.cell? ⟨w7.heap.size, 0, none⟩ = some (.int .i64 (0 : Nat)) := hU0.cell 0
  have q1 := rd_str (k7.rd na HA.out.rd.1) na
  have q2 := rd_str (HA.out.rd.below HBU.out) ca
  have e1 : ((str la).toList == (str la).toList) = true := beq_self_eq_true _
  generalize str la = G1 at q1 q2 e1
  clear k7 hU0
  go_wp2
  go_ret
  exact ⟨rfl, HBU.out⟩
set_option maxHeartbeats 1000000 in
theorem torn_f (A : Option Addr) (na ca : Nat) (la : List Nat) (B : Option Addr) (nb cb : Nat) (lb : List Nat) (Ak : Option Addr) (nk ck : Nat) (kp : List Bool) (W : World) (ga : Bs W A na ca la) (gb : Bs W B nb cb lb) (gk : Ss W Ak nk ck 1 (bcells kp)) (h1 : 1 ≤ na ∧ na ≤ 300) (h2 : 1 ≤ nb ∧ nb ≤ 300) (h3 : nk ≤ 20) (hk0 : kp.getD 0 false = false) (hk1 : 0 < nk) : TornWalk A na ca B nb cb 1 Ak nk ck W := by
  have z1 : ¬ ((na : Int) < 1) := by omega
  have z2 : ¬ ((300 : Int) < na) := by omega
  have z3 : ¬ ((nb : Int) < 1) := by omega
  have z4 : ¬ ((300 : Int) < nb) := by omega
  have z7 : ¬ ((20 : Int) < nk) := by omega
  have HA := Lib.hid ga
  have HB := Lib.hid gb
  have HK := Lib.hid gk
  have HN : Hid (1 ≤ na ∧ na ≤ 300 ∧ 1 ≤ nb ∧ nb ≤ 300 ∧ nk ≤ 20 ∧ la.length = na ∧ lb.length = nb) := ⟨h1.1, h1.2, h2.1, h2.2, h3, ga.rd.1, gb.rd.1⟩
  have HKL : Hid (kp.length = nk) := by have := gk.len; rw [bcells_length] at this; show _ = _; omega
  have HKD : Hid (kp.getD 0 false = false) := hk0
  have y1 : (0 : Int) < nk := by omega
  obtain ⟨ak, rfl, hka, hkc⟩ := gk.rs (by rw [bcells_length, HKL.out]; exact hk1)
  have HKC : Hid (ak.block < W.heap.size ∧ W.cell? ak = some (.bool false)) := by
    refine ⟨hka, ?_⟩
    have h5 := hkc 0 (.bool false) (by
      have hp : 0 < kp.length := by rw [HKL.out]; exact hk1
      have h6 : kp[0] = false := by simpa [List.getD, List.getElem?_eq_getElem hp] using hk0
      simp [bcells, List.getElem?_eq_getElem hp, h6])
    simpa [Addr.add] using h5
  clear hka hkc
  clear ga gb gk h1 h2 h3 hk0 hk1
  go_enter Try.func8, Try.ntmps8
  go_wp2_with fail
  refine (anchor_any W).mono ?_
  rintro e w1 ⟨rfl, hb1⟩
  go_wp2_with fail
  refine (made_yes 1024 w1 (by decide)).mono ?_
  rintro e w2 ⟨g, O, rfl, hD, hO, hb2⟩
  have D2 := Lib.hid hD
  have HO : Hid (∀ b ∈ O, W.heap.size ≤ b) := fun b hb => Nat.le_trans hb1.size (hO b hb)
  have B2 : Hid (Below W.heap.size W w2) := hb1.trans (hb2.mono hb1.size)
  have HAO : Hid (∀ (a : Option Addr) (k : Nat) (l : List Nat), Rd .u8 W a k l → 0 < k → ∀ ad, a = some ad → ad.block ∉ O) := fun a k l hr hk ad e hm => by
    have h1 := hr.lt hk ad e
    have h2 := HO.out _ hm
    omega
  have FK : Hid (0 < nk → ∀ ad, some ak = some ad → ad.block ∉ O) := fun hp ad e hm => by
    have h1 := HK.out.rs.lt (by rw [bcells_length, HKL.out]; exact hp) ad e
    have h2 := HO.out _ hm
    omega
  have L0 : Hid ((List.replicate (Int.toNat 1024) 0 : List Nat).length = 1024) := by show _ = _; simp
  clear hD hO hb1 hb2
  obtain ⟨M, hM⟩ : ∃ M, stored (List.replicate (Int.toNat 1024) 0) 0 la 0 = M := ⟨_, rfl⟩
  have hHN := HN.out
  have hro1 : TOk (0 : Nat) (0 : Nat) (na : Nat) := by unfold TOk; omega
  have hst := stored_last (l := List.replicate (Int.toNat 1024) 0) (bs := la) (U := 0) (a := 0) (by rw [L0.out]; omega) (by rw [L0.out]; omega)
  have hlen := stored_length (l := List.replicate (Int.toNat 1024) 0) (bs := la) (U := 0) (a := 0) (by rw [L0.out]; omega) (by rw [L0.out]; omega)
  have hbl := stored_blob (l := List.replicate (Int.toNat 1024) 0) (bs := la) (U := 0) (a := 0) (by rw [L0.out]; omega) (by rw [L0.out]; omega) (by rw [hHN.2.2.2.2.2.1]; exact hro1)
  have W3 : Hid (Calls Try.prog 21 #[.pointer (some ⟨g, 0, none⟩), .string ⟨#[112]⟩, .int .i64 ((0 : Nat) : Int), .slice A na ca] w2 (Goes w2 O (.int .i64 0) fun w' => OneD w' g O w2.heap.size ⟨#[112]⟩ M (fun _ => false) false (-1) [] 0 0)) := by
    rw [← hM]
    exact D2.out.store_ok (by omega) A na ca la (HA.out.rd.below B2.out) HA.out.fit HA.out.le HA.out.max (HAO.out A na _ HA.out.rd) (by omega) (by omega) 0 0 rfl (by rw [L0.out]; omega)
  rw [hM] at hst hlen hbl
  rw [L0.out] at hlen
  rw [hHN.2.2.2.2.2.1] at hst
  have hv1 := vals_of hst hro1
  have HML := Lib.hid hlen
  have HST := Lib.hid hst
  have HBL := Lib.hid hbl
  have HV1 := Lib.hid hv1
  clear hM hst hlen hbl hv1 hro1
  go_wp2_with fail
  refine W3.out.mono ?_
  rintro e w3 ⟨rfl, hD3, ht3⟩
  have D3 := Lib.hid hD3
  have B3 := Lib.hid (below_touch B2.out ht3 HO.out B2.out.size)
  clear hD3 ht3 hHN
  go_wp2_with fail
  refine (D3.out.arm 1 (by omega) (by omega) (some ak) nk ck kp (HK.out.below B3.out) FK.out (by have := HN.out; omega)).mono ?_
  rintro e w4 ⟨rfl, hD4, ht4⟩
  have D4 := Lib.hid hD4
  have B4 := Lib.hid (below_touch B3.out ht4 HO.out B3.out.size)
  clear hD4 ht4
  obtain ⟨T, hT⟩ : ∃ T, torn (splice M 448 lb) (tbytes (400 : Nat) 448 nb) (M.length - 64) 64 kp = T := ⟨_, rfl⟩
  have HTL : T.length = 1024 := by rw [← hT, torn_length, length_splice _ _ _ (by have := HN.out; rw [HML.out]; omega)]; exact HML.out
  have hsm : ∀ j, j < 448 ∨ 960 ≤ j → T[j]? = M[j]? := fun j hj => by
    have hHN := HN.out
    rw [← hT, HML.out, show 1024 - 64 = 960 from rfl, torn_tail_no HKD.out, splice_get _ _ _ (by rw [HML.out]; omega), if_neg (by omega)]
  have hst : lastOf T = tbytes 0 0 na := by rw [last_same HML.out HTL hsm]; exact HST.out
  have HBT : Hid (blobOf T = la) := by
    show _ = _
    rw [blob_same HML.out HTL hsm (by have := HV1.out; have := HN.out; omega)]
    exact HBL.out
  clear hsm
  have hro : TOk (0 : Nat) (0 : Nat) (na : Nat) := by have := HN.out; unfold TOk; omega
  have HLV := Lib.hid (vals_of hst hro)
  have HLY : Hid (∀ er, LoadL (fun _ => false) T er → er = 0) := fun er h => load_yes hst hro (by have := HN.out; omega) h
  have W5 := Lib.hid (D4.out.store_torn2 B nb cb lb (HB.out.rd.below B4.out) HB.out.fit HB.out.le HB.out.max (HAO.out B nb _ HB.out.rd) HN.out.2.2.1 (by have := HN.out; omega) 400 448 rfl (by rw [HML.out]; have := HN.out; omega))
  rw [hT] at W5
  clear hT hst hro HTL
  go_wp2_with fail
  refine W5.out.mono ?_
  rintro e w5 ⟨rfl, hD5, ht5⟩
  have D5 := Lib.hid hD5
  have B5 := Lib.hid (below_touch B4.out ht5 HO.out B4.out.size)
  clear hD5 ht5
  go_wp2_with fail
  refine D5.out.boot.mono ?_
  rintro e w6 ⟨rfl, hD6, ht6⟩
  have D6 := Lib.hid hD6
  have B6 := Lib.hid (below_touch B5.out ht6 HO.out B5.out.size)
  clear hD6 ht6 W3 W5 D2 D3 D4 D5 B2 B3 B4 B5
  go_wp2_with fail
  refine (D6.out.load (by omega) (by omega)).mono ?_
  rintro e w7 ⟨c7, t7, hD7, hc7, ht7, hT7, (⟨er, hne, hl, rfl⟩ | ⟨g7, hl, rfl, hg7, hB7⟩)⟩
  · exact absurd (HLY.out er hl) hne
  rw [HLV.out.1, HLV.out.2.1, HLV.out.2.2]
  rw [HBT.out] at hB7
  have B7 := Lib.hid (below_touch B6.out hT7 HO.out B6.out.size)
  have K7 := Lib.hid hB7
  clear hD7 hc7 ht7 hT7 hl hg7 hB7
  have H3 : Hid (Below w7.heap.size w7 (w7.alloc (.cells #[.int .i64 0, .int .i64 0, .int .i64 0] 23)) ∧ Blk (w7.alloc (.cells #[.int .i64 0, .int .i64 0, .int .i64 0] 23)) w7.heap.size 23 tz) := ⟨(Below.refl _ _).alloc (Nat.le_refl _) _, Blk.new w7 _ tz⟩
  go_wp2_with ((with_reducible refine at_dst none ?_); refine stopper ?_)
  refine ⟨?_, trivial⟩
  refine wpList_storeBlk (op := ⟨none, _, _, _, _, _⟩) rfl 23 (.tmp 11) (.tmp 69) rfl (g := w7.heap.size) (t := 23) (old := tz) (cs := tcells (0 : Nat) (0 : Nat) (na : Nat)) rfl rfl H3.out.2 rfl iT (tcells_one _ _ _) ?_
  intro u0 hU0 hT0
  have HT0 := Lib.hid hT0
  clear hT0
  have HBU : Hid (Below W.heap.size W u0) := (B7.out.trans (H3.out.1.mono B7.out.size)).trans (HT0.out.below (fun y hy => by rw [List.mem_singleton.1 hy]; exact B7.out.size) (Nat.le_trans B7.out.size H3.out.1.size))
  have k7 := (K7.out.below H3.out.1 K7.out.lt).touch HT0.out (by have := K7.out.lt; simp; omega)
  have c0 : u0.cell? ⟨w7.heap.size, 0, none⟩ = some (.int .i64 (0 : Nat)) := hU0.cell 0
  have ck : u0.cell? ak = some (.bool false) := (World.cell?_of_block (HBU.out.block _ HKC.out.1)).trans HKC.out.2
  have q1 := rd_str (k7.rd na HA.out.rd.1) na
  have q2 := rd_str (HA.out.rd.below HBU.out) ca
  have e1 : ((str la).toList == (str la).toList) = true := beq_self_eq_true _
  generalize str la = G1 at q1 q2 e1
  clear k7 hU0
  go_wp2
  go_ret
  exact ⟨rfl, HBU.out⟩
set_option maxHeartbeats 1000000 in
theorem torn_t (A : Option Addr) (na ca : Nat) (la : List Nat) (B : Option Addr) (nb cb : Nat) (lb : List Nat) (Ak : Option Addr) (nk ck : Nat) (kp : List Bool) (W : World) (ga : Bs W A na ca la) (gb : Bs W B nb cb lb) (gk : Ss W Ak nk ck 1 (bcells kp)) (h1 : 1 ≤ na ∧ na ≤ 300) (h2 : 1 ≤ nb ∧ nb ≤ 300) (h3 : nk ≤ 20) (hk0 : kp.getD 0 false = true) (hk1 : 0 < nk) : TornWalk A na ca B nb cb 1 Ak nk ck W := by
  have z1 : ¬ ((na : Int) < 1) := by omega
  have z2 : ¬ ((300 : Int) < na) := by omega
  have z3 : ¬ ((nb : Int) < 1) := by omega
  have z4 : ¬ ((300 : Int) < nb) := by omega
  have z7 : ¬ ((20 : Int) < nk) := by omega
  have HA := Lib.hid ga
  have HB := Lib.hid gb
  have HK := Lib.hid gk
  have HN : Hid (1 ≤ na ∧ na ≤ 300 ∧ 1 ≤ nb ∧ nb ≤ 300 ∧ nk ≤ 20 ∧ la.length = na ∧ lb.length = nb) := ⟨h1.1, h1.2, h2.1, h2.2, h3, ga.rd.1, gb.rd.1⟩
  have HKL : Hid (kp.length = nk) := by have := gk.len; rw [bcells_length] at this; show _ = _; omega
  have HKD : Hid (kp.getD 0 false = true) := hk0
  have y1 : (0 : Int) < nk := by omega
  obtain ⟨ak, rfl, hka, hkc⟩ := gk.rs (by rw [bcells_length, HKL.out]; exact hk1)
  have HKC : Hid (ak.block < W.heap.size ∧ W.cell? ak = some (.bool true)) := by
    refine ⟨hka, ?_⟩
    have h5 := hkc 0 (.bool true) (by
      have hp : 0 < kp.length := by rw [HKL.out]; exact hk1
      have h6 : kp[0] = true := by simpa [List.getD, List.getElem?_eq_getElem hp] using hk0
      simp [bcells, List.getElem?_eq_getElem hp, h6])
    simpa [Addr.add] using h5
  clear hka hkc
  clear ga gb gk h1 h2 h3 hk0 hk1
  go_enter Try.func8, Try.ntmps8
  go_wp2_with fail
  refine (anchor_any W).mono ?_
  rintro e w1 ⟨rfl, hb1⟩
  go_wp2_with fail
  refine (made_yes 1024 w1 (by decide)).mono ?_
  rintro e w2 ⟨g, O, rfl, hD, hO, hb2⟩
  have D2 := Lib.hid hD
  have HO : Hid (∀ b ∈ O, W.heap.size ≤ b) := fun b hb => Nat.le_trans hb1.size (hO b hb)
  have B2 : Hid (Below W.heap.size W w2) := hb1.trans (hb2.mono hb1.size)
  have HAO : Hid (∀ (a : Option Addr) (k : Nat) (l : List Nat), Rd .u8 W a k l → 0 < k → ∀ ad, a = some ad → ad.block ∉ O) := fun a k l hr hk ad e hm => by
    have h1 := hr.lt hk ad e
    have h2 := HO.out _ hm
    omega
  have FK : Hid (0 < nk → ∀ ad, some ak = some ad → ad.block ∉ O) := fun hp ad e hm => by
    have h1 := HK.out.rs.lt (by rw [bcells_length, HKL.out]; exact hp) ad e
    have h2 := HO.out _ hm
    omega
  have L0 : Hid ((List.replicate (Int.toNat 1024) 0 : List Nat).length = 1024) := by show _ = _; simp
  clear hD hO hb1 hb2
  obtain ⟨M, hM⟩ : ∃ M, stored (List.replicate (Int.toNat 1024) 0) 0 la 0 = M := ⟨_, rfl⟩
  have hHN := HN.out
  have hro1 : TOk (0 : Nat) (0 : Nat) (na : Nat) := by unfold TOk; omega
  have hst := stored_last (l := List.replicate (Int.toNat 1024) 0) (bs := la) (U := 0) (a := 0) (by rw [L0.out]; omega) (by rw [L0.out]; omega)
  have hlen := stored_length (l := List.replicate (Int.toNat 1024) 0) (bs := la) (U := 0) (a := 0) (by rw [L0.out]; omega) (by rw [L0.out]; omega)
  have hbl := stored_blob (l := List.replicate (Int.toNat 1024) 0) (bs := la) (U := 0) (a := 0) (by rw [L0.out]; omega) (by rw [L0.out]; omega) (by rw [hHN.2.2.2.2.2.1]; exact hro1)
  have W3 : Hid (Calls Try.prog 21 #[.pointer (some ⟨g, 0, none⟩), .string ⟨#[112]⟩, .int .i64 ((0 : Nat) : Int), .slice A na ca] w2 (Goes w2 O (.int .i64 0) fun w' => OneD w' g O w2.heap.size ⟨#[112]⟩ M (fun _ => false) false (-1) [] 0 0)) := by
    rw [← hM]
    exact D2.out.store_ok (by omega) A na ca la (HA.out.rd.below B2.out) HA.out.fit HA.out.le HA.out.max (HAO.out A na _ HA.out.rd) (by omega) (by omega) 0 0 rfl (by rw [L0.out]; omega)
  rw [hM] at hst hlen hbl
  rw [L0.out] at hlen
  rw [hHN.2.2.2.2.2.1] at hst
  have hv1 := vals_of hst hro1
  have HML := Lib.hid hlen
  have HST := Lib.hid hst
  have HBL := Lib.hid hbl
  have HV1 := Lib.hid hv1
  clear hM hst hlen hbl hv1 hro1
  go_wp2_with fail
  refine W3.out.mono ?_
  rintro e w3 ⟨rfl, hD3, ht3⟩
  have D3 := Lib.hid hD3
  have B3 := Lib.hid (below_touch B2.out ht3 HO.out B2.out.size)
  clear hD3 ht3 hHN
  go_wp2_with fail
  refine (D3.out.arm 1 (by omega) (by omega) (some ak) nk ck kp (HK.out.below B3.out) FK.out (by have := HN.out; omega)).mono ?_
  rintro e w4 ⟨rfl, hD4, ht4⟩
  have D4 := Lib.hid hD4
  have B4 := Lib.hid (below_touch B3.out ht4 HO.out B3.out.size)
  clear hD4 ht4
  obtain ⟨T, hT⟩ : ∃ T, torn (splice M 448 lb) (tbytes (400 : Nat) 448 nb) (M.length - 64) 64 kp = T := ⟨_, rfl⟩
  have HTL : T.length = 1024 := by rw [← hT, torn_length, length_splice _ _ _ (by have := HN.out; rw [HML.out]; omega)]; exact HML.out
  have hTS : T = stored M 448 lb 400 := by
    have hHN := HN.out
    rw [← hT, HML.out, show 1024 - 64 = 960 from rfl, torn_tail_yes (by rw [length_splice _ _ _ (by rw [HML.out]; omega)]; exact HML.out) (tbytes_length _ _ _) HKD.out]
    unfold stored
    rw [HML.out, hHN.2.2.2.2.2.2]
  have hst : lastOf T = tbytes 400 448 nb := by
    have hHN := HN.out
    rw [hTS, stored_last (by rw [HML.out]; omega) (by rw [HML.out]; omega), hHN.2.2.2.2.2.2]
  have HBT : Hid (blobOf T = lb) := by
    have hHN := HN.out
    show _ = _
    rw [hTS, stored_blob (by rw [HML.out]; omega) (by rw [HML.out]; omega) (by unfold TOk; omega)]
  clear hTS
  have hro : TOk (400 : Nat) (448 : Nat) (nb : Nat) := by have := HN.out; unfold TOk; omega
  have HLV := Lib.hid (vals_of hst hro)
  have HLY : Hid (∀ er, LoadL (fun _ => false) T er → er = 0) := fun er h => load_yes hst hro (by have := HN.out; omega) h
  have W5 := Lib.hid (D4.out.store_torn2 B nb cb lb (HB.out.rd.below B4.out) HB.out.fit HB.out.le HB.out.max (HAO.out B nb _ HB.out.rd) HN.out.2.2.1 (by have := HN.out; omega) 400 448 rfl (by rw [HML.out]; have := HN.out; omega))
  rw [hT] at W5
  clear hT hst hro HTL
  go_wp2_with fail
  refine W5.out.mono ?_
  rintro e w5 ⟨rfl, hD5, ht5⟩
  have D5 := Lib.hid hD5
  have B5 := Lib.hid (below_touch B4.out ht5 HO.out B4.out.size)
  clear hD5 ht5
  go_wp2_with fail
  refine D5.out.boot.mono ?_
  rintro e w6 ⟨rfl, hD6, ht6⟩
  have D6 := Lib.hid hD6
  have B6 := Lib.hid (below_touch B5.out ht6 HO.out B5.out.size)
  clear hD6 ht6 W3 W5 D2 D3 D4 D5 B2 B3 B4 B5
  go_wp2_with fail
  refine (D6.out.load (by omega) (by omega)).mono ?_
  rintro e w7 ⟨c7, t7, hD7, hc7, ht7, hT7, (⟨er, hne, hl, rfl⟩ | ⟨g7, hl, rfl, hg7, hB7⟩)⟩
  · exact absurd (HLY.out er hl) hne
  rw [HLV.out.1, HLV.out.2.1, HLV.out.2.2]
  rw [HBT.out] at hB7
  have B7 := Lib.hid (below_touch B6.out hT7 HO.out B6.out.size)
  have K7 := Lib.hid hB7
  clear hD7 hc7 ht7 hT7 hl hg7 hB7
  have H3 : Hid (Below w7.heap.size w7 (w7.alloc (.cells #[.int .i64 0, .int .i64 0, .int .i64 0] 23)) ∧ Blk (w7.alloc (.cells #[.int .i64 0, .int .i64 0, .int .i64 0] 23)) w7.heap.size 23 tz) := ⟨(Below.refl _ _).alloc (Nat.le_refl _) _, Blk.new w7 _ tz⟩
  go_wp2_with ((with_reducible refine at_dst none ?_); refine stopper ?_)
  refine ⟨?_, trivial⟩
  refine wpList_storeBlk (op := ⟨none, _, _, _, _, _⟩) rfl 23 (.tmp 11) (.tmp 69) rfl (g := w7.heap.size) (t := 23) (old := tz) (cs := tcells (400 : Nat) (448 : Nat) (nb : Nat)) rfl rfl H3.out.2 rfl iT (tcells_one _ _ _) ?_
  intro u0 hU0 hT0
  have HT0 := Lib.hid hT0
  clear hT0
  have HBU : Hid (Below W.heap.size W u0) := (B7.out.trans (H3.out.1.mono B7.out.size)).trans (HT0.out.below (fun y hy => by rw [List.mem_singleton.1 hy]; exact B7.out.size) (Nat.le_trans B7.out.size H3.out.1.size))
  have k7 := (K7.out.below H3.out.1 K7.out.lt).touch HT0.out (by have := K7.out.lt; simp; omega)
  have c0 : u0.cell? ⟨w7.heap.size, 0, none⟩ = some (.int .i64 (400 : Nat)) := hU0.cell 0
  have ck : u0.cell? ak = some (.bool true) := (World.cell?_of_block (HBU.out.block _ HKC.out.1)).trans HKC.out.2
  have q1 := rd_str (k7.rd nb HB.out.rd.1) nb
  have q2 := rd_str (HB.out.rd.below HBU.out) cb
  have e1 : ((str lb).toList == (str lb).toList) = true := beq_self_eq_true _
  generalize str lb = G1 at q1 q2 e1
  clear k7 hU0
  go_wp2
  go_ret
  exact ⟨rfl, HBU.out⟩
theorem torn_walk (A : Option Addr) (na ca : Nat) (la : List Nat) (B : Option Addr) (nb cb : Nat) (lb : List Nat) (k : Int) (Ak : Option Addr) (nk ck : Nat) (kp : List Bool) (W : World) (ga : Bs W A na ca la) (gb : Bs W B nb cb lb) (hk : I64 k) (gk : Ss W Ak nk ck 1 (bcells kp)) : TornWalk A na ca B nb cb k Ak nk ck W := by
  by_cases hb : na < 1 ∨ 300 < na ∨ nb < 1 ∨ 300 < nb ∨ k < 0 ∨ 1 < k ∨ 20 < nk
  · exact torn_big A na ca B nb cb k Ak nk ck W hb
  have h1 : 1 ≤ na ∧ na ≤ 300 := by omega
  have h2 : 1 ≤ nb ∧ nb ≤ 300 := by omega
  have h3 : nk ≤ 20 := by omega
  rcases (by omega : k = 0 ∨ k = 1) with rfl | rfl
  · exact torn_z A na ca la B nb cb lb Ak nk ck kp W ga gb gk h1 h2 h3
  · by_cases h0 : nk = 0
    · exact torn_e A na ca la B nb cb lb Ak nk ck kp W ga gb gk h1 h2 h3 h0
    · cases hd : kp.getD 0 false with
      | false => exact torn_f A na ca la B nb cb lb Ak nk ck kp W ga gb gk h1 h2 h3 hd (by omega)
      | true => exact torn_t A na ca la B nb cb lb Ak nk ck kp W ga gb gk h1 h2 h3 hd (by omega)
end Go.Proofs.Ythepbadecpnepaa
