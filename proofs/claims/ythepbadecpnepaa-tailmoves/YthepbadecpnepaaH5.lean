/-
  What Parse answers. No condition but that the bytes fit.
-/
import Derived.Test.YthepbadecpnepaaH4
namespace Go.Proofs.Ythepbadecpnepaa
open Go.RowKit
set_option linter.unusedVariables false
set_option linter.unusedSimpArgs false
set_option maxRecDepth 100000

theorem HasPrefix_any (A : Option Addr) (n cap : Nat) (l : List Nat) (B : Option Addr) (m c2 : Nat) (p : List Nat) (w : World) (h : Bs w A n cap l) (hp : Rd .u8 w B m p) (hpf : Fit 256 p) (hm : m ≤ n) : Calls Try.prog 29 #[.slice A n cap, .slice B m c2] w fun e w' => e = .returned (.bool (decide (l.take m = p))) ∧ w = w' := by
  have hle := h.le
  have hmx := h.max
  have hsl := run_upto A n cap
  have z1 : (m : Int) ≤ (n : Int) := by omega
  have HE := Lib.hid (fun c => Equal_any A m c (l.take m) B m c2 p w (h.rd.take m hm) (h.fit.take m) hp hpf)
  obtain ⟨D, hD⟩ : ∃ D, decide (l.take m = p) = D := ⟨_, rfl⟩
  rw [hD] at HE ⊢
  clear hD h hp
  go_enter Try.func29, Try.ntmps29
  go_wp2_with fail
  refine (HE.out _).mono ?_
  rintro e w1 ⟨rfl, rfl⟩
  go_wp2
  go_ret
  exact ⟨rfl, rfl⟩
theorem tz_one : ∀ v ∈ tz, v.oneCell' = true := tcells_one 0 0 0
/-- An answer of Parse. -/
def GivesP (w : World) (l : List Nat) (e : Ending) (w' : World) : Prop := ∃ a b c : Int, e = .returned (.tuple #[TV a b c, .int .i64 (terr l)]) ∧ (terr l = 0 → a = ta l ∧ b = tb l ∧ c = tc l) ∧ (terr l ≠ 0 → a = 0 ∧ b = 0 ∧ c = 0) ∧ Below w.heap.size w w'
theorem GivesP.err {w w' : World} {l : List Nat} {e : Ending} (er : Int) (h0 : er ≠ 0) (ht : terr l = er) (he : e = .returned (.tuple #[TV 0 0 0, .int .i64 er])) (hb : Below w.heap.size w w') : GivesP w l e w' :=
  ⟨0, 0, 0, by rw [ht]; exact he, fun h => absurd (ht.symm.trans h) h0, fun _ => ⟨rfl, rfl, rfl⟩, hb⟩
set_option maxHeartbeats 8000000 in
theorem Parse_any (A : Option Addr) (n cap : Nat) (l : List Nat) (w : World) (hs : Bs w A n cap l) (hn : n ≤ 1000000) : Calls Try.prog 13 #[.slice A n cap] w (GivesP w l) := by
  have HS := Lib.hid hs
  have hle := hs.le
  have hmx := hs.max
  have hlen := hs.rd.1
  obtain ⟨d0, hu0, hd0⟩ := uT
  have hb0 : Below w.heap.size w (w.alloc (.cells #[.int .i64 0, .int .i64 0, .int .i64 0] 23)) := (Below.refl _ _).alloc (Nat.le_refl _) _
  have hk0 : Blk (w.alloc (.cells #[.int .i64 0, .int .i64 0, .int .i64 0] 23)) w.heap.size 23 tz := Blk.new w _ tz
  obtain ⟨W, hW⟩ : ∃ W, w.alloc (.cells #[.int .i64 0, .int .i64 0, .int .i64 0] 23) = W := ⟨_, rfl⟩
  rw [hW] at hb0 hk0
  have H0 : Hid (Below w.heap.size w W ∧ Blk W w.heap.size 23 tz) := ⟨hb0, hk0⟩
  clear hb0 hk0 hs
  by_cases h64 : n = 64
  · subst h64
    have kc := fun (w : World) (C : Array Value) (n c : Nat) => Lib.run_convert_bytes_const (P := Try.prog) w 25 5 C n c Try.underlying25 Try.underlying5
    have hb1 : Below W.heap.size W (W.alloc (.cells #[.int .u8 65, .int .u8 86, .int .u8 66, .int .u8 102] 5 (4, 5))) := (Below.refl _ _).alloc (Nat.le_refl _) _
    have hr1 : Rd .u8 (W.alloc (.cells #[.int .u8 65, .int .u8 86, .int .u8 66, .int .u8 102] 5 (4, 5))) (some ⟨W.heap.size, 0, none⟩) 4 mag := rd_alloc13 W mag (4, 5) _ rfl 4 rfl
    obtain ⟨W1, hW1⟩ : ∃ W1, W.alloc (.cells #[.int .u8 65, .int .u8 86, .int .u8 66, .int .u8 102] 5 (4, 5)) = W1 := ⟨_, rfl⟩
    rw [hW1] at hb1 hr1
    have H1 : Hid (Below w.heap.size w W1 ∧ Blk W1 w.heap.size 23 tz) := ⟨H0.out.1.trans (hb1.mono H0.out.1.size), H0.out.2.below hb1 H0.out.2.lt⟩
    have HBS : Hid (Bs W1 A 64 cap l) := HS.out.below H1.out.1
    have HHP := Lib.hid (fun c2 => HasPrefix_any A 64 cap l (some ⟨W.heap.size, 0, none⟩) 4 c2 mag W1 HBS.out hr1 (by unfold Fit mag; decide) (by omega))
    have hnv : num (sl l 4 4) ≤ 9223372036854775807 := by
      have := num_lt _ (sl_fit HS.out.fit 4 4)
      rw [sl_length (by omega)] at this
      omega
    clear hb1 hr1
    by_cases hm : l.take 4 = mag
    · rw [decide_eq_true hm] at HHP
      have HG := Lib.hid (Get_ok A 64 cap l 4 4 _ 4 rfl rfl (by omega) (by omega) W1 HBS.out.rd HS.out.fit (by omega) hle hmx (by omega) hnv)
      by_cases hv : num (sl l 4 4) = 1
      · rw [hv] at HG
        have HTR := Lib.hid (tread_any A 64 cap l W1 HBS.out rfl)
        by_cases ht : TIs l
        · have HTE : Hid (terr l = 0) := by show _ = _; unfold terr; rw [if_neg (fun h => h hlen), if_neg (fun h => h hm), if_neg (fun h => h hv), if_pos ht]
          unfold GivesTail at HTR
          rw [decide_eq_true ht] at HTR
          have HT := Lib.hid ht
          clear hm hv hnv hlen ht
          go_enter Try.func13, Try.ntmps13
          (try rw [hW])
          go_wp2_with fail
          clear kc
          (try rw [hW1])
          refine (HHP.out _).mono ?_
          rintro e w1 ⟨rfl, rfl⟩
          go_wp2_with fail
          refine HG.out.mono ?_
          rintro e w1 ⟨rfl, rfl⟩
          go_wp2_with fail
          refine HTR.out.mono ?_
          rintro e w1 ⟨a, b, c, rfl, hab, hb1⟩
          have hab := hab HT.out
          obtain ⟨rfl, rfl, rfl⟩ := hab
          have H2 : Hid (Below w.heap.size w w1 ∧ Blk w1 w.heap.size 23 tz) := ⟨H1.out.1.trans (hb1.mono H1.out.1.size), H1.out.2.below hb1 H1.out.2.lt⟩
          clear hb1
          have H3 : Hid (Below w1.heap.size w1 (w1.alloc (.cells #[.int .i64 0, .int .i64 0, .int .i64 0] 23)) ∧ Blk (w1.alloc (.cells #[.int .i64 0, .int .i64 0, .int .i64 0] 23)) w1.heap.size 23 tz) := ⟨(Below.refl _ _).alloc (Nat.le_refl _) _, Blk.new w1 _ tz⟩
          have HNE : Hid (w.heap.size ∉ [w1.heap.size]) := by have := H2.out.2.lt; show _ ∉ _; simp; omega
          go_wp2_with (first
            | ((with_reducible refine at_dst none ?_); refine wpList_storeBlk (op := ⟨none, _, _, _, _, _⟩) rfl 23 (.tmp 6) (.tmp 29) rfl (g := w1.heap.size) (t := 23) (old := tz) (cs := tcells (ta l : Nat) (tb l : Nat) (tc l : Nat)) rfl rfl H3.out.2 rfl iT (tcells_one _ _ _) ?_; intro u0 hU0 hT0; have HT0 := Lib.hid hT0; clear hT0)
            | ((with_reducible refine at_dst (some 34) ?_); refine wpList_loadAt (op := ⟨some 34, _, _, _, _, _⟩) rfl 23 (.tmp 6) rfl ⟨w1.heap.size, 0, none⟩ rfl (tcells (ta l : Nat) (tb l : Nat) (tc l : Nat)) d0 hU0.out.at hu0 hd0 iT ?_)
            | ((with_reducible refine at_dst none ?_); refine wpList_storeBlk (op := ⟨none, _, _, _, _, _⟩) rfl 23 (.tmp 2) (.tmp 34) rfl (g := w.heap.size) (t := 23) (old := tz) (cs := tcells (ta l : Nat) (tb l : Nat) (tc l : Nat)) rfl rfl ((H2.out.2.below H3.out.1 H2.out.2.lt).touch HT0.out HNE.out) rfl iT (tcells_one _ _ _) ?_; intro u1 hU1 hT1; have HT1 := Lib.hid hT1; clear hT1))
          have HL : Hid (Below w.heap.size w u1) := (H2.out.1.trans ((H3.out.1.mono H2.out.1.size).trans (HT0.out.below (fun y hy => by rw [List.mem_singleton.1 hy]; exact H2.out.1.size) (Nat.le_trans H2.out.1.size H3.out.1.size)))).trans (HT1.out.below (fun y hy => by rw [List.mem_singleton.1 hy]; omega) (Nat.le_trans H2.out.1.size (Nat.le_trans H3.out.1.size HT0.out.size)))
          exact ret_cell_tmp rfl rfl hU1.out.at hu0 hd0 iT rfl ⟨ta l, tb l, tc l, by rw [HTE.out]; rfl, fun _ => ⟨rfl, rfl, rfl⟩, fun h => absurd HTE.out h, HL.out⟩
        · have HTE : Hid (terr l = 12) := by show _ = _; unfold terr; rw [if_neg (fun h => h hlen), if_neg (fun h => h hm), if_neg (fun h => h hv), if_neg ht]
          unfold GivesTail at HTR
          rw [decide_eq_false ht] at HTR
          clear hm hv hnv hlen ht
          go_enter Try.func13, Try.ntmps13
          (try rw [hW])
          go_wp2_with fail
          clear kc
          (try rw [hW1])
          refine (HHP.out _).mono ?_
          rintro e w1 ⟨rfl, rfl⟩
          go_wp2_with fail
          refine HG.out.mono ?_
          rintro e w1 ⟨rfl, rfl⟩
          go_wp2_with fail
          refine HTR.out.mono ?_
          rintro e w1 ⟨a, b, c, rfl, hab, hb1⟩
          have H2 : Hid (Below w.heap.size w w1 ∧ Blk w1 w.heap.size 23 tz) := ⟨H1.out.1.trans (hb1.mono H1.out.1.size), H1.out.2.below hb1 H1.out.2.lt⟩
          clear hb1 hab
          have H3 : Hid (Below w1.heap.size w1 (w1.alloc (.cells #[.int .i64 0, .int .i64 0, .int .i64 0] 23)) ∧ Blk (w1.alloc (.cells #[.int .i64 0, .int .i64 0, .int .i64 0] 23)) w1.heap.size 23 tz) := ⟨(Below.refl _ _).alloc (Nat.le_refl _) _, Blk.new w1 _ tz⟩
          have HNE : Hid (w.heap.size ∉ [w1.heap.size]) := by have := H2.out.2.lt; show _ ∉ _; simp; omega
          go_wp2_with (first
            | ((with_reducible refine at_dst none ?_); refine wpList_storeBlk (op := ⟨none, _, _, _, _, _⟩) rfl 23 (.tmp 6) (.tmp 29) rfl (g := w1.heap.size) (t := 23) (old := tz) (cs := tcells a b c) rfl rfl H3.out.2 rfl iT (tcells_one _ _ _) ?_; intro u0 hU0 hT0; have HT0 := Lib.hid hT0; clear hT0)
            | ((with_reducible refine at_dst none ?_); refine wpList_storeBlk (op := ⟨none, _, _, _, _, _⟩) rfl 23 (.tmp 2) (.tmp 33) rfl (g := w.heap.size) (t := 23) (old := tz) (cs := tz) rfl rfl ((H2.out.2.below H3.out.1 H2.out.2.lt).touch HT0.out HNE.out) rfl iT (tz_one) ?_; intro u1 hU1 hT1; have HT1 := Lib.hid hT1; clear hT1))
          have HL : Hid (Below w.heap.size w u1) := (H2.out.1.trans ((H3.out.1.mono H2.out.1.size).trans (HT0.out.below (fun y hy => by rw [List.mem_singleton.1 hy]; exact H2.out.1.size) (Nat.le_trans H2.out.1.size H3.out.1.size)))).trans (HT1.out.below (fun y hy => by rw [List.mem_singleton.1 hy]; omega) (Nat.le_trans H2.out.1.size (Nat.le_trans H3.out.1.size HT0.out.size)))
          exact ret_cell_tmp rfl rfl hU1.out.at hu0 hd0 iT rfl (GivesP.err 12 (by omega) HTE.out rfl HL.out)
      · have HTE : Hid (terr l = 31) := by show _ = _; unfold terr; rw [if_neg (fun h => h hlen), if_neg (fun h => h hm), if_pos hv]
        have hne : (((num (sl l 4 4) : Nat) : Int) != 1) = true := by simp; omega
        obtain ⟨v, hv2⟩ : ∃ v, num (sl l 4 4) = v := ⟨_, rfl⟩
        rw [hv2] at HG hne
        clear hm hv hnv hlen hv2
        go_enter Try.func13, Try.ntmps13
        (try rw [hW])
        go_wp2_with fail
        clear kc
        (try rw [hW1])
        refine (HHP.out _).mono ?_
        rintro e w1 ⟨rfl, rfl⟩
        go_wp2_with fail
        refine HG.out.mono ?_
        rintro e w1 ⟨rfl, rfl⟩
        go_wp2_with ((with_reducible refine at_dst none ?_); refine wpList_storeBlk (op := ⟨none, _, _, _, _, _⟩) rfl 23 (.tmp 2) (.tmp 25) rfl (g := w.heap.size) (t := 23) (old := tz) (cs := tz) rfl rfl H1.out.2 rfl iT (tz_one) ?_; intro u0 hU0 hT0; have HT0 := Lib.hid hT0; clear hT0)
        exact ret_cell_tmp rfl rfl hU0.out.at hu0 hd0 iT rfl (GivesP.err 31 (by omega) HTE.out rfl (H1.out.1.trans (HT0.out.below (fun y hy => by rw [List.mem_singleton.1 hy]; omega) H1.out.1.size)))
    · rw [decide_eq_false hm] at HHP
      have HTE : Hid (terr l = 30) := by show _ = _; unfold terr; rw [if_neg (fun h => h hlen), if_pos hm]
      clear hm hnv hlen
      go_enter Try.func13, Try.ntmps13
      (try rw [hW])
      go_wp2_with fail
      clear kc
      (try rw [hW1])
      refine (HHP.out _).mono ?_
      rintro e w1 ⟨rfl, rfl⟩
      go_wp2_with ((with_reducible refine at_dst none ?_); refine wpList_storeBlk (op := ⟨none, _, _, _, _, _⟩) rfl 23 (.tmp 2) (.tmp 17) rfl (g := w.heap.size) (t := 23) (old := tz) (cs := tz) rfl rfl H1.out.2 rfl iT (tz_one) ?_; intro u0 hU0 hT0; have HT0 := Lib.hid hT0; clear hT0)
      exact ret_cell_tmp rfl rfl hU0.out.at hu0 hd0 iT rfl (GivesP.err 30 (by omega) HTE.out rfl (H1.out.1.trans (HT0.out.below (fun y hy => by rw [List.mem_singleton.1 hy]; omega) H1.out.1.size)))
  · have HTE : Hid (terr l = 10) := by show _ = _; unfold terr; rw [if_pos (by omega)]
    have hne : ((n : Int) != 64) = true := by simp; omega
    clear hlen
    go_enter Try.func13, Try.ntmps13
    (try rw [hW])
    go_wp2_with ((with_reducible refine at_dst none ?_); refine wpList_storeBlk (op := ⟨none, _, _, _, _, _⟩) rfl 23 (.tmp 2) (.tmp 11) rfl (g := w.heap.size) (t := 23) (old := tz) (cs := tz) rfl rfl H0.out.2 rfl iT tz_one ?_; intro u0 hU0 hT0; have HT0 := Lib.hid hT0; clear hT0)
    exact ret_cell_tmp rfl rfl hU0.out.at hu0 hd0 iT rfl (GivesP.err 10 (by omega) HTE.out rfl (H0.out.1.trans (HT0.out.below (fun y hy => by rw [List.mem_singleton.1 hy]; omega) H0.out.1.size)))
end Go.Proofs.Ythepbadecpnepaa
