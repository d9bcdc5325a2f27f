/-
  What Load answers: the blob of a partition, and its tail. No condition but that the drive is on.
-/
import Derived.Test.YthepbadecpnepaaH7
namespace Go.Proofs.Ythepbadecpnepaa
open Go.RowKit Go.MapKept
set_option linter.unusedVariables false
set_option linter.unusedSimpArgs false
set_option maxRecDepth 100000

theorem ret_tct {P : Program} {fn : Func} {q p u : Tmp} {ty : TypeId} {R : Ending → World → Prop} {a : Act} {w : World} {ad : Addr} {cs : List Value} {d : TypeDesc} (h : fn.results = #[.tmp q, .cell p ty, .tmp u]) (hp : a.tmps.getD p undef = .pointer (some ad)) (hc : At w ad cs)
    (hu : P.underlying ty = some d) (hd : d.isRow = true) (hi : (P.info? ty).map (·.size) = some cs.length) (hdf : a.defers = []) (hR : R (.returned (.tuple #[a.tmps.getD q undef, .agg cs.toArray, a.tmps.getD u undef])) w) : bodyPost P fn R .ret a w := by
  refine bodyPost_ret (v := .tuple #[a.tmps.getD q undef, .agg cs.toArray, a.tmps.getD u undef]) ?_ hdf hR
  have := run_loadVar_at (P := P) (w := w) ad ty cs d hc hu hd hi
  have hp2 : a.tmps[p]?.getD undef = .pointer (some ad) := by simpa [Array.getD_eq_getD_getElem?] using hp
  simp only [results, h]
  simp [Sem.run_bind, Result.andThen, hp2, asAddr, this]
theorem FindIs.ok {p : Pt} (h : FindIs p 0) : TIs (lastOf p.l) ∧ terr (lastOf p.l) = 0 ∧ tb (lastOf p.l) + tc (lastOf p.l) ≤ p.l.length - 64 ∧ ¬ Spoilt p.bad (p.l.length - 64) 64 := by
  rcases h with ⟨_, h⟩ | ⟨hs, ⟨h1, h2⟩ | ⟨h1, ⟨_, h2⟩ | ⟨h2, _⟩⟩⟩
  · cases h
  · exact absurd h2.symm h1
  · cases h2
  · exact ⟨terr_ok h1, h1, h2, hs⟩
/-- What a Load's error is. -/
def LoadIs (p : Pt) (er : Int) : Prop := er ≠ 0 ∧ FindIs p er ∨ FindIs p 0 ∧ (Spoilt p.bad (tb (lastOf p.l)) (tc (lastOf p.l)) ∧ er = 41 ∨ ¬ Spoilt p.bad (tb (lastOf p.l)) (tc (lastOf p.l)) ∧ er = 0)
/-- The blob that a partition's tail tells of. -/
def blobOf (l : List Nat) : List Nat := (l.drop (tb (lastOf l))).take (tc (lastOf l))
def GivesLoad (w : World) (D : Dv) (p : Pt) (e : Ending) (w' : World) : Prop :=
  (∃ er : Int, er ≠ 0 ∧ LoadIs p er ∧ e = .returned (.tuple #[.slice none 0 0, TV 0 0 0, .int .i64 er]) ∧ Ran w D 2 70000 w') ∨
  (∃ g, LoadIs p 0 ∧ e = .returned (.tuple #[.slice (some ⟨g, 0, none⟩) (tc (lastOf p.l)) (tc (lastOf p.l)), TV (ta (lastOf p.l) : Nat) (tb (lastOf p.l) : Nat) (tc (lastOf p.l) : Nat), .int .i64 0]) ∧ w.heap.size ≤ g ∧ Blk w' g 5 (cn .u8 (blobOf p.l)) ∧ Ran w D 2 70000 w')
set_option maxHeartbeats 4000000 in
theorem Load_part (D : Dv) (w : World) (h : Drv w D) (hd : D.down = false) (s : ByteArray) (hs : ∀ p ∈ D.pts, p.nm ≠ s) : Calls Try.prog 20 #[.pointer (some ⟨D.g, 0, none⟩), .string s] w (Fails w (.tuple #[.slice none 0 0, TV 0 0 0, .int .i64 40])) := by
  obtain ⟨d0, hu0, hd0⟩ := uT
  have hb0 : Below w.heap.size w (w.alloc (.cells #[.int .i64 0, .int .i64 0, .int .i64 0] 23)) := (Below.refl _ _).alloc (Nat.le_refl _) _
  have hk0 : Blk (w.alloc (.cells #[.int .i64 0, .int .i64 0, .int .i64 0] 23)) w.heap.size 23 tz := Blk.new w _ tz
  obtain ⟨W, hW⟩ : ∃ W, w.alloc (.cells #[.int .i64 0, .int .i64 0, .int .i64 0] 23) = W := ⟨_, rfl⟩
  rw [hW] at hb0 hk0
  have H0 : Hid (Below w.heap.size w W ∧ Blk W w.heap.size 23 tz ∧ Drv W D) := ⟨hb0, hk0, h.below hb0⟩
  clear hb0 hk0
  have HFP := Lib.hid (find_part D W H0.out.2.2 hd s hs)
  clear h hd hs
  go_enter Try.func20, Try.ntmps20
  (try rw [hW])
  go_wp2_with fail
  refine HFP.out.mono ?_
  rintro e w1 ⟨rfl, hb1⟩
  have H1 : Hid (Below w.heap.size w w1 ∧ Blk w1 w.heap.size 23 tz) := ⟨H0.out.1.trans (hb1.mono H0.out.1.size), H0.out.2.1.below hb1 H0.out.2.1.lt⟩
  have HXN : Hid (w.heap.size ∉ [w1.heap.size]) := by have := H1.out.2.lt; show _ ∉ _; simp; omega
  clear hb1
  have H3 : Hid (Below w1.heap.size w1 (w1.alloc (.cells #[.int .i64 0, .int .i64 0, .int .i64 0] 23)) ∧ Blk (w1.alloc (.cells #[.int .i64 0, .int .i64 0, .int .i64 0] 23)) w1.heap.size 23 tz) := ⟨(Below.refl _ _).alloc (Nat.le_refl _) _, Blk.new w1 _ tz⟩
  go_wp2_with (first
    | ((with_reducible refine at_dst none ?_); refine wpList_storeBlk (op := ⟨none, _, _, _, _, _⟩) rfl 23 (.tmp 7) (.tmp 14) rfl (g := w1.heap.size) (t := 23) (old := tz) (cs := tz) rfl rfl H3.out.2 rfl iT (tz_one) ?_; intro u0 hU0 hT0; have HT0 := Lib.hid hT0; clear hT0)
    | ((with_reducible refine at_dst none ?_); refine wpList_storeBlk (op := ⟨none, _, _, _, _, _⟩) rfl 23 (.tmp 5) (.tmp 18) rfl (g := w.heap.size) (t := 23) (old := tz) (cs := tz) rfl rfl ((H1.out.2.below H3.out.1 H1.out.2.lt).touch HT0.out HXN.out) rfl iT (tz_one) ?_; intro u1 hU1 hT1; have HT1 := Lib.hid hT1; clear hT1))
  refine ret_tct rfl rfl hU1.out.at hu0 hd0 iT rfl ⟨rfl, ?_⟩
  exact ((H1.out.1.trans (H3.out.1.mono H1.out.1.size)).trans (HT0.out.below (fun y hy => by rw [List.mem_singleton.1 hy]; exact H1.out.1.size) (Nat.le_trans H1.out.1.size H3.out.1.size))).trans (HT1.out.below (fun y hy => by rw [List.mem_singleton.1 hy]; exact Nat.le_refl _) (Nat.le_trans H1.out.1.size (Nat.le_trans H3.out.1.size HT0.out.size)))
set_option maxHeartbeats 8000000 in
theorem Load_any (D : Dv) (w : World) (h : Drv w D) (hd : D.down = false) (p : Pt) (hp : p ∈ D.pts) (s : ByteArray) (hs : p.nm = s) (hc : D.count + 2 ≤ 1152921504606846976) (ht : D.told + 70000 ≤ 1152921504606846976) :
    Calls Try.prog 20 #[.pointer (some ⟨D.g, 0, none⟩), .string s] w (GivesLoad w D p) := by
  obtain ⟨d0, hu0, hd0⟩ := uT
  have hb0 : Below w.heap.size w (w.alloc (.cells #[.int .i64 0, .int .i64 0, .int .i64 0] 23)) := (Below.refl _ _).alloc (Nat.le_refl _) _
  have hk0 : Blk (w.alloc (.cells #[.int .i64 0, .int .i64 0, .int .i64 0] 23)) w.heap.size 23 tz := Blk.new w _ tz
  obtain ⟨W, hW⟩ : ∃ W, w.alloc (.cells #[.int .i64 0, .int .i64 0, .int .i64 0] 23) = W := ⟨_, rfl⟩
  rw [hW] at hb0 hk0
  have H0 : Hid (Below w.heap.size w W ∧ Blk W w.heap.size 23 tz ∧ Drv W D) := ⟨hb0, hk0, h.below hb0⟩
  clear hb0 hk0
  have hsz := h.size p hp
  have HGL : Hid (D.g < w.heap.size) := h.lt _ (own_g D)
  have HFAR : Hid (D.far w.heap.size) := h.far_new (Nat.le_refl _)
  have HND : Hid (w.heap.size ∉ [D.g]) := by have := HGL.out; show _ ∉ _; simp; omega
  have HFI := Lib.hid (find_any D W H0.out.2.2 hd p hp s hs (by omega) (by omega))
  have HDH : Hid (D.down = false ∧ p ∈ D.pts ∧ p.nm = s ∧ p.l.length ≤ 1048576) := ⟨hd, hp, hs, hsz.2.1⟩
  have HCT : Hid (D.count + 2 ≤ 1152921504606846976 ∧ D.told + 70000 ≤ 1152921504606846976) := ⟨hc, ht⟩
  clear h hd hs hp hsz hc ht
  go_enter Try.func20, Try.ntmps20
  (try rw [hW])
  go_wp2_with fail
  refine HFI.out.mono ?_
  rintro e w1 ⟨a, b, c, er, rfl, hfi, hab, ct, td, hD1, hc1, hc2, ht1, ht2, hT1⟩
  have H1 : Hid (Touch [D.g] w w1 ∧ Blk w1 w.heap.size 23 tz ∧ Drv w1 { D with count := ct, told := td }) := ⟨(Touch.of_below _ H0.out.1 : Touch [D.g] w W).trans hT1, H0.out.2.1.touch hT1 HND.out, hD1⟩
  have HXN : Hid (w.heap.size ∉ [w1.heap.size]) := by have := H1.out.2.1.lt; show _ ∉ _; simp; omega
  have HC1 : Hid (D.count ≤ ct ∧ ct ≤ D.count + 1 ∧ D.told ≤ td ∧ td ≤ D.told + 64) := ⟨hc1, hc2, ht1, ht2⟩
  have HF1 := Lib.hid hfi
  have HAB := Lib.hid hab
  have H3 : Hid (Below w1.heap.size w1 (w1.alloc (.cells #[.int .i64 0, .int .i64 0, .int .i64 0] 23)) ∧ Blk (w1.alloc (.cells #[.int .i64 0, .int .i64 0, .int .i64 0] 23)) w1.heap.size 23 tz) := ⟨(Below.refl _ _).alloc (Nat.le_refl _) _, Blk.new w1 _ tz⟩
  clear hfi hab hD1 hc1 hc2 ht1 ht2 hT1
  by_cases h0 : er = 0
  · subst h0
    obtain ⟨hti, hte, htl, hsp⟩ := HF1.out.ok
    obtain ⟨rfl, rfl, rfl⟩ := HAB.out rfl
    obtain ⟨a, ha⟩ : ∃ a, ta (lastOf p.l) = a := ⟨_, rfl⟩
    obtain ⟨b, hb⟩ : ∃ b, tb (lastOf p.l) = b := ⟨_, rfl⟩
    obtain ⟨c, hc⟩ : ∃ c, tc (lastOf p.l) = c := ⟨_, rfl⟩
    have hti := hti.1
    unfold TOk at hti
    have HBL : Hid ((p.l.drop b).take c = blobOf p.l) := by show _ = _; unfold blobOf; rw [hb, hc]
    have HABC : Hid (ta (lastOf p.l) = a ∧ tb (lastOf p.l) = b ∧ tc (lastOf p.l) = c) := ⟨ha, hb, hc⟩
    have HLI : Hid (∀ er, (Spoilt p.bad b c ∧ er = 41 ∨ ¬ Spoilt p.bad b c ∧ er = 0) → LoadIs p er) := fun er h => .inr ⟨HF1.out, by rw [hb, hc]; exact h⟩
    rw [ha, hb, hc] at hti ⊢
    have hbc : b + c ≤ p.l.length - 64 := by rw [← hb, ← hc]; exact htl
    have hlen := HDH.out.2.2.2
    have hsp2 := Classical.em (Spoilt p.bad b c)
    have hbc2 : b + c ≤ p.l.length := by omega
    have HRB : Hid (∀ w', Drv w' { D with count := ct, told := td } → Spoilt p.bad b c → Calls Try.prog 18 #[.pointer (some ⟨D.g, 0, none⟩), .string s, .int .i64 (b : Int), .int .i64 (c : Int)] w' (Fails w' (.tuple #[.slice none 0 0, .int .i64 41]))) := fun w' hD hb => Read_bad { D with count := ct, told := td } w' hD HDH.out.1 p HDH.out.2.1 s HDH.out.2.2.1 b c hbc2 hb
    have hkc : ct + 1 ≤ 1152921504606846976 ∧ td + c ≤ 1152921504606846976 := by have h1 := HC1.out; have h2 := HCT.out; omega
    have HRO : Hid (∀ w', Drv w' { D with count := ct, told := td } → ¬ Spoilt p.bad b c → Calls Try.prog 18 #[.pointer (some ⟨D.g, 0, none⟩), .string s, .int .i64 (b : Int), .int .i64 (c : Int)] w' (GivesRead w' { D with count := ct, told := td } c ((p.l.drop b).take c))) := fun w' hD hb => Read_ok { D with count := ct, told := td } w' hD HDH.out.1 p HDH.out.2.1 s HDH.out.2.2.1 b c hbc2 hb hkc.1 hkc.2
    have HCL : Hid (c ≤ 65536) := by show c ≤ _; omega
    clear ha hb hc hti hte htl hsp hbc hbc2 hlen hkc
    go_wp2_with ((with_reducible refine at_dst none ?_); refine wpList_storeBlk (op := ⟨none, _, _, _, _, _⟩) rfl 23 (.tmp 7) (.tmp 14) rfl (g := w1.heap.size) (t := 23) (old := tz) (cs := tcells a b c) rfl rfl H3.out.2 rfl iT (tcells_one _ _ _) ?_; intro u0 hU0 hT0; have HT0 := Lib.hid hT0; clear hT0; have C1 : u0.cell? ⟨w1.heap.size, 1, none⟩ = some (.int .i64 (b : Int)) := hU0.out.cell 1; have C2 : u0.cell? ⟨w1.heap.size, 2, none⟩ = some (.int .i64 (c : Int)) := hU0.out.cell 2)
    have HX : Hid (Blk u0 w1.heap.size 23 (tcells a b c)) := hU0
    have HRES : Hid (Blk u0 w.heap.size 23 tz) := (H1.out.2.1.below H3.out.1 H1.out.2.1.lt).touch HT0.out HXN.out
    have HTU0 : Hid (Touch [D.g] w u0) := (H1.out.1.then_below H3.out.1).then HT0.out (fun x hx => .inr (by rw [List.mem_singleton.1 hx]; exact H1.out.1.size))
    have HDU0 : Hid (Drv u0 { D with count := ct, told := td }) := (H1.out.2.2.below H3.out.1).touchFar HT0.out (fun x hx => by rw [List.mem_singleton.1 hx]; exact H1.out.2.2.far_new (Nat.le_refl _))
    have HXW : Hid (w.heap.size < w1.heap.size) := H1.out.2.1.lt
    generalize w1.heap.size = X at *
    clear HT0 hU0 H3
    rcases hsp2 with hsp2 | hsp2
    · refine (HRB.out _ HDU0.out hsp2).mono ?_
      rintro e w2 ⟨rfl, hb2⟩
      have H2 : Hid (Below u0.heap.size u0 w2) := hb2
      have HLO : Hid (LoadIs p 41) := HLI.out 41 (.inl ⟨hsp2, rfl⟩)
      clear hb2 hsp2
      go_wp2_with ((with_reducible refine at_dst none ?_); refine wpList_storeBlk (op := ⟨none, _, _, _, _, _⟩) rfl 23 (.tmp 5) (.tmp 32) rfl (g := w.heap.size) (t := 23) (old := tz) (cs := tz) rfl rfl (HRES.out.below H2.out HRES.out.lt) rfl iT (tz_one) ?_; intro u1 hU1 hT1; have HT1 := Lib.hid hT1; clear hT1)
      refine ret_tct rfl rfl hU1.out.at hu0 hd0 iT rfl (.inl ⟨41, by omega, HLO.out, rfl, ct, td, ?_, ?_⟩)
      · exact (HDU0.out.below H2.out).touchFar HT1.out (fun x hx => by rw [List.mem_singleton.1 hx]; exact HFAR.out)
      · have h1 := HC1.out
        exact ⟨h1.1, by omega, h1.2.2.1, by omega, (HTU0.out.then_below H2.out).then HT1.out (fun x hx => .inr (by rw [List.mem_singleton.1 hx]; exact Nat.le_refl _))⟩
    · refine (HRO.out _ HDU0.out hsp2).mono ?_
      rintro e w2 ⟨g, rfl, hg, hB, hD2, hT2⟩
      have HLO : Hid (LoadIs p 0) := HLI.out 0 (.inr ⟨hsp2, rfl⟩)
      have HBB := Lib.hid hB
      have HTU : Hid (Touch [D.g] w w2) := HTU0.out.trans hT2
      have HDU := Lib.hid hD2
      have HGW : Hid (w.heap.size ≤ g) := Nat.le_trans HTU0.out.size hg
      have HGW2 : Hid (w.heap.size < g) := Nat.lt_of_lt_of_le HRES.out.lt hg
      have HX2 : Hid (Blk w2 X 23 (tcells a b c)) := HX.out.touch hT2 (by have h1 := HXW.out; have h2 := HGL.out; simp; omega)
      have HRS2 : Hid (Blk w2 w.heap.size 23 tz) := HRES.out.touch hT2 HND.out
      have HRM : Hid (RmT w.heap.size w2 w2.drew) := ⟨Touch.of_below _ (below_drew1 (Below.refl _ _)), _, HRS2.out, rfl⟩
      have HRAN : Hid (∀ w', Drv w' { D with count := ct + 1, told := td + c } → Touch [D.g] w w' → Ran w D 2 70000 w') := fun w' h1 h2 => by
        have h3 := HC1.out
        have h4 := HCL.out
        exact ⟨ct + 1, td + c, h1, by omega, by omega, by omega, by omega, h2⟩
      clear hB hD2 hT2 hg hsp2 HX HRES
      have HX := Lib.hid HX2.out
      go_wp2
      rename_i hKx
      refine wp_region_eachW (by kernel_rfl) (by kernel_rfl) (SmT w.heap.size (tcells a b c)) (fun iX v u => match iX with
          | 0 => v = .slice (some ⟨g, 0, none⟩) c c
          | 1 => v = TV (a : Int) (b : Int) (c : Int)
          | 2 => v = .slice (some ⟨g, 0, none⟩) c c
          | 3 => Blk u w.heap.size 23 (tcells a b c)
          | 4 => v = .int .i64 0
          | _ => True) (RmT w.heap.size w2) ?m1 (fun _ _ h1 h2 => RmT.step h1 h2) HRM.out ?m2 ?m3
      case m1 =>
        intro iX v u u' h hr hb
        rcases iX with _ | _ | _ | _ | _ | iX
        · exact h
        · exact h
        · exact h
        · exact hb.2.1 h
        · exact h
        · trivial
      case m2 =>
        intro iX o ho aX u hr hk hpre K hK
        have e9 : aX.tmps.getD 9 undef = .slice (some ⟨g, 0, none⟩) c c := hk.slot 9 (by simp)
        have e7 : aX.tmps.getD 7 undef = .pointer (some ⟨X, 0, none⟩) := hk.slot 7 (by simp)
        have e5 : aX.tmps.getD 5 undef = .pointer (some ⟨w.heap.size, 0, none⟩) := hk.slot 5 (by simp)
        have hk4 : Blk u X 23 (tcells a b c) := HX.out.touch hr.1 (by have := HXW.out; simp; omega)
        have c0 : u.cell? ⟨X, 0, none⟩ = some (.int .i64 (a : Int)) := hk4.cell 0
        have c1 : u.cell? ⟨X, 1, none⟩ = some (.int .i64 (b : Int)) := hk4.cell 1
        have c2 : u.cell? ⟨X, 2, none⟩ = some (.int .i64 (c : Int)) := hk4.cell 2
        have rf : SmT w.heap.size (tcells a b c) u u := SmT.refl _ _ _
        rcases iX with _ | _ | _ | _ | _ | iX
        · obtain rfl := Option.some.inj ho
          exact st_move (.tmp 9) rfl (want_none rfl) _ e9 (hK _ _ rfl rf)
        · obtain rfl := Option.some.inj ho
          have y7 : aX.eval (.tmp 7) = .pointer (some ⟨X, 0, none⟩) := e7
          refine st_run (want_none rfl) (TV (a : Int) (b : Int) (c : Int)) (w' := u) ?_ (hK _ _ rfl rf)
          simp only [execOp, y7]
          go_simp
        · obtain rfl := Option.some.inj ho
          exact st_assign (.tmp 34) rfl (want_none rfl) _ (hpre 0 _ rfl ⟨⟨0, .data⟩, by simp, rfl, rfl⟩) (hK _ _ rfl rf)
        · obtain rfl := Option.some.inj ho
          obtain ⟨old, hold, hol⟩ := hr.2
          have y35 : aX.eval (.tmp 35) = .agg (tcells a b c).toArray := (hpre 1 _ rfl ⟨⟨1, .data⟩, by simp, rfl, rfl⟩)
          exact st_storeBlk (want_none rfl) 23 (.tmp 5) (.tmp 35) rfl e5 y35 hold hol iT (tcells_one _ _ _) (fun w' h1 h2 => hK undef _ h1 ⟨h2, fun _ => h1, fun _ _ _ => ⟨_, h1, rfl⟩⟩)
        · obtain rfl := Option.some.inj ho
          refine st_run (want_none rfl) (.int .i64 0) (w' := u) ?_ (hK _ _ rfl rf)
          simp only [execOp]
          go_simp
        · cases ho
      case m3 =>
        intro aX u hr hk hv
        have hv9 : Blk u w.heap.size 23 (tcells a b c) := hv 3 _ rfl
        have q4 : aX.tmps.getD 4 undef = .slice (some ⟨g, 0, none⟩) c c := hv 2 _ rfl
        have q6 : aX.tmps.getD 6 undef = .int .i64 0 := hv 4 _ rfl
        have hfr := keeps_frameP (fun s => decide (s = 4 ∨ s = 6 ∨ (34 ≤ s ∧ s ≤ 35))) hk (by simp)
        refine hKx aX u ?_
        rw [hfr]
        generalize hff : (fun s => aX.tmps.getD s undef) = ff
        have hf4 : ff 4 = .slice (some ⟨g, 0, none⟩) c c := by rw [← hff]; exact q4
        have hf6 : ff 6 = .int .i64 0 := by rw [← hff]; exact q6
        simp only [mixP, hf4, hf6, decide_eq_true_eq, Nat.reduceAdd, Nat.reduceLeDiff, Nat.reduceEqDiff, false_or, true_or, or_false, or_true, and_true, and_false, true_and, false_and, and_self, if_true, if_false, Nat.zero_le]
        clear hfr hff hf4 q4 hf6 q6 hv hk
        have HRR := Lib.hid hr
        clear hr hKx
        go_wp2
        refine ret_tct rfl rfl hv9.at hu0 hd0 iT rfl (.inr ⟨g, HLO.out, ?_, HGW.out, ?_, ?_⟩)
        · rw [HABC.out.1, HABC.out.2.1, HABC.out.2.2]; rfl
        · rw [← HBL.out]; exact HBB.out.touch HRR.out.1 (by have := HGW2.out; simp; omega)
        · exact HRAN.out _ (HDU.out.touchFar HRR.out.1 (fun x hx => by rw [List.mem_singleton.1 hx]; exact HFAR.out)) (HTU.out.then HRR.out.1 (fun x hx => .inr (by rw [List.mem_singleton.1 hx]; exact Nat.le_refl _)))

  · have hne : (er != 0) = true := by simpa using h0
    have HLO : Hid (er ≠ 0 ∧ LoadIs p er) := ⟨h0, .inl ⟨h0, HF1.out⟩⟩
    clear h0
    go_wp2_with (first
      | ((with_reducible refine at_dst none ?_); refine wpList_storeBlk (op := ⟨none, _, _, _, _, _⟩) rfl 23 (.tmp 7) (.tmp 14) rfl (g := w1.heap.size) (t := 23) (old := tz) (cs := tcells a b c) rfl rfl H3.out.2 rfl iT (tcells_one _ _ _) ?_; intro u0 hU0 hT0; have HT0 := Lib.hid hT0; clear hT0)
      | ((with_reducible refine at_dst none ?_); refine wpList_storeBlk (op := ⟨none, _, _, _, _, _⟩) rfl 23 (.tmp 5) (.tmp 18) rfl (g := w.heap.size) (t := 23) (old := tz) (cs := tz) rfl rfl ((H1.out.2.1.below H3.out.1 H1.out.2.1.lt).touch HT0.out HXN.out) rfl iT (tz_one) ?_; intro u1 hU1 hT1; have HT1 := Lib.hid hT1; clear hT1))
    have h1 := HC1.out
    refine ret_tct rfl rfl hU1.out.at hu0 hd0 iT rfl (.inl ⟨er, HLO.out.1, HLO.out.2, rfl, ct, td, ?_, h1.1, by omega, h1.2.2.1, by omega, ?_⟩)
    · exact ((H1.out.2.2.below H3.out.1).touchFar HT0.out (fun x hx => by rw [List.mem_singleton.1 hx]; exact H1.out.2.2.far_new (Nat.le_refl _))).touchFar HT1.out (fun x hx => by rw [List.mem_singleton.1 hx]; exact HFAR.out)
    · exact ((H1.out.1.then_below H3.out.1).then HT0.out (fun x hx => .inr (by rw [List.mem_singleton.1 hx]; exact H1.out.1.size))).then HT1.out (fun x hx => .inr (by rw [List.mem_singleton.1 hx]; exact Nat.le_refl _))
end Go.Proofs.Ythepbadecpnepaa
