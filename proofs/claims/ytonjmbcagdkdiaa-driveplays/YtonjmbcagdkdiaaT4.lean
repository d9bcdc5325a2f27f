/-
  What the twin writes. No condition.
-/
import Derived.Test.YtonjmbcagdkdiaaT3
namespace Go.Proofs.Ytonjmbcagdkdiaa
open Go.RowKit Go.MapKept
set_option linter.unusedVariables false
set_option linter.unusedSimpArgs false
set_option maxRecDepth 100000

theorem nodup_row {l : List TRow} (h : (l.flatMap fun p => [p.bb, p.mm]).Nodup) {p : TRow} (hp : p ∈ l) : p.bb ≠ p.mm := by
  have e := nodup_one (l := l.map fun p : TRow => (⟨p.nm, p.bb, p.mm, p.l, fun _ => false⟩ : Pt)) (by simpa [List.flatMap_map] using h) (p := ⟨p.nm, p.bb, p.mm, p.l, fun _ => false⟩) (List.mem_map.2 ⟨p, hp, rfl⟩)
  exact e
section
variable {T : Tv} {w : World}
theorem twrite_down (h : Tw w T) (o : OpV) (hd : T.off = true) :
    Calls Try.prog 27 #[.pointer (some ⟨T.t, 0, none⟩), Tv.op o] w (Fails w (.int .i64 42)) := by
  obtain ⟨kind, off, k, nm, dA, dl, dc, db, on, kA, kn, kc, kp⟩ := o
  have HB0 : Hid (Below w.heap.size w (w.alloc (.cells #[.int .i64 kind, .int .i64 off, .int .i64 k, .string nm, .slice dA dl dc, .bool on, .slice kA kn kc] 41))) := (Below.refl _ _).alloc (Nat.le_refl _) _
  have H0 := Lib.hid (h.below HB0.out)
  clear h
  unfold Tv.op
  go_enter Try.func27, Try.ntmps27
  go_wp2_with fail
  refine (tpart_any T _ H0.out nm).mono ?_
  rintro e w2 ⟨r, rfl, hr, hb⟩
  have c6 := (H0.out.below hb).c6
  rw [hd] at c6
  have HB2 := Lib.hid (below_then HB0.out hb)
  clear hb
  go_wp2
  go_ret
  exact ⟨rfl, HB2.out⟩
theorem twrite_part (h : Tw w T) (o : OpV) (hd : T.off = false) (hn : ∀ p ∈ T.rows, p.nm ≠ o.nm) :
    Calls Try.prog 27 #[.pointer (some ⟨T.t, 0, none⟩), Tv.op o] w (Fails w (.int .i64 40)) := by
  obtain ⟨kind, off, k, nm, dA, dl, dc, db, on, kA, kn, kc, kp⟩ := o
  have HB0 : Hid (Below w.heap.size w (w.alloc (.cells #[.int .i64 kind, .int .i64 off, .int .i64 k, .string nm, .slice dA dl dc, .bool on, .slice kA kn kc] 41))) := (Below.refl _ _).alloc (Nat.le_refl _) _
  have H0 := Lib.hid (h.below HB0.out)
  clear h
  unfold Tv.op
  go_enter Try.func27, Try.ntmps27
  go_wp2_with fail
  refine (tpart_any T _ H0.out nm).mono ?_
  rintro e w2 ⟨r, rfl, hr, hb⟩
  have c6 := (H0.out.below hb).c6
  rw [hd] at c6
  obtain rfl := hr.none hn
  have HB2 := Lib.hid (below_then HB0.out hb)
  clear hb
  go_wp2
  go_ret
  exact ⟨rfl, HB2.out⟩
theorem twrite_end (h : Tw w T) (o : OpV) (hd : T.off = false) (i : Nat) (p : TRow) (hi : T.rows[i]? = some p) (hs : p.nm = o.nm) (ho : I64 o.off) (hm : I64 o.dn) (hl : ¬ Lies o.off o.dn p.l.length) :
    Calls Try.prog 27 #[.pointer (some ⟨T.t, 0, none⟩), Tv.op o] w (Fails w (.int .i64 10)) := by
  obtain ⟨kind, off, k, nm, dA, dl, dc, db, on, kA, kn, kc, kp⟩ := o
  have HB0 : Hid (Below w.heap.size w (w.alloc (.cells #[.int .i64 kind, .int .i64 off, .int .i64 k, .string nm, .slice dA dl dc, .bool on, .slice kA kn kc] 41))) := (Below.refl _ _).alloc (Nat.le_refl _) _
  have HX0 : Hid (Blk (w.alloc (.cells #[.int .i64 kind, .int .i64 off, .int .i64 k, .string nm, .slice dA dl dc, .bool on, .slice kA kn kc] 41)) w.heap.size 41 [.int .i64 kind, .int .i64 off, .int .i64 k, .string nm, .slice dA dl dc, .bool on, .slice kA kn kc]) := Blk.new w _ _
  have H0 := Lib.hid (h.below HB0.out)
  have HIN := Lib.hid h.names
  clear h
  unfold Tv.op
  go_enter Try.func27, Try.ntmps27
  go_wp2_with fail
  generalize w.alloc (.cells #[.int .i64 kind, .int .i64 off, .int .i64 k, .string nm, .slice dA dl dc, .bool on, .slice kA kn kc] 41) = W at *
  refine (tpart_any T _ H0.out nm).mono ?_
  rintro e w2 ⟨r, rfl, hr, hb⟩
  have H2 := Lib.hid (H0.out.below hb)
  have c6 := H2.out.c6
  rw [hd] at c6
  obtain rfl := hr.is HIN.out hi hs
  have HB2 := Lib.hid (below_then HB0.out hb)
  have HX := HX0.out.below hb HX0.out.lt
  have x1 := HX.cell 1
  have x2 := HX.cell 4
  simp only [List.getElem?_cons_zero, List.getElem?_cons_succ] at x1 x2
  have HL := Lib.hid hl
  clear hb HX hl hd
  go_wp2_with fail
  refine (tin_any T w2 H2.out i p hi off (dl : Int) ho hm false (by simpa using HL.out)).mono ?_
  rintro e w3 ⟨rfl, rfl⟩
  go_wp2
  go_ret
  exact ⟨rfl, HB2.out⟩
/-- What the twin's write leaves: torn says whether the write is torn. -/
def Tv.wrote (T : Tv) (i : Nat) (p : TRow) (bs : List Nat) (off m : Nat) : Tv :=
  if T.armed = true ∧ T.left = 0 then { T.put i { p with l := torn p.l bs off m T.keep } with off := true }
  else { T.put i { p with l := splice p.l off bs } with left := if T.armed = true then T.left - 1 else T.left }
set_option maxHeartbeats 2000000 in
theorem twrite_in (h : Tw w T) (o : OpV) (hd : T.off = false) (i : Nat) (p : TRow) (hi : T.rows[i]? = some p) (hs : p.nm = o.nm) (off : Nat) (hof : o.off = off) (hl : off + o.dn ≤ p.l.length) (hb : Bs w o.dA o.dn o.dc o.db) (hbo : 0 < o.dn → ∀ ad, o.dA = some ad → ad.block ∉ T.own) (hlf : T.armed = true → 0 ≤ T.left) (hlm : T.left ≤ 9223372036854775807) (er : Int) (her : er = if T.armed = true ∧ T.left = 0 then 42 else 0) :
    Calls Try.prog 27 #[.pointer (some ⟨T.t, 0, none⟩), Tv.op o] w fun e w' => e = .returned (.int .i64 er) ∧ Tw w' (T.wrote i p o.db off o.dn) ∧ Touch T.own w w' := by
  obtain ⟨kind, offx, k, nm, dA, m, dc, bs, on, kA, kn, kc, kp⟩ := o
  simp only [] at hof hs hb hl hbo ⊢
  subst hof
  have HER := Lib.hid her
  clear her
  have HB0 : Hid (Below w.heap.size w (w.alloc (.cells #[.int .i64 kind, .int .i64 (off : Int), .int .i64 k, .string nm, .slice dA m dc, .bool on, .slice kA kn kc] 41))) := (Below.refl _ _).alloc (Nat.le_refl _) _
  have HX0 : Hid (Blk (w.alloc (.cells #[.int .i64 kind, .int .i64 (off : Int), .int .i64 k, .string nm, .slice dA m dc, .bool on, .slice kA kn kc] 41)) w.heap.size 41 [.int .i64 kind, .int .i64 (off : Int), .int .i64 k, .string nm, .slice dA m dc, .bool on, .slice kA kn kc]) := Blk.new w _ _
  have H0 := Lib.hid (h.below HB0.out)
  have HIN := Lib.hid h.names
  have hp := List.mem_of_getElem? hi
  obtain ⟨n, hn⟩ : ∃ n, p.l.length = n := ⟨_, rfl⟩
  have hk16 : n ≤ 1000000 := by rw [← hn]; exact (h.size p hp).1
  have HN := Lib.hid hn
  have hil := (List.getElem?_eq_some_iff.1 hi).1
  obtain ⟨N, hNN⟩ : ∃ N, T.rows.length = N := ⟨_, rfl⟩
  have hN16 : N ≤ 16 := by rw [← hNN]; exact h.few
  rw [hNN] at hil
  have zil : (i : Int) < (N : Int) := by omega
  have HROWS := Lib.hid hNN
  have HI := Lib.hid hi
  have HP := Lib.hid hp
  rw [hn] at hl
  have hT : T.t < w.heap.size := h.blk.lt
  have HNEW : Hid (w.heap.size ∉ T.own) := fun hm => absurd (h.lt _ hm) (Nat.lt_irrefl _)
  have hmc := hb.le
  have hcx := hb.max
  have HBS := Lib.hid hb
  have HBO := Lib.hid hbo
  obtain ⟨ar, har⟩ : ∃ ar, T.armed = ar := ⟨_, rfl⟩
  obtain ⟨lf, hlfe⟩ : ∃ lf, T.left = lf := ⟨_, rfl⟩
  have HAR := Lib.hid har
  have HLF := Lib.hid hlfe
  rw [har, hlfe] at hlf
  rw [hlfe] at hlm
  clear h hn hNN hp hi hb hbo har hlfe
  unfold Tv.op
  go_enter Try.func27, Try.ntmps27
  go_wp2_with fail
  generalize w.alloc (.cells #[.int .i64 kind, .int .i64 (off : Int), .int .i64 k, .string nm, .slice dA m dc, .bool on, .slice kA kn kc] 41) = W at *
  refine (tpart_any T _ H0.out nm).mono ?_
  rintro e w2 ⟨r, rfl, hr, hb⟩
  have H2 := Lib.hid (H0.out.below hb)
  have c6 := H2.out.c6
  rw [hd] at c6
  obtain rfl := hr.is HIN.out HI.out hs
  have HB2 := Lib.hid (below_then HB0.out hb)
  have HX := Lib.hid (HX0.out.below hb HX0.out.lt)
  have x1 := HX.out.cell 1
  have x4 := HX.out.cell 4
  simp only [List.getElem?_cons_zero, List.getElem?_cons_succ] at x1 x4
  clear hb hd hr
  go_wp2_with fail
  refine (tin_any T w2 H2.out i p HI.out (off : Int) (m : Int) ⟨by omega, by omega⟩ ⟨by omega, by omega⟩ true (by rw [HN.out]; unfold Lies; exact ⟨fun _ => ⟨by omega, by omega, by omega⟩, fun _ => rfl⟩)).mono ?_
  rintro e w3 ⟨rfl, rfl⟩
  have c4 := H2.out.blk.cell 4
  have c3 := H2.out.blk.cell 3
  rw [show T.cells[4]? = some (.bool T.armed) from rfl, HAR.out] at c4
  rw [show T.cells[3]? = some (.int .i64 T.left) from rfl, HLF.out] at c3
  have HRD2 : Hid (Rd .u8 w2 dA m bs) := HBS.out.rd.below HB2.out
  have HFB : Hid (Fit 256 bs) := HBS.out.fit
  have hTW : Hid (Touch T.own w w2) := Touch.of_below T.own HB2.out
  have HTT : Hid (T.t ∈ T.own) := tw_own_t T
  have HBB : Hid (p.bb ∈ T.own) := tw_own_bb HP.out
  cases ar with
  | false =>
    -- the first not armed
    have HS0 : Hid (Tw w2 (T.put i { p with l := ruled (fun _ => true) p.l bs off 0, sb := p.sb })) := by
      have := H2.out.setRow HI.out (ruled (fun _ => true) p.l bs off 0) p.sb (ruled_length _ _ _ _ _) rfl (ruled_fit (H2.out.fit p HP.out) HFB.out) (Touch.refl _ w2) (by rw [ruled_zero]; exact H2.out.bytes p HP.out) (H2.out.bads p HP.out)
      exact this
    go_wp2
    go_loopw [46] (fun a wr => ∃ q : Nat, a = .int .i64 (q : Int) ∧ q ≤ m ∧ Hid (Tw wr (T.put i { p with l := ruled (fun _ => true) p.l bs off q, sb := p.sb })) ∧ Hid (Touch T.own w2 wr)) (fun a _ => m - (intOf a).toNat)
    case atStart => exact ⟨0, rfl, Nat.zero_le _, HS0, Touch.refl _ _⟩
    case round =>
      obtain ⟨q, rfl, hqm, HQ, HTQ⟩ := hrel
      clear c3 c4 c6 x1 x4 HS0
      by_cases hlt : q < m
      · have zlt : (q : Int) < (m : Int) := by omega
        obtain ⟨s, hs1⟩ : ∃ s, off + q = s := ⟨_, rfl⟩
        obtain ⟨u, hu⟩ : ∃ u, s / 64 = u := ⟨_, rfl⟩
        obtain ⟨v, hv⟩ : ∃ v, off / 64 = v := ⟨_, rfl⟩
        obtain ⟨a, ha⟩ : ∃ a, u - v = a := ⟨_, rfl⟩
        have r1 : IntKind.i64.wrap ((off : Int) + (q : Int)) = (s : Int) := by rw [IntKind.wrap_i64]; omega
        have r2 : (s : Int) / 64 = (u : Int) := by omega
        have r3 : (off : Int) / 64 = (v : Int) := by omega
        have r4 : IntKind.i64.wrap ((u : Int) - (v : Int)) = (a : Int) := by rw [IntKind.wrap_i64]; omega
        have r5 : Int.tdiv (s : Int) 64 = (u : Int) := by rw [Int.tdiv_eq_ediv_of_nonneg (by omega)]; exact r2
        have r6 : Int.tdiv (off : Int) 64 = (v : Int) := by rw [Int.tdiv_eq_ediv_of_nonneg (by omega)]; exact r3
        have zs : (s : Int) < (n : Int) := by omega
        have HAT : Hid ((off + q) / 64 - off / 64 = a ∧ off + q = s) := ⟨by rw [hs1, hu, hv, ha], hs1⟩
        have HRD := Lib.hid (HRD2.out.touch0 HTQ.out (fun h0 ad e => HBO.out h0 ad e))
        obtain ⟨adD, b, rfl, hbq, cD⟩ := HRD.out.get hlt
        have HX4 := HX.out.touch HTQ.out HNEW.out
        have x1 := HX4.cell 1
        simp only [List.getElem?_cons_zero, List.getElem?_cons_succ] at x1
        have hB := HQ.out.bytes { p with l := ruled (fun _ => true) p.l bs off q, sb := p.sb } (List.mem_of_getElem? (i := i) (by simp [Tv.put, HROWS.out, hil]))
        have zf : wr.frozen? ⟨p.bb, s, none⟩ = false := hB.frozen s
        obtain ⟨z, hz⟩ : ∃ z, (ruled (fun _ => true) p.l bs off q)[s]? = some z := ⟨_, List.getElem?_eq_getElem (by rw [ruled_length, HN.out]; omega)⟩
        have zc : wr.cell? ⟨p.bb, s, none⟩ = some (.int .u8 (z : Int)) := by
          rw [hB.cell]; exact cn_get hz
        clear hz
        have HBY := Lib.hid hB
        have c1 : wr.cell? ⟨T.t, 1, none⟩ = some (.slice T.ba (T.rows.set i { p with l := ruled (fun _ => true) p.l bs off q, sb := p.sb }).length T.bc) := HQ.out.blk.cell 1
        rw [List.length_set, HROWS.out] at c1
        obtain ⟨adb, eb, _, hcb⟩ := HQ.out.tabB (by simp [Tv.put]; rw [HROWS.out]; omega)
        have c9 := hcb i (TRow.bv { p with l := ruled (fun _ => true) p.l bs off q, sb := p.sb }) (by simp [Tv.put, HROWS.out, hil])
        simp only [Tv.put] at eb
        rw [eb] at c1
        simp only [TRow.bv, ruled_length] at c9
        rw [HN.out] at c9
        have c5 : wr.cell? ⟨T.t, 5, none⟩ = some (.slice T.ka T.keep.length T.kc) := HQ.out.blk.cell 5
        have HBQ := Lib.hid hbq
        have HSTEP : Hid (((fun _ => true : Nat → Bool) a) = true → ∀ d : Nat, ∃ q' : Nat, Value.int .i64 ((q : Int) + 1) = .int .i64 (q' : Int) ∧ q' ≤ m ∧ Hid (Tw ((wr.drewN d).setCell ⟨p.bb, s, none⟩ (.int .u8 (b : Int))) (T.put i { p with l := ruled (fun _ => true) p.l bs off q', sb := p.sb })) ∧ Hid (Touch T.own w2 ((wr.drewN d).setCell ⟨p.bb, s, none⟩ (.int .u8 (b : Int))))) := fun hP d => by
          have hD := HQ.out.below (below_drewN (Below.refl _ wr) d)
          have t1 : Touch [p.bb, p.mm] (wr.drewN d) ((wr.drewN d).setCell ⟨p.bb, s, none⟩ (.int .u8 (b : Int))) := (Touch.refl _ _).setCell (p := ⟨p.bb, s, none⟩) (.inl (by simp)) _
          have t2 : Touch T.own (wr.drewN d) ((wr.drewN d).setCell ⟨p.bb, s, none⟩ (.int .u8 (b : Int))) := (Touch.refl _ _).setCell (p := ⟨p.bb, s, none⟩) (.inl HBB.out) _
          have hB1 : Blk ((wr.drewN d).setCell ⟨p.bb, s, none⟩ (.int .u8 (b : Int))) p.bb 5 (cn .u8 (ruled (fun _ => true) p.l bs off (q + 1))) := by
            rw [ruled_yes (by first | rfl | (rw [HAT.out.1]; exact hP) | (simp only [HAT.out.1]; exact hP)) HBQ.out, HAT.out.2, ← cn_set]
            exact (HBY.out.drewN d).set_ s _
          have hM := hD.bads { p with l := ruled (fun _ => true) p.l bs off q, sb := p.sb } (List.mem_of_getElem? (i := i) (by simp [Tv.put, HROWS.out, hil]))
          have hmm : p.mm ∉ [p.bb] := fun hm => nodup_row (List.nodup_cons.1 H2.out.apart).2 HP.out (List.mem_singleton.1 hm).symm
          have t3 : Touch [p.bb] (wr.drewN d) ((wr.drewN d).setCell ⟨p.bb, s, none⟩ (.int .u8 (b : Int))) := (Touch.refl _ _).setCell (p := ⟨p.bb, s, none⟩) (.inl (by simp)) _
          have := hD.setRow (i := i) (p := { p with l := ruled (fun _ => true) p.l bs off q, sb := p.sb }) (by simp [Tv.put, HROWS.out, hil]) (ruled (fun _ => true) p.l bs off (q + 1)) p.sb (by simp [ruled_length]) rfl (ruled_fit (H2.out.fit p HP.out) HFB.out) t1 hB1 (hM.touch t3 hmm)
          refine ⟨q + 1, by go_num, by omega, ?_, (HTQ.out.drewN d).trans t2⟩
          have e : (T.put i { p with l := ruled (fun _ => true) p.l bs off q, sb := p.sb }).put i { p with l := ruled (fun _ => true) p.l bs off (q + 1), sb := p.sb } = T.put i { p with l := ruled (fun _ => true) p.l bs off (q + 1), sb := p.sb } := by
            simp [Tv.put]
          rw [← e]; exact this
        clear hs1 hu hv ha hB hbq hcb eb HX4
        have hPA : Hid (((fun _ => true : Nat → Bool) a) = true) := rfl
        clear c5
        go_wp2_with fail
        go_still_tail 13, (by kernel_rfl)
        change wpList _ _ _ _ _ wr.drew
        have zf : wr.drew.frozen? ⟨p.bb, s, none⟩ = false := zf
        have zc : wr.drew.cell? ⟨p.bb, s, none⟩ = some (.int .u8 (z : Int)) := zc
        go_wp2
        go_roundw
        case rel => exact HSTEP.out hPA.out 1
        case measure => simp [intOf]; omega
      · obtain rfl : q = m := by omega
        clear HRD2
        have HQA := Lib.hid HQ.out
        have HM : Hid (bs.length = q) := HBS.out.rd.1
        have c4 : wr.cell? ⟨T.t, 4, none⟩ = some (.bool T.armed) := HQ.out.blk.cell 4
        rw [HAR.out] at c4
        obtain rfl : er = 0 := by rw [HER.out, if_neg (by simp [HAR.out])]
        go_wp2
        go_ret
        refine ⟨rfl, ?_, hTW.out.trans HTQ.out⟩
        have e : T.wrote i p bs off q = T.put i { p with l := ruled (fun _ => true) p.l bs off q, sb := p.sb } := by
          unfold Tv.wrote
          rw [if_neg (by simp [HAR.out])]
          have := ruled_all p.l bs off (by rw [HM.out, HN.out]; exact hl)
          rw [HM.out] at this
          rw [this]
          simp [Tv.put, HAR.out]
        rw [e]; exact HQ.out
  | true =>
    by_cases hz0 : lf = 0
    · subst hz0
      -- the first torn
      have HS0 : Hid (Tw w2 (T.put i { p with l := ruled (fun a => T.keep.getD a false) p.l bs off 0, sb := p.sb })) := by
        have := H2.out.setRow HI.out (ruled (fun a => T.keep.getD a false) p.l bs off 0) p.sb (ruled_length _ _ _ _ _) rfl (ruled_fit (H2.out.fit p HP.out) HFB.out) (Touch.refl _ w2) (by rw [ruled_zero]; exact H2.out.bytes p HP.out) (H2.out.bads p HP.out)
        exact this
      go_wp2
      go_loopw [46] (fun a wr => ∃ q : Nat, a = .int .i64 (q : Int) ∧ q ≤ m ∧ Hid (Tw wr (T.put i { p with l := ruled (fun a => T.keep.getD a false) p.l bs off q, sb := p.sb })) ∧ Hid (Touch T.own w2 wr)) (fun a _ => m - (intOf a).toNat)
      case atStart => exact ⟨0, rfl, Nat.zero_le _, HS0, Touch.refl _ _⟩
      case round =>
        obtain ⟨q, rfl, hqm, HQ, HTQ⟩ := hrel
        clear c3 c4 c6 x1 x4 HS0
        by_cases hlt : q < m
        · have zlt : (q : Int) < (m : Int) := by omega
          obtain ⟨s, hs1⟩ : ∃ s, off + q = s := ⟨_, rfl⟩
          obtain ⟨u, hu⟩ : ∃ u, s / 64 = u := ⟨_, rfl⟩
          obtain ⟨v, hv⟩ : ∃ v, off / 64 = v := ⟨_, rfl⟩
          obtain ⟨a, ha⟩ : ∃ a, u - v = a := ⟨_, rfl⟩
          have r1 : IntKind.i64.wrap ((off : Int) + (q : Int)) = (s : Int) := by rw [IntKind.wrap_i64]; omega
          have r2 : (s : Int) / 64 = (u : Int) := by omega
          have r3 : (off : Int) / 64 = (v : Int) := by omega
          have r4 : IntKind.i64.wrap ((u : Int) - (v : Int)) = (a : Int) := by rw [IntKind.wrap_i64]; omega
          have r5 : Int.tdiv (s : Int) 64 = (u : Int) := by rw [Int.tdiv_eq_ediv_of_nonneg (by omega)]; exact r2
          have r6 : Int.tdiv (off : Int) 64 = (v : Int) := by rw [Int.tdiv_eq_ediv_of_nonneg (by omega)]; exact r3
          have zs : (s : Int) < (n : Int) := by omega
          have HAT : Hid ((off + q) / 64 - off / 64 = a ∧ off + q = s) := ⟨by rw [hs1, hu, hv, ha], hs1⟩
          have HRD := Lib.hid (HRD2.out.touch0 HTQ.out (fun h0 ad e => HBO.out h0 ad e))
          obtain ⟨adD, b, rfl, hbq, cD⟩ := HRD.out.get hlt
          have HX4 := HX.out.touch HTQ.out HNEW.out
          have x1 := HX4.cell 1
          simp only [List.getElem?_cons_zero, List.getElem?_cons_succ] at x1
          have hB := HQ.out.bytes { p with l := ruled (fun a => T.keep.getD a false) p.l bs off q, sb := p.sb } (List.mem_of_getElem? (i := i) (by simp [Tv.put, HROWS.out, hil]))
          have zf : wr.frozen? ⟨p.bb, s, none⟩ = false := hB.frozen s
          obtain ⟨z, hz⟩ : ∃ z, (ruled (fun a => T.keep.getD a false) p.l bs off q)[s]? = some z := ⟨_, List.getElem?_eq_getElem (by rw [ruled_length, HN.out]; omega)⟩
          have zc : wr.cell? ⟨p.bb, s, none⟩ = some (.int .u8 (z : Int)) := by
            rw [hB.cell]; exact cn_get hz
          clear hz
          have HBY := Lib.hid hB
          have c1 : wr.cell? ⟨T.t, 1, none⟩ = some (.slice T.ba (T.rows.set i { p with l := ruled (fun a => T.keep.getD a false) p.l bs off q, sb := p.sb }).length T.bc) := HQ.out.blk.cell 1
          rw [List.length_set, HROWS.out] at c1
          obtain ⟨adb, eb, _, hcb⟩ := HQ.out.tabB (by simp [Tv.put]; rw [HROWS.out]; omega)
          have c9 := hcb i (TRow.bv { p with l := ruled (fun a => T.keep.getD a false) p.l bs off q, sb := p.sb }) (by simp [Tv.put, HROWS.out, hil])
          simp only [Tv.put] at eb
          rw [eb] at c1
          simp only [TRow.bv, ruled_length] at c9
          rw [HN.out] at c9
          have c5 : wr.cell? ⟨T.t, 5, none⟩ = some (.slice T.ka T.keep.length T.kc) := HQ.out.blk.cell 5
          have HBQ := Lib.hid hbq
          have HSTEP : Hid (((fun a => T.keep.getD a false : Nat → Bool) a) = true → ∀ d : Nat, ∃ q' : Nat, Value.int .i64 ((q : Int) + 1) = .int .i64 (q' : Int) ∧ q' ≤ m ∧ Hid (Tw ((wr.drewN d).setCell ⟨p.bb, s, none⟩ (.int .u8 (b : Int))) (T.put i { p with l := ruled (fun a => T.keep.getD a false) p.l bs off q', sb := p.sb })) ∧ Hid (Touch T.own w2 ((wr.drewN d).setCell ⟨p.bb, s, none⟩ (.int .u8 (b : Int))))) := fun hP d => by
            have hD := HQ.out.below (below_drewN (Below.refl _ wr) d)
            have t1 : Touch [p.bb, p.mm] (wr.drewN d) ((wr.drewN d).setCell ⟨p.bb, s, none⟩ (.int .u8 (b : Int))) := (Touch.refl _ _).setCell (p := ⟨p.bb, s, none⟩) (.inl (by simp)) _
            have t2 : Touch T.own (wr.drewN d) ((wr.drewN d).setCell ⟨p.bb, s, none⟩ (.int .u8 (b : Int))) := (Touch.refl _ _).setCell (p := ⟨p.bb, s, none⟩) (.inl HBB.out) _
            have hB1 : Blk ((wr.drewN d).setCell ⟨p.bb, s, none⟩ (.int .u8 (b : Int))) p.bb 5 (cn .u8 (ruled (fun a => T.keep.getD a false) p.l bs off (q + 1))) := by
              rw [ruled_yes (by first | rfl | (rw [HAT.out.1]; exact hP) | (simp only [HAT.out.1]; exact hP)) HBQ.out, HAT.out.2, ← cn_set]
              exact (HBY.out.drewN d).set_ s _
            have hM := hD.bads { p with l := ruled (fun a => T.keep.getD a false) p.l bs off q, sb := p.sb } (List.mem_of_getElem? (i := i) (by simp [Tv.put, HROWS.out, hil]))
            have hmm : p.mm ∉ [p.bb] := fun hm => nodup_row (List.nodup_cons.1 H2.out.apart).2 HP.out (List.mem_singleton.1 hm).symm
            have t3 : Touch [p.bb] (wr.drewN d) ((wr.drewN d).setCell ⟨p.bb, s, none⟩ (.int .u8 (b : Int))) := (Touch.refl _ _).setCell (p := ⟨p.bb, s, none⟩) (.inl (by simp)) _
            have := hD.setRow (i := i) (p := { p with l := ruled (fun a => T.keep.getD a false) p.l bs off q, sb := p.sb }) (by simp [Tv.put, HROWS.out, hil]) (ruled (fun a => T.keep.getD a false) p.l bs off (q + 1)) p.sb (by simp [ruled_length]) rfl (ruled_fit (H2.out.fit p HP.out) HFB.out) t1 hB1 (hM.touch t3 hmm)
            refine ⟨q + 1, by go_num, by omega, ?_, (HTQ.out.drewN d).trans t2⟩
            have e : (T.put i { p with l := ruled (fun a => T.keep.getD a false) p.l bs off q, sb := p.sb }).put i { p with l := ruled (fun a => T.keep.getD a false) p.l bs off (q + 1), sb := p.sb } = T.put i { p with l := ruled (fun a => T.keep.getD a false) p.l bs off (q + 1), sb := p.sb } := by
              simp [Tv.put]
            rw [← e]; exact this
          clear hs1 hu hv ha hB hbq hcb eb HX4
          obtain ⟨K, hK⟩ : ∃ K, T.keep.length = K := ⟨_, rfl⟩
          have hK2 : K ≤ 9223372036854775807 := by rw [← hK]; exact Nat.le_trans HQ.out.kcap.1 HQ.out.kcap.2
          rw [hK] at c5
          by_cases hak : a < K
          · have zak : (a : Int) < (K : Int) := by omega
            obtain ⟨adk, ek, _, hck⟩ := HQ.out.kept (by rw [bcells_length]; show 0 < T.keep.length; omega)
            have ck := hck a (.bool (T.keep.getD a false)) (getB (by show a < T.keep.length; rw [hK]; exact hak))
            have ek : T.ka = some adk := ek
            rw [ek] at c5
            obtain ⟨d, hdd⟩ : ∃ d, T.keep.getD a false = d := ⟨_, rfl⟩
            have HDD := Lib.hid hdd
            rw [hdd] at ck
            clear hdd hck ek hK
            cases d with
            | true =>
              have hPA : Hid (((fun a => T.keep.getD a false : Nat → Bool) a) = true) := HDD.out
              go_wp2_with fail
              go_still_tail 13, (by kernel_rfl)
              change wpList _ _ _ _ _ wr.drew
              have zf : wr.drew.frozen? ⟨p.bb, s, none⟩ = false := zf
              have zc : wr.drew.cell? ⟨p.bb, s, none⟩ = some (.int .u8 (z : Int)) := zc
              go_wp2
              go_roundw
              case rel => exact HSTEP.out hPA.out 1
              case measure => simp [intOf]; omega
            | false =>
              have hPA : Hid (T.keep.getD a false = false) := HDD.out
              go_wp2
              go_roundw
              case rel =>
                refine ⟨q + 1, by go_num, by omega, ?_, HTQ.out⟩
                rw [ruled_no (by simp only [HAT.out.1]; exact hPA.out)]
                exact HQ.out
              case measure => simp [intOf]; omega
          · have zak : ¬ (a : Int) < (K : Int) := by omega
            have hPA : Hid (T.keep.getD a false = false) := by
              show _ = _
              rw [List.getD, List.getElem?_eq_none (by rw [hK]; omega)]; rfl
            clear hK
            go_wp2
            go_roundw
            case rel =>
              refine ⟨q + 1, by go_num, by omega, ?_, HTQ.out⟩
              rw [ruled_no (by simp only [HAT.out.1]; exact hPA.out)]
              exact HQ.out
            case measure => simp [intOf]; omega
        · obtain rfl : q = m := by omega
          clear HRD2
          have c4 : wr.cell? ⟨T.t, 4, none⟩ = some (.bool T.armed) := HQ.out.blk.cell 4
          rw [HAR.out] at c4
          have c6 : wr.cell? ⟨T.t, 6, none⟩ = some (.bool T.off) := HQ.out.blk.cell 6
          have z6 : wr.frozen? ⟨T.t, 6, none⟩ = false := HQ.out.blk.frozen 6
          have t1 : Touch [T.t] wr (wr.setCell ⟨T.t, 6, none⟩ (.bool true)) := (Touch.refl _ _).setCell (p := ⟨T.t, 6, none⟩) (.inl (by simp)) _
          have HF : Hid (Tw (wr.setCell ⟨T.t, 6, none⟩ (.bool true)) (T.wrote i p bs off q) ∧ Touch T.own w (wr.setCell ⟨T.t, 6, none⟩ (.bool true))) := by
            refine ⟨?_, (hTW.out.trans HTQ.out).trans (t1.wider (fun x hx => by rw [List.mem_singleton.1 hx]; exact HTT.out))⟩
            have e : T.wrote i p bs off q = { T.put i { p with l := ruled (fun a => T.keep.getD a false) p.l bs off q, sb := p.sb } with left := T.left, off := true, count := T.count, told := T.told } := by
              unfold Tv.wrote
              rw [if_pos ⟨HAR.out, HLF.out⟩, ruled_torn]
              simp [Tv.put]
            rw [e]
            exact HQ.out.numbers T.left true T.count T.told t1 (HQ.out.blk.set_ 6 _)
          clear t1
          obtain rfl : er = 42 := by rw [HER.out, if_pos ⟨HAR.out, HLF.out⟩]
          go_wp2
          go_ret
          exact ⟨rfl, HF.out.1, HF.out.2⟩
    · have HLZ := Lib.hid hz0
      have hlp : 0 < lf := by have := hlf rfl; omega
      have hb0 : (lf == 0) = false := by rw [beq_eq_false_iff_ne]; exact hz0
      -- the first armed
      have HS0 : Hid (Tw w2 (T.put i { p with l := ruled (fun _ => true) p.l bs off 0, sb := p.sb })) := by
        have := H2.out.setRow HI.out (ruled (fun _ => true) p.l bs off 0) p.sb (ruled_length _ _ _ _ _) rfl (ruled_fit (H2.out.fit p HP.out) HFB.out) (Touch.refl _ w2) (by rw [ruled_zero]; exact H2.out.bytes p HP.out) (H2.out.bads p HP.out)
        exact this
      go_wp2
      go_loopw [46] (fun a wr => ∃ q : Nat, a = .int .i64 (q : Int) ∧ q ≤ m ∧ Hid (Tw wr (T.put i { p with l := ruled (fun _ => true) p.l bs off q, sb := p.sb })) ∧ Hid (Touch T.own w2 wr)) (fun a _ => m - (intOf a).toNat)
      case atStart => exact ⟨0, rfl, Nat.zero_le _, HS0, Touch.refl _ _⟩
      case round =>
        obtain ⟨q, rfl, hqm, HQ, HTQ⟩ := hrel
        clear c3 c4 c6 x1 x4 HS0
        by_cases hlt : q < m
        · have zlt : (q : Int) < (m : Int) := by omega
          obtain ⟨s, hs1⟩ : ∃ s, off + q = s := ⟨_, rfl⟩
          obtain ⟨u, hu⟩ : ∃ u, s / 64 = u := ⟨_, rfl⟩
          obtain ⟨v, hv⟩ : ∃ v, off / 64 = v := ⟨_, rfl⟩
          obtain ⟨a, ha⟩ : ∃ a, u - v = a := ⟨_, rfl⟩
          have r1 : IntKind.i64.wrap ((off : Int) + (q : Int)) = (s : Int) := by rw [IntKind.wrap_i64]; omega
          have r2 : (s : Int) / 64 = (u : Int) := by omega
          have r3 : (off : Int) / 64 = (v : Int) := by omega
          have r4 : IntKind.i64.wrap ((u : Int) - (v : Int)) = (a : Int) := by rw [IntKind.wrap_i64]; omega
          have r5 : Int.tdiv (s : Int) 64 = (u : Int) := by rw [Int.tdiv_eq_ediv_of_nonneg (by omega)]; exact r2
          have r6 : Int.tdiv (off : Int) 64 = (v : Int) := by rw [Int.tdiv_eq_ediv_of_nonneg (by omega)]; exact r3
          have zs : (s : Int) < (n : Int) := by omega
          have HAT : Hid ((off + q) / 64 - off / 64 = a ∧ off + q = s) := ⟨by rw [hs1, hu, hv, ha], hs1⟩
          have HRD := Lib.hid (HRD2.out.touch0 HTQ.out (fun h0 ad e => HBO.out h0 ad e))
          obtain ⟨adD, b, rfl, hbq, cD⟩ := HRD.out.get hlt
          have HX4 := HX.out.touch HTQ.out HNEW.out
          have x1 := HX4.cell 1
          simp only [List.getElem?_cons_zero, List.getElem?_cons_succ] at x1
          have hB := HQ.out.bytes { p with l := ruled (fun _ => true) p.l bs off q, sb := p.sb } (List.mem_of_getElem? (i := i) (by simp [Tv.put, HROWS.out, hil]))
          have zf : wr.frozen? ⟨p.bb, s, none⟩ = false := hB.frozen s
          obtain ⟨z, hz⟩ : ∃ z, (ruled (fun _ => true) p.l bs off q)[s]? = some z := ⟨_, List.getElem?_eq_getElem (by rw [ruled_length, HN.out]; omega)⟩
          have zc : wr.cell? ⟨p.bb, s, none⟩ = some (.int .u8 (z : Int)) := by
            rw [hB.cell]; exact cn_get hz
          clear hz
          have HBY := Lib.hid hB
          have c1 : wr.cell? ⟨T.t, 1, none⟩ = some (.slice T.ba (T.rows.set i { p with l := ruled (fun _ => true) p.l bs off q, sb := p.sb }).length T.bc) := HQ.out.blk.cell 1
          rw [List.length_set, HROWS.out] at c1
          obtain ⟨adb, eb, _, hcb⟩ := HQ.out.tabB (by simp [Tv.put]; rw [HROWS.out]; omega)
          have c9 := hcb i (TRow.bv { p with l := ruled (fun _ => true) p.l bs off q, sb := p.sb }) (by simp [Tv.put, HROWS.out, hil])
          simp only [Tv.put] at eb
          rw [eb] at c1
          simp only [TRow.bv, ruled_length] at c9
          rw [HN.out] at c9
          have c5 : wr.cell? ⟨T.t, 5, none⟩ = some (.slice T.ka T.keep.length T.kc) := HQ.out.blk.cell 5
          have HBQ := Lib.hid hbq
          have HSTEP : Hid (((fun _ => true : Nat → Bool) a) = true → ∀ d : Nat, ∃ q' : Nat, Value.int .i64 ((q : Int) + 1) = .int .i64 (q' : Int) ∧ q' ≤ m ∧ Hid (Tw ((wr.drewN d).setCell ⟨p.bb, s, none⟩ (.int .u8 (b : Int))) (T.put i { p with l := ruled (fun _ => true) p.l bs off q', sb := p.sb })) ∧ Hid (Touch T.own w2 ((wr.drewN d).setCell ⟨p.bb, s, none⟩ (.int .u8 (b : Int))))) := fun hP d => by
            have hD := HQ.out.below (below_drewN (Below.refl _ wr) d)
            have t1 : Touch [p.bb, p.mm] (wr.drewN d) ((wr.drewN d).setCell ⟨p.bb, s, none⟩ (.int .u8 (b : Int))) := (Touch.refl _ _).setCell (p := ⟨p.bb, s, none⟩) (.inl (by simp)) _
            have t2 : Touch T.own (wr.drewN d) ((wr.drewN d).setCell ⟨p.bb, s, none⟩ (.int .u8 (b : Int))) := (Touch.refl _ _).setCell (p := ⟨p.bb, s, none⟩) (.inl HBB.out) _
            have hB1 : Blk ((wr.drewN d).setCell ⟨p.bb, s, none⟩ (.int .u8 (b : Int))) p.bb 5 (cn .u8 (ruled (fun _ => true) p.l bs off (q + 1))) := by
              rw [ruled_yes (by first | rfl | (rw [HAT.out.1]; exact hP) | (simp only [HAT.out.1]; exact hP)) HBQ.out, HAT.out.2, ← cn_set]
              exact (HBY.out.drewN d).set_ s _
            have hM := hD.bads { p with l := ruled (fun _ => true) p.l bs off q, sb := p.sb } (List.mem_of_getElem? (i := i) (by simp [Tv.put, HROWS.out, hil]))
            have hmm : p.mm ∉ [p.bb] := fun hm => nodup_row (List.nodup_cons.1 H2.out.apart).2 HP.out (List.mem_singleton.1 hm).symm
            have t3 : Touch [p.bb] (wr.drewN d) ((wr.drewN d).setCell ⟨p.bb, s, none⟩ (.int .u8 (b : Int))) := (Touch.refl _ _).setCell (p := ⟨p.bb, s, none⟩) (.inl (by simp)) _
            have := hD.setRow (i := i) (p := { p with l := ruled (fun _ => true) p.l bs off q, sb := p.sb }) (by simp [Tv.put, HROWS.out, hil]) (ruled (fun _ => true) p.l bs off (q + 1)) p.sb (by simp [ruled_length]) rfl (ruled_fit (H2.out.fit p HP.out) HFB.out) t1 hB1 (hM.touch t3 hmm)
            refine ⟨q + 1, by go_num, by omega, ?_, (HTQ.out.drewN d).trans t2⟩
            have e : (T.put i { p with l := ruled (fun _ => true) p.l bs off q, sb := p.sb }).put i { p with l := ruled (fun _ => true) p.l bs off (q + 1), sb := p.sb } = T.put i { p with l := ruled (fun _ => true) p.l bs off (q + 1), sb := p.sb } := by
              simp [Tv.put]
            rw [← e]; exact this
          clear hs1 hu hv ha hB hbq hcb eb HX4
          have hPA : Hid (((fun _ => true : Nat → Bool) a) = true) := rfl
          clear c5
          go_wp2_with fail
          go_still_tail 13, (by kernel_rfl)
          change wpList _ _ _ _ _ wr.drew
          have zf : wr.drew.frozen? ⟨p.bb, s, none⟩ = false := zf
          have zc : wr.drew.cell? ⟨p.bb, s, none⟩ = some (.int .u8 (z : Int)) := zc
          go_wp2
          go_roundw
          case rel => exact HSTEP.out hPA.out 1
          case measure => simp [intOf]; omega
        · obtain rfl : q = m := by omega
          clear HRD2
          have HM : Hid (bs.length = q) := HBS.out.rd.1
          have c4 : wr.cell? ⟨T.t, 4, none⟩ = some (.bool T.armed) := HQ.out.blk.cell 4
          rw [HAR.out] at c4
          have c3 : wr.cell? ⟨T.t, 3, none⟩ = some (.int .i64 T.left) := HQ.out.blk.cell 3
          rw [HLF.out] at c3
          have z3 : wr.frozen? ⟨T.t, 3, none⟩ = false := HQ.out.blk.frozen 3
          have r1 : IntKind.i64.wrap (lf - 1) = lf - 1 := by rw [IntKind.wrap_i64]; omega
          have t1 : Touch [T.t] wr (wr.setCell ⟨T.t, 3, none⟩ (.int .i64 (lf - 1))) := (Touch.refl _ _).setCell (p := ⟨T.t, 3, none⟩) (.inl (by simp)) _
          have HF : Hid (Tw (wr.setCell ⟨T.t, 3, none⟩ (.int .i64 (lf - 1))) (T.wrote i p bs off q) ∧ Touch T.own w (wr.setCell ⟨T.t, 3, none⟩ (.int .i64 (lf - 1)))) := by
            refine ⟨?_, (hTW.out.trans HTQ.out).trans (t1.wider (fun x hx => by rw [List.mem_singleton.1 hx]; exact HTT.out))⟩
            have e : T.wrote i p bs off q = { T.put i { p with l := ruled (fun _ => true) p.l bs off q, sb := p.sb } with left := lf - 1, off := T.off, count := T.count, told := T.told } := by
              unfold Tv.wrote
              rw [if_neg (by rw [HLF.out]; exact fun h => HLZ.out h.2), if_pos HAR.out]
              have := ruled_all p.l bs off (by rw [HM.out, HN.out]; exact hl)
              rw [HM.out] at this
              rw [this, HLF.out]
              simp [Tv.put]
            rw [e]
            exact HQ.out.numbers (lf - 1) T.off T.count T.told t1 (HQ.out.blk.set_ 3 _)
          clear t1
          obtain rfl : er = 0 := by rw [HER.out, if_neg (by rw [HLF.out]; exact fun h => HLZ.out h.2)]
          go_wp2
          go_ret
          exact ⟨rfl, HF.out.1, HF.out.2⟩
end
end Go.Proofs.Ytonjmbcagdkdiaa
