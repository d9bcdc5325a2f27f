/-
  What the twin reads. No condition.
-/
import Derived.Test.YtonjmbcagdkdiaaT1
namespace Go.Proofs.Ytonjmbcagdkdiaa
open Go.RowKit Go.MapKept
set_option linter.unusedVariables false
set_option linter.unusedSimpArgs false
set_option maxRecDepth 100000

theorem Tw.upd {w w' : World} {T : Tv} (h : Tw w T) (lf : Int) (ar : Bool) (ka : Option Addr) (kc : Nat) (kp : List Bool) (off : Bool) (ct td : Int) (t : Touch [T.t] w w') (hb : Blk w' T.t 34 ({ T with left := lf, armed := ar, ka := ka, kc := kc, keep := kp, off := off, count := ct, told := td } : Tv).cells)
    (hk : Rs w' ka (bcells kp)) (hko : 0 < kp.length → ∀ ad, ka = some ad → ad.block ∉ T.own ∧ ad.block < w'.heap.size) (hkc : kp.length ≤ kc ∧ kc ≤ 9223372036854775807) : Tw w' { T with left := lf, armed := ar, ka := ka, kc := kc, keep := kp, off := off, count := ct, told := td } := by
  have ha := List.nodup_cons.1 h.apart
  have hpt : ∀ p ∈ T.rows, p.bb ∉ [T.t] ∧ p.mm ∉ [T.t] := fun p hp =>
    ⟨fun hm => ha.1 (by rw [List.mem_singleton.1 hm |>.symm]; exact List.mem_flatMap.2 ⟨p, hp, by simp⟩), fun hm => ha.1 (by rw [List.mem_singleton.1 hm |>.symm]; exact List.mem_flatMap.2 ⟨p, hp, by simp⟩)⟩
  exact
  { blk := hb
    parts := h.parts.touch t (fun ad e hm => (h.partsOut ad e).1 (by rw [List.mem_singleton.1 hm]; exact tw_own_t T))
    tabB := h.tabB.touch t (fun ad e hm => (h.tabBOut ad e).1 (by rw [List.mem_singleton.1 hm]; exact tw_own_t T))
    tabS := h.tabS.touch t (fun ad e hm => (h.tabSOut ad e).1 (by rw [List.mem_singleton.1 hm]; exact tw_own_t T))
    bytes := fun p hp => (h.bytes p hp).touch t (hpt p hp).1
    bads := fun p hp => (h.bads p hp).touch t (hpt p hp).2
    kept := hk
    names := h.names
    apart := h.apart
    size := h.size
    few := h.few
    fit := h.fit
    partsOut := fun ad e => ⟨(h.partsOut ad e).1, Nat.lt_of_lt_of_le (h.partsOut ad e).2 t.size⟩
    tabBOut := fun ad e => ⟨(h.tabBOut ad e).1, Nat.lt_of_lt_of_le (h.tabBOut ad e).2 t.size⟩
    tabSOut := fun ad e => ⟨(h.tabSOut ad e).1, Nat.lt_of_lt_of_le (h.tabSOut ad e).2 t.size⟩
    keptOut := hko
    kcap := hkc }
def Tv.op (o : OpV) : Value := .agg #[.int .i64 o.kind, .int .i64 o.off, .int .i64 o.n, .string o.nm, .slice o.dA o.dn o.dc, .bool o.on, .slice o.kA o.kn o.kc]
/-- A bad sector lies in the piece. -/
def TSp (p : TRow) (off m : Nat) : Prop := ∃ j, off ≤ j ∧ j < off + m ∧ p.sb.getD (j / 64) false = true
section
variable {T : Tv} {w : World}
theorem Tw.c6 (h : Tw w T) : w.cell? ⟨T.t, 6, none⟩ = some (.bool T.off) := h.blk.cell 6
theorem tread_down (h : Tw w T) (o : OpV) (hd : T.off = true) :
    Calls Try.prog 26 #[.pointer (some ⟨T.t, 0, none⟩), Tv.op o] w (Fails w (.tuple #[.slice none 0 0, .int .i64 42])) := by
  obtain ⟨kind, off, k, nm, dA, dl, dc, db, on, kA, kn, kc, kp⟩ := o
  have HB0 : Hid (Below w.heap.size w (w.alloc (.cells #[.int .i64 kind, .int .i64 off, .int .i64 k, .string nm, .slice dA dl dc, .bool on, .slice kA kn kc] 41))) := (Below.refl _ _).alloc (Nat.le_refl _) _
  have H0 := Lib.hid (h.below HB0.out)
  clear h
  unfold Tv.op
  go_enter Try.func26, Try.ntmps26
  go_wp2_with fail
  refine (tpart_any T _ H0.out nm).mono ?_
  rintro e w2 ⟨r, rfl, hr, hb⟩
  have c6 := (H0.out.below hb).c6
  rw [hd] at c6
  have HB2 := Lib.hid (below_then HB0.out hb)
  clear hb
  go_wp2
  go_ret2
  exact ⟨rfl, HB2.out⟩
theorem tread_part (h : Tw w T) (o : OpV) (hd : T.off = false) (hn : ∀ p ∈ T.rows, p.nm ≠ o.nm) :
    Calls Try.prog 26 #[.pointer (some ⟨T.t, 0, none⟩), Tv.op o] w (Fails w (.tuple #[.slice none 0 0, .int .i64 40])) := by
  obtain ⟨kind, off, k, nm, dA, dl, dc, db, on, kA, kn, kc, kp⟩ := o
  have HB0 : Hid (Below w.heap.size w (w.alloc (.cells #[.int .i64 kind, .int .i64 off, .int .i64 k, .string nm, .slice dA dl dc, .bool on, .slice kA kn kc] 41))) := (Below.refl _ _).alloc (Nat.le_refl _) _
  have H0 := Lib.hid (h.below HB0.out)
  clear h
  unfold Tv.op
  go_enter Try.func26, Try.ntmps26
  go_wp2_with fail
  refine (tpart_any T _ H0.out nm).mono ?_
  rintro e w2 ⟨r, rfl, hr, hb⟩
  have c6 := (H0.out.below hb).c6
  rw [hd] at c6
  obtain rfl := hr.none hn
  have HB2 := Lib.hid (below_then HB0.out hb)
  clear hb
  go_wp2
  go_ret2
  exact ⟨rfl, HB2.out⟩
theorem tread_end (h : Tw w T) (o : OpV) (hd : T.off = false) (i : Nat) (p : TRow) (hi : T.rows[i]? = some p) (hs : p.nm = o.nm) (ho : I64 o.off) (hm : I64 o.n) (hl : ¬ Lies o.off o.n p.l.length) :
    Calls Try.prog 26 #[.pointer (some ⟨T.t, 0, none⟩), Tv.op o] w (Fails w (.tuple #[.slice none 0 0, .int .i64 10])) := by
  obtain ⟨kind, off, k, nm, dA, dl, dc, db, on, kA, kn, kc, kp⟩ := o
  have HB0 : Hid (Below w.heap.size w (w.alloc (.cells #[.int .i64 kind, .int .i64 off, .int .i64 k, .string nm, .slice dA dl dc, .bool on, .slice kA kn kc] 41))) := (Below.refl _ _).alloc (Nat.le_refl _) _
  have HX0 : Hid (Blk (w.alloc (.cells #[.int .i64 kind, .int .i64 off, .int .i64 k, .string nm, .slice dA dl dc, .bool on, .slice kA kn kc] 41)) w.heap.size 41 [.int .i64 kind, .int .i64 off, .int .i64 k, .string nm, .slice dA dl dc, .bool on, .slice kA kn kc]) := Blk.new w _ _
  have H0 := Lib.hid (h.below HB0.out)
  have HIN := Lib.hid h.names
  clear h
  unfold Tv.op
  go_enter Try.func26, Try.ntmps26
  go_wp2_with fail
  generalize w.alloc (.cells #[.int .i64 kind, .int .i64 off, .int .i64 k, .string nm, .slice dA dl dc, .bool on, .slice kA kn kc] 41) = W at *
  refine (tpart_any T _ H0.out nm).mono ?_
  rintro e w2 ⟨r, rfl, hr, hb⟩
  have H2 := Lib.hid (H0.out.below hb)
  have c6 := H2.out.c6
  rw [hd] at c6
  obtain rfl := hr.is HIN.out hi hs
  have HB2 := Lib.hid (below_then HB0.out hb)
  have HX := HX0.out.below hb HX0.out.lt
  have x1 := HX.cell 1
  have x2 := HX.cell 2
  simp only [List.getElem?_cons_zero, List.getElem?_cons_succ] at x1 x2
  have HL := Lib.hid hl
  clear hb HX hl hd
  go_wp2_with fail
  refine (tin_any T w2 H2.out i p hi off k ho hm false (by simpa using HL.out)).mono ?_
  rintro e w3 ⟨rfl, rfl⟩
  go_wp2
  go_ret2
  exact ⟨rfl, HB2.out⟩
/-- What the twin reads of a piece that lies in a partition. -/
def GivesT (w : World) (T : Tv) (p : TRow) (off m : Nat) (e : Ending) (w' : World) : Prop :=
  (TSp p off m ∧ e = .returned (.tuple #[.slice none 0 0, .int .i64 41]) ∧ Below w.heap.size w w') ∨
  (¬ TSp p off m ∧ (∃ A c, e = .returned (.tuple #[.slice A m c, .int .i64 0]) ∧ Rd .u8 w' A m ((p.l.drop off).take m) ∧ ∀ ad, A = some ad → ad.block = p.bb) ∧ Tw w' { T with count := T.count + 1, told := T.told + m } ∧ Touch [T.t] w w')
theorem Tw.numbers {T : Tv} {w w' : World} (h : Tw w T) (lf : Int) (off : Bool) (ct td : Int) (t : Touch [T.t] w w') (hb : Blk w' T.t 34 ({ T with left := lf, off := off, count := ct, told := td } : Tv).cells) : Tw w' { T with left := lf, off := off, count := ct, told := td } := by
  refine h.upd lf T.armed T.ka T.kc T.keep off ct td t hb ?_ (fun h0 ad e => ⟨(h.keptOut h0 ad e).1, Nat.lt_of_lt_of_le (h.keptOut h0 ad e).2 t.size⟩) h.kcap
  rcases Nat.eq_zero_or_pos T.keep.length with h0 | h0
  · have e : T.keep = [] := List.eq_nil_of_length_eq_zero h0
    rw [e]
    exact fun hn => absurd hn (Nat.lt_irrefl _)
  · exact h.kept.touch t (fun ad e hm => (h.keptOut h0 ad e).1 (by rw [List.mem_singleton.1 hm]; exact tw_own_t T))
set_option maxHeartbeats 2000000 in
theorem tread_in (h : Tw w T) (o : OpV) (hd : T.off = false) (i : Nat) (p : TRow) (hi : T.rows[i]? = some p) (hs : p.nm = o.nm) (off m : Nat) (hof : o.off = off) (hom : o.n = m) (hl : off + m ≤ p.l.length) (hct : 0 ≤ T.count ∧ T.count ≤ 1000000 ∧ 0 ≤ T.told ∧ T.told ≤ 1000000000) :
    Calls Try.prog 26 #[.pointer (some ⟨T.t, 0, none⟩), Tv.op o] w (GivesT w T p off m) := by
  obtain ⟨kind, offx, k, nm, dA, dl, dc, db, on, kA, kn, kc, kp⟩ := o
  simp only [] at hof hom hs
  subst hof hom
  have HB0 : Hid (Below w.heap.size w (w.alloc (.cells #[.int .i64 kind, .int .i64 (off : Int), .int .i64 (m : Int), .string nm, .slice dA dl dc, .bool on, .slice kA kn kc] 41))) := (Below.refl _ _).alloc (Nat.le_refl _) _
  have HX0 : Hid (Blk (w.alloc (.cells #[.int .i64 kind, .int .i64 (off : Int), .int .i64 (m : Int), .string nm, .slice dA dl dc, .bool on, .slice kA kn kc] 41)) w.heap.size 41 [.int .i64 kind, .int .i64 (off : Int), .int .i64 (m : Int), .string nm, .slice dA dl dc, .bool on, .slice kA kn kc]) := Blk.new w _ _
  have H0 := Lib.hid (h.below HB0.out)
  have HIN := Lib.hid h.names
  have hp := List.mem_of_getElem? hi
  obtain ⟨n, hn⟩ : ∃ n, p.l.length = n := ⟨_, rfl⟩
  have hk16 : n ≤ 1000000 := by rw [← hn]; exact (h.size p hp).1
  have HSB : Hid (p.sb.length = n / 64) := by show _ = _; rw [← hn]; exact (h.size p hp).2.1
  have h64 : n % 64 = 0 := by rw [← hn]; exact (h.size p hp).2.2
  have HN := Lib.hid hn
  have hil := (List.getElem?_eq_some_iff.1 hi).1
  obtain ⟨N, hNN⟩ : ∃ N, T.rows.length = N := ⟨_, rfl⟩
  have hN16 : N ≤ 16 := by rw [← hNN]; exact h.few
  rw [hNN] at hil
  have zil : (i : Int) < (N : Int) := by omega
  have HROWS := Lib.hid hNN
  have HI := Lib.hid hi
  have HP := Lib.hid hp
  rw [hn] at hl
  obtain ⟨hc1, hc2, hc3, hc4⟩ := hct
  have hT : T.t < w.heap.size := h.blk.lt
  clear h hn hNN hp hi
  unfold Tv.op
  go_enter Try.func26, Try.ntmps26
  go_wp2_with fail
  generalize w.alloc (.cells #[.int .i64 kind, .int .i64 (off : Int), .int .i64 (m : Int), .string nm, .slice dA dl dc, .bool on, .slice kA kn kc] 41) = W at *
  refine (tpart_any T _ H0.out nm).mono ?_
  rintro e w2 ⟨r, rfl, hr, hb⟩
  have H2 := Lib.hid (H0.out.below hb)
  have c6 := H2.out.c6
  rw [hd] at c6
  obtain rfl := hr.is HIN.out HI.out hs
  have HB2 := Lib.hid (below_then HB0.out hb)
  have HX := Lib.hid (HX0.out.below hb HX0.out.lt)
  have x1 := HX.out.cell 1
  have x2 := HX.out.cell 2
  simp only [List.getElem?_cons_zero, List.getElem?_cons_succ] at x1 x2
  clear hb hd hr
  go_wp2_with fail
  refine (tin_any T w2 H2.out i p HI.out (off : Int) (m : Int) ⟨by omega, by omega⟩ ⟨by omega, by omega⟩ true (by rw [HN.out]; unfold Lies; exact ⟨fun _ => ⟨by omega, by omega, by omega⟩, fun _ => rfl⟩)).mono ?_
  rintro e w3 ⟨rfl, rfl⟩
  have c2 := H2.out.blk.cell 2
  rw [show T.cells[2]? = some (.slice T.sa T.rows.length T.sc) from rfl, HROWS.out] at c2
  obtain ⟨ads, es, _, hcs⟩ := H2.out.tabS (by simp; rw [HROWS.out]; omega)
  have c3 := hcs i p.sv (by simp [HI.out])
  rw [es] at c2
  unfold TRow.sv at c3
  rw [HSB.out] at c3
  have HC3 : Hid (∀ j, j < n / 64 → w2.cell? ⟨p.mm, j, none⟩ = some (.bool (p.sb.getD j false))) := fun j hj => by
    rw [(H2.out.bads p HP.out).cell]
    exact getB (by rw [HSB.out]; exact hj)
  obtain ⟨S, hS⟩ : ∃ S, n / 64 = S := ⟨_, rfl⟩
  have HSS := Lib.hid hS
  rw [hS] at c3 HC3
  have hS16 : S ≤ 20000 := by omega
  clear hcs es hS
  go_wp2
  go_loopw [31] (fun a wr => ∃ k d : Nat, a = .int .i64 (k : Int) ∧ k ≤ m ∧ wr = w2.drewN d ∧ Hid (∀ j, off ≤ j → j < off + k → p.sb.getD (j / 64) false = false)) (fun a _ => m - (intOf a).toNat)
  case atStart => exact ⟨0, 0, rfl, Nat.zero_le _, rfl, fun j h1 h2 => by omega⟩
  case round =>
    obtain ⟨k, d, rfl, hkm, rfl, HA⟩ := hrel
    by_cases hlt : k < m
    · have zlt : (k : Int) < (m : Int) := by omega
      obtain ⟨s, hs1⟩ : ∃ s, off + k = s := ⟨_, rfl⟩
      obtain ⟨q, hq⟩ : ∃ q, s / 64 = q := ⟨_, rfl⟩
      have q1 : IntKind.i64.wrap ((off : Int) + (k : Int)) = (s : Int) := by rw [IntKind.wrap_i64]; omega
      have q2 : (s : Int) / 64 = (q : Int) := by omega
      have q3 : Int.tdiv (s : Int) 64 = (q : Int) := by rw [Int.tdiv_eq_ediv_of_nonneg (by omega)]; exact q2
      have zq : (q : Int) < (S : Int) := by have := HSS.out; omega
      have hqS : q < S := by omega
      obtain ⟨b, hb⟩ : ∃ b, p.sb.getD q false = b := ⟨_, rfl⟩
      have c4 := HC3.out q hqS
      rw [hb] at c4
      have HBQ := Lib.hid hb
      have HSQ : Hid (off + k = s ∧ s / 64 = q) := ⟨hs1, hq⟩
      clear hb hs1 hq
      go_wp2_with fail
      go_quiet (fail)
      cases b with
      | true =>
        go_wp2
        go_ret2
        exact .inl ⟨⟨s, by have := HSQ.out; omega, by have := HSQ.out; omega, by rw [HSQ.out.2]; exact HBQ.out⟩, rfl, below_drewN (below_drewN HB2.out _) _⟩
      | false =>
        go_wp2
        go_roundw
        case rel =>
          refine ⟨k + 1, _, by go_num, by omega, rfl, fun j h1 h2 => ?_⟩
          by_cases hj : j < off + k
          · exact HA.out j h1 hj
          · have : j = s := by have := HSQ.out.1; omega
            rw [this, HSQ.out.2]; exact HBQ.out
        case measure => simp [intOf]; omega
    · obtain rfl : k = m := by omega
      have HNS : Hid (¬ TSp p off k) := fun ⟨j, h1, h2, h3⟩ => by
        rw [HA.out j h1 h2] at h3; cases h3
      have c7 := H2.out.blk.cell 7
      have c8 := H2.out.blk.cell 8
      have c1 := H2.out.blk.cell 1
      rw [show T.cells[7]? = some (.int .i64 T.count) from rfl] at c7
      rw [show T.cells[8]? = some (.int .i64 T.told) from rfl] at c8
      rw [show T.cells[1]? = some (.slice T.ba T.rows.length T.bc) from rfl, HROWS.out] at c1
      obtain ⟨adb, eb, _, hcb⟩ := H2.out.tabB (by simp; rw [HROWS.out]; omega)
      have c9 := hcb i p.bv (by simp [HI.out])
      rw [eb] at c1
      unfold TRow.bv at c9
      rw [HN.out] at c9
      have z7 := H2.out.blk.frozen 7
      have z8 := H2.out.blk.frozen 8
      have q1 : IntKind.i64.wrap (T.count + 1) = T.count + 1 := by rw [IntKind.wrap_i64]; omega
      have q2 : IntKind.i64.wrap (T.told + (k : Int)) = T.told + k := by rw [IntKind.wrap_i64]; omega
      have HD := Lib.hid (H2.out.below (below_drewN (Below.refl _ w2) d))
      have HBD := Lib.hid (below_drewN HB2.out d)
      have HXD := Lib.hid (HX.out.drewN d)
      clear hcb eb c2 c3
      go_wp2_with fail
      have t4 : Touch [T.t] (w2.drewN d) ((w2.drewN d).setCell ⟨T.t, 7, none⟩ (.int .i64 (T.count + 1))) := (Touch.refl _ _).setCell (p := ⟨T.t, 7, none⟩) (.inl (by simp)) _
      have H4 : Hid (Tw ((w2.drewN d).setCell ⟨T.t, 7, none⟩ (.int .i64 (T.count + 1))) { T with count := T.count + 1 }) := HD.out.numbers T.left T.off (T.count + 1) T.told t4 (HD.out.blk.set_ 7 _)
      have hTn : w.heap.size ∉ [T.t] := fun hm => by have := List.mem_singleton.1 hm; omega
      have HX4 := Lib.hid (HXD.out.touch t4 hTn)
      have HT4 := Lib.hid ((Touch.of_below [T.t] HBD.out).trans t4)
      clear t4 c1 c7 c8 c9 z7 z8 x1 x2 c6
      generalize (w2.drewN d).setCell ⟨T.t, 7, none⟩ (.int .i64 (T.count + 1)) = W4 at *
      have c8 : W4.cell? ⟨T.t, 8, none⟩ = some (.int .i64 T.told) := H4.out.blk.cell 8
      have z8 : W4.frozen? ⟨T.t, 8, none⟩ = false := H4.out.blk.frozen 8
      have x2 := HX4.out.cell 2
      simp only [List.getElem?_cons_zero, List.getElem?_cons_succ] at x2
      go_still_tail 9, (by kernel_rfl)
      change wpList _ _ _ _ _ W4.drew
      have H5 := Lib.hid (H4.out.below (below_drewN (Below.refl _ W4) 1))
      have HX5 := Lib.hid (HX4.out.drewN 1)
      have HT5 : Hid (Touch [T.t] w W4.drew) := HT4.out.drewN 1
      clear c8 z8 x2
      have z8 : W4.drew.frozen? ⟨T.t, 8, none⟩ = false := H5.out.blk.frozen 8
      have c8 : W4.drew.cell? ⟨T.t, 8, none⟩ = some (.int .i64 T.told) := H5.out.blk.cell 8
      change Hid (Tw W4.drew _) at H5
      change Hid (Blk W4.drew _ _ _) at HX5
      generalize W4.drew = W5 at *
      go_wp2_with fail
      have t6 : Touch [T.t] W5 (W5.setCell ⟨T.t, 8, none⟩ (.int .i64 (T.told + (k : Int)))) := (Touch.refl _ _).setCell (p := ⟨T.t, 8, none⟩) (.inl (by simp)) _
      have H6 : Hid (Tw (W5.setCell ⟨T.t, 8, none⟩ (.int .i64 (T.told + (k : Int)))) { T with count := T.count + 1, told := T.told + (k : Int) }) := H5.out.numbers T.left T.off (T.count + 1) (T.told + (k : Int)) t6 (H5.out.blk.set_ 8 _)
      have HX6 := Lib.hid (HX5.out.touch t6 hTn)
      have HT6 := Lib.hid (HT5.out.trans t6)
      clear t6 c8 z8
      generalize W5.setCell ⟨T.t, 8, none⟩ (.int .i64 (T.told + (k : Int))) = W6 at *
      have c1 : W6.cell? ⟨T.t, 1, none⟩ = some (.slice T.ba T.rows.length T.bc) := H6.out.blk.cell 1
      obtain ⟨adb, eb, _, hcb⟩ := H6.out.tabB (by simp; rw [HROWS.out]; omega)
      have c9 := hcb i p.bv (by simp [HI.out])
      simp only [] at eb
      rw [eb, HROWS.out] at c1
      unfold TRow.bv at c9
      rw [HN.out] at c9
      have x1 := HX6.out.cell 1
      have x2 := HX6.out.cell 2
      simp only [List.getElem?_cons_zero, List.getElem?_cons_succ] at x1 x2
      have q3 : IntKind.i64.wrap ((off : Int) + (k : Int)) = ((off + k : Nat) : Int) := by rw [IntKind.wrap_i64]; omega
      clear hcb eb q1 q2
      have HFIN : Hid (∀ (q : Nat) (A : Option Addr) (c : Nat), (A = some ⟨p.bb, off, none⟩ ∨ (n = off ∧ A = some ⟨p.bb, 0, none⟩)) → GivesT w T p off k (.returned (.tuple #[.slice A k c, .int .i64 0])) (W6.drewN q)) := fun q A c hA => by
        refine .inr ⟨HNS.out, ⟨A, c, rfl, ?_, ?_⟩, H6.out.below (below_drewN (Below.refl _ W6) _), HT6.out.drewN _⟩
        · rcases hA with rfl | ⟨e, rfl⟩
          · exact ((H6.out.bytes p HP.out).rdAt off k rfl (by rw [HN.out]; exact hl)).drewN q
          · obtain rfl : k = 0 := by omega
            rw [List.take_zero]
            exact Rd.nil _ _ _
        · intro ad e
          rcases hA with rfl | ⟨_, rfl⟩ <;> injection e with e <;> rw [← e]
      go_quiet (fail)
      go_wp2
      all_goals go_ret2
      trace_state
      all_goals exact HFIN.out _ _ _ (by simp; try omega)
end
end Go.Proofs.Ytonjmbcagdkdiaa
