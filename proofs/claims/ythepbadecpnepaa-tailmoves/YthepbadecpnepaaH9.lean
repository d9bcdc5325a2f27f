/-
  What Store answers, and what it writes: the blob behind its data, and then the tail. No condition but that the drive is on.
-/
import Derived.Test.YthepbadecpnepaaH8
namespace Go.Proofs.Ythepbadecpnepaa
open Go.RowKit Go.MapKept
set_option linter.unusedVariables false
set_option linter.unusedSimpArgs false
set_option maxRecDepth 100000

/-- A drive one partition of which holds other bytes. -/
def Dv.wr (D : Dv) (i : Nat) (p : Pt) (l : List Nat) (dn : Bool) (lf : Int) : Dv := { D.put i { p with l := l } with down := dn, left := lf }
theorem Dv.wr_own {D : Dv} {i : Nat} {p : Pt} (h : D.pts[i]? = some p) (l : List Nat) (dn : Bool) (lf : Int) : (D.wr i p l dn lf).own = D.own := own_put h rfl rfl
theorem Dv.wr_at {D : Dv} {i : Nat} {p : Pt} (h : D.pts[i]? = some p) (l : List Nat) (dn : Bool) (lf : Int) : (D.wr i p l dn lf).pts[i]? = some { p with l := l } := by
  have hi := (List.getElem?_eq_some_iff.1 h).1
  show (D.pts.set i { p with l := l })[i]? = _
  rw [List.getElem?_set_self hi]
theorem Dv.wr_wr (D : Dv) (i : Nat) (p : Pt) (l1 l : List Nat) (d1 dn : Bool) (f1 lf : Int) : (D.wr i p l1 d1 f1).wr i { p with l := l1 } l dn lf = D.wr i p l dn lf := by
  simp [Dv.wr, Dv.put, List.set_set]
/-- What is stored. -/
def stored (l : List Nat) (U : Nat) (bs : List Nat) (a : Nat) : List Nat := splice (splice l U bs) (l.length - 64) (tbytes a U bs.length)
set_option maxHeartbeats 2000000 in
theorem Store_form (D : Dv) (w : World) (h : Drv w D) (hd : D.down = false) (i : Nat) (p : Pt) (hi : D.pts[i]? = some p) (s : ByteArray) (hs : p.nm = s) (A : Option Addr) (m c : Nat) (hm : m ≤ 9223372036854775807) (a : Int) (h1 : a < 0 ∨ m < 1 ∨ 65536 < m) :
    Calls Try.prog 21 #[.pointer (some ⟨D.g, 0, none⟩), .string s, .int .i64 a, .slice A m c] w (Fails w (.int .i64 12)) := by
  have hp := List.mem_of_getElem? hi
  have HSZ := Size_yes D w h p hp s hs
  obtain ⟨n, hn⟩ : ∃ n, p.l.length = n := ⟨_, rfl⟩
  rw [hn] at HSZ
  have HSZ := Lib.hid HSZ
  clear h hi hs hp hn
  by_cases ha : a < 0
  · go_enter Try.func21, Try.ntmps21
    go_wp2_with fail
    refine HSZ.out.mono ?_
    rintro e w1 ⟨rfl, hb1⟩
    go_wp2
    go_ret
    exact ⟨rfl, hb1⟩
  · have HTS := Lib.hid (fun w => tsizeRight_any (m : Int) w false (decide_eq_false (by omega)))
    clear h1
    go_enter Try.func21, Try.ntmps21
    go_wp2_with fail
    refine HSZ.out.mono ?_
    rintro e w1 ⟨rfl, hb1⟩
    go_wp2_with fail
    refine (HTS.out _).mono ?_
    rintro e w2 ⟨rfl, rfl⟩
    go_wp2
    go_ret
    exact ⟨rfl, hb1⟩
set_option maxHeartbeats 2000000 in
theorem Store_full (D : Dv) (w : World) (h : Drv w D) (hd : D.down = false) (i : Nat) (p : Pt) (hi : D.pts[i]? = some p) (s : ByteArray) (hs : p.nm = s) (A : Option Addr) (m c : Nat) (h1 : 1 ≤ m) (h2 : m ≤ 65536) (a : Nat) (ha : a ≤ 9223372036854775807) (hfull : ¬ up a + m ≤ p.l.length - 64) :
    Calls Try.prog 21 #[.pointer (some ⟨D.g, 0, none⟩), .string s, .int .i64 (a : Int), .slice A m c] w (Fails w (.int .i64 43)) := by
  have hp := List.mem_of_getElem? hi
  have HSZ := Size_yes D w h p hp s hs
  have hsz := h.size p hp
  obtain ⟨n, hn⟩ : ∃ n, p.l.length = n := ⟨_, rfl⟩
  obtain ⟨r, hr⟩ : ∃ r, n - 64 = r := ⟨_, rfl⟩
  rw [hn] at HSZ hsz
  have HSZ := Lib.hid HSZ
  have hrn : r + 64 = n := by omega
  have hn2 : n ≤ 1048576 := by omega
  have HTE : Hid (∀ w, Calls Try.prog 40 #[.int .i64 (n : Int)] w fun e w' => e = .returned (.int .i64 (r : Int)) ∧ w = w') := fun w => tend_m n r w hrn hn2
  have HTS := Lib.hid (fun w => tsizeRight_any (m : Int) w true (decide_eq_true (by omega)))
  have HLA : Hid (∀ w, ∃ x y z, Calls Try.prog 39 #[.int .i64 (a : Int), .int .i64 (m : Int), .int .i64 (r : Int)] w (GivesLay w x y z false)) := fun w => by
    by_cases har : a ≤ r
    · exact ⟨_, _, _, lay_yes a m r (up a) w har (by omega) h2 rfl false (decide_eq_false (by rw [hn, hr] at hfull; exact hfull))⟩
    · exact ⟨_, _, _, lay_no a m r w (by omega)⟩
  clear h hi hs hp hn hsz hfull hr
  go_enter Try.func21, Try.ntmps21
  go_wp2_with fail
  refine HSZ.out.mono ?_
  rintro e w1 ⟨rfl, hb1⟩
  go_wp2_with fail
  refine (HTS.out _).mono ?_
  rintro e w2 ⟨rfl, rfl⟩
  go_wp2_with fail
  refine (HTE.out _).mono ?_
  rintro e w2 ⟨rfl, rfl⟩
  go_wp2_with fail
  obtain ⟨x, y, z, HL⟩ := HLA.out w1
  refine HL.mono ?_
  rintro e w2 ⟨rfl, hb2⟩
  have H2 : Hid (Below w.heap.size w w2) := hb1.trans (hb2.mono hb1.size)
  clear hb1 hb2 HL
  have H3 : Hid (Below w2.heap.size w2 (w2.alloc (.cells #[.int .i64 0, .int .i64 0, .int .i64 0] 23)) ∧ Blk (w2.alloc (.cells #[.int .i64 0, .int .i64 0, .int .i64 0] 23)) w2.heap.size 23 tz) := ⟨(Below.refl _ _).alloc (Nat.le_refl _) _, Blk.new w2 _ tz⟩
  go_wp2_with ((with_reducible refine at_dst none ?_); refine wpList_storeBlk (op := ⟨none, _, _, _, _, _⟩) rfl 23 (.tmp 11) (.tmp 40) rfl (g := w2.heap.size) (t := 23) (old := tz) (cs := tcells x y z) rfl rfl H3.out.2 rfl iT (tcells_one _ _ _) ?_; intro u0 hU0 hT0; have HT0 := Lib.hid hT0; clear hT0)
  go_ret
  exact ⟨rfl, (H2.out.trans (H3.out.1.mono H2.out.size)).trans (HT0.out.below (fun y hy => by rw [List.mem_singleton.1 hy]; exact H2.out.size) (Nat.le_trans H2.out.size H3.out.1.size))⟩
set_option maxHeartbeats 8000000 in
theorem Store_ok (D : Dv) (w : World) (h : Drv w D) (hd : D.down = false) (i : Nat) (p : Pt) (hi : D.pts[i]? = some p) (s : ByteArray) (hs : p.nm = s) (hl : D.left < 0) (A : Option Addr) (m c : Nat) (bs : List Nat) (hb : Rd .u8 w A m bs) (hf : Fit 256 bs) (hmc : m ≤ c) (hcx : c ≤ 9223372036854775807) (hA : 0 < m → ∀ ad, A = some ad → ad.block ∉ D.own) (h1 : 1 ≤ m) (h2 : m ≤ 65536) (a : Nat) (U : Nat) (hU : up a = U) (hroom : U + m ≤ p.l.length - 64) :
    Calls Try.prog 21 #[.pointer (some ⟨D.g, 0, none⟩), .string s, .int .i64 (a : Int), .slice A m c] w (Writes w D (D.wr i p (stored p.l U bs a) D.down D.left) 0) := by
  have hp := List.mem_of_getElem? hi
  have HSZ := Size_yes D w h p hp s hs
  have hsz := h.size p hp
  obtain ⟨n, hn⟩ : ∃ n, p.l.length = n := ⟨_, rfl⟩
  obtain ⟨r, hr⟩ : ∃ r, n - 64 = r := ⟨_, rfl⟩
  rw [hn] at HSZ hsz
  have HSZ := Lib.hid HSZ
  have hrn : r + 64 = n := by omega
  have hn2 : n ≤ 1048576 := by omega
  have HTE : Hid (∀ w, Calls Try.prog 40 #[.int .i64 (n : Int)] w fun e w' => e = .returned (.int .i64 (r : Int)) ∧ w = w') := fun w => tend_m n r w hrn hn2
  have HTS := Lib.hid (fun w => tsizeRight_any (m : Int) w true (decide_eq_true (by omega)))
  have hab := up_le a
  rw [hU] at hab
  rw [hn, hr] at hroom
  have HLA : Hid (∀ w, Calls Try.prog 39 #[.int .i64 (a : Int), .int .i64 (m : Int), .int .i64 (r : Int)] w (GivesLay w a U m true)) := fun w => lay_yes a m r U w (by omega) (by omega) h2 hU true (decide_eq_true hroom)
  have HLT : Hid (∀ b ∈ D.own, b < w.heap.size) := h.lt
  have HFR : Hid (∀ b, w.heap.size ≤ b → D.far b) := fun b hb => h.far_new hb
  have hlb := hb.1
  have HTO : Hid (TOk a U m) := by show TOk _ _ _; unfold TOk; omega
  have HR : Hid (0 < m → ∀ ad, A = some ad → ad.block < w.heap.size) := fun h => hb.lt h
  have HLN : Hid (p.l.length = n ∧ U + m ≤ n ∧ r + 64 = n ∧ bs.length = m) := ⟨hn, by omega, hrn, hlb⟩
  have HW1 : Hid (∀ w', Drv w' D → Rd .u8 w' A m bs → Calls Try.prog 17 #[.pointer (some ⟨D.g, 0, none⟩), .string s, .int .i64 (U : Int), .slice A m c] w' (Writes w' D (D.wr i p (splice p.l U bs) D.down D.left) 0)) := fun w' hD hr => Write_ok D w' hD hd D.left (by omega) i p hi s hs U A m c bs hr hf hmc hcx hA (by omega)
  have hr0 : n - 64 = r := hr
  have HW2 : Hid (∀ w', Drv w' (D.wr i p (splice p.l U bs) D.down D.left) → ∀ A2, Rd .u8 w' A2 64 (tbytes a U m) → (∀ ad, A2 = some ad → ad.block ∉ D.own) → Calls Try.prog 17 #[.pointer (some ⟨D.g, 0, none⟩), .string s, .int .i64 (r : Int), .slice A2 64 64] w' fun e w'' => e = .returned (.int .i64 0) ∧ Drv w'' (D.wr i p (stored p.l U bs a) D.down D.left) ∧ Touch D.own w' w'') := fun w' hD A2 hr hA2 => by
    have := Write_ok (D.wr i p (splice p.l U bs) D.down D.left) w' hD hd D.left (.inl ⟨hl, rfl⟩) i { p with l := splice p.l U bs } (Dv.wr_at hi _ _ _) s hs r A2 64 64 (tbytes a U m) hr (tbytes_fit _ _ _) (by omega) (by omega) (fun _ ad e => by rw [Dv.wr_own hi]; exact hA2 ad e) (by show r + 64 ≤ (splice p.l U bs).length; rw [length_splice _ _ _ (by omega)]; omega)
    refine this.mono ?_
    rintro e w'' ⟨he, hD2, hT2⟩
    rw [Dv.wr_own hi] at hT2
    refine ⟨he, ?_, hT2⟩
    have e2 := Dv.wr_wr D i p (splice p.l U bs) (stored p.l U bs a) D.down D.down D.left D.left
    rw [← e2]
    have e3 : stored p.l U bs a = splice (splice p.l U bs) r (tbytes a U m) := by unfold stored; rw [hlb, hn, hr0]
    rw [e3]
    exact hD2
  clear hr0
  have HHB : Hid (Rd .u8 w A m bs ∧ Drv w D) := ⟨hb, h⟩
  clear hs hp hn hsz hr hU hlb hab hroom h hb hA hf hd hcx hi
  go_enter Try.func21, Try.ntmps21
  go_wp2_with fail
  refine HSZ.out.mono ?_
  rintro e w1 ⟨rfl, hb1⟩
  go_wp2_with fail
  refine (HTS.out _).mono ?_
  rintro e w2 ⟨rfl, rfl⟩
  go_wp2_with fail
  refine (HTE.out _).mono ?_
  rintro e w2 ⟨rfl, rfl⟩
  go_wp2_with fail
  refine (HLA.out w1).mono ?_
  rintro e w2 ⟨rfl, hb2⟩
  have H2 : Hid (Below w.heap.size w w2) := hb1.trans (hb2.mono hb1.size)
  clear hb1 hb2
  have H3 : Hid (Below w2.heap.size w2 (w2.alloc (.cells #[.int .i64 0, .int .i64 0, .int .i64 0] 23)) ∧ Blk (w2.alloc (.cells #[.int .i64 0, .int .i64 0, .int .i64 0] 23)) w2.heap.size 23 tz) := ⟨(Below.refl _ _).alloc (Nat.le_refl _) _, Blk.new w2 _ tz⟩
  go_wp2_with ((with_reducible refine at_dst none ?_); refine wpList_storeBlk (op := ⟨none, _, _, _, _, _⟩) rfl 23 (.tmp 11) (.tmp 40) rfl (g := w2.heap.size) (t := 23) (old := tz) (cs := tcells a U m) rfl rfl H3.out.2 rfl iT (tcells_one _ _ _) ?_; intro u0 hU0 hT0; have HT0 := Lib.hid hT0; clear hT0; have C1 : u0.cell? ⟨w2.heap.size, 1, none⟩ = some (.int .i64 (U : Int)) := hU0.out.cell 1)
  have HB0 : Hid (Below w.heap.size w u0) := (H2.out.trans (H3.out.1.mono H2.out.size)).trans (HT0.out.below (fun y hy => by rw [List.mem_singleton.1 hy]; exact H2.out.size) (Nat.le_trans H2.out.size H3.out.1.size))
  refine (HW1.out u0 (HHB.out.2.below HB0.out) (HHB.out.1.below HB0.out)).mono ?_
  rintro e w3 ⟨rfl, hD3, hT3⟩
  have H5 : Hid (Drv w3 (D.wr i p (splice p.l U bs) D.down D.left) ∧ Touch D.own w w3) := ⟨hD3, (Touch.of_below _ HB0.out : Touch D.own w u0).trans hT3⟩
  have HX : Hid (Blk w3 w2.heap.size 23 (tcells a U m)) := hU0.out.touch hT3 (fun hm => by have h1 := HLT.out _ hm; have h2 := H2.out.size; omega)
  obtain ⟨d0, hu0, hd0⟩ := uT
  have HSX : Hid (w.heap.size ≤ w3.heap.size) := H5.out.2.size
  clear hD3 hT3
  go_wp2_with ((with_reducible refine at_dst (some 54) ?_); refine wpList_loadAt (op := ⟨some 54, _, _, _, _, _⟩) rfl 23 (.tmp 11) rfl ⟨w2.heap.size, 0, none⟩ rfl (tcells a U m) d0 HX.out.at hu0 hd0 iT ?_)
  refine (Encode_ok a U m w3 HTO.out).mono ?_
  rintro e w4 ⟨g2, rfl, hg2, hB4, hb4⟩
  have H6 : Hid (Drv w4 (D.wr i p (splice p.l U bs) D.down D.left) ∧ Touch D.own w w4 ∧ Rd .u8 w4 (some ⟨g2, 0, none⟩) 64 (tbytes a U m)) := ⟨H5.out.1.below hb4, H5.out.2.then_below hb4, hB4.rd 64 (tbytes_length _ _ _)⟩
  have HG2 : Hid (∀ ad, (some ⟨g2, 0, none⟩ : Option Addr) = some ad → ad.block ∉ D.own) := fun ad e hm => by
    injection e with e
    subst e
    have h1 := HLT.out _ hm
    have h2 := HSX.out
    simp at h1
    omega
  clear hg2 hB4 hb4
  go_wp2_with fail
  refine (HTE.out _).mono ?_
  rintro e w5 ⟨rfl, rfl⟩
  go_wp2_with fail
  refine (HW2.out w4 H6.out.1 (some ⟨g2, 0, none⟩) H6.out.2.2 HG2.out).mono ?_
  rintro e w5 ⟨rfl, hD5, hT5⟩
  have H7 : Hid (Drv w5 (D.wr i p (stored p.l U bs a) D.down D.left) ∧ Touch D.own w w5) := ⟨hD5, H6.out.2.1.trans hT5⟩
  clear hD5 hT5
  go_wp2
  go_ret
  exact ⟨rfl, H7.out⟩

set_option maxHeartbeats 8000000 in
theorem Store_torn1 (D : Dv) (w : World) (h : Drv w D) (hd : D.down = false) (i : Nat) (p : Pt) (hi : D.pts[i]? = some p) (s : ByteArray) (hs : p.nm = s) (hl : D.left = 0) (A : Option Addr) (m c : Nat) (bs : List Nat) (hb : Rd .u8 w A m bs) (hf : Fit 256 bs) (hmc : m ≤ c) (hcx : c ≤ 9223372036854775807) (hA : 0 < m → ∀ ad, A = some ad → ad.block ∉ D.own) (h1 : 1 ≤ m) (h2 : m ≤ 65536) (a : Nat) (U : Nat) (hU : up a = U) (hroom : U + m ≤ p.l.length - 64) :
    Calls Try.prog 21 #[.pointer (some ⟨D.g, 0, none⟩), .string s, .int .i64 (a : Int), .slice A m c] w (Writes w D (D.wr i p (torn p.l bs U m D.keep) true D.left) 42) := by
  have hp := List.mem_of_getElem? hi
  have HSZ := Size_yes D w h p hp s hs
  have hsz := h.size p hp
  obtain ⟨n, hn⟩ : ∃ n, p.l.length = n := ⟨_, rfl⟩
  obtain ⟨r, hr⟩ : ∃ r, n - 64 = r := ⟨_, rfl⟩
  rw [hn] at HSZ hsz
  have HSZ := Lib.hid HSZ
  have hrn : r + 64 = n := by omega
  have hn2 : n ≤ 1048576 := by omega
  have HTE : Hid (∀ w, Calls Try.prog 40 #[.int .i64 (n : Int)] w fun e w' => e = .returned (.int .i64 (r : Int)) ∧ w = w') := fun w => tend_m n r w hrn hn2
  have HTS := Lib.hid (fun w => tsizeRight_any (m : Int) w true (decide_eq_true (by omega)))
  have hab := up_le a
  rw [hU] at hab
  rw [hn, hr] at hroom
  have HLA : Hid (∀ w, Calls Try.prog 39 #[.int .i64 (a : Int), .int .i64 (m : Int), .int .i64 (r : Int)] w (GivesLay w a U m true)) := fun w => lay_yes a m r U w (by omega) (by omega) h2 hU true (decide_eq_true hroom)
  have HLT : Hid (∀ b ∈ D.own, b < w.heap.size) := h.lt
  have HFR : Hid (∀ b, w.heap.size ≤ b → D.far b) := fun b hb => h.far_new hb
  have hlb := hb.1
  have HTO : Hid (TOk a U m) := by show TOk _ _ _; unfold TOk; omega
  have HR : Hid (0 < m → ∀ ad, A = some ad → ad.block < w.heap.size) := fun h => hb.lt h
  have HLN : Hid (p.l.length = n ∧ U + m ≤ n ∧ r + 64 = n ∧ bs.length = m) := ⟨hn, by omega, hrn, hlb⟩
  have HW1 : Hid (∀ w', Drv w' D → Rd .u8 w' A m bs → Calls Try.prog 17 #[.pointer (some ⟨D.g, 0, none⟩), .string s, .int .i64 (U : Int), .slice A m c] w' (Writes w' D (D.wr i p (torn p.l bs U m D.keep) true D.left) 42)) := fun w' hD hr => Write_torn D w' hD hd hl i p hi s hs U A m c bs hr hf hmc hcx hA (by omega)

  have HHB : Hid (Rd .u8 w A m bs ∧ Drv w D) := ⟨hb, h⟩
  clear hs hp hn hsz hr hU hlb hab hroom h hb hA hf hd hcx hi
  go_enter Try.func21, Try.ntmps21
  go_wp2_with fail
  refine HSZ.out.mono ?_
  rintro e w1 ⟨rfl, hb1⟩
  go_wp2_with fail
  refine (HTS.out _).mono ?_
  rintro e w2 ⟨rfl, rfl⟩
  go_wp2_with fail
  refine (HTE.out _).mono ?_
  rintro e w2 ⟨rfl, rfl⟩
  go_wp2_with fail
  refine (HLA.out w1).mono ?_
  rintro e w2 ⟨rfl, hb2⟩
  have H2 : Hid (Below w.heap.size w w2) := hb1.trans (hb2.mono hb1.size)
  clear hb1 hb2
  have H3 : Hid (Below w2.heap.size w2 (w2.alloc (.cells #[.int .i64 0, .int .i64 0, .int .i64 0] 23)) ∧ Blk (w2.alloc (.cells #[.int .i64 0, .int .i64 0, .int .i64 0] 23)) w2.heap.size 23 tz) := ⟨(Below.refl _ _).alloc (Nat.le_refl _) _, Blk.new w2 _ tz⟩
  go_wp2_with ((with_reducible refine at_dst none ?_); refine wpList_storeBlk (op := ⟨none, _, _, _, _, _⟩) rfl 23 (.tmp 11) (.tmp 40) rfl (g := w2.heap.size) (t := 23) (old := tz) (cs := tcells a U m) rfl rfl H3.out.2 rfl iT (tcells_one _ _ _) ?_; intro u0 hU0 hT0; have HT0 := Lib.hid hT0; clear hT0; have C1 : u0.cell? ⟨w2.heap.size, 1, none⟩ = some (.int .i64 (U : Int)) := hU0.out.cell 1)
  have HB0 : Hid (Below w.heap.size w u0) := (H2.out.trans (H3.out.1.mono H2.out.size)).trans (HT0.out.below (fun y hy => by rw [List.mem_singleton.1 hy]; exact H2.out.size) (Nat.le_trans H2.out.size H3.out.1.size))
  refine (HW1.out u0 (HHB.out.2.below HB0.out) (HHB.out.1.below HB0.out)).mono ?_
  rintro e w3 ⟨rfl, hD3, hT3⟩
  have H5 : Hid (Drv w3 (D.wr i p (torn p.l bs U m D.keep) true D.left) ∧ Touch D.own w w3) := ⟨hD3, (Touch.of_below _ HB0.out : Touch D.own w u0).trans hT3⟩
  clear hD3 hT3
  go_wp2
  go_ret
  exact ⟨rfl, H5.out⟩

set_option maxHeartbeats 8000000 in
theorem Store_torn2 (D : Dv) (w : World) (h : Drv w D) (hd : D.down = false) (i : Nat) (p : Pt) (hi : D.pts[i]? = some p) (s : ByteArray) (hs : p.nm = s) (hl : D.left = 1) (A : Option Addr) (m c : Nat) (bs : List Nat) (hb : Rd .u8 w A m bs) (hf : Fit 256 bs) (hmc : m ≤ c) (hcx : c ≤ 9223372036854775807) (hA : 0 < m → ∀ ad, A = some ad → ad.block ∉ D.own) (h1 : 1 ≤ m) (h2 : m ≤ 65536) (a : Nat) (U : Nat) (hU : up a = U) (hroom : U + m ≤ p.l.length - 64) :
    Calls Try.prog 21 #[.pointer (some ⟨D.g, 0, none⟩), .string s, .int .i64 (a : Int), .slice A m c] w (Writes w D (D.wr i p (torn (splice p.l U bs) (tbytes a U m) (p.l.length - 64) 64 D.keep) true 0) 42) := by
  have hp := List.mem_of_getElem? hi
  have HSZ := Size_yes D w h p hp s hs
  have hsz := h.size p hp
  obtain ⟨n, hn⟩ : ∃ n, p.l.length = n := ⟨_, rfl⟩
  obtain ⟨r, hr⟩ : ∃ r, n - 64 = r := ⟨_, rfl⟩
  rw [hn] at HSZ hsz
  have HSZ := Lib.hid HSZ
  have hrn : r + 64 = n := by omega
  have hn2 : n ≤ 1048576 := by omega
  have HTE : Hid (∀ w, Calls Try.prog 40 #[.int .i64 (n : Int)] w fun e w' => e = .returned (.int .i64 (r : Int)) ∧ w = w') := fun w => tend_m n r w hrn hn2
  have HTS := Lib.hid (fun w => tsizeRight_any (m : Int) w true (decide_eq_true (by omega)))
  have hab := up_le a
  rw [hU] at hab
  rw [hn, hr] at hroom
  have HLA : Hid (∀ w, Calls Try.prog 39 #[.int .i64 (a : Int), .int .i64 (m : Int), .int .i64 (r : Int)] w (GivesLay w a U m true)) := fun w => lay_yes a m r U w (by omega) (by omega) h2 hU true (decide_eq_true hroom)
  have HLT : Hid (∀ b ∈ D.own, b < w.heap.size) := h.lt
  have HFR : Hid (∀ b, w.heap.size ≤ b → D.far b) := fun b hb => h.far_new hb
  have hlb := hb.1
  have HTO : Hid (TOk a U m) := by show TOk _ _ _; unfold TOk; omega
  have HR : Hid (0 < m → ∀ ad, A = some ad → ad.block < w.heap.size) := fun h => hb.lt h
  have HLN : Hid (p.l.length = n ∧ U + m ≤ n ∧ r + 64 = n ∧ bs.length = m) := ⟨hn, by omega, hrn, hlb⟩
  have HW1 : Hid (∀ w', Drv w' D → Rd .u8 w' A m bs → Calls Try.prog 17 #[.pointer (some ⟨D.g, 0, none⟩), .string s, .int .i64 (U : Int), .slice A m c] w' (Writes w' D (D.wr i p (splice p.l U bs) D.down 0) 0)) := fun w' hD hr => Write_ok D w' hD hd 0 (by omega) i p hi s hs U A m c bs hr hf hmc hcx hA (by omega)
  have hr0 : n - 64 = r := hr
  have HW2 : Hid (∀ w', Drv w' (D.wr i p (splice p.l U bs) D.down 0) → ∀ A2, Rd .u8 w' A2 64 (tbytes a U m) → (∀ ad, A2 = some ad → ad.block ∉ D.own) → Calls Try.prog 17 #[.pointer (some ⟨D.g, 0, none⟩), .string s, .int .i64 (r : Int), .slice A2 64 64] w' fun e w'' => e = .returned (.int .i64 42) ∧ Drv w'' (D.wr i p (torn (splice p.l U bs) (tbytes a U m) (p.l.length - 64) 64 D.keep) true 0) ∧ Touch D.own w' w'') := fun w' hD A2 hr hA2 => by
    have := Write_torn (D.wr i p (splice p.l U bs) D.down 0) w' hD hd rfl i { p with l := splice p.l U bs } (Dv.wr_at hi _ _ _) s hs r A2 64 64 (tbytes a U m) hr (tbytes_fit _ _ _) (by omega) (by omega) (fun _ ad e => by rw [Dv.wr_own hi]; exact hA2 ad e) (by show r + 64 ≤ (splice p.l U bs).length; rw [length_splice _ _ _ (by omega)]; omega)
    refine this.mono ?_
    rintro e w'' ⟨he, hD2, hT2⟩
    rw [Dv.wr_own hi] at hT2
    refine ⟨he, ?_, hT2⟩
    have e2 := Dv.wr_wr D i p (splice p.l U bs) (torn (splice p.l U bs) (tbytes a U m) (p.l.length - 64) 64 D.keep) D.down true 0 0
    rw [← e2]
    rw [hn, hr0]
    exact hD2
  clear hr0
  have HHB : Hid (Rd .u8 w A m bs ∧ Drv w D) := ⟨hb, h⟩
  clear hs hp hn hsz hr hU hlb hab hroom h hb hA hf hd hcx hi
  go_enter Try.func21, Try.ntmps21
  go_wp2_with fail
  refine HSZ.out.mono ?_
  rintro e w1 ⟨rfl, hb1⟩
  go_wp2_with fail
  refine (HTS.out _).mono ?_
  rintro e w2 ⟨rfl, rfl⟩
  go_wp2_with fail
  refine (HTE.out _).mono ?_
  rintro e w2 ⟨rfl, rfl⟩
  go_wp2_with fail
  refine (HLA.out w1).mono ?_
  rintro e w2 ⟨rfl, hb2⟩
  have H2 : Hid (Below w.heap.size w w2) := hb1.trans (hb2.mono hb1.size)
  clear hb1 hb2
  have H3 : Hid (Below w2.heap.size w2 (w2.alloc (.cells #[.int .i64 0, .int .i64 0, .int .i64 0] 23)) ∧ Blk (w2.alloc (.cells #[.int .i64 0, .int .i64 0, .int .i64 0] 23)) w2.heap.size 23 tz) := ⟨(Below.refl _ _).alloc (Nat.le_refl _) _, Blk.new w2 _ tz⟩
  go_wp2_with ((with_reducible refine at_dst none ?_); refine wpList_storeBlk (op := ⟨none, _, _, _, _, _⟩) rfl 23 (.tmp 11) (.tmp 40) rfl (g := w2.heap.size) (t := 23) (old := tz) (cs := tcells a U m) rfl rfl H3.out.2 rfl iT (tcells_one _ _ _) ?_; intro u0 hU0 hT0; have HT0 := Lib.hid hT0; clear hT0; have C1 : u0.cell? ⟨w2.heap.size, 1, none⟩ = some (.int .i64 (U : Int)) := hU0.out.cell 1)
  have HB0 : Hid (Below w.heap.size w u0) := (H2.out.trans (H3.out.1.mono H2.out.size)).trans (HT0.out.below (fun y hy => by rw [List.mem_singleton.1 hy]; exact H2.out.size) (Nat.le_trans H2.out.size H3.out.1.size))
  refine (HW1.out u0 (HHB.out.2.below HB0.out) (HHB.out.1.below HB0.out)).mono ?_
  rintro e w3 ⟨rfl, hD3, hT3⟩
  have H5 : Hid (Drv w3 (D.wr i p (splice p.l U bs) D.down 0) ∧ Touch D.own w w3) := ⟨hD3, (Touch.of_below _ HB0.out : Touch D.own w u0).trans hT3⟩
  have HX : Hid (Blk w3 w2.heap.size 23 (tcells a U m)) := hU0.out.touch hT3 (fun hm => by have h1 := HLT.out _ hm; have h2 := H2.out.size; omega)
  obtain ⟨d0, hu0, hd0⟩ := uT
  have HSX : Hid (w.heap.size ≤ w3.heap.size) := H5.out.2.size
  clear hD3 hT3
  go_wp2_with ((with_reducible refine at_dst (some 54) ?_); refine wpList_loadAt (op := ⟨some 54, _, _, _, _, _⟩) rfl 23 (.tmp 11) rfl ⟨w2.heap.size, 0, none⟩ rfl (tcells a U m) d0 HX.out.at hu0 hd0 iT ?_)
  refine (Encode_ok a U m w3 HTO.out).mono ?_
  rintro e w4 ⟨g2, rfl, hg2, hB4, hb4⟩
  have H6 : Hid (Drv w4 (D.wr i p (splice p.l U bs) D.down 0) ∧ Touch D.own w w4 ∧ Rd .u8 w4 (some ⟨g2, 0, none⟩) 64 (tbytes a U m)) := ⟨H5.out.1.below hb4, H5.out.2.then_below hb4, hB4.rd 64 (tbytes_length _ _ _)⟩
  have HG2 : Hid (∀ ad, (some ⟨g2, 0, none⟩ : Option Addr) = some ad → ad.block ∉ D.own) := fun ad e hm => by
    injection e with e
    subst e
    have h1 := HLT.out _ hm
    have h2 := HSX.out
    simp at h1
    omega
  clear hg2 hB4 hb4
  go_wp2_with fail
  refine (HTE.out _).mono ?_
  rintro e w5 ⟨rfl, rfl⟩
  go_wp2_with fail
  refine (HW2.out w4 H6.out.1 (some ⟨g2, 0, none⟩) H6.out.2.2 HG2.out).mono ?_
  rintro e w5 ⟨rfl, hD5, hT5⟩
  have H7 : Hid (Drv w5 (D.wr i p (torn (splice p.l U bs) (tbytes a U m) (p.l.length - 64) 64 D.keep) true 0) ∧ Touch D.own w w5) := ⟨hD5, H6.out.2.1.trans hT5⟩
  clear hD5 hT5
  go_wp2
  go_ret
  exact ⟨rfl, H7.out⟩

end Go.Proofs.Ythepbadecpnepaa
