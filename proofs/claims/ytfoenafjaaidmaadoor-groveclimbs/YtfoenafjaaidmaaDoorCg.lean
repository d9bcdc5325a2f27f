/-
  The program's Path answers as the document says.
-/
import Derived.Test.YtfoenafjaaidmaaDoorCf
import Derived.ScopeJumps
namespace Go.Proofs.YtfoenafjaaidmaaDoor
open Go.RowKit
set_option linter.unusedVariables false
set_option linter.unusedSimpArgs false
set_option maxRecDepth 100000

theorem cxInfo : (Tryd.prog.info? 70).map (fun i => (i.zero, i.size, i.bytes)) = some (some (.complex .f64 0 0), 1, 16) := by kernel_rfl
theorem run_app16 {t ty e : TypeId} {i : TypeInfo} {z : Value} {bytes : Nat} (ht : Tryd.prog.underlying t = some (.slice e)) (hi : Tryd.prog.info? e = some i) (hz : i.zero = some z) (hsize : i.size = 1) (hby : i.bytes = bytes) (hzs : z.cells.size = 1) (hb8 : bytes ≤ 16)
    {B : Nat} {w0 w : World} (hbel : Below B w0 w) (hB : B ≤ w.heap.size) {A : Option Addr} {n cap : Nat} {xs : List Value} (hrow : Row w B e A n cap xs) {ad : Addr} {m c2 : Nat} {news : List Value} (hl : news.length = m)
    (hc : ∀ j u, news[j]? = some u → w.cell? (ad.add j) = some u) (h1 : ∀ u ∈ news, u.oneCell' = true) (hnm : n + m ≤ 1000000) :
    ∃ A' cap' w', (Builtin.append_ #[t, t] ty #[.slice A n cap, .slice (some ad) m c2]).run Tryd.prog w = .ok (.slice A' (n + m) cap') w' ∧ Row w' B e A' (n + m) cap' (xs ++ news) ∧ Below B w0 w' ∧ w.heap.size ≤ w'.heap.size := by
  obtain ⟨v', w', hrun, hown, hg, hnil, hat⟩ := run_append_own_at (P := Tryd.prog) w B t ty e i z 1 bytes ht hi hz hsize hby hzs (by omega) _ n xs hrow ad m c2 news (by omega) hc h1 (by unfold maxLen; omega) (by
    have : (n + m) * bytes ≤ 1000000 * 16 := Nat.mul_le_mul hnm hb8
    omega) hB
  have hform : ∃ A' cap', v' = .slice A' (n + m) cap' := by
    rcases hown.2 with ⟨rfl, h0⟩ | ⟨g, cap', cur, rfl, _⟩
    · exact ⟨none, 0, by rw [h0]⟩
    · exact ⟨_, _, rfl⟩
  obtain ⟨A', cap', rfl⟩ := hform
  refine ⟨A', cap', w', hrun, hown, below_only hbel hg hB (fun j hj => ?_), hg.size⟩
  exact (World.ownsRow.lt hrow j hj).1
/-- One place more. -/
theorem wpList_appCx {ops : Array Oper} {rest : List Oper} {o : Oper} {a : Act} {w : World} {Q : Exit → Act → World → Prop} (hgd : o.guard = none) (s x : Operand) (ho : o.op = .call { callee := .builtin .append, args := #[s, x], argTypes := #[66, 66] })
    {B : Nat} {w0 : World} (hbel : Below B w0 w) (hB : B ≤ w.heap.size) {A : Option Addr} {n cap : Nat} {xs : List Value} (p q : Nat) (hs : a.eval s = .slice A n cap) (hrow : Row w B 70 A n cap xs) (hx : a.eval x = .slice (some ⟨w.heap.size, 0, none⟩) 1 1) (hn : n < 1000000) (N : Nat) (hN : n + 1 = N)
    (h : ∀ A' cap' w', Hid (Row w' B 70 A' N cap' (xs ++ [.complex .f64 p q])) → Below B w0 w' → B ≤ w'.heap.size → wpList Tryd.prog ops Q rest (a.put o.dst (.slice A' N cap')) w') : wpList Tryd.prog ops Q (o :: rest) a (w.alloc (.cells #[.complex .f64 p q] 70)) := by
  subst hN
  obtain ⟨i0, hi, hz0, hz1, hz2⟩ := info_parts cxInfo
  obtain ⟨A', cap', w', hrun, hr, hb, hsz⟩ := run_app16 (w := w.alloc (.cells #[.complex .f64 p q] 70)) (ty := o.type) (c2 := 1) (m := 1) (ad := ⟨w.heap.size, 0, none⟩) (news := [.complex .f64 p q]) Tryd.underlying66 hi hz0 hz1 hz2 rfl (by omega) (hbel.alloc hB _) (by simp; omega) (World.ownsRow.alloc hrow _) rfl (cell_one_new w _ _) (by intro u hu; rw [List.mem_singleton.1 hu]; rfl) (by omega)
  refine wpList_plain hgd fun K hK => ?_
  unfold Oper.wp
  simp [execOp, ho, resolve, invoke, builtin, hs, hx, hrun, Result.andThen]
  exact hK _ _ (h A' cap' w' hr hb (by simp at hsz; omega))
/-- The places of a path, as cells. -/
def ZL (a i : Nat) (xs : List Value) : Prop := ∀ j, j < xs.length → ∃ x y, xs[j]? = some (.complex .f64 x y) ∧ Is x ((i / a ^ j : Nat) : Int) ∧ Is y (j : Int)
theorem ZL.nil (a i : Nat) : ZL a i [] := fun j hj => absurd hj (Nat.not_lt_zero _)
theorem ZL.snoc {a i : Nat} {xs : List Value} {k x y : Nat} (h : ZL a i xs) (hk : xs.length = k) (hx : Is x ((i / a ^ k : Nat) : Int)) (hy : Is y (k : Int)) : ZL a i (xs ++ [.complex .f64 x y]) := by
  intro j hj
  rw [List.length_append, List.length_singleton] at hj
  by_cases hjk : j < xs.length
  · obtain ⟨p, q, h1, h2⟩ := h j hjk
    exact ⟨p, q, by rw [List.getElem?_append_left hjk]; exact h1, h2⟩
  · obtain rfl : j = k := by omega
    exact ⟨x, y, by rw [← hk]; simp, hx, hy⟩
theorem ZL.pth {w : World} {b : Nat} {A : Option Addr} {m c a i : Nat} {xs : List Value} (h : ZL a i xs) (hr : Row w b 70 A m c xs) : Pth w A m a i := by
  intro j hj
  obtain ⟨g, rfl, _, _, hc⟩ := hr.cells (by omega)
  obtain ⟨x, y, h1, h2⟩ := h j (by rw [hr.length]; exact hj)
  exact ⟨_, x, y, rfl, by rw [addr_add, Nat.zero_add]; exact hc j _ h1, h2⟩
/-- The path so far, and the place that comes next. -/
structure Left (W : World) (a i m : Nat) (P : Option Addr) (k cp x y : Nat) (w' : World) : Prop where
  lt : k < m
  row : ∃ xs, Row w' W.heap.size 70 P k cp xs ∧ ZL a i xs
  ix : Is x ((i / a ^ k : Nat) : Int)
  iy : Is y (k : Int)
  bel : Below W.heap.size W w'
def AtNext (w W : World) (S B D a i m : Nat) (A : Option Addr) (c : Nat) (a' : Act) (w' : World) : Prop :=
  ∃ (P : Option Addr) (k cp x y : Nat) (u10 u11 u12 u13 u14 u15 u16 u17 u18 u19 u20 u21 u22 u23 u24 u25 u26 u27 u28 u29 u30 u31 u32 u33 u34 u35 u36 u37 u38 u39 u40 u41 u42 : Value), a' = ⟨#[.agg #[.int .i64 (S : Int), .int .i64 (B : Int), .int .i64 (D : Int)], .int .i64 (i : Int), .pointer (some ⟨w.heap.size, 0, none⟩), undef, .slice none 0 0, .int .i64 0, .slice A m c, .int .i64 0, .slice P k cp, .complex .f64 x y, u10, u11, u12, u13, u14, u15, u16, u17, u18, u19, u20, u21, u22, u23, u24, u25, u26, u27, u28, u29, u30, u31, u32, u33, u34, u35, u36, u37, u38, u39, u40, u41, u42], []⟩ ∧ Left W a i m P k cp x y w'
def lenOf8 (a' : Act) : Nat := match a'.tmps.getD 8 undef with
  | .slice _ n _ => n
  | _ => 0
set_option maxHeartbeats 1000000 in
theorem Path_bad : PathBad := by
  intro S B D i w hS hB hD hi hR
  have HR : Hid (∀ w : World, _) := fun w => Counts_bad S B D w hS hB hD hR
  have HB1 : Hid (Below w.heap.size w (w.alloc (.cells #[.int .i64 S, .int .i64 B, .int .i64 D] 44))) := (Below.refl _ _).alloc (Nat.le_refl _) _
  go_enter Tryd.func35, Tryd.ntmps35
  go_wp2
  refine wp_scope_jumps 0 (fun _ _ => False) (fun _ _ => 0) rfl ?_ (fun _ _ h => h.elim)
  go_wp2_with fail
  generalize w.alloc (.cells #[.int .i64 S, .int .i64 B, .int .i64 D] 44) = W at *
  refine (HR.out W).mono ?_
  rintro e w1 ⟨A, c, rfl, hcm, hb1⟩
  have BEL := Lib.hid (below_then HB1.out hb1)
  clear hb1
  go_wp2
  simp only [Exit.jump]
  go_ret2
  exact ⟨none, 0, rfl, Nat.zero_le _, BEL.out⟩
set_option maxHeartbeats 1000000 in
theorem Path_range : PathRange := by
  intro S B D a n i w h hi0 hi
  have HCT : Hid (∀ w : World, _) := fun w => Counts_ok S B D a n w h
  have hn := h.n1
  have HB1 : Hid (Below w.heap.size w (w.alloc (.cells #[.int .i64 (S : Int), .int .i64 (B : Int), .int .i64 (D : Int)] 44))) := (Below.refl _ _).alloc (Nat.le_refl _) _
  go_enter Tryd.func35, Tryd.ntmps35
  go_wp2
  refine wp_scope_jumps 0 (fun _ _ => False) (fun _ _ => 0) rfl ?_ (fun _ _ h => h.elim)
  go_wp2_with fail
  generalize w.alloc (.cells #[.int .i64 (S : Int), .int .i64 (B : Int), .int .i64 (D : Int)] 44) = W at *
  refine (HCT.out W).mono ?_
  rintro e w1 ⟨A, m, c, rfl, hrd, hmc, hcm, hb1⟩
  have BEL := Lib.hid (below_then HB1.out hb1)
  have hm1 : 1 ≤ m := by rw [← hrd.1]; exact List.length_pos_iff.2 (cnts_ne _ _ _)
  obtain ⟨ad, q, rfl, hq, hc⟩ := hrd.get (j := 0) (by omega)
  have hq2 : q = n := by have := cnts_get _ _ _ _ _ hq; exact this
  subst hq2
  have hc0 : w1.cell? ad = some (.int .i64 (q : Int)) := hc
  clear hb1 hrd hq hc
  by_cases hneg : i < 0
  · go_wp2
    simp only [Exit.jump]
    go_ret2
    exact ⟨none, 0, rfl, Nat.zero_le _, BEL.out⟩
  · have hge : (q : Int) ≤ i := by omega
    clear hi
    go_wp2
    simp only [Exit.jump]
    go_ret2
    exact ⟨none, 0, rfl, Nat.zero_le _, BEL.out⟩
set_option maxHeartbeats 4000000 in
theorem Path_ok : PathOk := by
  intro S B D a n i w h hi
  have HCT : Hid (∀ w : World, _) := fun w => Counts_ok S B D a n w h
  have hn := h.n1
  have HS := Lib.hid h
  have HIL : Hid (i ≤ 1099511627776) := by show _ ≤ _; omega
  have HB1 : Hid (Below w.heap.size w (w.alloc (.cells #[.int .i64 (S : Int), .int .i64 (B : Int), .int .i64 (D : Int)] 44))) := (Below.refl _ _).alloc (Nat.le_refl _) _
  have HSZ : Hid (w.heap.size ≤ (w.alloc (.cells #[.int .i64 (S : Int), .int .i64 (B : Int), .int .i64 (D : Int)] 44)).heap.size) := HB1.out.size
  have HBK := Lib.hid (Blk.new w 44 [.int .i64 (S : Int), .int .i64 (B : Int), .int .i64 (D : Int)])
  have FX : Hid (Is (floatOfInt .f64 (i : Int)) ((i / a ^ 0 : Nat) : Int)) := by show Is _ _; rw [Nat.pow_zero, Nat.div_one]; exact is_ofInt _ (by omega) (by omega)
  have FY : Hid (Is 0 ((0 : Nat) : Int)) := is0
  obtain ⟨m, hm⟩ : ∃ m, (cs a n).length = m := ⟨_, rfl⟩
  have hm1 : 1 ≤ m := by rw [← hm]; exact List.length_pos_iff.2 (cnts_ne _ _ _)
  have hm2 : m ≤ 41 := by rw [← hm]; exact cnts_len _ _ _
  have HML := Lib.hid hm
  clear h hm
  go_enter Tryd.func35, Tryd.ntmps35
  go_wp2
  refine wp_scope_jumps 0 (fun a' w' => ∃ A c, AtNext w (w.alloc (.cells #[.int .i64 (S : Int), .int .i64 (B : Int), .int .i64 (D : Int)] 44)) S B D a i m A c a' w') (fun a' _ => m - lenOf8 a') rfl ?_ ?_
  · go_wp2_with fail
    generalize hWW : w.alloc (.cells #[.int .i64 (S : Int), .int .i64 (B : Int), .int .i64 (D : Int)] 44) = W at *
    have HWW := Lib.hid hWW
    clear hWW
    refine (HCT.out W).mono ?_
    rintro e w1 ⟨A, mm, c, rfl, hrd, hmc, hcm, hb1⟩
    obtain rfl : mm = m := by have := hrd.1; have := HML.out; omega
    obtain ⟨ad, q, rfl, hq, hc⟩ := hrd.get (j := 0) (by omega)
    have hq2 : q = n := by have := cnts_get _ _ _ _ _ hq; exact this
    subst hq2
    have hc0 : w1.cell? ad = some (.int .i64 (q : Int)) := hc
    have FB := Lib.hid hb1
    have FR : Hid (Row w1 W.heap.size 70 none 0 0 []) := Row.nil _ _ _
    have FZ : Hid (ZL a i []) := ZL.nil a i
    have z1 : ¬ (i : Int) < 0 := by omega
    have z2 : ¬ (q : Int) ≤ (i : Int) := by omega
    clear hb1 hrd hq hc
    go_wp2
    go_step3
    obtain ⟨k2, hk2⟩ : ∃ k2, 0 + 1 = k2 := ⟨_, rfl⟩
    have HK2 := Lib.hid hk2
    by_cases hlast : k2 < mm
    · have hlz : (k2 : Int) < mm := by omega
      clear hk2
      go_wp2_with (first
        | ((with_reducible refine at_dst (some 33) ?_); refine wpList_appCx (o := ⟨some 33, _, _, _, _, _⟩) rfl (.tmp 30) (.tmp 32) rfl FB.out FB.out.size _ _ rfl FR.out rfl (by omega) k2 HK2.out ?_; intro A3 c3 w3 HR3 hb3 hB3; have BK3 := Lib.hid (HBK.out.below hb3 HBK.out.lt); have k0 : w3.cell? ⟨w.heap.size, 0, none⟩ = some (.int .i64 (S : Int)) := BK3.out.cell 0; have k1 : w3.cell? ⟨w.heap.size, 1, none⟩ = some (.int .i64 (B : Int)) := BK3.out.cell 1; have k2c : w3.cell? ⟨w.heap.size, 2, none⟩ = some (.int .i64 (D : Int)) := BK3.out.cell 2)
        | (go_at_call 48; refine (Up_any S B D a _ _ _ (i / a ^ 0) 0 _ HS.out FX.out FY.out (Nat.le_trans (Nat.div_le_self _ _) HIL.out) (by omega)).mono ?_; rintro e w4 ⟨x4, y4, rfl, hx4, hy4, hb4⟩; have HLL : Hid (Left W a i mm A3 k2 c3 x4 y4 w4) := ⟨hlast, ⟨_, Row.below HR3.out hb4, FZ.out.snoc FR.out.length FX.out FY.out⟩, (by rw [← HK2.out, Nat.pow_succ, ← Nat.div_div_eq_div_mul]; exact hx4), (by rw [← HK2.out]; exact hy4), hb3.trans (hb4.mono hb3.size)⟩; clear hx4 hy4 hb4 hb3 hB3 k0 k1 k2c))
      go_step3
      show 0 = 0 ∧ ∃ A c, AtNext w (w.alloc (.cells #[.int .i64 (S : Int), .int .i64 (B : Int), .int .i64 (D : Int)] 44)) S B D a i mm A c _ w4
      rw [HWW.out]
      exact ⟨rfl, _, _, _, _, _, _, _, _, _, _, _, _, _, _, _, _, _, _, _, _, _, _, _, _, _, _, _, _, _, _, _, _, _, _, _, _, _, _, _, _, rfl, HLL.out⟩
    · have hlz : ¬ (k2 : Int) < mm := by omega
      have hke : k2 = mm := by omega
      have HKE := Lib.hid hke
      clear hk2 hke
      go_wp2_with (first
        | ((with_reducible refine at_dst (some 33) ?_); refine wpList_appCx (o := ⟨some 33, _, _, _, _, _⟩) rfl (.tmp 30) (.tmp 32) rfl FB.out FB.out.size _ _ rfl FR.out rfl (by omega) k2 HK2.out ?_; intro A3 c3 w3 HR3 hb3 hB3))
      simp only [Exit.jump]
      go_ret2
      refine ⟨A3, k2, c3, rfl, by rw [HKE.out]; exact HML.out, (FZ.out.snoc FR.out.length FX.out FY.out).pth HR3.out, (Row.le HR3.out).1, (Row.le HR3.out).2, ?_⟩
      exact HB1.out.trans (hb3.mono HSZ.out)
  · rintro a' w' ⟨A, c, P, k, cp, x, y, u10, u11, u12, u13, u14, u15, u16, u17, u18, u19, u20, u21, u22, u23, u24, u25, u26, u27, u28, u29, u30, u31, u32, u33, u34, u35, u36, u37, u38, u39, u40, u41, u42, rfl, hL⟩
    obtain ⟨hkm, ⟨xs, hrow, hz⟩, hx, hy, hbe⟩ := hL
    generalize w.alloc (.cells #[.int .i64 (S : Int), .int .i64 (B : Int), .int .i64 (D : Int)] 44) = W at *
    have GB := Lib.hid hbe
    have GR := Lib.hid hrow
    have GZ := Lib.hid hz
    have GX := Lib.hid hx
    have GY := Lib.hid hy
    clear hbe hrow hz hx hy
    obtain ⟨k2, hk2⟩ : ∃ k2, k + 1 = k2 := ⟨_, rfl⟩
    have HK2 := Lib.hid hk2
    by_cases hlast : k2 < m
    · have hlz : (k2 : Int) < m := by omega
      clear hk2
      go_wp2_with (first
        | ((with_reducible refine at_dst (some 33) ?_); refine wpList_appCx (o := ⟨some 33, _, _, _, _, _⟩) rfl (.tmp 30) (.tmp 32) rfl GB.out GB.out.size _ _ rfl GR.out rfl (by omega) k2 HK2.out ?_; intro A3 c3 w3 HR3 hb3 hB3; have BK3 := Lib.hid (HBK.out.below hb3 HBK.out.lt); have k0 : w3.cell? ⟨w.heap.size, 0, none⟩ = some (.int .i64 (S : Int)) := BK3.out.cell 0; have k1 : w3.cell? ⟨w.heap.size, 1, none⟩ = some (.int .i64 (B : Int)) := BK3.out.cell 1; have k2c : w3.cell? ⟨w.heap.size, 2, none⟩ = some (.int .i64 (D : Int)) := BK3.out.cell 2)
        | (go_at_call 48; refine (Up_any S B D a _ _ _ (i / a ^ k) k _ HS.out GX.out GY.out (Nat.le_trans (Nat.div_le_self _ _) HIL.out) (by omega)).mono ?_; rintro e w4 ⟨x4, y4, rfl, hx4, hy4, hb4⟩; have HLL : Hid (Left W a i m A3 k2 c3 x4 y4 w4) := ⟨hlast, ⟨_, Row.below HR3.out hb4, GZ.out.snoc GR.out.length GX.out GY.out⟩, (by rw [← HK2.out, Nat.pow_succ, ← Nat.div_div_eq_div_mul]; exact hx4), (by rw [← HK2.out]; exact hy4), hb3.trans (hb4.mono hb3.size)⟩; clear hx4 hy4 hb4 hb3 hB3 k0 k1 k2c))
      go_step3
      show 0 = 0 ∧ ((∃ A c, AtNext w W S B D a i m A c _ w4) ∧ _)
      refine ⟨rfl, ⟨_, _, _, _, _, _, _, _, _, _, _, _, _, _, _, _, _, _, _, _, _, _, _, _, _, _, _, _, _, _, _, _, _, _, _, _, _, _, _, _, rfl, HLL.out⟩, ?_⟩
      have := HK2.out
      simp [lenOf8]
      omega
    · have hlz : ¬ (k2 : Int) < m := by omega
      have hke : k2 = m := by omega
      have HKE := Lib.hid hke
      clear hk2 hke
      go_wp2_with (first
        | ((with_reducible refine at_dst (some 33) ?_); refine wpList_appCx (o := ⟨some 33, _, _, _, _, _⟩) rfl (.tmp 30) (.tmp 32) rfl GB.out GB.out.size _ _ rfl GR.out rfl (by omega) k2 HK2.out ?_; intro A3 c3 w3 HR3 hb3 hB3))
      simp only [Exit.jump]
      go_ret2
      refine ⟨A3, k2, c3, rfl, by rw [HKE.out]; exact HML.out, (GZ.out.snoc GR.out.length GX.out GY.out).pth HR3.out, (Row.le HR3.out).1, (Row.le HR3.out).2, ?_⟩
      exact HB1.out.trans (hb3.mono HSZ.out)
end Go.Proofs.YtfoenafjaaidmaaDoor
