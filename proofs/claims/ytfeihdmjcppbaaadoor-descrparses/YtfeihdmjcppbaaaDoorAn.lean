/-
  The document's example. No condition.
-/
import Derived.Test.YtfeihdmjcppbaaaDoorP4
import Derived.Test.YtfeihdmjcppbaaaDoorA12
import Derived.Lib.SlBytesConst
namespace Go.Proofs.YtfeihdmjcppbaaaDoor
open Go.RowKit
set_option linter.unusedVariables false
set_option linter.unusedSimpArgs false
set_option maxRecDepth 100000

def qd : De := ⟨3, 0, 0, 0, 0, 0, [], [], [], [], [113, 117, 105, 101, 116]⟩
theorem qd_right : Right qd := by decide
theorem qd_len : (encs [qd]).length = 72 := by decide
theorem qd_enc : encode [qd] = (encs [qd], 0) := by
  unfold encode
  rw [if_neg (by decide), if_pos (by intro d hd; rw [List.mem_singleton.1 hd]; exact qd_right), show tw [] [qd] = false by decide]
  rfl
theorem qd_parse : parse (encs [qd]) = ([qd], 0) := parse_encs (by intro d hd; rw [List.mem_singleton.1 hd]; exact qd_right) (by decide) (by decide)
theorem Row.bs {w : World} {B : Nat} {A : Option Addr} {n cap : Nat} {l : List Nat} (h : Row w B 5 A n cap (cn .u8 l)) (hf : Fit 256 l) : Bs w A n cap l :=
  ⟨h.rd, hf, h.le.1, by have := h.le.2; unfold maxLen at this; omega, fun e => by
    rcases h.2 with ⟨hv, h0⟩ | ⟨g, cap', cur, hv, _⟩
    · injection hv
    · rw [e] at hv; injection hv with h1; cases h1⟩
theorem PL.form {t : TypeId} {B : Nat} {w : World} {A : Option Addr} {n cap : Nat} {xs : List Dx} (h : PL t B w A n cap xs) (hn : 0 < n) : ∃ g, A = some ⟨g, 0, none⟩ ∧ B ≤ g ∧ g < w.heap.size := by
  obtain ⟨g, cap', hv, hb, hlt⟩ := World.ownsRow.form h.row hn
  exact ⟨g, by injection hv, hb, hlt⟩
set_option maxHeartbeats 4000000 in
theorem anchor_any (w : World) : Calls Tryd.prog 8 #[] w fun e w' => e = .returned (.bool true) ∧ Below w.heap.size w w' := by
  obtain ⟨d0, hu0, hd0⟩ := uD
  have hb1 : Below w.heap.size w (w.alloc (.cells (cn .u8 qd.value).toArray 5 (5, 6))) := (Below.refl _ _).alloc (Nat.le_refl _) _
  have hr1 : Rd .u8 (w.alloc (.cells (cn .u8 qd.value).toArray 5 (5, 6))) (some ⟨w.heap.size, 0, none⟩) 5 qd.value := ⟨rfl, fun _ => ⟨_, rfl, by simp, fun j y hj => by
    rw [addr_add, Nat.zero_add, World.cell?_alloc_mark]
    simpa using cn_get (k := .u8) hj⟩⟩
  have hkc := Lib.run_convert_bytes_const (P := Tryd.prog) w 25 5 (cn .u8 qd.value).toArray 5 5 Tryd.underlying25 Tryd.underlying5
  have hsz5 : (cn .u8 qd.value).toArray.size = 5 := rfl
  rw [hsz5] at hkc
  obtain ⟨W, hW⟩ : ∃ W, w.alloc (.cells (cn .u8 qd.value).toArray 5 (5, 6)) = W := ⟨_, rfl⟩
  rw [hW] at hb1 hr1 hkc
  have hkc' : (convert 25 25 (.slice (some ⟨w.heap.size, 0, none⟩) 5 5)).run Tryd.prog (w.alloc (.cells #[.int .u8 113, .int .u8 117, .int .u8 105, .int .u8 101, .int .u8 116] 5)) = .ok (.slice (some ⟨w.heap.size, 0, none⟩) 5 5) W := hkc
  clear hkc hsz5 hW
  obtain ⟨x, hx⟩ : ∃ x : Dx, x = ⟨qd, nilS, nilS, nilS, ⟨some ⟨w.heap.size, 0, none⟩, 5, 5⟩⟩ := ⟨_, rfl⟩
  have hxo : DxOk W x := by
    subst hx
    refine ⟨?_, i64_zero, i64_zero, i64_zero, i64_zero, i64_zero, Fit.nil _, Bs.none _, Bs.none _, Bs.none _, ⟨hr1, (show Fit 256 qd.value by unfold Fit; decide), Nat.le_refl _, by simp, fun e => by cases e⟩⟩
    show I64 3
    unfold I64; omega
  have hb2 : Below W.heap.size W (W.alloc (.cells x.cells.toArray 27)) := (Below.refl _ _).alloc (Nat.le_refl _) _
  have hk2 : Blk (W.alloc (.cells x.cells.toArray 27)) W.heap.size 27 x.cells := Blk.new _ _ _
  obtain ⟨W2, hW2⟩ : ∃ W2, W.alloc (.cells x.cells.toArray 27) = W2 := ⟨_, rfl⟩
  rw [hW2] at hb2 hk2
  have hdl : DL W2 (some ⟨W.heap.size, 0, none⟩) 1 [x] := ⟨rfl, fun _ => ⟨_, rfl, hk2.lt, fun i y hy => by
    rcases i with _ | i
    · injection hy with hy
      subst hy
      intro j v hv
      rw [add_add, addr_add]
      simpa using hk2.at.cell j hv
    · simp at hy⟩, fun y hy => by rw [List.mem_singleton.1 hy]; exact hxo.below hb2⟩
  have hdes : des [x] = [qd] := by subst hx; rfl
  have HEN := Lib.hid (Encode_any (some ⟨W.heap.size, 0, none⟩) 1 1 [x] W2 hdl (by omega) (by omega) (by omega) (by intro y hy; rw [List.mem_singleton.1 hy, hx]; exact Nat.zero_le _))
  rw [hdes, qd_enc] at HEN
  have HB2 := Lib.hid (hb1.trans (hb2.mono hb1.size))
  have HXE : Hid ((.agg #[.int .i64 3, .int .i64 0, .int .i64 0, .int .i64 0, .int .i64 0, .int .i64 0, .string ⟨#[]⟩, .slice none 0 0, .slice none 0 0, .slice none 0 0, .slice (some ⟨w.heap.size, 0, none⟩) 5 5] : Value) = .agg x.cells.toArray) := by
    show _ = _
    rw [hx]; rfl
  clear hb1 hr1 hxo hb2 hk2 hdl hdes hx
  go_enter Tryd.func8, Tryd.ntmps8
  go_wp2_with ((with_reducible refine at_dst (some 9) ?_); refine wpList_build1 ltD (o := ⟨some 9, _, _, _, _, _⟩) rfl (.tmp 8) rfl x HXE.out ?_; rw [hW2])
  refine HEN.out.mono ?_
  rintro e w3 ⟨A2, n2, c2, l2, er, rfl, hen, hrow, hb3⟩
  simp only [Prod.mk.injEq] at hen
  obtain ⟨rfl, rfl⟩ := hen
  have hn2 : n2 = 72 := by have := hrow.length; rw [cn_length, qd_len] at this; exact this.symm
  subst hn2
  have HB3 := Lib.hid (HB2.out.trans (hb3.mono HB2.out.size))
  have HPA := Lib.hid (Parse_any A2 72 c2 (encs [qd]) w3 (hrow.bs (encs_fit (by
    intro d hd
    rw [List.mem_singleton.1 hd]
    exact ⟨Fit.nil _, Fit.nil _, Fit.nil _, Fit.nil _, by unfold Fit; decide⟩))) (by omega))
  clear hrow hb3
  go_wp2_with fail
  refine HPA.out.mono ?_
  rintro e w4 ⟨A4, n4, c4, xs, er, rfl, hpa, hpl, hnw, hb4⟩
  rw [qd_parse] at hpa
  simp only [Prod.mk.injEq] at hpa
  obtain ⟨hxs, rfl⟩ := hpa
  have hl4 : xs.length = 1 := by
    have h1 := congrArg List.length hxs
    rw [des, List.length_map] at h1
    exact h1.symm
  have hn4 : n4 = 1 := by rw [← hpl.len, hl4]
  subst hn4
  obtain ⟨y, hy⟩ := List.length_eq_one_iff.1 hl4
  subst hy
  have hyd : y.d = qd := by
    rw [des, List.map_cons, List.map_nil] at hxs
    exact (List.cons.inj hxs).1.symm
  obtain ⟨g, hA4, _, _⟩ := hpl.form (by omega)
  subst hA4
  have HB4 := Lib.hid (HB3.out.trans (hb4.mono HB3.out.size))
  obtain ⟨ad, y', e1, _, hy', _, hAt, hok⟩ := hpl.dl.get (i := 0) (by omega)
  injection e1 with e1
  subst e1
  injection hy' with hy'
  subst hy'
  have k10 : w4.cell? ⟨g, 10, none⟩ = some (.slice y.s4.A y.s4.n y.s4.cap) := by
    have := hAt 10 _ rfl
    rwa [add_add, addr_add] at this
  have r10 : (convert 25 9 (.slice y.s4.A y.s4.n y.s4.cap)).run Tryd.prog w4 = .ok (.string ⟨#[113, 117, 105, 101, 116]⟩) w4 := by
    have := rd_str hok.value.rd y.s4.cap
    rw [hyd] at this
    exact this
  clear hAt hok hpl hnw hb4 hxs HPA
  go_wp2
  go_ret
  exact ⟨by first | rfl | simp [*], HB4.out⟩
end Go.Proofs.YtfeihdmjcppbaaaDoor
