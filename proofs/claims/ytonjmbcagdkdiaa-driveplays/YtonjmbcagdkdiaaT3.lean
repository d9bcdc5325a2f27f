/-
  A row of the twin turned; what is written where, by a rule. No condition.
-/
import Derived.Test.YtonjmbcagdkdiaaT2
namespace Go.Proofs.Ytonjmbcagdkdiaa
open Go.RowKit Go.MapKept
set_option linter.unusedVariables false
set_option linter.unusedSimpArgs false
set_option maxRecDepth 100000

def Tv.put (T : Tv) (i : Nat) (p : TRow) : Tv := { T with rows := T.rows.set i p }
theorem tw_mem_put {T : Tv} {i : Nat} {p q x : TRow} (h : T.rows[i]? = some p) (hx : x ∈ (T.put i q).rows) : x = q ∨ ∃ j, j ≠ i ∧ T.rows[j]? = some x := by
  obtain ⟨j, hj⟩ := List.mem_iff_getElem?.1 hx
  rw [show (T.put i q).rows = T.rows.set i q from rfl, List.getElem?_set] at hj
  by_cases e : i = j
  · subst e
    simp [(List.getElem?_eq_some_iff.1 h).1] at hj
    exact .inl hj.symm
  · rw [if_neg e] at hj
    exact .inr ⟨j, fun e' => e e'.symm, hj⟩
theorem nodup_rows {l : List TRow} (h : (l.flatMap fun p => [p.bb, p.mm]).Nodup) {i j : Nat} {p q : TRow} (hi : l[i]? = some p) (hj : l[j]? = some q) (hne : i ≠ j) : p.bb ≠ q.bb ∧ p.bb ≠ q.mm ∧ p.mm ≠ q.bb ∧ p.mm ≠ q.mm := by
  have e := nodup_pts (l := l.map fun p : TRow => (⟨p.nm, p.bb, p.mm, p.l, fun _ => false⟩ : Pt)) (by simpa [List.flatMap_map] using h) (i := i) (j := j) (p := ⟨p.nm, p.bb, p.mm, p.l, fun _ => false⟩) (q := ⟨q.nm, q.bb, q.mm, q.l, fun _ => false⟩) (by simp [hi]) (by simp [hj]) hne
  exact e
theorem Tw.setRow {w w' : World} {T : Tv} (h : Tw w T) {i : Nat} {p : TRow} (hi : T.rows[i]? = some p) (l' : List Nat) (sb' : List Bool) (hl : l'.length = p.l.length) (hsl : sb'.length = p.sb.length) (hf : Fit 256 l') (t : Touch [p.bb, p.mm] w w') (hB : Blk w' p.bb 5 (cn .u8 l')) (hS : Blk w' p.mm 4 (bcells sb')) :
    Tw w' (T.put i { p with l := l', sb := sb' }) := by
  have hp : p ∈ T.rows := List.mem_of_getElem? hi
  have ho : (T.put i { p with l := l', sb := sb' }).own = T.own := by
    have e : (T.rows.set i { p with l := l', sb := sb' }).flatMap (fun p => [p.bb, p.mm]) = T.rows.flatMap (fun p => [p.bb, p.mm]) := by
      rw [List.flatMap_def, List.flatMap_def, map_set (y := { p with l := l', sb := sb' }) (fun p : TRow => [p.bb, p.mm]) hi rfl]
    show T.t :: _ = T.t :: _
    rw [show (T.put i { p with l := l', sb := sb' }).rows = T.rows.set i { p with l := l', sb := sb' } from rfl, e]
  have ha := List.nodup_cons.1 h.apart
  have gm : T.t ∉ [p.bb, p.mm] := fun hm => ha.1 (List.mem_flatMap.2 ⟨p, hp, hm⟩)
  have hlen : (T.rows.set i { p with l := l', sb := sb' }).length = T.rows.length := by simp
  have hcells : (T.put i { p with l := l', sb := sb' }).cells = T.cells := by
    show [Value.slice T.pa (T.rows.set i { p with l := l', sb := sb' }).length T.pc, Value.slice T.ba (T.rows.set i { p with l := l', sb := sb' }).length T.bc, Value.slice T.sa (T.rows.set i { p with l := l', sb := sb' }).length T.sc, _, _, _, _, _, _] = _
    rw [hlen]; rfl
  have out : ∀ ad : Addr, ad.block ∉ T.own → ad.block ∉ [p.bb, p.mm] := fun ad hn hm => hn (by
    simp at hm
    rcases hm with e | e
    · rw [e]; exact tw_own_bb hp
    · rw [e]; exact tw_own_mm hp)
  have hps : (T.put i { p with l := l', sb := sb' }).ps = T.ps := map_set (fun p : TRow => (p.nm, (p.l.length : Int))) hi (by simp [hl])
  have hkb : Rs w' T.ka (bcells T.keep) := by
    rcases Nat.eq_zero_or_pos T.keep.length with h0 | h0
    · have e : T.keep = [] := List.eq_nil_of_length_eq_zero h0
      rw [e]
      exact fun hn => absurd hn (Nat.lt_irrefl _)
    · exact h.kept.touch t (fun ad e => out ad (h.keptOut h0 ad e).1)
  exact
  { blk := by rw [hcells]; exact h.blk.touch t gm
    parts := by rw [hps]; exact h.parts.touch t (fun ad e => out ad (h.partsOut ad e).1)
    tabB := by
      rw [show (T.put i { p with l := l', sb := sb' }).rows.map TRow.bv = T.rows.map TRow.bv from map_set TRow.bv hi (by simp [TRow.bv, hl])]
      exact h.tabB.touch t (fun ad e => out ad (h.tabBOut ad e).1)
    tabS := by
      rw [show (T.put i { p with l := l', sb := sb' }).rows.map TRow.sv = T.rows.map TRow.sv from map_set TRow.sv hi (by simp [TRow.sv, hsl])]
      exact h.tabS.touch t (fun ad e => out ad (h.tabSOut ad e).1)
    bytes := fun x hx => by
      rcases tw_mem_put hi hx with rfl | ⟨j, hj, hx⟩
      · exact hB
      · have hd := nodup_rows ha.2 hx hi hj
        exact (h.bytes x (List.mem_of_getElem? hx)).touch t (by simp [hd.1, hd.2.1])
    bads := fun x hx => by
      rcases tw_mem_put hi hx with rfl | ⟨j, hj, hx⟩
      · exact hS
      · have hd := nodup_rows ha.2 hx hi hj
        exact (h.bads x (List.mem_of_getElem? hx)).touch t (by simp [hd.2.2.1, hd.2.2.2])
    kept := hkb
    names := by
      rw [show (T.put i { p with l := l', sb := sb' }).rows.map (·.nm) = T.rows.map (·.nm) from map_set _ hi rfl]
      exact h.names
    apart := by rw [ho]; exact h.apart
    size := fun x hx => by
      rcases tw_mem_put hi hx with rfl | ⟨j, hj, hx⟩
      · have := h.size p hp
        show l'.length ≤ 1000000 ∧ sb'.length = l'.length / 64 ∧ l'.length % 64 = 0
        rw [hl, hsl]; exact this
      · exact h.size x (List.mem_of_getElem? hx)
    few := by rw [show (T.put i { p with l := l', sb := sb' }).rows = T.rows.set i { p with l := l', sb := sb' } from rfl, hlen]; exact h.few
    fit := fun x hx => by
      rcases tw_mem_put hi hx with rfl | ⟨j, hj, hx⟩
      · exact hf
      · exact h.fit x (List.mem_of_getElem? hx)
    partsOut := fun ad e => by rw [ho]; exact ⟨(h.partsOut ad e).1, Nat.lt_of_lt_of_le (h.partsOut ad e).2 t.size⟩
    tabBOut := fun ad e => by rw [ho]; exact ⟨(h.tabBOut ad e).1, Nat.lt_of_lt_of_le (h.tabBOut ad e).2 t.size⟩
    tabSOut := fun ad e => by rw [ho]; exact ⟨(h.tabSOut ad e).1, Nat.lt_of_lt_of_le (h.tabSOut ad e).2 t.size⟩
    keptOut := fun h0 ad e => by rw [ho]; exact ⟨(h.keptOut h0 ad e).1, Nat.lt_of_lt_of_le (h.keptOut h0 ad e).2 t.size⟩
    kcap := h.kcap }
/-- The first q bytes of bs are written at off, where the rule lets them. -/
def ruled (P : Nat → Bool) (l bs : List Nat) (off q : Nat) : List Nat := (List.range l.length).map fun j => if off ≤ j ∧ j < off + q ∧ P (j / 64 - off / 64) = true then bs.getD (j - off) 0 else l.getD j 0
theorem ruled_length (P : Nat → Bool) (l bs : List Nat) (off q : Nat) : (ruled P l bs off q).length = l.length := by simp [ruled]
theorem ruled_torn (l bs : List Nat) (off q : Nat) (kp : List Bool) : ruled (fun a => kp.getD a false) l bs off q = torn l bs off q kp := rfl
theorem ruled_get (P : Nat → Bool) (l bs : List Nat) (off q j : Nat) (hj : j < l.length) : (ruled P l bs off q)[j]? = some (if off ≤ j ∧ j < off + q ∧ P (j / 64 - off / 64) = true then bs.getD (j - off) 0 else l.getD j 0) := by
  simp [ruled, hj]
theorem ruled_zero (P : Nat → Bool) (l bs : List Nat) (off : Nat) : ruled P l bs off 0 = l := by
  apply List.ext_getElem?
  intro j
  by_cases hj : j < l.length
  · rw [ruled_get P l bs off 0 j hj, if_neg (by omega), List.getElem?_eq_getElem hj]
    simp [List.getD, hj]
  · rw [List.getElem?_eq_none (by rw [ruled_length]; omega), List.getElem?_eq_none (by omega)]
theorem ruled_no {P : Nat → Bool} {l bs : List Nat} {off q : Nat} (h : P ((off + q) / 64 - off / 64) = false) : ruled P l bs off (q + 1) = ruled P l bs off q := by
  unfold ruled
  refine List.map_congr_left fun j hj => ?_
  by_cases e : j = off + q
  · subst e
    rw [if_neg (by rw [h]; simp), if_neg (by omega)]
  · by_cases hc : off ≤ j ∧ j < off + q ∧ P (j / 64 - off / 64) = true
    · rw [if_pos ⟨hc.1, by omega, hc.2.2⟩, if_pos hc]
    · rw [if_neg (fun h => hc ⟨h.1, by omega, h.2.2⟩), if_neg hc]
theorem ruled_yes {P : Nat → Bool} {l bs : List Nat} {off q b : Nat} (h : P ((off + q) / 64 - off / 64) = true) (hb : bs[q]? = some b) : ruled P l bs off (q + 1) = (ruled P l bs off q).set (off + q) b := by
  apply List.ext_getElem?
  intro j
  rw [List.getElem?_set, ruled_length]
  by_cases hj : j < l.length
  · rw [ruled_get P l bs off (q + 1) j hj]
    by_cases e : off + q = j
    · subst e
      have e1 : off + q - off = q := by omega
      rw [if_pos ⟨by omega, by omega, h⟩, if_pos rfl, if_pos hj, e1, List.getD, hb]; rfl
    · rw [if_neg e, ruled_get P l bs off q j hj]
      by_cases hc : off ≤ j ∧ j < off + q ∧ P (j / 64 - off / 64) = true
      · rw [if_pos ⟨hc.1, by omega, hc.2.2⟩, if_pos hc]
      · rw [if_neg (fun h => hc ⟨h.1, by omega, h.2.2⟩), if_neg hc]
  · rw [List.getElem?_eq_none (by rw [ruled_length]; omega)]
    by_cases e : off + q = j
    · rw [if_pos e, if_neg (by omega)]
    · rw [if_neg e, List.getElem?_eq_none (by rw [ruled_length]; omega)]
theorem ruled_all (l bs : List Nat) (off : Nat) (h : off + bs.length ≤ l.length) : ruled (fun _ => true) l bs off bs.length = splice l off bs := by
  apply List.ext_getElem?
  intro j
  rw [splice_get l off bs h]
  by_cases hj : j < l.length
  · rw [ruled_get _ l bs off _ j hj]
    by_cases hc : off ≤ j ∧ j < off + bs.length
    · rw [if_pos ⟨hc.1, hc.2, rfl⟩, if_pos hc, List.getElem?_eq_getElem (by omega)]
      simp [List.getD, show j - off < bs.length by omega]
    · rw [if_neg (fun h => hc ⟨h.1, h.2.1⟩), if_neg hc, List.getElem?_eq_getElem hj]
      simp [List.getD, hj]
  · rw [List.getElem?_eq_none (by rw [ruled_length]; omega), if_neg (by omega), List.getElem?_eq_none (by omega)]
theorem ruled_fit {P : Nat → Bool} {l bs : List Nat} {off q : Nat} (h1 : Fit 256 l) (h2 : Fit 256 bs) : Fit 256 (ruled P l bs off q) := fun x hx => by
  obtain ⟨j, _, rfl⟩ := List.mem_map.1 hx
  split
  · exact getD_fit h2 _
  · exact getD_fit h1 _
end Go.Proofs.Ytonjmbcagdkdiaa
