/-
  A change of a vault: the two closures, change over each of them. No condition but that lengths are lengths and no count of changes passes 2 to the 60.
-/
import Derived.Test.YtekfjccpcbbgfaaV2
namespace Go.Proofs.Ytekfjccpcbbgfaa
open Go.RowKit
set_option linter.unusedVariables false
set_option linter.unusedSimpArgs false
set_option maxRecDepth 100000

theorem LockL_any (V : Vt) (w : World) (h : Vlt w V) (b : Bool) (po pv : Nat) (ho : w.cell? ⟨po, 0, none⟩ = some (.bool b)) (hv : w.cell? ⟨pv, 0, none⟩ = some (.pointer (some ⟨V.g, 0, none⟩))) :
    Calls Try.prog 21 #[.pointer (some ⟨po, 0, none⟩), .pointer (some ⟨pv, 0, none⟩)] w (Goes w V { V with lk := b } (.tuple #[])) := by
  have H1 := Lib.hid (h.setLk b)
  have T1 := Lib.hid (set_touch V.g 32 (.bool b) w)
  have c := h.clk
  have z := h.z 32
  clear h
  go_enter Try.func21, Try.ntmps21
  go_wp2
  exact bodyPost_end (v := .tuple #[]) (results_none Try.results21 _ _ _) rfl ⟨rfl, H1.out, T1.out⟩
theorem RaiseL_any (V : Vt) (w : World) (h : Vlt w V) (x j : Nat) (hj : j < 32) (hx : x ≤ 281474976710656) (pi pv pl : Nat) (hi : w.cell? ⟨pi, 0, none⟩ = some (.int .i64 (x : Int))) (hv : w.cell? ⟨pv, 0, none⟩ = some (.pointer (some ⟨V.g, 0, none⟩))) (hl : w.cell? ⟨pl, 0, none⟩ = some (.int .i64 (j : Int))) :
    Calls Try.prog 20 #[.pointer (some ⟨pi, 0, none⟩), .pointer (some ⟨pv, 0, none⟩), .pointer (some ⟨pl, 0, none⟩)] w (Goes w V { V with ix := V.ix.set j x } (.tuple #[])) := by
  have h2 : Vlt w.drew V := h.drewN 1
  have H1 := Lib.hid (h2.setIx j x hj hx)
  have T1 : Hid (Touch [V.g] w (w.drew.setCell ⟨V.g, 33 + j, none⟩ (.int .i64 (x : Int)))) := ((Touch.refl [V.g] w).drew).trans (set_touch V.g (33 + j) (.int .i64 (x : Int)) w.drew)
  have zj : (j : Int) < 32 := by omega
  obtain ⟨y, hy⟩ : ∃ y, V.ix[j]? = some y := ⟨_, List.getElem?_eq_getElem (by rw [h.il]; exact hj)⟩
  have c := h.cix hy
  have z := h.z (33 + j)
  clear h hy h2
  go_enter Try.func20, Try.ntmps20
  go_wp2
  go_still_tail 6, (by kernel_rfl)
  change wpList _ _ _ _ _ w.drew
  go_wp2
  exact bodyPost_end (v := .tuple #[]) (results_none Try.results20 _ _ _) rfl ⟨rfl, H1.out, T1.out⟩

/-- A vault behind a change of what is locked, and of the indexes, and what it answers. -/
def Vt.did (V : Vt) (lk : Bool) (ix : List Nat) : Vt × Int :=
  if V.lf = 0 then (if V.dd = true then ({ V with lk := lk, ix := ix, ch := V.ch + 1, dn := true }, 42) else ({ V with dn := true }, 42))
  else if 0 < V.lf then ({ V with lk := lk, ix := ix, ch := V.ch + 1, lf := V.lf - 1 }, 0) else ({ V with lk := lk, ix := ix, ch := V.ch + 1 }, 0)
theorem did_g (V : Vt) (lk : Bool) (ix : List Nat) : (V.did lk ix).1.g = V.g := by
  unfold Vt.did; split
  · split <;> rfl
  · split <;> rfl
theorem did_root (V : Vt) (lk : Bool) (ix : List Nat) : (V.did lk ix).1.root = V.root := by
  unfold Vt.did; split
  · split <;> rfl
  · split <;> rfl

set_option maxHeartbeats 1000000 in
theorem change_lock (V : Vt) (w : World) (h : Vlt w V) (hc : V.ch + 1 ≤ 1152921504606846976) (lk : Bool) (ix : List Nat) (po pv : Nat) (hdo : Calls Try.prog 21 #[.pointer (some ⟨po, 0, none⟩), .pointer (some ⟨pv, 0, none⟩)] w (Goes w V { V with lk := lk, ix := ix } (.tuple #[]))) :
    Calls Try.prog 19 #[.pointer (some ⟨V.g, 0, none⟩), .func (.func 21) #[] #[.pointer (some ⟨po, 0, none⟩), .pointer (some ⟨pv, 0, none⟩)]] w (Goes w V (V.did lk ix).1 (.int .i64 (V.did lk ix).2)) := by
  have hcb := h.cb
  have hlb := h.lb
  have HG : Hid (Goes w V (V.did lk ix).1 (.int .i64 (V.did lk ix).2) = Goes w V (V.did lk ix).1 (.int .i64 (V.did lk ix).2)) := rfl
  obtain ⟨g, root, lk0, ix0, dn, lf, dd, ch⟩ := V
  simp only [] at hc hcb hlb hdo
  have clf := h.clf
  have cdd := h.cdd
  have cdn := h.cdn
  have cch := h.cch
  have z65 := h.z 65
  have z66 := h.z 66
  have z68 := h.z 68
  simp only [] at clf cdd cdn cch z65 z66 z68
  have HD := Lib.hid hdo
  have HV := Lib.hid h
  clear hdo h HG
  by_cases h0 : lf = 0
  · subst h0
    cases dd with
    | false =>
      have P : Hid (Vt.did ⟨g, root, lk0, ix0, dn, 0, false, ch⟩ lk ix = (⟨g, root, lk0, ix0, true, 0, false, ch⟩, 42)) := rfl
      have H1 : Hid (Vlt (w.setCell ⟨g, 65, none⟩ (.bool true)) ⟨g, root, lk0, ix0, true, 0, false, ch⟩) := HV.out.setDn true
      have T1 := Lib.hid (set_touch g 65 (.bool true) w)
      generalize Vt.did ⟨g, root, lk0, ix0, dn, 0, false, ch⟩ lk ix = R at *
      obtain rfl := P.out
      go_enter Try.func19, Try.ntmps19
      go_wp2
      go_ret
      exact ⟨rfl, H1.out, T1.out⟩
    | true =>
      have P : Hid (Vt.did ⟨g, root, lk0, ix0, dn, 0, true, ch⟩ lk ix = (⟨g, root, lk, ix, true, 0, true, ch + 1⟩, 42)) := rfl
      generalize Vt.did ⟨g, root, lk0, ix0, dn, 0, true, ch⟩ lk ix = R at *
      obtain rfl := P.out
      go_enter Try.func19, Try.ntmps19
      go_wp2_with fail
      refine HD.out.mono ?_
      rintro e w2 ⟨rfl, hV2, hT2⟩
      have d1 := hV2.cdn
      have d2 := hV2.cch
      have y1 := hV2.z 65
      have y2 := hV2.z 68
      simp only [] at d1 d2 y1 y2
      have H3 : Hid (Vlt ((w2.setCell ⟨g, 68, none⟩ (.int .i64 (ch + 1))).setCell ⟨g, 65, none⟩ (.bool true)) ⟨g, root, lk, ix, true, 0, true, ch + 1⟩) := (hV2.setCh (ch + 1) (by omega)).setDn true
      have T3 := Lib.hid ((hT2.trans (set_touch g 68 (.int .i64 (ch + 1)) w2)).trans (set_touch g 65 (.bool true) _))
      clear hV2 hT2 clf cdd cdn cch z65 z66 z68
      go_wp2
      go_ret
      exact ⟨rfl, H3.out, T3.out⟩
  · by_cases h1 : 0 < lf
    · have P : Hid (Vt.did ⟨g, root, lk0, ix0, dn, lf, dd, ch⟩ lk ix = (⟨g, root, lk, ix, dn, lf - 1, dd, ch + 1⟩, 0)) := by
        show _ = _; unfold Vt.did; rw [if_neg h0, if_pos h1]
      generalize Vt.did ⟨g, root, lk0, ix0, dn, lf, dd, ch⟩ lk ix = R at *
      obtain rfl := P.out
      go_enter Try.func19, Try.ntmps19
      go_wp2_with fail
      refine HD.out.mono ?_
      rintro e w2 ⟨rfl, hV2, hT2⟩
      have d1 := hV2.clf
      have d2 := hV2.cch
      have y1 := hV2.z 66
      have y2 := hV2.z 68
      simp only [] at d1 d2 y1 y2
      have H3 : Hid (Vlt ((w2.setCell ⟨g, 68, none⟩ (.int .i64 (ch + 1))).setCell ⟨g, 66, none⟩ (.int .i64 (lf - 1))) ⟨g, root, lk, ix, dn, lf - 1, dd, ch + 1⟩) := (hV2.setCh (ch + 1) (by omega)).setLf (lf - 1) (by omega)
      have T3 := Lib.hid ((hT2.trans (set_touch g 68 (.int .i64 (ch + 1)) w2)).trans (set_touch g 66 (.int .i64 (lf - 1)) _))
      clear hV2 hT2 clf cdd cdn cch z65 z66 z68
      go_wp2
      go_ret
      exact ⟨rfl, H3.out, T3.out⟩
    · have P : Hid (Vt.did ⟨g, root, lk0, ix0, dn, lf, dd, ch⟩ lk ix = (⟨g, root, lk, ix, dn, lf, dd, ch + 1⟩, 0)) := by
        show _ = _; unfold Vt.did; rw [if_neg h0, if_neg h1]
      generalize Vt.did ⟨g, root, lk0, ix0, dn, lf, dd, ch⟩ lk ix = R at *
      obtain rfl := P.out
      go_enter Try.func19, Try.ntmps19
      go_wp2_with fail
      refine HD.out.mono ?_
      rintro e w2 ⟨rfl, hV2, hT2⟩
      have d1 := hV2.clf
      have d2 := hV2.cch
      have y2 := hV2.z 68
      simp only [] at d1 d2 y2
      have H3 : Hid (Vlt (w2.setCell ⟨g, 68, none⟩ (.int .i64 (ch + 1))) ⟨g, root, lk, ix, dn, lf, dd, ch + 1⟩) := hV2.setCh (ch + 1) (by omega)
      have T3 := Lib.hid (hT2.trans (set_touch g 68 (.int .i64 (ch + 1)) w2))
      clear hV2 hT2 clf cdd cdn cch z65 z66 z68
      go_wp2
      go_ret
      exact ⟨rfl, H3.out, T3.out⟩

set_option maxHeartbeats 1000000 in
theorem change_raise (V : Vt) (w : World) (h : Vlt w V) (hc : V.ch + 1 ≤ 1152921504606846976) (lk : Bool) (ix : List Nat) (pi pv pl : Nat) (hdo : Calls Try.prog 20 #[.pointer (some ⟨pi, 0, none⟩), .pointer (some ⟨pv, 0, none⟩), .pointer (some ⟨pl, 0, none⟩)] w (Goes w V { V with lk := lk, ix := ix } (.tuple #[]))) :
    Calls Try.prog 19 #[.pointer (some ⟨V.g, 0, none⟩), .func (.func 20) #[] #[.pointer (some ⟨pi, 0, none⟩), .pointer (some ⟨pv, 0, none⟩), .pointer (some ⟨pl, 0, none⟩)]] w (Goes w V (V.did lk ix).1 (.int .i64 (V.did lk ix).2)) := by
  have hcb := h.cb
  have hlb := h.lb
  have HG : Hid (Goes w V (V.did lk ix).1 (.int .i64 (V.did lk ix).2) = Goes w V (V.did lk ix).1 (.int .i64 (V.did lk ix).2)) := rfl
  obtain ⟨g, root, lk0, ix0, dn, lf, dd, ch⟩ := V
  simp only [] at hc hcb hlb hdo
  have clf := h.clf
  have cdd := h.cdd
  have cdn := h.cdn
  have cch := h.cch
  have z65 := h.z 65
  have z66 := h.z 66
  have z68 := h.z 68
  simp only [] at clf cdd cdn cch z65 z66 z68
  have HD := Lib.hid hdo
  have HV := Lib.hid h
  clear hdo h HG
  by_cases h0 : lf = 0
  · subst h0
    cases dd with
    | false =>
      have P : Hid (Vt.did ⟨g, root, lk0, ix0, dn, 0, false, ch⟩ lk ix = (⟨g, root, lk0, ix0, true, 0, false, ch⟩, 42)) := rfl
      have H1 : Hid (Vlt (w.setCell ⟨g, 65, none⟩ (.bool true)) ⟨g, root, lk0, ix0, true, 0, false, ch⟩) := HV.out.setDn true
      have T1 := Lib.hid (set_touch g 65 (.bool true) w)
      generalize Vt.did ⟨g, root, lk0, ix0, dn, 0, false, ch⟩ lk ix = R at *
      obtain rfl := P.out
      go_enter Try.func19, Try.ntmps19
      go_wp2
      go_ret
      exact ⟨rfl, H1.out, T1.out⟩
    | true =>
      have P : Hid (Vt.did ⟨g, root, lk0, ix0, dn, 0, true, ch⟩ lk ix = (⟨g, root, lk, ix, true, 0, true, ch + 1⟩, 42)) := rfl
      generalize Vt.did ⟨g, root, lk0, ix0, dn, 0, true, ch⟩ lk ix = R at *
      obtain rfl := P.out
      go_enter Try.func19, Try.ntmps19
      go_wp2_with fail
      refine HD.out.mono ?_
      rintro e w2 ⟨rfl, hV2, hT2⟩
      have d1 := hV2.cdn
      have d2 := hV2.cch
      have y1 := hV2.z 65
      have y2 := hV2.z 68
      simp only [] at d1 d2 y1 y2
      have H3 : Hid (Vlt ((w2.setCell ⟨g, 68, none⟩ (.int .i64 (ch + 1))).setCell ⟨g, 65, none⟩ (.bool true)) ⟨g, root, lk, ix, true, 0, true, ch + 1⟩) := (hV2.setCh (ch + 1) (by omega)).setDn true
      have T3 := Lib.hid ((hT2.trans (set_touch g 68 (.int .i64 (ch + 1)) w2)).trans (set_touch g 65 (.bool true) _))
      clear hV2 hT2 clf cdd cdn cch z65 z66 z68
      go_wp2
      go_ret
      exact ⟨rfl, H3.out, T3.out⟩
  · by_cases h1 : 0 < lf
    · have P : Hid (Vt.did ⟨g, root, lk0, ix0, dn, lf, dd, ch⟩ lk ix = (⟨g, root, lk, ix, dn, lf - 1, dd, ch + 1⟩, 0)) := by
        show _ = _; unfold Vt.did; rw [if_neg h0, if_pos h1]
      generalize Vt.did ⟨g, root, lk0, ix0, dn, lf, dd, ch⟩ lk ix = R at *
      obtain rfl := P.out
      go_enter Try.func19, Try.ntmps19
      go_wp2_with fail
      refine HD.out.mono ?_
      rintro e w2 ⟨rfl, hV2, hT2⟩
      have d1 := hV2.clf
      have d2 := hV2.cch
      have y1 := hV2.z 66
      have y2 := hV2.z 68
      simp only [] at d1 d2 y1 y2
      have H3 : Hid (Vlt ((w2.setCell ⟨g, 68, none⟩ (.int .i64 (ch + 1))).setCell ⟨g, 66, none⟩ (.int .i64 (lf - 1))) ⟨g, root, lk, ix, dn, lf - 1, dd, ch + 1⟩) := (hV2.setCh (ch + 1) (by omega)).setLf (lf - 1) (by omega)
      have T3 := Lib.hid ((hT2.trans (set_touch g 68 (.int .i64 (ch + 1)) w2)).trans (set_touch g 66 (.int .i64 (lf - 1)) _))
      clear hV2 hT2 clf cdd cdn cch z65 z66 z68
      go_wp2
      go_ret
      exact ⟨rfl, H3.out, T3.out⟩
    · have P : Hid (Vt.did ⟨g, root, lk0, ix0, dn, lf, dd, ch⟩ lk ix = (⟨g, root, lk, ix, dn, lf, dd, ch + 1⟩, 0)) := by
        show _ = _; unfold Vt.did; rw [if_neg h0, if_neg h1]
      generalize Vt.did ⟨g, root, lk0, ix0, dn, lf, dd, ch⟩ lk ix = R at *
      obtain rfl := P.out
      go_enter Try.func19, Try.ntmps19
      go_wp2_with fail
      refine HD.out.mono ?_
      rintro e w2 ⟨rfl, hV2, hT2⟩
      have d1 := hV2.clf
      have d2 := hV2.cch
      have y2 := hV2.z 68
      simp only [] at d1 d2 y2
      have H3 : Hid (Vlt (w2.setCell ⟨g, 68, none⟩ (.int .i64 (ch + 1))) ⟨g, root, lk, ix, dn, lf, dd, ch + 1⟩) := hV2.setCh (ch + 1) (by omega)
      have T3 := Lib.hid (hT2.trans (set_touch g 68 (.int .i64 (ch + 1)) w2))
      clear hV2 hT2 clf cdd cdn cch z65 z66 z68
      go_wp2
      go_ret
      exact ⟨rfl, H3.out, T3.out⟩
end Go.Proofs.Ytekfjccpcbbgfaa
