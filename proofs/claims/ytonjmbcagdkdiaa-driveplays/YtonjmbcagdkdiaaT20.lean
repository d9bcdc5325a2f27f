/-
  A play under way, and its end. No condition.
-/
import Derived.Test.YtonjmbcagdkdiaaT19
namespace Go.Proofs.Ytonjmbcagdkdiaa
open Go.RowKit Go.MapKept
set_option linter.unusedVariables false
set_option linter.unusedSimpArgs false
set_option maxRecDepth 100000

theorem below_own {w w' : World} {O : List Nat} {w0 : World} (h : Below w0.heap.size w0 w) (t : Touch O w w') (hO : ∀ b ∈ O, w0.heap.size ≤ b) : Below w0.heap.size w0 w' := h.trans (t.below hO h.size)
/-- A play under way. -/
structure Play (w0 w : World) (t g : Nat) (ps : List (ByteArray × Int)) (k : Nat) (T : Tv) (D : Dv) : Prop where
  both : Both w T D
  tt : T.t = t
  dg : D.g = g
  town : ∀ b ∈ T.own, w0.heap.size ≤ b
  down : ∀ b ∈ D.own, w0.heap.size ≤ b
  ps : T.ps = ps
  nums : 0 ≤ T.count ∧ T.count ≤ k ∧ 0 ≤ T.told ∧ T.told ≤ k * 1000000
  bel : Below w0.heap.size w0 w
section
variable {w0 w w' : World} {t g k : Nat} {ps : List (ByteArray × Int)} {T : Tv} {D : Dv}
theorem Play.below (h : Play w0 w t g ps k T D) (hb : Below w.heap.size w w') : Play w0 w' t g ps k T D := { h with both := h.both.below hb, bel := below_then h.bel hb }
theorem Play.drewN (h : Play w0 w t g ps k T D) (n : Nat) : Play w0 (w.drewN n) t g ps k T D := h.below (below_drewN below_self n)
theorem Play.mono (h : Play w0 w t g ps k T D) {m : Nat} (hm : k ≤ m) : Play w0 w t g ps m T D := { h with nums := by have := h.nums; omega }
theorem play_step (h : Play w0 w t g ps k T D) (hk : k ≤ 80) {W : World} (o : OpV) (ad : Addr) (ho : OpAt w0 ad o) (hkn : o.kn ≤ 30) (kind off n : Int) (nm : ByteArray) (dA : Option Addr) (dn dc : Nat) (on : Bool) (kA : Option Addr) (kn kc : Nat) (he : Tv.op o = .agg #[.int .i64 kind, .int .i64 off, .int .i64 n, .string nm, .slice dA dn dc, .bool on, .slice kA kn kc]) :
    Calls Try.prog 12 #[.pointer (some ⟨g, 0, none⟩), .pointer (some ⟨t, 0, none⟩), .agg #[.int .i64 kind, .int .i64 off, .int .i64 n, .string nm, .slice dA dn dc, .bool on, .slice kA kn kc]] w fun e w' => e = .returned (.bool true) ∧ ∃ T' D', Play w0 w' t g ps (k + 1) T' D' := by
  have hn := h.nums
  have hs := step_any h.both o ho.offOk ho.nOk (ho.data.below h.bel) (ho.keep.below h.bel) hkn
    (fun h0 ad e => by
      have := ho.data.rd.lt h0 ad e
      exact ⟨fun hm => by have := h.town _ hm; omega, fun hm => by have := h.down _ hm; omega⟩)
    (fun h0 ad e => by
      obtain ⟨ad', e', hlt, _⟩ := ho.keep.rs (by rw [ho.keep.len]; omega)
      rw [e] at e'
      injection e' with e'
      subst e'
      exact ⟨fun hm => by have := h.town _ hm; omega, fun hm => by have := h.down _ hm; omega⟩)
    (by omega)
  rw [h.dg, h.tt, he] at hs
  refine hs.mono ?_
  rintro e w' ⟨rfl, T', D', hb, htt, hdg, hto, hdo, h1, h2, h3, h4, htc, hps⟩
  refine ⟨rfl, T', D', hb, htt.trans h.tt, hdg.trans h.dg, fun b hb => h.town b (by rwa [← hto]), fun b hb => h.down b (by rwa [← hdo]), hps.trans h.ps, by omega, below_own h.bel htc (fun b hb => ?_)⟩
  rcases List.mem_append.1 hb with hb | hb
  · exact h.town b hb
  · exact h.down b hb
theorem play_reads (h : Play w0 w t g ps k T D) : Calls Try.prog 13 #[.pointer (some ⟨g, 0, none⟩)] w fun e w' => e = .returned (.tuple #[.int .i64 T.count, .int .i64 T.told]) ∧ ∃ n, w' = w.drewN n := by
  have := Reads_any D w h.both.drv
  rwa [h.dg, ← h.both.same.count, ← h.both.same.told] at this
theorem play_down (h : Play w0 w t g ps k T D) (n : Nat) : Calls Try.prog 14 #[.pointer (some ⟨g, 0, none⟩)] (w.drewN n) fun e w' => e = .returned (.bool T.off) ∧ w.drewN n = w' := by
  have := Down_any D (w.drewN n) (h.drewN n).both.drv
  rwa [h.dg, ← h.both.same.off] at this
theorem play_parts (h : Play w0 w t g ps k T D) : Calls Try.prog 11 #[.pointer (some ⟨g, 0, none⟩)] w fun e w' => ∃ A c, e = .returned (.slice A ps.length c) ∧ Below w.heap.size w w' := by
  have hl : D.pts.length = ps.length := by
    have e1 := congrArg List.length h.both.same.rows
    have e2 := congrArg List.length h.ps
    simp only [Tv.ps, List.length_map] at e1 e2
    omega
  have := Parts_any D w h.both.drv
  rw [h.dg, hl] at this
  refine this.mono ?_
  rintro e w' ⟨A, c, rfl, _, _, hb⟩
  exact ⟨A, c, rfl, hb⟩
end
/-- The end of a play. -/
structure Last (w0 w : World) (t g : Nat) (O : List Nat) (T : Tv) (D : Dv) (M : Int) : Prop where
  fin : Fin2 w T D M
  tt : T.t = t
  dg : D.g = g
  own : D.own = O
  down : ∀ b ∈ O, w0.heap.size ≤ b
  bel : Below w0.heap.size w0 w
def Clr (D : Dv) (i k : Nat) : Prop := ∀ q, D.pts[i]? = some q → ∀ k' : Nat, k' < k → q.bad k' = false
section
variable {w0 w w' : World} {t g k : Nat} {O : List Nat} {ps : List (ByteArray × Int)} {T : Tv} {D : Dv} {M : Int}
theorem Last.below (h : Last w0 w t g O T D M) (hb : Below w.heap.size w w') : Last w0 w' t g O T D M := { h with fin := h.fin.below hb, bel := below_then h.bel hb }
theorem Last.drewN (h : Last w0 w t g O T D M) (n : Nat) : Last w0 (w.drewN n) t g O T D M := h.below (below_drewN below_self n)
theorem last_boot (h : Play w0 w t g ps k T D) : Calls Try.prog 15 #[.pointer (some ⟨g, 0, none⟩)] w fun e w' => e = .returned (.tuple #[]) ∧ ∃ D', Last w0 w' t g D.own T D' k := by
  have hn := h.nums
  have := fin_boot (M := k) h.both ⟨by rw [← h.both.same.count]; omega, by rw [← h.both.same.told]; omega⟩
  rw [h.dg] at this
  refine this.mono ?_
  rintro e w' ⟨rfl, D', hF, hg, ho, ht⟩
  exact ⟨rfl, D', hF, h.tt, hg, ho, h.down, below_own h.bel ht h.down⟩
theorem last_bad (h : Last w0 w t g O T D M) (i : Nat) (p : TRow) (hi : T.rows[i]? = some p) (k : Nat) (hk : k < p.sb.length) (hc : Clr D i k) :
    Calls Try.prog 16 #[.pointer (some ⟨g, 0, none⟩), .string p.nm, .int .i64 (k : Int), .bool false] w fun e w' => e = .returned (.bool true) ∧ ∃ D', Last w0 w' t g O T D' M ∧ Clr D' i (k + 1) ∧ Touch O w w' := by
  have hz := (h.fin.tw.size p (List.mem_of_getElem? hi)).2.1
  have := fin_bad h.fin i p hi k (by omega)
  rw [h.dg] at this
  refine this.mono ?_
  rintro e w' ⟨rfl, D', hF, hg, ho, ht, hb⟩
  rw [h.own] at ht ho
  refine ⟨rfl, D', ⟨hF, h.tt, hg, ho, h.down, below_own h.bel ht h.down⟩, ?_, ht⟩
  intro q' hq' k' hk'
  obtain ⟨q, hq, _, _⟩ := h.fin.at hi
  rw [hb q q' hq hq']
  by_cases e : (k' : Int) = k
  · simp [badset, e]
  · simp only [badset, if_neg e]
    exact hc q hq k' (by omega)
theorem last_read (h : Last w0 w t g O T D M) (hM : M ≤ 1000) (i : Nat) (p : TRow) (hi : T.rows[i]? = some p) (hc : Clr D i p.sb.length) :
    Calls Try.prog 17 #[.pointer (some ⟨g, 0, none⟩), .string p.nm, .int .i64 0, .int .i64 (p.l.length : Int)] w fun e w' => ∃ r, e = .returned (.tuple #[.slice (some ⟨r, 0, none⟩) p.l.length p.l.length, .int .i64 0]) ∧ Blk w' r 5 (cn .u8 p.l) ∧
      ∃ D', Last w0 w' t g O T D' (M + 1) ∧ Touch O w w' := by
  have hz := (h.fin.tw.size p (List.mem_of_getElem? hi)).2.1
  have := fin_read h.fin hM i p hi (fun q hq k hk => hc q hq k (by omega))
  rw [h.dg] at this
  refine this.mono ?_
  rintro e w' ⟨r, rfl, hB, D', hF, hg, ho, ht⟩
  rw [h.own] at ht ho
  exact ⟨r, rfl, hB, D', ⟨hF, h.tt, hg, ho, h.down, below_own h.bel ht h.down⟩, ht⟩
theorem last_size (h : Last w0 w t g O T D M) (i : Nat) (p : TRow) (hi : T.rows[i]? = some p) :
    Calls Try.prog 18 #[.pointer (some ⟨g, 0, none⟩), .string p.nm] w fun e w' => e = .returned (.tuple #[.int .i64 (p.l.length : Int), .int .i64 0]) ∧ Below w.heap.size w w' := by
  have := fin_size h.fin i p hi
  rwa [h.dg] at this
theorem last_none (h : Last w0 w t g O T D M) (hps : T.ps = ps) (hr : Right ps) :
    Calls Try.prog 18 #[.pointer (some ⟨g, 0, none⟩), .string ⟨#[110, 111, 32, 115, 117, 99, 104, 32, 111, 110, 101]⟩] w fun e w' => e = .returned (.tuple #[.int .i64 0, .int .i64 40]) ∧ Below w.heap.size w w' := by
  have := fin_none h.fin (fun p hp => (hr.1 (p.nm, (p.l.length : Int)) (by rw [← hps]; exact List.mem_map.2 ⟨p, hp, rfl⟩)).1)
  rwa [h.dg] at this
/-- The row of a partition. -/
theorem row_at (hps : T.ps = ps) {j : Nat} {nm : ByteArray} {z : Int} (hp : ps[j]? = some (nm, z)) : ∃ p, T.rows[j]? = some p ∧ p.nm = nm ∧ z = p.l.length := by
  rw [← hps] at hp
  simp only [Tv.ps, List.getElem?_map] at hp
  cases h : T.rows[j]? with
  | none => rw [h] at hp; cases hp
  | some p =>
    rw [h] at hp
    injection hp with hp
    injection hp with h1 h2
    exact ⟨p, rfl, h1, h2.symm⟩
end
/-- A new play. -/
theorem play_new {w w1 w2 w4 : World} {D : Dv} {k : Nat} {ps : List (ByteArray × Int)} (h1 : Below w.heap.size w w1) (h12 : w1.heap.size ≤ w2.heap.size) (hD : Drv w2 D) (hF : Fresh w1.heap.size ps D) (b24 : Below w2.heap.size w2 w4) (hb : Below w.heap.size w w4) {B : Nat} {pa : Option Addr} {pc : Nat} {rows : List TRow} {ba : Option Addr} {bc : Nat} {sa : Option Addr} {sc : Nat}
    (hM : Mk w4 w2.heap.size B k ps pa pc k rows ba bc sa sc) (hln : ps.length = k) (hfz : ps.length ≤ 16 ∧ Right ps) (hle : ∀ q ∈ ps, q.2 ≤ 1000) (hpa : ∀ x ∈ bl pa, w2.heap.size ≤ x) : ∃ T D', Play w w4 w2.heap.size D.g ps 0 T D' := by
  have hB := both_new (hD.below b24) hF hM hln (by omega) hfz.2 hle (fun b hb => hD.lt b hb) hpa hD.partsLt
  have hs := h1.size
  refine ⟨_, D, hB, rfl, rfl, fun b hb => ?_, fun b hb => ?_, ?_, ⟨Int.le_refl _, Int.le_refl _, Int.le_refl _, Int.le_refl _⟩, hb⟩
  · have hm := hM.tlt
    rcases List.mem_cons.1 hb with e | e
    · rw [e]; show w.heap.size ≤ w2.heap.size; omega
    · obtain ⟨p, hp', h1⟩ := List.mem_flatMap.1 e
      have := hM.ge p hp'
      simp at h1
      rcases h1 with rfl | rfl <;> omega
  · have := hF.above b hb
    omega
  · show rows.map (fun p => (p.nm, (p.l.length : Int))) = ps
    rw [hM.same, List.take_of_length_le (by omega)]
end Go.Proofs.Ytonjmbcagdkdiaa
