/-
  Behind a play: the drive up again, its sectors good, its bytes read; the twin as it was. No condition.
-/
import Derived.Test.YtonjmbcagdkdiaaT18
namespace Go.Proofs.Ytonjmbcagdkdiaa
open Go.RowKit Go.MapKept
set_option linter.unusedVariables false
set_option linter.unusedSimpArgs false
set_option maxRecDepth 100000

structure Fin2 (w : World) (T : Tv) (D : Dv) (M : Int) : Prop where
  tw : Tw w T
  drv : Drv w D
  rows : T.rows.map (fun p => (p.nm, p.l)) = D.pts.map (fun p => (p.nm, p.l))
  down : D.down = false
  tfar : ∀ b ∈ D.own, T.far b
  nums : D.count ≤ M ∧ D.told ≤ M * 1000000
section
variable {w w' : World} {T : Tv} {D : Dv} {M : Int}
theorem Fin2.at (h : Fin2 w T D M) {i : Nat} {p : TRow} (hi : T.rows[i]? = some p) : ∃ q, D.pts[i]? = some q ∧ q.nm = p.nm ∧ q.l = p.l := by
  have e := congrArg (fun l => l[i]?) h.rows
  simp only [List.getElem?_map, hi, Option.map_some] at e
  cases hq : D.pts[i]? with
  | none => rw [hq] at e; cases e
  | some q =>
    rw [hq] at e
    injection e with e
    injection e with e1 e2
    exact ⟨q, rfl, e1.symm, e2.symm⟩
theorem Fin2.below (h : Fin2 w T D M) (hb : Below w.heap.size w w') : Fin2 w' T D M := { h with tw := h.tw.below hb, drv := h.drv.below hb }
theorem fin_boot (h : Both w T D) (hn : D.count ≤ M ∧ D.told ≤ M * 1000000) :
    Calls Try.prog 15 #[.pointer (some ⟨D.g, 0, none⟩)] w fun e w' => e = .returned (.tuple #[]) ∧ ∃ D', Fin2 w' T D' M ∧ D'.g = D.g ∧ D'.own = D.own ∧ Touch D.own w w' := by
  refine (Boot_any D w h.drv).mono ?_
  rintro e w' ⟨rfl, hd, ht⟩
  refine ⟨rfl, _, ⟨h.tw.touchFar ht (fun g hg => h.tfar g (by rw [List.mem_singleton.1 hg]; exact own_g D)), hd, h.same.rows, rfl, h.tfar, hn⟩, rfl, rfl, ht.wider (fun x hx => by rw [List.mem_singleton.1 hx]; exact own_g D)⟩
theorem fin_bad (h : Fin2 w T D M) (i : Nat) (p : TRow) (hi : T.rows[i]? = some p) (k : Nat) (hk : k < p.l.length / 64) :
    Calls Try.prog 16 #[.pointer (some ⟨D.g, 0, none⟩), .string p.nm, .int .i64 (k : Int), .bool false] w fun e w' => e = .returned (.bool true) ∧ ∃ D', Fin2 w' T D' M ∧ D'.g = D.g ∧ D'.own = D.own ∧ Touch D.own w w' ∧
      ∀ q q', D.pts[i]? = some q → D'.pts[i]? = some q' → q'.bad = badset q.bad k false := by
  obtain ⟨q, hj, hqn, hql⟩ := h.at hi
  refine (Bad_ok D w h.drv i q hj p.nm hqn k false (by rw [hql]; exact hk)).mono ?_
  rintro e w' ⟨rfl, hd, ht⟩
  have ho : (D.put i { q with bad := badset q.bad k false }).own = D.own := own_put (q := { q with bad := badset q.bad k false }) hj rfl rfl
  refine ⟨rfl, _, ⟨h.tw.touchFar ht (fun g hg => h.tfar g hg), hd, ?_, h.down, fun b hb => h.tfar b (by rw [← ho]; exact hb), h.nums⟩, rfl, ho, ht, ?_⟩
  · rw [h.rows]
    exact (map_set (y := { q with bad := badset q.bad k false }) (fun p : Pt => (p.nm, p.l)) hj rfl).symm
  · intro q1 q2 h1 h2
    rw [hj] at h1
    injection h1 with h1
    subst h1
    rw [show (D.put i { q with bad := badset q.bad k false }).pts = D.pts.set i { q with bad := badset q.bad k false } from rfl, List.getElem?_set_self (List.getElem?_eq_some_iff.1 hj).1] at h2
    injection h2 with h2
    rw [← h2]
theorem fin_read (h : Fin2 w T D M) (hM : M ≤ 1000) (i : Nat) (p : TRow) (hi : T.rows[i]? = some p) (hb : ∀ q, D.pts[i]? = some q → ∀ k : Nat, k < p.l.length / 64 → q.bad k = false) :
    Calls Try.prog 17 #[.pointer (some ⟨D.g, 0, none⟩), .string p.nm, .int .i64 0, .int .i64 (p.l.length : Int)] w fun e w' => ∃ r, e = .returned (.tuple #[.slice (some ⟨r, 0, none⟩) p.l.length p.l.length, .int .i64 0]) ∧ Blk w' r 5 (cn .u8 p.l) ∧
      ∃ D', Fin2 w' T D' (M + 1) ∧ D'.g = D.g ∧ D'.own = D.own ∧ Touch D.own w w' := by
  obtain ⟨q, hj, hqn, hql⟩ := h.at hi
  have hp := List.mem_of_getElem? hi
  have hq := List.mem_of_getElem? hj
  have hs := h.tw.size p hp
  have hn1 := h.nums
  have hno : ¬ Spoilt q.bad 0 p.l.length := by
    rintro ⟨j, h1, h2, h3⟩
    have := hb q hj (j / 64) (by omega)
    rw [this] at h3
    cases h3
  refine (Read_ok D w h.drv h.down q hq p.nm hqn 0 p.l.length (by rw [hql]; omega) hno (by omega) (by omega)).mono ?_
  rintro e w' ⟨r, rfl, hr, hB, hd, ht⟩
  have e1 : (q.l.drop 0).take p.l.length = p.l := by rw [hql, List.drop_zero, List.take_length]
  rw [e1] at hB
  refine ⟨r, rfl, hB, _, ⟨h.tw.touchFar ht (fun g hg => h.tfar g (by rw [List.mem_singleton.1 hg]; exact own_g D)), hd, h.rows, h.down, h.tfar, ?_⟩, rfl, rfl, ht.wider (fun x hx => by rw [List.mem_singleton.1 hx]; exact own_g D)⟩
  have := hs.1
  show D.count + 1 ≤ M + 1 ∧ D.told + (p.l.length : Int) ≤ (M + 1) * 1000000
  omega
theorem fin_size (h : Fin2 w T D M) (i : Nat) (p : TRow) (hi : T.rows[i]? = some p) :
    Calls Try.prog 18 #[.pointer (some ⟨D.g, 0, none⟩), .string p.nm] w fun e w' => e = .returned (.tuple #[.int .i64 (p.l.length : Int), .int .i64 0]) ∧ Below w.heap.size w w' := by
  obtain ⟨q, hj, hqn, hql⟩ := h.at hi
  have := Size_yes D w h.drv q (List.mem_of_getElem? hj) p.nm hqn
  rwa [hql] at this
theorem fin_none (h : Fin2 w T D M) (hn : ∀ p ∈ T.rows, NameOk p.nm) :
    Calls Try.prog 18 #[.pointer (some ⟨D.g, 0, none⟩), .string ⟨#[110, 111, 32, 115, 117, 99, 104, 32, 111, 110, 101]⟩] w fun e w' => e = .returned (.tuple #[.int .i64 0, .int .i64 40]) ∧ Below w.heap.size w w' := by
  refine Size_no D w h.drv _ (fun q hq e => ?_)
  obtain ⟨i, hi⟩ := List.mem_iff_getElem?.1 hq
  have e1 := congrArg (fun l => l[i]?) h.rows
  simp only [List.getElem?_map, hi, Option.map_some] at e1
  cases hp : T.rows[i]? with
  | none => rw [hp] at e1; cases e1
  | some p =>
    rw [hp] at e1
    injection e1 with e1
    injection e1 with e1 _
    have hN := hn p (List.mem_of_getElem? hp)
    rw [e1, e] at hN
    have := hN.2.2 2 (by decide)
    revert this
    decide
end
/-- A new drive and a new twin of the same partitions. -/
theorem both_new {w0 w : World} {D : Dv} {t B N : Nat} {ps : List (ByteArray × Int)} {pa ba sa : Option Addr} {pc bc sc : Nat} {rows : List TRow} (hD : Drv w D) (hF : Fresh w0.heap.size ps D) (hM : Mk w t B N ps pa pc N rows ba bc sa sc) (hN : ps.length = N) (hn16 : N ≤ 16) (hr : Right ps) (hle : ∀ q ∈ ps, q.2 ≤ 1000)
    (ht : ∀ b ∈ D.own, b < t) (hp : ∀ x ∈ bl pa, t ≤ x) (hdp : ∀ ad, D.pa = some ad → ad.block < t) : Both w (mkTv t rows pa pc ba bc sa sc) D := by
  have hTw := hM.tw rfl hN hn16 hr hle
  have hps : ps.take N = ps := List.take_of_length_le (by omega)
  have hs := hM.same
  rw [hps] at hs
  have hlen : rows.length = ps.length := by rw [hM.len, hN]
  have own_ge : ∀ x, x ∈ (mkTv t rows pa pc ba bc sa sc).own → t ≤ x := fun x hx => by
    rcases List.mem_cons.1 hx with e | e
    · rw [e]; exact Nat.le_refl _
    · obtain ⟨p, hp', h1⟩ := List.mem_flatMap.1 e
      have := hM.ge p hp'
      have := hM.tlt
      simp at h1
      rcases h1 with rfl | rfl <;> omega
  have bge : ∀ x ∈ bl ba ++ bl sa, t ≤ x := fun x hx => by
    have := hM.tlt
    rcases List.mem_append.1 hx with h1 | h1
    · have := (hM.tabB.ge x h1).1; omega
    · have := (hM.tabS.ge x h1).1; omega
  have each : ∀ (i : Nat) (p : TRow) (q : Pt), rows[i]? = some p → D.pts[i]? = some q → p.nm = q.nm ∧ p.l = q.l ∧ q.bad = fun _ => false := by
    intro i p q h1 h2
    have e1 := congrArg (fun l => l[i]?) hs
    have e2 := congrArg (fun l => l[i]?) hF.same
    simp only [List.getElem?_map, h1, h2, Option.map_some] at e1 e2
    cases hx : ps[i]? with
    | none => rw [hx] at e1; cases e1
    | some x =>
      rw [hx] at e1 e2
      injection e1 with e1
      injection e2 with e2
      rw [← e1] at e2
      injection e2 with e3 e4
      injection e4 with e4 e5
      refine ⟨e3.symm, ?_, e5⟩
      rw [e4, (hM.zero p (List.mem_of_getElem? h1)).1]
      simp
  refine ⟨hD, hTw, ⟨?_, ?_, ?_, ?_, ?_, ?_, ?_, ?_⟩, ?_, ?_, (by show (0 : Int) ≤ _; omega)⟩
  · apply List.ext_getElem?
    intro i
    have hl2 : D.pts.length = ps.length := by have := congrArg List.length hF.same; simpa using this
    show (rows.map fun p => (p.nm, p.l))[i]? = (D.pts.map fun p => (p.nm, p.l))[i]?
    rw [List.getElem?_map, List.getElem?_map]
    cases h1 : rows[i]? with
    | none =>
      have h3 : D.pts[i]? = none := by
        rw [List.getElem?_eq_none_iff] at h1 ⊢
        omega
      rw [h3]; rfl
    | some p =>
      have hi := (List.getElem?_eq_some_iff.1 h1).1
      obtain ⟨q, h2⟩ : ∃ q, D.pts[i]? = some q := ⟨_, List.getElem?_eq_getElem (by omega)⟩
      rw [h2]
      have := each i p q h1 h2
      simp [this.1, this.2.1]
  · intro i p q h1 h2 k hk
    have h3 := each i p q h1 h2
    rw [h3.2.2]
    have h4 := (hM.zero p (List.mem_of_getElem? h1)).2
    rw [h4]
    simp [List.getD, List.getElem?_replicate]
    split <;> rfl
  · exact hF.down.symm
  · rw [hF.left]
    show false = true ↔ (0 : Int) ≤ -1
    simp
  · intro e; cases e
  · intro e; cases e
  · exact hF.count.symm
  · exact hF.told.symm
  · intro b hb
    have hlt := ht b hb
    refine ⟨fun hm => by have := own_ge b hm; omega, fun ad e => ?_, fun ad e => ?_, fun ad e => ?_, fun h0 => absurd h0 (Nat.lt_irrefl _)⟩
    · have := hp _ (mem_bl.2 ⟨ad, e, rfl⟩); omega
    · have := bge _ (List.mem_append.2 (.inl (mem_bl.2 ⟨ad, e, rfl⟩))); omega
    · have := bge _ (List.mem_append.2 (.inr (mem_bl.2 ⟨ad, e, rfl⟩))); omega
  · intro b hb
    have hge := own_ge b hb
    refine ⟨fun hm => by have := ht b hm; omega, fun ad e => ?_, fun ad e => ?_⟩
    · have := hdp ad e; omega
    · rw [hF.ka] at e; cases e
end Go.Proofs.Ytonjmbcagdkdiaa
