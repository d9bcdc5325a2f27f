/-
  The twin and the drive say the same; a write on both. No condition.
-/
import Derived.Test.YtonjmbcagdkdiaaT5
namespace Go.Proofs.Ytonjmbcagdkdiaa
open Go.RowKit Go.MapKept
set_option linter.unusedVariables false
set_option linter.unusedSimpArgs false
set_option maxRecDepth 100000

structure Same (T : Tv) (D : Dv) : Prop where
  rows : T.rows.map (fun p => (p.nm, p.l)) = D.pts.map (fun p => (p.nm, p.l))
  bads : ∀ (i : Nat) (p : TRow) (q : Pt), T.rows[i]? = some p → D.pts[i]? = some q → ∀ k, k < q.l.length / 64 → p.sb.getD k false = q.bad (k : Int)
  off : T.off = D.down
  armed : T.armed = true ↔ 0 ≤ D.left
  left : T.armed = true → T.left = D.left
  keep : T.armed = true → T.keep = D.keep
  count : T.count = D.count
  told : T.told = D.told
section
variable {T : Tv} {D : Dv}
theorem tw_own_put {i : Nat} {p q : TRow} (hi : T.rows[i]? = some p) (h1 : q.bb = p.bb := by rfl) (h2 : q.mm = p.mm := by rfl) : (T.put i q).own = T.own := by
  have e : (T.rows.set i q).flatMap (fun p => [p.bb, p.mm]) = T.rows.flatMap (fun p => [p.bb, p.mm]) := by
    rw [List.flatMap_def, List.flatMap_def, map_set (y := q) (fun p : TRow => [p.bb, p.mm]) hi (by rw [h1, h2])]
  show T.t :: _ = T.t :: _
  rw [show (T.put i q).rows = T.rows.set i q from rfl, e]
theorem Same.at (h : Same T D) {i : Nat} {p : TRow} (hi : T.rows[i]? = some p) : ∃ q, D.pts[i]? = some q ∧ q.nm = p.nm ∧ q.l = p.l := by
  have e := congrArg (fun l => l[i]?) h.rows
  simp only [List.getElem?_map, hi, Option.map_some] at e
  cases hq : D.pts[i]? with
  | none => rw [hq] at e; cases e
  | some q =>
    rw [hq] at e
    injection e with e
    injection e with e1 e2
    exact ⟨q, rfl, e1.symm, e2.symm⟩
theorem Same.back (h : Same T D) {i : Nat} {q : Pt} (hi : D.pts[i]? = some q) : ∃ p, T.rows[i]? = some p ∧ q.nm = p.nm ∧ q.l = p.l := by
  have e := congrArg (fun l => l[i]?) h.rows
  simp only [List.getElem?_map, hi, Option.map_some] at e
  cases hq : T.rows[i]? with
  | none => rw [hq] at e; cases e
  | some p =>
    rw [hq] at e
    injection e with e
    injection e with e1 e2
    exact ⟨p, rfl, e1.symm, e2.symm⟩
theorem Same.none (h : Same T D) {s : ByteArray} (hn : ∀ p ∈ T.rows, p.nm ≠ s) : ∀ q ∈ D.pts, q.nm ≠ s := fun q hq e => by
  obtain ⟨i, hi⟩ := List.mem_iff_getElem?.1 hq
  obtain ⟨p, hp, e1, _⟩ := h.back hi
  exact hn p (List.mem_of_getElem? hp) (e1.symm.trans e)
/-- A row's bytes turned on both sides. -/
theorem Same.put (h : Same T D) {i : Nat} {p : TRow} {q : Pt} (hi : T.rows[i]? = some p) (hj : D.pts[i]? = some q) (l' : List Nat) (hl : l'.length = q.l.length) : Same (T.put i { p with l := l' }) (D.put i { q with l := l' }) where
  rows := by
    obtain ⟨q', e1, e2, e3⟩ := h.at hi
    rw [hj] at e1
    injection e1 with e1
    subst e1
    show (T.rows.set i _).map _ = (D.pts.set i _).map _
    rw [List.map_set, List.map_set, h.rows]
    simp [e2]
  bads := fun j p' q' h1 h2 k hk => by
    rw [show (T.put i { p with l := l' }).rows = T.rows.set i { p with l := l' } from rfl, List.getElem?_set] at h1
    rw [show (D.put i { q with l := l' }).pts = D.pts.set i { q with l := l' } from rfl, List.getElem?_set] at h2
    by_cases e : i = j
    · subst e
      simp [(List.getElem?_eq_some_iff.1 hi).1] at h1
      simp [(List.getElem?_eq_some_iff.1 hj).1] at h2
      subst h1 h2
      exact h.bads i p q hi hj k (by simpa [hl] using hk)
    · rw [if_neg e] at h1 h2
      exact h.bads j p' q' h1 h2 k hk
  off := h.off
  armed := h.armed
  left := h.left
  keep := h.keep
  count := h.count
  told := h.told
theorem Dv.far_same {D D' : Dv} (h1 : D'.own = D.own) (h2 : D'.pa = D.pa) (h3 : D'.ka = D.ka) {b : Nat} (h : D.far b) : D'.far b := by
  unfold Dv.far at h ⊢
  rw [h1, h2, h3]; exact h
theorem Tv.far_same {T T' : Tv} (h1 : T'.own = T.own) (h2 : T'.pa = T.pa) (h3 : T'.ba = T.ba) (h4 : T'.sa = T.sa) (h5 : T'.ka = T.ka) (h6 : T'.keep = T.keep) {b : Nat} (h : T.far b) : T'.far b := by
  unfold Tv.far at h ⊢
  rw [h1, h2, h3, h4, h5, h6]; exact h
theorem Tv.wrote_same (T : Tv) {i : Nat} {p : TRow} (hi : T.rows[i]? = some p) (bs : List Nat) (off m : Nat) : (T.wrote i p bs off m).own = T.own ∧ ∀ b, T.far b → (T.wrote i p bs off m).far b := by
  have e1 : (T.wrote i p bs off m).own = T.own := by
    unfold Tv.wrote
    split <;> exact tw_own_put hi
  refine ⟨e1, fun b hb => Tv.far_same e1 ?_ ?_ ?_ ?_ ?_ hb⟩ <;> (unfold Tv.wrote; split <;> rfl)
theorem Tv.wrote_nums (T : Tv) (i : Nat) (p : TRow) (bs : List Nat) (off m : Nat) : (T.count ≤ (T.wrote i p bs off m).count ∧ (T.wrote i p bs off m).count ≤ T.count + 1 ∧ T.told ≤ (T.wrote i p bs off m).told ∧ (T.wrote i p bs off m).told ≤ T.told + 1000000) ∧ (T.wrote i p bs off m).left ≤ T.left := by
  have e : (T.wrote i p bs off m).count = T.count ∧ (T.wrote i p bs off m).told = T.told ∧ (T.wrote i p bs off m).left ≤ T.left := by
    unfold Tv.wrote
    split
    · exact ⟨rfl, rfl, Int.le_refl _⟩
    · refine ⟨rfl, rfl, ?_⟩
      show (if T.armed = true then T.left - 1 else T.left) ≤ T.left
      split <;> omega
  omega
theorem Tv.put_ps (T : Tv) {i : Nat} {p q : TRow} (hi : T.rows[i]? = some p) (hn : q.nm = p.nm) (hl : q.l.length = p.l.length) : (T.put i q).ps = T.ps :=
  map_set (fun p : TRow => (p.nm, (p.l.length : Int))) hi (by simp [hn, hl])
theorem Tv.wrote_ps (T : Tv) {i : Nat} {p : TRow} (hi : T.rows[i]? = some p) (bs : List Nat) (off m : Nat) (h : off + bs.length ≤ p.l.length) : (T.wrote i p bs off m).ps = T.ps := by
  unfold Tv.wrote
  split
  · exact T.put_ps hi rfl (torn_length _ _ _ _ _)
  · exact T.put_ps hi rfl (length_splice _ _ _ h)
/-- What is kept of both. -/
structure Kept2 (T T' : Tv) (D D' : Dv) : Prop where
  town : T'.own = T.own
  down : D'.own = D.own
  dg : D'.g = D.g
  tt : T'.t = T.t
  tfar : ∀ b, T.far b → T'.far b
  dfar : ∀ b, D.far b → D'.far b
  nums : T.count ≤ T'.count ∧ T'.count ≤ T.count + 1 ∧ T.told ≤ T'.told ∧ T'.told ≤ T.told + 1000000
  lf : T'.left ≤ T.left
  ps : T'.ps = T.ps
theorem Kept2.refl (T : Tv) (D : Dv) : Kept2 T T D D := ⟨rfl, rfl, rfl, rfl, fun _ h => h, fun _ h => h, ⟨by omega, by omega, by omega, by omega⟩, by omega, rfl⟩
/-- A call of the drive, and of the twin: the same number, and both the same behind it. -/
def Paired (w : World) (T : Tv) (D : Dv) (CT : (World → (Ending → World → Prop) → Prop)) (CD : (World → (Ending → World → Prop) → Prop)) (ok : World → Prop) : Prop :=
  ∃ (er : Int) (T' : Tv) (D' : Dv), Same T' D' ∧ Kept2 T T' D D' ∧
    CT w (fun e w' => e = .returned (.int .i64 er) ∧ Tw w' T' ∧ Touch T.own w w') ∧
    ∀ w1, Drv w1 D → ok w1 → CD w1 (fun e w' => e = .returned (.int .i64 er) ∧ Drv w' D' ∧ Touch D.own w1 w')
theorem both_write {w : World} (hT : Tw w T) (hS : Same T D) (hlm : T.left ≤ 9223372036854775807) (o : OpV) (ho : I64 o.off) (hb : Bs w o.dA o.dn o.dc o.db) (hbo : 0 < o.dn → ∀ ad, o.dA = some ad → ad.block ∉ T.own) (hbd : 0 < o.dn → ∀ ad, o.dA = some ad → ad.block ∉ D.own) :
    Paired w T D (fun w K => Calls Try.prog 27 #[.pointer (some ⟨T.t, 0, none⟩), Tv.op o] w K) (fun w K => Calls Try.prog 19 #[.pointer (some ⟨D.g, 0, none⟩), .string o.nm, .int .i64 o.off, .slice o.dA o.dn o.dc] w K) (fun w1 => Bs w1 o.dA o.dn o.dc o.db) := by
  have hdn : o.dn ≤ 9223372036854775807 := Nat.le_trans hb.le hb.max
  have fails : ∀ er : Int, Calls Try.prog 27 #[.pointer (some ⟨T.t, 0, none⟩), Tv.op o] w (Fails w (.int .i64 er)) → (∀ w1, Drv w1 D → Calls Try.prog 19 #[.pointer (some ⟨D.g, 0, none⟩), .string o.nm, .int .i64 o.off, .slice o.dA o.dn o.dc] w1 (Fails w1 (.int .i64 er))) →
      Paired w T D (fun w K => Calls Try.prog 27 #[.pointer (some ⟨T.t, 0, none⟩), Tv.op o] w K) (fun w K => Calls Try.prog 19 #[.pointer (some ⟨D.g, 0, none⟩), .string o.nm, .int .i64 o.off, .slice o.dA o.dn o.dc] w K) (fun w1 => Bs w1 o.dA o.dn o.dc o.db) :=
    fun er h1 h2 => ⟨er, T, D, hS, Kept2.refl T D, h1.mono fun e w' hf => ⟨hf.1, hT.below hf.2, Touch.of_below _ hf.2⟩, fun w1 hD _ => (h2 w1 hD).mono fun e w' hf => ⟨hf.1, hD.below hf.2, Touch.of_below _ hf.2⟩⟩
  cases hd : D.down with
  | true =>
    exact fails 42 (twrite_down hT o (hS.off.trans hd)) (fun w1 hD => Write_down D w1 hD hd _ _ _ _ _)
  | false =>
    have hoff := hS.off.trans hd
    by_cases hp : ∃ p ∈ T.rows, p.nm = o.nm
    · obtain ⟨p, hp, hs⟩ := hp
      obtain ⟨i, hi⟩ := List.mem_iff_getElem?.1 hp
      obtain ⟨q, hj, hqn, hql⟩ := hS.at hi
      have hqs : q.nm = o.nm := hqn.trans hs
      by_cases hl : Lies o.off o.dn p.l.length
      · obtain ⟨off, hof⟩ : ∃ off : Nat, o.off = off := ⟨o.off.toNat, by have := hl.1; omega⟩
        have hn : off + o.dn ≤ p.l.length := by have := hl.2.2; omega
        have hlen : o.db.length = o.dn := hb.rd.1
        by_cases hlf : T.armed = true ∧ T.left = 0
        · have hl0 : D.left = 0 := (hS.left hlf.1).symm.trans hlf.2
          refine ⟨42, T.wrote i p o.db off o.dn, { D.put i { q with l := torn q.l o.db off o.dn D.keep } with down := true }, ?_, ⟨(T.wrote_same hi _ _ _).1, own_put hj rfl rfl, rfl, ?_, (T.wrote_same hi _ _ _).2, fun b hb => show (D.put i { q with l := torn q.l o.db off o.dn D.keep }).far b from Dv.far_same (own_put (q := { q with l := torn q.l o.db off o.dn D.keep }) hj rfl rfl) rfl rfl hb, (T.wrote_nums i p o.db off o.dn).1, (T.wrote_nums i p o.db off o.dn).2, T.wrote_ps hi o.db off o.dn (by omega)⟩, twrite_in hT o hoff i p hi hs off hof hn hb hbo (fun _ => by omega) hlm 42 (by rw [if_pos hlf]), fun w1 hD hb1 => ?_⟩
          · unfold Tv.wrote
            rw [if_pos hlf]
            have := hS.put hi hj (torn p.l o.db off o.dn T.keep) (by rw [torn_length, hql])
            rw [hql, ← hS.keep hlf.1]
            exact ⟨this.rows, this.bads, rfl, this.armed, this.left, this.keep, this.count, this.told⟩
          · unfold Tv.wrote
            rw [if_pos hlf]; rfl
          · rw [hof]
            exact (Write_torn D w1 hD hd hl0 i q hj _ hqs off o.dA o.dn o.dc o.db hb1.rd hb1.fit hb1.le hb1.max hbd (by rw [hql]; exact hn)).mono fun e w' hf => ⟨hf.1, hf.2.1, hf.2.2⟩
        · refine ⟨0, T.wrote i p o.db off o.dn, { D.put i { q with l := splice q.l off o.db } with left := if D.left < 0 then D.left else D.left - 1 }, ?_, ⟨(T.wrote_same hi _ _ _).1, own_put hj rfl rfl, rfl, ?_, (T.wrote_same hi _ _ _).2, fun b hb => show (D.put i { q with l := splice q.l off o.db }).far b from Dv.far_same (own_put (q := { q with l := splice q.l off o.db }) hj rfl rfl) rfl rfl hb, (T.wrote_nums i p o.db off o.dn).1, (T.wrote_nums i p o.db off o.dn).2, T.wrote_ps hi o.db off o.dn (by omega)⟩, twrite_in hT o hoff i p hi hs off hof hn hb hbo (fun ha => by have := hS.armed.1 ha; have := hS.left ha; omega) hlm 0 (by rw [if_neg hlf]), fun w1 hD hb1 => ?_⟩
          · unfold Tv.wrote
            rw [if_neg hlf]
            have := hS.put hi hj (splice p.l off o.db) (by rw [length_splice _ _ _ (by omega), hql])
            rw [hql]
            refine ⟨this.rows, this.bads, this.off, ?_, ?_, this.keep, this.count, this.told⟩
            · show T.armed = true ↔ 0 ≤ (if D.left < 0 then D.left else D.left - 1)
              rw [hS.armed]
              have h0 : ¬ D.left = 0 := fun h0 => hlf ⟨hS.armed.2 (by omega), (hS.left (hS.armed.2 (by omega))).trans h0⟩
              split <;> omega
            · intro ha
              have ha : T.armed = true := ha
              have h1 := hS.armed.1 ha
              have h2 := hS.left ha
              show (if T.armed = true then T.left - 1 else T.left) = if D.left < 0 then D.left else D.left - 1
              rw [if_pos ha, if_neg (by omega), h2]
          · unfold Tv.wrote
            rw [if_neg hlf]; rfl
          · rw [hof]
            have h0 : ¬ D.left = 0 := fun h0 => hlf ⟨hS.armed.2 (by omega), (hS.left (hS.armed.2 (by omega))).trans h0⟩
            exact (Write_ok D w1 hD hd (if D.left < 0 then D.left else D.left - 1) (by split <;> omega) i q hj _ hqs off o.dA o.dn o.dc o.db hb1.rd hb1.fit hb1.le hb1.max hbd (by rw [hql]; exact hn)).mono fun e w' hf => ⟨hf.1, hf.2.1, hf.2.2⟩
      · exact fails 10 (twrite_end hT o hoff i p hi hs ho ⟨by omega, by omega⟩ hl) (fun w1 hD => Write_end D w1 hD hd q (List.mem_of_getElem? hj) _ hqs _ _ _ _ (by rw [hql]; exact hl) ho.2 hdn)
    · exact fails 40 (twrite_part hT o hoff (fun p hp' e => hp ⟨p, hp', e⟩)) (fun w1 hD => Write_part D w1 hD hd _ (hS.none (fun p hp' e => hp ⟨p, hp', e⟩)) _ _ _ _)
end
end Go.Proofs.Ytonjmbcagdkdiaa
