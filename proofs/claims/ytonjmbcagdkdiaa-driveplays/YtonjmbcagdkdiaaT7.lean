/-
  A read on the twin and on the drive. No condition.
-/
import Derived.Test.YtonjmbcagdkdiaaT6
namespace Go.Proofs.Ytonjmbcagdkdiaa
open Go.RowKit Go.MapKept
set_option linter.unusedVariables false
set_option linter.unusedSimpArgs false
set_option maxRecDepth 100000

section
variable {T : Tv} {D : Dv}
theorem Same.spoilt (h : Same T D) {i : Nat} {p : TRow} {q : Pt} (hi : T.rows[i]? = some p) (hj : D.pts[i]? = some q) (off m : Nat) (hn : off + m ≤ q.l.length) (h64 : q.l.length % 64 = 0) : TSp p off m ↔ Spoilt q.bad off m := by
  constructor
  · rintro ⟨j, h1, h2, h3⟩
    exact ⟨j, h1, h2, by rw [← h.bads i p q hi hj (j / 64) (by omega)]; exact h3⟩
  · rintro ⟨j, h1, h2, h3⟩
    exact ⟨j, h1, h2, by rw [h.bads i p q hi hj (j / 64) (by omega)]; exact h3⟩
theorem Same.counted (h : Same T D) (m : Nat) : Same { T with count := T.count + 1, told := T.told + m } { D with count := D.count + 1, told := D.told + m } where
  rows := h.rows
  bads := h.bads
  off := h.off
  armed := h.armed
  left := h.left
  keep := h.keep
  count := by show T.count + 1 = D.count + 1; rw [h.count]
  told := by show T.told + m = D.told + m; rw [h.told]
/-- What a read leaves on both sides. -/
def PairedRead (w : World) (T : Tv) (D : Dv) (o : OpV) : Prop :=
  ∃ (er : Int) (m : Nat) (l : List Nat) (T' : Tv) (D' : Dv), Same T' D' ∧ Kept2 T T' D D' ∧ Fit 256 l ∧ m ≤ 1000000 ∧
    Calls Try.prog 26 #[.pointer (some ⟨T.t, 0, none⟩), Tv.op o] w (fun e w' => (∃ A c, e = .returned (.tuple #[.slice A m c, .int .i64 er]) ∧ Rd .u8 w' A m l ∧ ∀ ad, A = some ad → ad.block ∈ T.own) ∧ Tw w' T' ∧ Touch T.own w w') ∧
    ∀ w1, Drv w1 D → Calls Try.prog 17 #[.pointer (some ⟨D.g, 0, none⟩), .string o.nm, .int .i64 o.off, .int .i64 o.n] w1 (fun e w' => (∃ B, e = .returned (.tuple #[.slice B m m, .int .i64 er]) ∧ (B = none ∧ m = 0 ∧ l = [] ∨ ∃ k, B = some ⟨k, 0, none⟩ ∧ w1.heap.size ≤ k ∧ Blk w' k 5 (cn .u8 l) ∧ l.length = m)) ∧ Drv w' D' ∧ Touch D.own w1 w')
theorem both_read {w : World} (hT : Tw w T) (hD0 : ∃ w0, Drv w0 D) (hS : Same T D) (o : OpV) (ho : I64 o.off) (hm : I64 o.n) (hct : 0 ≤ T.count ∧ T.count ≤ 1000 ∧ 0 ≤ T.told ∧ T.told ≤ 1000000000 - 1000000) : PairedRead w T D o := by
  obtain ⟨w0, hD0⟩ := hD0
  have fails : ∀ er : Int, Calls Try.prog 26 #[.pointer (some ⟨T.t, 0, none⟩), Tv.op o] w (Fails w (.tuple #[.slice none 0 0, .int .i64 er])) → (∀ w1, Drv w1 D → Calls Try.prog 17 #[.pointer (some ⟨D.g, 0, none⟩), .string o.nm, .int .i64 o.off, .int .i64 o.n] w1 (Fails w1 (.tuple #[.slice none 0 0, .int .i64 er]))) → PairedRead w T D o :=
    fun er h1 h2 => ⟨er, 0, [], T, D, hS, Kept2.refl T D, (fun x hx => by cases hx), by omega, h1.mono fun e w' hf => ⟨⟨none, 0, hf.1, Rd.nil _ _ _, fun _ e => by cases e⟩, hT.below hf.2, Touch.of_below _ hf.2⟩, fun w1 hD => (h2 w1 hD).mono fun e w' hf => ⟨⟨none, hf.1, .inl ⟨rfl, rfl, rfl⟩⟩, hD.below hf.2, Touch.of_below _ hf.2⟩⟩
  cases hd : D.down with
  | true => exact fails 42 (tread_down hT o (hS.off.trans hd)) (fun w1 hD => Read_down D w1 hD hd _ _ _)
  | false =>
    have hoff := hS.off.trans hd
    by_cases hp : ∃ p ∈ T.rows, p.nm = o.nm
    · obtain ⟨p, hp, hs⟩ := hp
      obtain ⟨i, hi⟩ := List.mem_iff_getElem?.1 hp
      obtain ⟨q, hj, hqn, hql⟩ := hS.at hi
      have hqs : q.nm = o.nm := hqn.trans hs
      have hq := List.mem_of_getElem? hj
      have h64 : q.l.length % 64 = 0 := by rw [hql]; exact (hT.size p hp).2.2
      have hbig : p.l.length ≤ 1000000 := (hT.size p hp).1
      by_cases hl : Lies o.off o.n p.l.length
      · obtain ⟨off, hof⟩ : ∃ off : Nat, o.off = off := ⟨o.off.toNat, by have := hl.1; omega⟩
        obtain ⟨m, hom⟩ : ∃ m : Nat, o.n = m := ⟨o.n.toNat, by have := hl.2.1; omega⟩
        have hn : off + m ≤ p.l.length := by have := hl.2.2; omega
        have hin := tread_in hT o hoff i p hi hs off m hof hom hn ⟨hct.1, by omega, hct.2.2.1, by omega⟩
        have hsp := hS.spoilt hi hj off m (by rw [hql]; exact hn) h64
        by_cases hb : Spoilt q.bad off m
        · refine fails 41 (hin.mono fun e w' hf => ?_) (fun w1 hD => by rw [hof, hom]; exact Read_bad D w1 hD hd q hq _ hqs off m (by rw [hql]; exact hn) hb)
          rcases hf with ⟨_, h1, h2⟩ | ⟨h1, _⟩
          · exact ⟨h1, h2⟩
          · exact absurd (hsp.2 hb) h1
        · refine ⟨0, m, (p.l.drop off).take m, { T with count := T.count + 1, told := T.told + m }, { D with count := D.count + 1, told := D.told + m }, hS.counted m, ⟨rfl, rfl, rfl, rfl, fun b hb => Tv.far_same rfl rfl rfl rfl rfl rfl hb, fun b hb => Dv.far_same rfl rfl rfl hb, ⟨by show T.count ≤ T.count + 1; omega, by show T.count + 1 ≤ T.count + 1; omega, by show T.told ≤ T.told + m; omega, by show T.told + m ≤ T.told + 1000000; omega⟩, by show T.left ≤ T.left; omega, rfl⟩, ((hT.fit p hp).drop off).take m, by omega, hin.mono fun e w' hf => ?_, fun w1 hD => ?_⟩
          · rcases hf with ⟨h1, _⟩ | ⟨_, ⟨A, c, h1, h2, h3⟩, h4, h5⟩
            · exact absurd (hsp.1 h1) hb
            · exact ⟨⟨A, c, h1, h2, fun ad e => by rw [h3 ad e]; exact tw_own_bb hp⟩, h4, h5.wider (fun x hx => by rw [List.mem_singleton.1 hx]; exact tw_own_t T)⟩
          · rw [hof, hom]
            refine (Read_ok D w1 hD hd q hq _ hqs off m (by rw [hql]; exact hn) hb (by rw [← hS.count]; omega) (by rw [← hS.told]; omega)).mono ?_
            rintro e w' ⟨k, h1, h2, h3, h4, h5⟩
            refine ⟨⟨some ⟨k, 0, none⟩, h1, .inr ⟨k, rfl, h2, by rw [← hql]; exact h3, ?_⟩⟩, h4, h5.wider (fun x hx => by rw [List.mem_singleton.1 hx]; exact own_g D)⟩
            rw [List.length_take, List.length_drop]; omega
      · exact fails 10 (tread_end hT o hoff i p hi hs ho hm hl) (fun w1 hD => Read_end D w1 hD hd q hq _ hqs _ _ (by rw [hql]; exact hl) ho.2 hm.2)
    · exact fails 40 (tread_part hT o hoff (fun p hp' e => hp ⟨p, hp', e⟩)) (fun w1 hD => Read_part D w1 hD hd _ (hS.none (fun p hp' e => hp ⟨p, hp', e⟩)) _ _)
end
end Go.Proofs.Ytonjmbcagdkdiaa
