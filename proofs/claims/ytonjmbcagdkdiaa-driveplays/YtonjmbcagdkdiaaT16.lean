/-
  A step of the laws, whatever its kind. No condition.
-/
import Derived.Test.YtonjmbcagdkdiaaT15
namespace Go.Proofs.Ytonjmbcagdkdiaa
open Go.RowKit Go.MapKept
set_option linter.unusedVariables false
set_option linter.unusedSimpArgs false
set_option maxRecDepth 100000

theorem step_any {T : Tv} {D : Dv} {w : World} (h : Both w T D) (o : OpV) (ho : I64 o.off) (hn : I64 o.n) (hb : Bs w o.dA o.dn o.dc o.db) (hkp : Ss w o.kA o.kn o.kc 1 (bcells o.kp)) (hkn : o.kn ≤ 30)
    (hbo : 0 < o.dn → ∀ ad, o.dA = some ad → ad.block ∉ T.own ∧ ad.block ∉ D.own) (hko : 0 < o.kn → ∀ ad, o.kA = some ad → ad.block ∉ T.own ∧ ad.block ∉ D.own)
    (hct : 0 ≤ T.count ∧ T.count ≤ 1000 ∧ 0 ≤ T.told ∧ T.told ≤ 1000000000 - 1000000) :
    Calls Try.prog 12 #[.pointer (some ⟨D.g, 0, none⟩), .pointer (some ⟨T.t, 0, none⟩), Tv.op o] w (Stepped w T D) := by
  by_cases k1 : o.kind = 1
  · exact step_read h o k1 ho hn hct
  by_cases k2 : o.kind = 2
  · exact step_write h o k2 ho hb hbo
  have part : (∀ p ∈ T.rows, p.nm ≠ o.nm) ∨ ∃ (i : Nat) (p : TRow), T.rows[i]? = some p ∧ p.nm = o.nm := by
    by_cases hp : ∃ p ∈ T.rows, p.nm = o.nm
    · obtain ⟨p, hp, hs⟩ := hp
      obtain ⟨i, hi⟩ := List.mem_iff_getElem?.1 hp
      exact .inr ⟨i, p, hi, hs⟩
    · exact .inl fun p hp' e => hp ⟨p, hp', e⟩
  by_cases k3 : o.kind = 3
  · rcases part with hno | ⟨i, p, hi, hs⟩
    · exact step_turn_no h o k3 hno hb
    · by_cases hl : Lies o.off o.dn p.l.length
      · exact step_turn_ok h o k3 i p hi hs ho hl hb hbo
      · exact step_turn_end h o k3 i p hi hs ho hl hb
  by_cases k4 : o.kind = 4
  · rcases part with hno | ⟨i, p, hi, hs⟩
    · exact step_bad_no h o k4 hno
    · by_cases hl : 0 ≤ o.off ∧ o.off < ((p.l.length / 64 : Nat) : Int)
      · exact step_bad_ok h o k4 i p hi hs o.off.toNat (by omega) (by omega)
      · exact step_bad_end h o k4 i p hi hs ho hl
  by_cases k5 : o.kind = 5
  · exact step_arm h o k5 hn hkp hkn hko
  by_cases k6 : o.kind = 6
  · exact step_boot h o k6
  exact step_none h o ⟨k1, k2, k3, k4, k5, k6⟩
end Go.Proofs.Ytonjmbcagdkdiaa
