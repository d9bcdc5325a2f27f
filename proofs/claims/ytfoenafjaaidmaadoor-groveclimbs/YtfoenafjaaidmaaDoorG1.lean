/-
  What fault, digest and Check of package grove answer.
-/
import Derived.Test.YtfoenafjaaidmaaDoorSg
import Derived.Test.YtfoenafjaaidmaaDoorGx
namespace Go.Proofs.YtfoenafjaaidmaaDoor
open Go.RowKit
set_option linter.unusedVariables false
set_option linter.unusedSimpArgs false
set_option maxRecDepth 100000

theorem algNo {z : Int} (h : sizeOfAlg z = 0) : z ≠ 1 ∧ z ≠ 2 := by
  constructor
  · rintro rfl; exact absurd h (by decide)
  · rintro rfl; exact absurd h (by decide)
theorem algYes {z : Int} (h : sizeOfAlg z ≠ 0) : ∃ s : Nat, z = s ∧ (s = 1 ∨ s = 2) := by
  unfold sizeOfAlg at h
  split at h
  · next h1 => exact ⟨1, h1, .inl rfl⟩
  · split at h
    · next h1 => exact ⟨2, h1, .inr rfl⟩
    · exact absurd rfl h
/-- What is wrong with an algorithm and a salt. -/
def faultEr (z : Int) (n : Nat) : Int := if sizeOfAlg z = 0 then 20 else if 64 < n then 11 else 0
theorem fault_any (z : Int) (A : Option Addr) (n cap : Nat) (w : World) : Calls Tryd.prog 27 #[.int .i64 z, .slice A n cap] w fun e w' => e = .returned (.int .i64 (faultEr z n)) ∧ w = w' := by
  unfold faultEr
  obtain ⟨s, hs⟩ : ∃ s, sizeOfAlg z = s := ⟨_, rfl⟩
  have HS := Lib.hid hs
  rw [hs]
  clear hs
  by_cases h0 : s = 0
  · subst h0
    rw [if_pos rfl]
    go_enter Tryd.func27, Tryd.ntmps27
    go_wp2_with fail
    refine (Size7_any z w).mono ?_
    rintro e w1 ⟨rfl, rfl⟩
    rw [HS.out]
    go_wp2
    go_ret
    exact ⟨rfl, rfl⟩
  · rw [if_neg h0]
    have d0 : ((s : Int) == 0) = false := beq_eq_false_iff_ne.2 (by omega)
    by_cases h1 : 64 < n
    · rw [if_pos h1]
      have z1 : (64 : Int) < n := by omega
      go_enter Tryd.func27, Tryd.ntmps27
      go_wp2_with fail
      refine (Size7_any z w).mono ?_
      rintro e w1 ⟨rfl, rfl⟩
      rw [HS.out]
      go_wp2
      go_ret
      exact ⟨rfl, rfl⟩
    · rw [if_neg h1]
      have z1 : ¬ (64 : Int) < n := by omega
      go_enter Tryd.func27, Tryd.ntmps27
      go_wp2_with fail
      refine (Size7_any z w).mono ?_
      rintro e w1 ⟨rfl, rfl⟩
      rw [HS.out]
      go_wp2
      go_ret
      exact ⟨rfl, rfl⟩
theorem parts_new1 (w : World) (p : Bt) (h : Rd .u8 w p.A p.n p.l ∧ Fit 256 p.l ∧ p.n ≤ p.cap) : PartsR (w.alloc (.cells #[.slice p.A p.n p.cap] 22)) (some ⟨w.heap.size, 0, none⟩) 1 [p] := by
  have hbl : Blk (w.alloc (.cells #[.slice p.A p.n p.cap] 22)) w.heap.size 22 [.slice p.A p.n p.cap] := Blk.new w 22 [.slice p.A p.n p.cap]
  have hb1 : Below w.heap.size w (w.alloc (.cells #[.slice p.A p.n p.cap] 22)) := (Below.refl _ _).alloc (Nat.le_refl _) _
  refine ⟨rfl, fun _ => ⟨_, rfl, hbl.lt, fun j q hq => ?_⟩, fun q hq => ?_⟩
  · rw [addr_add, Nat.zero_add, hbl.cell]
    match j, hq with
    | 0, hq =>
      injection hq with hq
      subst hq
      rfl
  · rw [List.mem_singleton.1 hq]
    exact ⟨h.1.below hb1, h.2⟩
set_option maxHeartbeats 1000000 in
theorem digest_any (z D : Nat) (hz : z = 1 ∨ z = 2) (hD : sizeOfAlg z = D) (A : Option Addr) (n cap : Nat) (salt : List Nat) (At : Option Addr) (m ct : Nat) (t : List Nat) (w : World) (h : Rd .u8 w A n salt) (hf : Fit 256 salt) (hc : n ≤ cap) (hn : n ≤ 64)
    (ht : Rd .u8 w At m t) (hft : Fit 256 t) (hct : m ≤ ct) (hm : m ≤ 40000) (hT : Both w) :
    Calls Tryd.prog 31 #[.int .i64 (z : Int), .slice A n cap, .slice At m ct] w (GivesB w D (hsh z salt t)) := by
  have hb1 : Below w.heap.size w (w.alloc (.cells #[.slice At m ct] 22)) := (Below.refl _ _).alloc (Nat.le_refl _) _
  have HB1 := Lib.hid hb1
  have HP : Hid (PartsR (w.alloc (.cells #[.slice At m ct] 22)) (some ⟨w.heap.size, 0, none⟩) 1 [⟨At, m, ct, t⟩]) := parts_new1 w ⟨At, m, ct, t⟩ ⟨ht, hft, hct⟩
  have HS := Lib.hid (h.below hb1)
  have HT := Lib.hid (hT.below hb1)
  have HF := Lib.hid hf
  have HD := Lib.hid hD
  have HZ := Lib.hid hz
  have HM : Hid ((flat [⟨At, m, ct, t⟩]).length ≤ 40000) := by
    show _ ≤ _
    simp only [flat, List.flatMap_cons, List.flatMap_nil, List.append_nil]
    rw [ht.1]; omega
  have HE : Hid (flat [⟨At, m, ct, t⟩] = t) := by show _ = _; simp [flat]
  clear h hf ht hft hT hb1 hz hD
  go_enter Tryd.func31, Tryd.ntmps31
  go_wp2_with fail
  generalize w.alloc (.cells #[.slice At m ct] 22) = W at *
  refine (Digest_ok z HZ.out D HD.out A n cap salt _ 1 1 [⟨At, m, ct, t⟩] W HS.out HF.out hc hn HP.out (fun e => by cases e) (by omega) HM.out HT.out).mono ?_
  rw [HE.out]
  rintro e w1 ⟨g, rfl, hg, hB, hb⟩
  have HB := Lib.hid hB
  have hbb := below_then HB1.out hb
  have hgg := Nat.le_trans HB1.out.size hg
  clear hB hb
  go_wp2
  go_ret
  exact ⟨g, rfl, hgg, HB.out, hbb⟩
end Go.Proofs.YtfoenafjaaidmaaDoor
