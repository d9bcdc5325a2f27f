/-
  What Name of package key, and the document's, answer: the short sum of the key's bytes.
-/
import Derived.Test.YtppoikamenbckaaGreatDoorKeyB
import Derived.Test.YtppoikamenbckaaGreatDoorR3
import Derived.Test.YtppoikamenbckaaGreatDoorShB
namespace Go.Proofs.YtppoikamenbckaaGreatDoor
open Go.RowKit
set_option linter.unusedVariables false
set_option linter.unusedSimpArgs false
set_option maxRecDepth 100000

theorem cb_of {l : List Nat} (h : Fit 256 l) : YtppoikamenbckaaGreatDoorSh.cb (l.map UInt8.ofNat) = cn .u8 l := by
  simp only [YtppoikamenbckaaGreatDoorSh.cb, cn, List.map_map]
  apply List.map_congr_left
  intro x hx
  have := h x hx
  simp only [Function.comp_apply, YtppoikamenbckaaGreatDoorSh.ub, UInt8.toNat_ofNat']
  congr 1
  omega
theorem cb_to (L : List UInt8) : YtppoikamenbckaaGreatDoorSh.cb L = cn .u8 (L.map UInt8.toNat) := by
  simp [YtppoikamenbckaaGreatDoorSh.cb, cn, YtppoikamenbckaaGreatDoorSh.ub, Function.comp_def]
/-- A key's name. -/
def nameOf (k N : Nat) : List Nat := (YtppoikamenbckaaGreatDoorSh.sha ((keyBytes k N).map UInt8.ofNat)).map UInt8.toNat
theorem nameOf_fit (k N : Nat) : Fit 256 (nameOf k N) := by
  intro x hx
  obtain ⟨y, _, rfl⟩ := List.mem_map.1 hx
  exact y.toNat_lt
theorem nameOf_length (k N : Nat) : (nameOf k N).length = 32 := by
  simp only [nameOf, List.length_map, YtppoikamenbckaaGreatDoorSh.sha]
  exact YtppoikamenbckaaGreatDoorSh.out_length _
theorem Rd.seg8 {w : World} {A : Option Addr} {n : Nat} {l : List Nat} (h : Rd .u8 w A n l) (hf : Fit 256 l) : YtppoikamenbckaaGreatDoorSh.Seg w A n (l.map UInt8.ofNat) :=
  ⟨by simp [h.1], fun hn => by
    obtain ⟨ad, e, hlt, hc⟩ := h.2 hn
    refine ⟨ad, e, hlt, fun j v hv => ?_⟩
    rw [cb_of hf] at hv
    have hj := (List.getElem?_eq_some_iff.1 hv).1
    rw [cn_length] at hj
    obtain ⟨x, hx⟩ := get_some hj
    rw [cn_get hx] at hv
    injection hv with hv
    rw [← hv]
    exact hc j x hx⟩
/-- An answer: 32 bytes of its own. -/
def GivesName (w : World) (l : List Nat) (e : Ending) (w' : World) : Prop :=
  ∃ g, e = .returned (.slice (some ⟨g, 0, none⟩) 32 32) ∧ w.heap.size ≤ g ∧ Blk w' g 5 (cn .u8 l) ∧ Below w.heap.size w w'
end Go.Proofs.YtppoikamenbckaaGreatDoor
