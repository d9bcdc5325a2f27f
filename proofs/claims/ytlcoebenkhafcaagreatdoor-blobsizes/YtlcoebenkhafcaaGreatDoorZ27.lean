/-
  The document's short sum: what it answers. What Name of package key, and the document's, answer: the short sum of the key's bytes.
-/
import Derived.Test.YtlcoebenkhafcaaGreatDoorZ26
import Derived.Laws.AppendOwnNone
import Derived.StillTailTactics
import Derived.Test.YtlcoebenkhafcaaGreatDoorZ07
import Derived.Test.YtlcoebenkhafcaaGreatDoorZ25
namespace Go.Proofs.YtlcoebenkhafcaaGreatDoorSh
set_option maxRecDepth 100000
open Go.RowKit
set_option linter.unusedVariables false
end Go.Proofs.YtlcoebenkhafcaaGreatDoorSh
namespace Go.Proofs.YtlcoebenkhafcaaGreatDoorSh
set_option maxRecDepth 100000
open Go.RowKit
set_option linter.unusedVariables false
end Go.Proofs.YtlcoebenkhafcaaGreatDoorSh
namespace Go.Proofs.YtlcoebenkhafcaaGreatDoorSh
set_option maxRecDepth 100000
open Go.RowKit
set_option linter.unusedVariables false
end Go.Proofs.YtlcoebenkhafcaaGreatDoorSh
namespace Go.Proofs.YtlcoebenkhafcaaGreatDoorSh
set_option maxRecDepth 100000
open Go.RowKit
set_option linter.unusedVariables false
end Go.Proofs.YtlcoebenkhafcaaGreatDoorSh
namespace Go.Proofs.YtlcoebenkhafcaaGreatDoorSh
set_option maxRecDepth 100000
open Go.RowKit
set_option linter.unusedVariables false
end Go.Proofs.YtlcoebenkhafcaaGreatDoorSh
namespace Go.Proofs.YtlcoebenkhafcaaGreatDoorSh
set_option maxRecDepth 100000
open Go.RowKit
set_option linter.unusedVariables false
end Go.Proofs.YtlcoebenkhafcaaGreatDoorSh
namespace Go.Proofs.YtlcoebenkhafcaaGreatDoor
open Go.RowKit
set_option linter.unusedVariables false
set_option linter.unusedSimpArgs false
set_option maxRecDepth 100000
theorem cb_of {l : List Nat} (h : Fit 256 l) : YtlcoebenkhafcaaGreatDoorSh.cb (l.map UInt8.ofNat) = cn .u8 l := by
  simp only [YtlcoebenkhafcaaGreatDoorSh.cb, cn, List.map_map]
  apply List.map_congr_left
  intro x hx
  have := h x hx
  simp only [Function.comp_apply, YtlcoebenkhafcaaGreatDoorSh.ub, UInt8.toNat_ofNat']
  congr 1
  omega
theorem cb_to (L : List UInt8) : YtlcoebenkhafcaaGreatDoorSh.cb L = cn .u8 (L.map UInt8.toNat) := by
  simp [YtlcoebenkhafcaaGreatDoorSh.cb, cn, YtlcoebenkhafcaaGreatDoorSh.ub, Function.comp_def]
theorem Rd.seg8 {w : World} {A : Option Addr} {n : Nat} {l : List Nat} (h : Rd .u8 w A n l) (hf : Fit 256 l) : YtlcoebenkhafcaaGreatDoorSh.Seg w A n (l.map UInt8.ofNat) :=
  ⟨by simp [h.1], fun hn => by
    obtain ⟨ad, e, hlt, hc⟩ := h.2 hn
    refine ⟨ad, e, hlt, fun j v hv => ?_⟩
    rw [cb_of hf] at hv
    have hj := (List.getElem?_eq_some_iff.1 hv).1
    rw [cn_length] at hj
    obtain ⟨x, hx⟩ := get_some hj
    rw [cn_get hx] at hv
    injection hv with hv
    rw [← hv]
    exact hc j x hx⟩
end Go.Proofs.YtlcoebenkhafcaaGreatDoor
