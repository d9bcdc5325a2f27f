/-
  What anchor answers: true.
-/
import Derived.Test.YtidibhphnkiacaaDoorSum
import Derived.Test.YtidibhphnkiacaaDoorAbc
import Derived.Lib.SlBytesConst
namespace Go.Proofs.YtidibhphnkiacaaDoor
open Go.RowKit
set_option linter.unusedVariables false

set_option maxHeartbeats 400000 in
theorem anchor_any (w : World) (ht : Tabs w) : Calls Tryd.prog 8 #[] w fun e w' => e = .returned (.bool true) ∧ Below w.heap.size w w' := by
  have HT := Lib.hid ht
  have kc := fun (w : World) (C : Array Value) (n c : Nat) => Lib.run_convert_bytes_const (P := Tryd.prog) w 24 5 C n c Tryd.underlying24 Tryd.underlying5
  clear ht
  go_enter Tryd.func8, Tryd.ntmps8
  go_wp2_with fail
  clear kc
  have hp : Parts ((w.alloc (.cells #[.int .u8 97, .int .u8 98, .int .u8 99] 5 (3, 4))).alloc (.cells #[.slice (some ⟨w.heap.size, 0, none⟩) 3 3] 24)) (some ⟨w.heap.size + 1, 0, none⟩) 1 [⟨some ⟨w.heap.size, 0, none⟩, 3, 3, [97, 98, 99]⟩] := by
    refine ⟨rfl, fun _ => ⟨_, rfl, by simp, fun j p hj => ?_⟩, fun p hp => ?_⟩
    · rw [addr_add, Nat.zero_add, cell_of_row _ _ _ _ _ _ (heap_alloc2_new w _ _)]
      match j, hj with
      | 0, hj => simp at hj; subst hj; rfl
    · obtain rfl := List.mem_singleton.1 hp
      refine ⟨⟨rfl, fun _ => ⟨_, rfl, by simp; omega, fun j v hv => ?_⟩⟩, Nat.le_refl _, Nat.zero_le _⟩
      rw [addr_add, Nat.zero_add, cell_of_row _ _ _ _ _ _ (heap_alloc2_old w _ _)]
      rw [show (#[Value.int .u8 97, .int .u8 98, .int .u8 99] : Array Value) = (cb [97, 98, 99]).toArray from rfl, List.getElem?_toArray]
      exact hv
  have hb0 : Below w.heap.size w ((w.alloc (.cells #[.int .u8 97, .int .u8 98, .int .u8 99] 5 (3, 4))).alloc (.cells #[.slice (some ⟨w.heap.size, 0, none⟩) 3 3] 24)) := ((Below.refl _ _).alloc (Nat.le_refl _) _).alloc (by simp) _
  refine (Of_any _ 1 1 _ _ hp (by omega) (by show 3 < 100000; omega) (HT.out.below hb0)).mono ?_
  rintro e w1 ⟨g, rfl, hge, hbk, hb1⟩
  have hb : Below w.heap.size w w1 := hb0.trans (hb1.mono hb0.size)
  rw [show textOf [⟨some ⟨w.heap.size, 0, none⟩, 3, 3, [97, 98, 99]⟩] = [97, 98, 99] from rfl, abc] at hbk
  have c0 : w1.cell? ⟨g, 0, none⟩ = some (.int .u8 221) := hbk.cell 0
  have c1 : w1.cell? ⟨g, 1, none⟩ = some (.int .u8 175) := hbk.cell 1
  have c63 : w1.cell? ⟨g, 63, none⟩ = some (.int .u8 159) := hbk.cell 63
  clear hp hb0 hb1 hbk hge HT
  go_wp2
  go_ret
  exact ⟨rfl, hb⟩
end Go.Proofs.YtidibhphnkiacaaDoor
