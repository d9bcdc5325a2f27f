/-
  The fixed keys' moduli and secrets, as the statements' own functions give them.
-/
import Derived.Test.YtojpbfkdkkdpcaaDoorH1
import Derived.Test.YtojpbfkdkkdpcaaDoorKeys01
import Derived.KernelRfl
namespace Go.Proofs.YtojpbfkdkkdpcaaDoor
open Go.RowKit
set_option linter.unusedVariables false
set_option linter.unusedSimpArgs false
set_option maxRecDepth 100000

def keyN3 : Nat := 21194976876106637767765971718165402166353776426219101977383846722248938411909916334974259674239889560497095207569630968526574494887006368495708710046325672162422584895085717556702231790328714468474804417764748464856769271775639164236900590607434035455341442204371723308978322428797989385976785730466691083582103046616771517615007258510561437830504786488550206182749961020805330594563883953407125895219372141907850320983399201270241215599536426349582548563878865734947792524324328099558734342438666921317912254057202636830323200504800306119446616233962423300924062342948048824120326245834241393092211722134327371078417
/-- The modulus, its bytes, and the secret of the key z. -/
def keyN (z : Nat) : Nat := if z = 1 then keyN1 else if z = 2 then keyN2 else if z = 3 then keyN3 else keyN0
def keyD (z : Nat) : Nat := if z = 1 then keyD1 else if z = 2 then keyD2 else keyD0
def keyK (z : Nat) : Nat := if z = 1 then 64 else if z = 2 then 128 else if z = 3 then 256 else 64
/-- An answer: bytes of its own, in room of any size. -/
def GivesRow (w : World) (n : Nat) (l : List Nat) (e : Ending) (w' : World) : Prop :=
  ∃ A c, e = .returned (.slice A n c) ∧ Row w' w.heap.size 5 A n c (cn .u8 l) ∧ Below w.heap.size w w'
set_option maxHeartbeats 1000000 in
theorem Modulus_0 (w : World) : Calls Tryd.prog 23 #[.int .i64 0] w (GivesRow w 64 (bytesOf 64 keyN0)) := by
  go_enter Tryd.func23, Tryd.ntmps23
  go_wp2_with fail
  refine (Hex_any _ 64 w ?_ (by omega) ?_).mono ?_
  · kernel_rfl
  · kernel_rfl
  rintro e w1 ⟨A, c, rfl, hrow, hb⟩
  rw [show hexs _ = bytesOf 64 keyN0 from by kernel_rfl] at hrow
  have HROW := Lib.hid hrow
  clear hrow
  go_wp2
  go_ret
  exact ⟨A, c, rfl, HROW.out, hb⟩
set_option maxHeartbeats 1000000 in
theorem Modulus_1 (w : World) : Calls Tryd.prog 23 #[.int .i64 1] w (GivesRow w 64 (bytesOf 64 keyN1)) := by
  go_enter Tryd.func23, Tryd.ntmps23
  go_wp2_with fail
  refine (Hex_any _ 64 w ?_ (by omega) ?_).mono ?_
  · kernel_rfl
  · kernel_rfl
  rintro e w1 ⟨A, c, rfl, hrow, hb⟩
  rw [show hexs _ = bytesOf 64 keyN1 from by kernel_rfl] at hrow
  have HROW := Lib.hid hrow
  clear hrow
  go_wp2
  go_ret
  exact ⟨A, c, rfl, HROW.out, hb⟩
set_option maxHeartbeats 1000000 in
theorem Modulus_2 (w : World) : Calls Tryd.prog 23 #[.int .i64 2] w (GivesRow w 128 (bytesOf 128 keyN2)) := by
  go_enter Tryd.func23, Tryd.ntmps23
  go_wp2_with fail
  refine (Hex_any _ 128 w ?_ (by omega) ?_).mono ?_
  · kernel_rfl
  · kernel_rfl
  rintro e w1 ⟨A, c, rfl, hrow, hb⟩
  rw [show hexs _ = bytesOf 128 keyN2 from by kernel_rfl] at hrow
  have HROW := Lib.hid hrow
  clear hrow
  go_wp2
  go_ret
  exact ⟨A, c, rfl, HROW.out, hb⟩
set_option maxHeartbeats 1000000 in
theorem Modulus_3 (w : World) : Calls Tryd.prog 23 #[.int .i64 3] w (GivesRow w 256 (bytesOf 256 keyN3)) := by
  go_enter Tryd.func23, Tryd.ntmps23
  go_wp2_with fail
  refine (Hex_any _ 256 w ?_ (by omega) ?_).mono ?_
  · kernel_rfl
  · kernel_rfl
  rintro e w1 ⟨A, c, rfl, hrow, hb⟩
  rw [show hexs _ = bytesOf 256 keyN3 from by kernel_rfl] at hrow
  have HROW := Lib.hid hrow
  clear hrow
  go_wp2
  go_ret
  exact ⟨A, c, rfl, HROW.out, hb⟩
set_option maxHeartbeats 1000000 in
theorem Secret_0 (w : World) : Calls Tryd.prog 25 #[.int .i64 0] w (GivesRow w 64 (bytesOf 64 keyD0)) := by
  go_enter Tryd.func25, Tryd.ntmps25
  go_wp2_with fail
  refine (Hex_any _ 64 w ?_ (by omega) ?_).mono ?_
  · kernel_rfl
  · kernel_rfl
  rintro e w1 ⟨A, c, rfl, hrow, hb⟩
  rw [show hexs _ = bytesOf 64 keyD0 from by kernel_rfl] at hrow
  have HROW := Lib.hid hrow
  clear hrow
  go_wp2
  go_ret
  exact ⟨A, c, rfl, HROW.out, hb⟩
set_option maxHeartbeats 1000000 in
theorem Secret_1 (w : World) : Calls Tryd.prog 25 #[.int .i64 1] w (GivesRow w 64 (bytesOf 64 keyD1)) := by
  go_enter Tryd.func25, Tryd.ntmps25
  go_wp2_with fail
  refine (Hex_any _ 64 w ?_ (by omega) ?_).mono ?_
  · kernel_rfl
  · kernel_rfl
  rintro e w1 ⟨A, c, rfl, hrow, hb⟩
  rw [show hexs _ = bytesOf 64 keyD1 from by kernel_rfl] at hrow
  have HROW := Lib.hid hrow
  clear hrow
  go_wp2
  go_ret
  exact ⟨A, c, rfl, HROW.out, hb⟩
set_option maxHeartbeats 1000000 in
theorem Secret_2 (w : World) : Calls Tryd.prog 25 #[.int .i64 2] w (GivesRow w 128 (bytesOf 128 keyD2)) := by
  go_enter Tryd.func25, Tryd.ntmps25
  go_wp2_with fail
  refine (Hex_any _ 128 w ?_ (by omega) ?_).mono ?_
  · kernel_rfl
  · kernel_rfl
  rintro e w1 ⟨A, c, rfl, hrow, hb⟩
  rw [show hexs _ = bytesOf 128 keyD2 from by kernel_rfl] at hrow
  have HROW := Lib.hid hrow
  clear hrow
  go_wp2
  go_ret
  exact ⟨A, c, rfl, HROW.out, hb⟩
theorem ModulusOf_any (z : Nat) (hz : z ≤ 3) (w : World) : Calls Tryd.prog 23 #[.int .i64 (z : Int)] w (GivesRow w (keyK z) (bytesOf (keyK z) (keyN z))) := by
  rcases (by omega : z = 0 ∨ z = 1 ∨ z = 2 ∨ z = 3) with rfl | rfl | rfl | rfl
  · exact Modulus_0 w
  · exact Modulus_1 w
  · exact Modulus_2 w
  · exact Modulus_3 w
theorem SecretOf_any (z : Nat) (hz : z ≤ 2) (w : World) : Calls Tryd.prog 25 #[.int .i64 (z : Int)] w (GivesRow w (keyK z) (bytesOf (keyK z) (keyD z))) := by
  rcases (by omega : z = 0 ∨ z = 1 ∨ z = 2) with rfl | rfl | rfl
  · exact Secret_0 w
  · exact Secret_1 w
  · exact Secret_2 w
theorem keyK_ok {z : Nat} (hz : z ≤ 3) : 64 ≤ keyK z ∧ keyK z ≤ 256 ∧ keyK z % 64 = 0 := by
  rcases (by omega : z = 0 ∨ z = 1 ∨ z = 2 ∨ z = 3) with rfl | rfl | rfl | rfl <;> decide
theorem keyN_room {z : Nat} (hz : z ≤ 3) : keyN z < 256 ^ keyK z := by
  rcases (by omega : z = 0 ∨ z = 1 ∨ z = 2 ∨ z = 3) with rfl | rfl | rfl | rfl
  all_goals exact of_decide_eq_true (by kernel_rfl)
theorem keyD_room {z : Nat} (hz : z ≤ 2) : keyD z < 256 ^ keyK z := by
  rcases (by omega : z = 0 ∨ z = 1 ∨ z = 2) with rfl | rfl | rfl
  all_goals exact of_decide_eq_true (by kernel_rfl)
theorem keyN_modul {z : Nat} (hz : z ≤ 3) : Modul (keyK z) (bytesOf (keyK z) (keyN z)) := by
  obtain ⟨h1, h2, h3⟩ := keyK_ok hz
  refine ⟨h1, by omega, h3, ?_⟩
  rcases (by omega : z = 0 ∨ z = 1 ∨ z = 2 ∨ z = 3) with rfl | rfl | rfl | rfl
  · exact ⟨240, 145, by kernel_rfl, by kernel_rfl, by decide, by decide⟩
  · exact ⟨168, 29, by kernel_rfl, by kernel_rfl, by decide, by decide⟩
  · exact ⟨182, 149, by kernel_rfl, by kernel_rfl, by decide, by decide⟩
  · exact ⟨167, 17, by kernel_rfl, by kernel_rfl, by decide, by decide⟩
end Go.Proofs.YtojpbfkdkkdpcaaDoor
