/-
  Hex, and the fixed keys' moduli and secrets.
-/
import Derived.Test.YtppoikamenbckaaGreatDoorKeyA
import Derived.Lib.ConvBytes
import Derived.Laws.Strings2
import Derived.Test.YtppoikamenbckaaGreatDoorKeys0
import Derived.KernelRfl
namespace Go.Proofs.YtppoikamenbckaaGreatDoor
open Go.RowKit
set_option linter.unusedVariables false
set_option linter.unusedSimpArgs false
set_option maxRecDepth 100000

def hexd (b : UInt8) : Nat := if 97 ≤ b.toNat then b.toNat - 87 else b.toNat - 48
def hexs : List UInt8 → List Nat
  | a :: b :: r => (16 * hexd a + hexd b) :: hexs r
  | _ => []
def hexOk (b : UInt8) : Bool := (decide (48 ≤ b.toNat) && decide (b.toNat ≤ 57)) || (decide (97 ≤ b.toNat) && decide (b.toNat ≤ 102))
theorem hexOk_cases {b : UInt8} (h : hexOk b = true) : (48 ≤ b.toNat ∧ b.toNat ≤ 57 ∧ hexd b + 48 = b.toNat) ∨ (97 ≤ b.toNat ∧ b.toNat ≤ 102 ∧ hexd b + 87 = b.toNat) := by
  simp only [hexOk, Bool.or_eq_true, Bool.and_eq_true, decide_eq_true_eq] at h
  rcases h with h | h
  · refine .inl ⟨h.1, h.2, ?_⟩
    unfold hexd; rw [if_neg (by omega)]; omega
  · refine .inr ⟨h.1, h.2, ?_⟩
    unfold hexd; rw [if_pos (by omega)]; omega
theorem hexd_lt {b : UInt8} (h : hexOk b = true) : hexd b < 16 := by
  rcases hexOk_cases h with h | h <;> omega
theorem hexs_get : ∀ (l : List UInt8) (j : Nat) (a b : UInt8), l[2 * j]? = some a → l[2 * j + 1]? = some b → (hexs l)[j]? = some (16 * hexd a + hexd b)
  | [], j, a, b, h, _ => by simp at h
  | [x], j, a, b, _, h => by simp at h
  | x :: y :: r, 0, a, b, h, h' => by
    simp only [Nat.mul_zero, List.getElem?_cons_zero, Option.some.injEq] at h
    simp only [Nat.mul_zero, Nat.zero_add, List.getElem?_cons_succ, List.getElem?_cons_zero, Option.some.injEq] at h'
    subst h; subst h'
    rfl
  | x :: y :: r, j + 1, a, b, h, h' => by
    have e1 : 2 * (j + 1) = 2 * j + 1 + 1 := by omega
    rw [e1] at h h'
    simp only [List.getElem?_cons_succ] at h h'
    simp only [hexs, List.getElem?_cons_succ]
    exact hexs_get r j a b h h'
theorem hexs_length : ∀ (l : List UInt8) (m : Nat), l.length = 2 * m → (hexs l).length = m
  | [], m, h => by simp at h; simp [hexs]; omega
  | [x], m, h => by simp at h; omega
  | x :: y :: r, m, h => by
    simp only [List.length_cons] at h
    obtain ⟨m, rfl⟩ : ∃ p, m = p + 1 := ⟨m - 1, by omega⟩
    simp only [hexs, List.length_cons]
    rw [hexs_length r m (by omega)]
theorem below_bytesWorld (w : World) (s : ByteArray) : Below w.heap.size w (Lib.bytesWorld w 5 s) :=
  ⟨rfl, rfl, rfl, by rw [Lib.bytesWorld_size]; omega, fun i hi => Lib.bytesWorld_at_old w 5 s i hi⟩
/-- One byte more. -/
theorem wpList_appU8 {ops : Array Oper} {rest : List Oper} {o : Oper} {a : Act} {w : World} {Q : Exit → Act → World → Prop} (hgd : o.guard = none) (s x : Operand) (ho : o.op = .call { callee := .builtin .append, args := #[s, x], argTypes := #[22, 22] })
    {B : Nat} {w0 : World} (hbel : Below B w0 w) (hB : B ≤ w.heap.size) {A : Option Addr} {n cap : Nat} {l : List Nat} (d : Nat) (y : Int) (hy : y = (d : Int)) (hs : a.eval s = .slice A n cap) (hrow : Row w B 5 A n cap (cn .u8 l)) (hx : a.eval x = .slice (some ⟨w.heap.size, 0, none⟩) 1 1) (hn : n < 1000000) (N : Nat) (hN : n + 1 = N)
    (h : ∀ A' cap' w', Hid (Row w' B 5 A' N cap' (cn .u8 (l ++ [d]))) → Below B w0 w' → B ≤ w'.heap.size → wpList Tryz.prog ops Q rest (a.put o.dst (.slice A' N cap')) w') : wpList Tryz.prog ops Q (o :: rest) a (w.alloc (.cells #[.int .u8 y] 5)) := by
  obtain ⟨i0, hi, hz0, hz1, hz2⟩ := info_parts byteInfo
  subst hy
  refine wpList_app hgd s x 22 5 ho Tryz.underlying22 hi hz0 hz1 hz2 rfl (by omega) (hbel.alloc hB _) (by simp; omega) hs (World.ownsRow.alloc hrow _) hx (news := [.int .u8 (d : Int)]) rfl (one_src w _ _) (by intro u hu; rw [List.mem_singleton.1 hu]; rfl) (fun e => by cases e) (by omega) N hN ?_
  intro A' cap' w' hr hb hB'
  refine h A' cap' w' ?_ hb hB'
  have := hr.out
  show Row _ _ _ _ _ _ _
  simpa [cn] using this
/-- Two signs as one number, after t of them. -/
def two (x y : Nat) : Nat → Nat
  | 0 => 0
  | 1 => x
  | _ => 16 * x + y

set_option maxHeartbeats 2000000 in
theorem Hex_any (S : ByteArray) (m : Nat) (w : World) (hl : S.size = 2 * m) (hm : m ≤ 1000) (hok : S.data.toList.all hexOk = true) :
    Calls Tryz.prog 37 #[.string S] w fun e w' => ∃ A c, e = .returned (.slice A m c) ∧ Row w' w.heap.size 5 A m c (cn .u8 (hexs S.data.toList)) ∧ Below w.heap.size w w' := by
  have HL := Lib.hid hl
  have HOK := Lib.hid hok
  obtain ⟨M, hM⟩ : ∃ M : Nat, M = 2 * m := ⟨_, rfl⟩
  have HM := Lib.hid hM
  have hSz : S.size = M := by omega
  have hM2 : M ≤ 2000 := by omega
  clear hl hok hM
  go_enter Tryz.func37, Tryz.ntmps37
  go_wp2
  go_loopw [3, 4] (fun o i wr => ∃ (j q : Nat) (A1 : Option Addr) (c1 : Nat), j ≤ m ∧ Hid (q = 2 * j) ∧ i = .int .i64 (q : Int) ∧ o = .slice A1 j c1 ∧ Hid (Row wr w.heap.size 5 A1 j c1 (cn .u8 ((hexs S.data.toList).take j))) ∧ Below w.heap.size w wr ∧ w.heap.size ≤ wr.heap.size) (fun _ i _ => 2 * m + 2 - (intOf i).toNat)
  case atStart => exact ⟨0, 0, none, 0, by omega, rfl, rfl, rfl, Row.nil w _ _, below_self, Nat.le_refl _⟩
  case round =>
    obtain ⟨j, q, A1, c1, hj, HQ, rfl, rfl, HRow, hbe, hB⟩ := hrel
    by_cases hjm : j < m
    · have hq1 : q + 1 < M := by have := HQ.out; have := HM.out; omega
      have hlen : S.data.toList.length = M := by rw [← hSz]; exact Array.length_toList
      obtain ⟨a, ha⟩ : ∃ a, S.data.toList[q]? = some a := ⟨_, List.getElem?_eq_getElem (by omega)⟩
      obtain ⟨b, hb⟩ : ∃ b, S.data.toList[q + 1]? = some b := ⟨_, List.getElem?_eq_getElem (by omega)⟩
      have oka : hexOk a = true := List.all_eq_true.1 HOK.out a (List.mem_of_getElem? ha)
      have okb : hexOk b = true := List.all_eq_true.1 HOK.out b (List.mem_of_getElem? hb)
      have hget : (hexs S.data.toList)[j]? = some (16 * hexd a + hexd b) := hexs_get _ j a b (by rw [← HQ.out]; exact ha) (by rw [← HQ.out]; exact hb)
      have hnext := take_trim hget
      have hsl : (Instr.slice 9 (.string S) (some (.int .i64 (q : Int))) (some (.int .i64 ((q : Int) + 2))) none).run Tryz.prog wr = .ok (.string (S.extract q (q + 2))) wr := by
        have := run_slice_string (P := Tryz.prog) wr 9 S .i64 .i64 (q : Int) ((q : Int) + 2) Tryz.underlying9 (by omega) (by omega) (by omega)
        rw [show ((q : Int)).toNat = q by omega, show ((q : Int) + 2).toNat = q + 2 by omega] at this
        exact this
      have hTs : (S.extract q (q + 2)).size = 2 := by rw [ByteArray.size_extract]; omega
      have hTd : (S.extract q (q + 2)).data.toList = [a, b] := by
        obtain ⟨⟨L⟩⟩ := S
        have e := ByteArray.extract_mk L q (q + 2)
        show (ByteArray.extract (ByteArray.mk L.toArray) q (q + 2)).data.toList = _
        rw [e]
        show (L.drop q).take (q + 2 - q) = _
        rw [show q + 2 - q = 2 by omega]
        have h1 : L[q]? = some a := ha
        have h2 : L[q + 1]? = some b := hb
        have l1 := (List.getElem?_eq_some_iff.1 h1)
        have l2 := (List.getElem?_eq_some_iff.1 h2)
        rw [List.drop_eq_getElem_cons l1.1, List.drop_eq_getElem_cons l2.1, l1.2, l2.2]
        rfl
      generalize S.extract q (q + 2) = T at *
      have hcv := Lib.run_convert_string_bytes (P := Tryz.prog) wr 9 22 5 T Tryz.underlying9 Tryz.underlying22 Tryz.underlying5
      have hc0 : (Lib.bytesWorld wr 5 T).cell? ⟨wr.heap.size, 0, none⟩ = some (.int .u8 ((a.toNat : Nat) : Int)) := by rw [Lib.bytesWorld_cell wr 5 T 0 (by omega), hTd]; rfl
      have hc1 : (Lib.bytesWorld wr 5 T).cell? ⟨wr.heap.size, 1, none⟩ = some (.int .u8 ((b.toNat : Nat) : Int)) := by rw [Lib.bytesWorld_cell wr 5 T 1 (by omega), hTd]; rfl
      have hbw := below_bytesWorld wr T
      have HR2 := Lib.hid (HRow.out.below hbw)
      have bel2 : Below w.heap.size w (Lib.bytesWorld wr 5 T) := hbe.trans (hbw.mono hB)
      have hB2 : w.heap.size ≤ (Lib.bytesWorld wr 5 T).heap.size := Nat.le_trans hB hbw.size
      rw [hTs] at hcv
      generalize Lib.bytesWorld wr 5 T = w2 at *
      generalize grownCap wr 2 0 5 = cc at *
      generalize hg : wr.heap.size = g at *
      have hxa := hexd_lt oka
      have hxb := hexd_lt okb
      have CA := Lib.hid (hexOk_cases oka)
      have CB := Lib.hid (hexOk_cases okb)
      generalize hexd a = x at *
      generalize hexd b = y at *
      generalize a.toNat = na at *
      generalize b.toNat = nb at *
      have HNX := Lib.hid hnext
      obtain ⟨j3, hj3⟩ : ∃ j3, j + 1 = j3 := ⟨_, rfl⟩
      have HJ3 := Lib.hid hj3
      clear hget hnext ha hb oka okb hlen hTs hTd hbw hj3
      go_wp2
      go_loop [5, 7, 22] (fun n u i => ∃ t : Nat, t ≤ 2 ∧ i = .int .i64 (t : Int) ∧ n = .int .i64 ((two x y t : Nat) : Int)) (fun _ _ i => 2 - (intOf i).toNat)
      case atStart => exact ⟨0, by omega, rfl, rfl⟩
      case round =>
        obtain ⟨t, ht, rfl, rfl⟩ := hrel
        rcases t with _ | _ | _ | t
        · rw [show two x y 0 = 0 from rfl]
          rcases CA.out with ⟨h1, h2, h3⟩ | ⟨h1, h2, h3⟩
          · go_wp2
            go_round
            case rel => exact ⟨_, _, _, ⟨1, by omega, rfl, rfl⟩, by show _ = Value.int .i64 ((x : Nat) : Int); congr 1; omega, rfl, by go_num⟩
            case measure => simp [intOf]
          · go_wp2
            go_round
            case rel => exact ⟨_, _, _, ⟨1, by omega, rfl, rfl⟩, by show _ = Value.int .i64 ((x : Nat) : Int); congr 1; omega, rfl, by go_num⟩
            case measure => simp [intOf]
        · rw [show two x y (0 + 1) = x from rfl]
          rcases CB.out with ⟨h1, h2, h3⟩ | ⟨h1, h2, h3⟩
          · go_wp2
            go_round
            case rel => exact ⟨_, _, _, ⟨2, by omega, rfl, rfl⟩, by show _ = Value.int .i64 ((16 * x + y : Nat) : Int); congr 1; omega, rfl, by go_num⟩
            case measure => simp [intOf]
          · go_wp2
            go_round
            case rel => exact ⟨_, _, _, ⟨2, by omega, rfl, rfl⟩, by show _ = Value.int .i64 ((16 * x + y : Nat) : Int); congr 1; omega, rfl, by go_num⟩
            case measure => simp [intOf]
        · rw [show two x y (0 + 1 + 1) = 16 * x + y from rfl]
          have hyy : 16 * x + y < 256 := by omega
          go_wp2_with (first
            | ((with_reducible refine at_dst (some 50) ?_); refine wpList_appU8 (o := ⟨some 50, _, _, _, _, _⟩) rfl (.tmp 46) (.tmp 49) rfl bel2 hB2 (16 * x + y) _ (by omega) rfl HR2.out rfl (by omega) j3 HJ3.out ?_; intro A3 c3 w3 HRow3 hbe3 hB3))
          go_roundw
          case rel =>
            refine ⟨j3, q + 2, A3, c3, by have := HJ3.out; omega, by show _ = _; have := HJ3.out; have := HQ.out; omega, by go_num, rfl, ?_, hbe3, hB3⟩
            have := HRow3.out
            rw [← HNX.out, HJ3.out] at this
            exact this
          case measure => simp [intOf]; have := HM.out; omega
        · omega
    · have hq1 : ¬ q + 1 < M := by have := HQ.out; have := HM.out; omega
      have hq3 : q ≤ 2000 := by have := HQ.out; omega
      obtain rfl : j = m := by omega
      go_wp2
      go_ret
      refine ⟨A1, c1, rfl, ?_, hbe⟩
      have := HRow.out
      rw [List.take_of_length_le (by rw [hexs_length _ j (Array.length_toList.trans HL.out)]; exact Nat.le_refl _)] at this
      exact this
end Go.Proofs.YtppoikamenbckaaGreatDoor

namespace Go.Proofs.YtppoikamenbckaaGreatDoor
open Go.RowKit
set_option linter.unusedVariables false
set_option linter.unusedSimpArgs false
set_option maxRecDepth 100000

def keyN3 : Nat := 21194976876106637767765971718165402166353776426219101977383846722248938411909916334974259674239889560497095207569630968526574494887006368495708710046325672162422584895085717556702231790328714468474804417764748464856769271775639164236900590607434035455341442204371723308978322428797989385976785730466691083582103046616771517615007258510561437830504786488550206182749961020805330594563883953407125895219372141907850320983399201270241215599536426349582548563878865734947792524324328099558734342438666921317912254057202636830323200504800306119446616233962423300924062342948048824120326245834241393092211722134327371078417
/-- The modulus, its bytes, and the secret of the key z. -/
def keyN (z : Nat) : Nat := if z = 1 then keyN1 else if z = 2 then keyN2 else if z = 3 then keyN3 else keyN0
def keyD (z : Nat) : Nat := if z = 1 then keyD1 else if z = 2 then keyD2 else keyD0
def keyK (z : Nat) : Nat := if z = 1 then 64 else if z = 2 then 128 else if z = 3 then 256 else 64
/-- An answer: bytes of its own, in room of any size. -/
def GivesRow (w : World) (n : Nat) (l : List Nat) (e : Ending) (w' : World) : Prop :=
  ∃ A c, e = .returned (.slice A n c) ∧ Row w' w.heap.size 5 A n c (cn .u8 l) ∧ Below w.heap.size w w'
set_option maxHeartbeats 1000000 in
theorem Modulus_0 (w : World) : Calls Tryz.prog 14 #[.int .i64 0] w (GivesRow w 64 (bytesOf 64 keyN0)) := by
  go_enter Tryz.func14, Tryz.ntmps14
  go_wp2_with fail
  refine (Hex_any _ 64 w ?_ (by omega) ?_).mono ?_
  · kernel_rfl
  · kernel_rfl
  rintro e w1 ⟨A, c, rfl, hrow, hb⟩
  rw [show hexs _ = bytesOf 64 keyN0 from by kernel_rfl] at hrow
  have HROW := Lib.hid hrow
  clear hrow
  go_wp2
  go_ret
  exact ⟨A, c, rfl, HROW.out, hb⟩
set_option maxHeartbeats 1000000 in
theorem Modulus_1 (w : World) : Calls Tryz.prog 14 #[.int .i64 1] w (GivesRow w 64 (bytesOf 64 keyN1)) := by
  go_enter Tryz.func14, Tryz.ntmps14
  go_wp2_with fail
  refine (Hex_any _ 64 w ?_ (by omega) ?_).mono ?_
  · kernel_rfl
  · kernel_rfl
  rintro e w1 ⟨A, c, rfl, hrow, hb⟩
  rw [show hexs _ = bytesOf 64 keyN1 from by kernel_rfl] at hrow
  have HROW := Lib.hid hrow
  clear hrow
  go_wp2
  go_ret
  exact ⟨A, c, rfl, HROW.out, hb⟩
set_option maxHeartbeats 1000000 in
theorem Modulus_2 (w : World) : Calls Tryz.prog 14 #[.int .i64 2] w (GivesRow w 128 (bytesOf 128 keyN2)) := by
  go_enter Tryz.func14, Tryz.ntmps14
  go_wp2_with fail
  refine (Hex_any _ 128 w ?_ (by omega) ?_).mono ?_
  · kernel_rfl
  · kernel_rfl
  rintro e w1 ⟨A, c, rfl, hrow, hb⟩
  rw [show hexs _ = bytesOf 128 keyN2 from by kernel_rfl] at hrow
  have HROW := Lib.hid hrow
  clear hrow
  go_wp2
  go_ret
  exact ⟨A, c, rfl, HROW.out, hb⟩
set_option maxHeartbeats 1000000 in
theorem Modulus_3 (w : World) : Calls Tryz.prog 14 #[.int .i64 3] w (GivesRow w 256 (bytesOf 256 keyN3)) := by
  go_enter Tryz.func14, Tryz.ntmps14
  go_wp2_with fail
  refine (Hex_any _ 256 w ?_ (by omega) ?_).mono ?_
  · kernel_rfl
  · kernel_rfl
  rintro e w1 ⟨A, c, rfl, hrow, hb⟩
  rw [show hexs _ = bytesOf 256 keyN3 from by kernel_rfl] at hrow
  have HROW := Lib.hid hrow
  clear hrow
  go_wp2
  go_ret
  exact ⟨A, c, rfl, HROW.out, hb⟩
set_option maxHeartbeats 1000000 in
theorem Secret_0 (w : World) : Calls Tryz.prog 16 #[.int .i64 0] w (GivesRow w 64 (bytesOf 64 keyD0)) := by
  go_enter Tryz.func16, Tryz.ntmps16
  go_wp2_with fail
  refine (Hex_any _ 64 w ?_ (by omega) ?_).mono ?_
  · kernel_rfl
  · kernel_rfl
  rintro e w1 ⟨A, c, rfl, hrow, hb⟩
  rw [show hexs _ = bytesOf 64 keyD0 from by kernel_rfl] at hrow
  have HROW := Lib.hid hrow
  clear hrow
  go_wp2
  go_ret
  exact ⟨A, c, rfl, HROW.out, hb⟩
set_option maxHeartbeats 1000000 in
theorem Secret_1 (w : World) : Calls Tryz.prog 16 #[.int .i64 1] w (GivesRow w 64 (bytesOf 64 keyD1)) := by
  go_enter Tryz.func16, Tryz.ntmps16
  go_wp2_with fail
  refine (Hex_any _ 64 w ?_ (by omega) ?_).mono ?_
  · kernel_rfl
  · kernel_rfl
  rintro e w1 ⟨A, c, rfl, hrow, hb⟩
  rw [show hexs _ = bytesOf 64 keyD1 from by kernel_rfl] at hrow
  have HROW := Lib.hid hrow
  clear hrow
  go_wp2
  go_ret
  exact ⟨A, c, rfl, HROW.out, hb⟩
set_option maxHeartbeats 1000000 in
theorem Secret_2 (w : World) : Calls Tryz.prog 16 #[.int .i64 2] w (GivesRow w 128 (bytesOf 128 keyD2)) := by
  go_enter Tryz.func16, Tryz.ntmps16
  go_wp2_with fail
  refine (Hex_any _ 128 w ?_ (by omega) ?_).mono ?_
  · kernel_rfl
  · kernel_rfl
  rintro e w1 ⟨A, c, rfl, hrow, hb⟩
  rw [show hexs _ = bytesOf 128 keyD2 from by kernel_rfl] at hrow
  have HROW := Lib.hid hrow
  clear hrow
  go_wp2
  go_ret
  exact ⟨A, c, rfl, HROW.out, hb⟩
theorem ModulusOf_any (z : Nat) (hz : z ≤ 3) (w : World) : Calls Tryz.prog 14 #[.int .i64 (z : Int)] w (GivesRow w (keyK z) (bytesOf (keyK z) (keyN z))) := by
  rcases (by omega : z = 0 ∨ z = 1 ∨ z = 2 ∨ z = 3) with rfl | rfl | rfl | rfl
  · exact Modulus_0 w
  · exact Modulus_1 w
  · exact Modulus_2 w
  · exact Modulus_3 w
theorem SecretOf_any (z : Nat) (hz : z ≤ 2) (w : World) : Calls Tryz.prog 16 #[.int .i64 (z : Int)] w (GivesRow w (keyK z) (bytesOf (keyK z) (keyD z))) := by
  rcases (by omega : z = 0 ∨ z = 1 ∨ z = 2) with rfl | rfl | rfl
  · exact Secret_0 w
  · exact Secret_1 w
  · exact Secret_2 w
theorem keyK_ok {z : Nat} (hz : z ≤ 3) : 64 ≤ keyK z ∧ keyK z ≤ 256 ∧ keyK z % 64 = 0 := by
  rcases (by omega : z = 0 ∨ z = 1 ∨ z = 2 ∨ z = 3) with rfl | rfl | rfl | rfl <;> decide
theorem keyN_room {z : Nat} (hz : z ≤ 3) : keyN z < 256 ^ keyK z := by
  rcases (by omega : z = 0 ∨ z = 1 ∨ z = 2 ∨ z = 3) with rfl | rfl | rfl | rfl
  all_goals exact of_decide_eq_true (by kernel_rfl)
theorem keyD_room {z : Nat} (hz : z ≤ 2) : keyD z < 256 ^ keyK z := by
  rcases (by omega : z = 0 ∨ z = 1 ∨ z = 2) with rfl | rfl | rfl
  all_goals exact of_decide_eq_true (by kernel_rfl)
theorem keyN_modul {z : Nat} (hz : z ≤ 3) : Modul (keyK z) (bytesOf (keyK z) (keyN z)) := by
  obtain ⟨h1, h2, h3⟩ := keyK_ok hz
  refine ⟨h1, by omega, h3, ?_⟩
  rcases (by omega : z = 0 ∨ z = 1 ∨ z = 2 ∨ z = 3) with rfl | rfl | rfl | rfl
  · exact ⟨240, 145, by kernel_rfl, by kernel_rfl, by decide, by decide⟩
  · exact ⟨168, 29, by kernel_rfl, by kernel_rfl, by decide, by decide⟩
  · exact ⟨182, 149, by kernel_rfl, by kernel_rfl, by decide, by decide⟩
  · exact ⟨167, 17, by kernel_rfl, by kernel_rfl, by decide, by decide⟩
end Go.Proofs.YtppoikamenbckaaGreatDoor
