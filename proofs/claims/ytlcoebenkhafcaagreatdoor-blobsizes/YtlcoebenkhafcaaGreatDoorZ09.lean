/-
  Hex, and the fixed keys' moduli and secrets. What the small tests of both sides answer: a digest's size, a shape, lengths. No condition. A region whose order is drawn: one property an operation, in any order; calls, allocations and stores let in, guards met or not. No condition.
-/
import Derived.Test.YtlcoebenkhafcaaGreatDoorZ05
import Derived.Lib.ConvBytes
import Derived.Laws.Strings2
import Derived.Test.YtlcoebenkhafcaaGreatDoorZ06
import Derived.KernelRfl
import Derived.Test.YtlcoebenkhafcaaGreatDoorZ08
import Derived.WalkLawsBesides
import Derived.RegionTactic
namespace Go.Proofs.YtlcoebenkhafcaaGreatDoor
open Go.RowKit
set_option linter.unusedVariables false
set_option linter.unusedSimpArgs false
set_option maxRecDepth 100000
def hexd (b : UInt8) : Nat := if 97 ≤ b.toNat then b.toNat - 87 else b.toNat - 48
def hexs : List UInt8 → List Nat
  | a :: b :: r => (16 * hexd a + hexd b) :: hexs r
  | _ => []
def hexOk (b : UInt8) : Bool := (decide (48 ≤ b.toNat) && decide (b.toNat ≤ 57)) || (decide (97 ≤ b.toNat) && decide (b.toNat ≤ 102))
theorem hexOk_cases {b : UInt8} (h : hexOk b = true) : (48 ≤ b.toNat ∧ b.toNat ≤ 57 ∧ hexd b + 48 = b.toNat) ∨ (97 ≤ b.toNat ∧ b.toNat ≤ 102 ∧ hexd b + 87 = b.toNat) := by
  simp only [hexOk, Bool.or_eq_true, Bool.and_eq_true, decide_eq_true_eq] at h
  rcases h with h | h
  · refine .inl ⟨h.1, h.2, ?_⟩
    unfold hexd; rw [if_neg (by omega)]; omega
  · refine .inr ⟨h.1, h.2, ?_⟩
    unfold hexd; rw [if_pos (by omega)]; omega
theorem hexd_lt {b : UInt8} (h : hexOk b = true) : hexd b < 16 := by
  rcases hexOk_cases h with h | h <;> omega
theorem hexs_get : ∀ (l : List UInt8) (j : Nat) (a b : UInt8), l[2 * j]? = some a → l[2 * j + 1]? = some b → (hexs l)[j]? = some (16 * hexd a + hexd b)
  | [], j, a, b, h, _ => by simp at h
  | [x], j, a, b, _, h => by simp at h
  | x :: y :: r, 0, a, b, h, h' => by
    simp only [Nat.mul_zero, List.getElem?_cons_zero, Option.some.injEq] at h
    simp only [Nat.mul_zero, Nat.zero_add, List.getElem?_cons_succ, List.getElem?_cons_zero, Option.some.injEq] at h'
    subst h; subst h'
    rfl
  | x :: y :: r, j + 1, a, b, h, h' => by
    have e1 : 2 * (j + 1) = 2 * j + 1 + 1 := by omega
    rw [e1] at h h'
    simp only [List.getElem?_cons_succ] at h h'
    simp only [hexs, List.getElem?_cons_succ]
    exact hexs_get r j a b h h'
theorem hexs_length : ∀ (l : List UInt8) (m : Nat), l.length = 2 * m → (hexs l).length = m
  | [], m, h => by simp at h; simp [hexs]; omega
  | [x], m, h => by simp at h; omega
  | x :: y :: r, m, h => by
    simp only [List.length_cons] at h
    obtain ⟨m, rfl⟩ : ∃ p, m = p + 1 := ⟨m - 1, by omega⟩
    simp only [hexs, List.length_cons]
    rw [hexs_length r m (by omega)]
theorem below_bytesWorld (w : World) (s : ByteArray) : Below w.heap.size w (Lib.bytesWorld w 5 s) :=
  ⟨rfl, rfl, rfl, by rw [Lib.bytesWorld_size]; omega, fun i hi => Lib.bytesWorld_at_old w 5 s i hi⟩
theorem wpList_appU8 {ops : Array Oper} {rest : List Oper} {o : Oper} {a : Act} {w : World} {Q : Exit → Act → World → Prop} (hgd : o.guard = none) (s x : Operand) (ho : o.op = .call { callee := .builtin .append, args := #[s, x], argTypes := #[25, 25] })
    {B : Nat} {w0 : World} (hbel : Below B w0 w) (hB : B ≤ w.heap.size) {A : Option Addr} {n cap : Nat} {l : List Nat} (d : Nat) (y : Int) (hy : y = (d : Int)) (hs : a.eval s = .slice A n cap) (hrow : Row w B 5 A n cap (cn .u8 l)) (hx : a.eval x = .slice (some ⟨w.heap.size, 0, none⟩) 1 1) (hn : n < 1000000) (N : Nat) (hN : n + 1 = N)
    (h : ∀ A' cap' w', Hid (Row w' B 5 A' N cap' (cn .u8 (l ++ [d]))) → Below B w0 w' → B ≤ w'.heap.size → wpList Tryz.prog ops Q rest (a.put o.dst (.slice A' N cap')) w') : wpList Tryz.prog ops Q (o :: rest) a (w.alloc (.cells #[.int .u8 y] 5)) := by
  obtain ⟨i0, hi, hz0, hz1, hz2⟩ := info_parts byteInfo
  subst hy
  refine wpList_app hgd s x 25 5 ho Tryz.underlying25 hi hz0 hz1 hz2 rfl (by omega) (hbel.alloc hB _) (by simp; omega) hs (World.ownsRow.alloc hrow _) hx (news := [.int .u8 (d : Int)]) rfl (one_src w _ _) (by intro u hu; rw [List.mem_singleton.1 hu]; rfl) (fun e => by cases e) (by omega) N hN ?_
  intro A' cap' w' hr hb hB'
  refine h A' cap' w' ?_ hb hB'
  have := hr.out
  show Row _ _ _ _ _ _ _
  simpa [cn] using this
def two (x y : Nat) : Nat → Nat
  | 0 => 0
  | 1 => x
  | _ => 16 * x + y
set_option maxHeartbeats 2000000 in
theorem Hex_any (S : ByteArray) (m : Nat) (w : World) (hl : S.size = 2 * m) (hm : m ≤ 1000) (hok : S.data.toList.all hexOk = true) :
    Calls Tryz.prog 67 #[.string S] w fun e w' => ∃ A c, e = .returned (.slice A m c) ∧ Row w' w.heap.size 5 A m c (cn .u8 (hexs S.data.toList)) ∧ Below w.heap.size w w' := by
  have HL := Lib.hid hl
  have HOK := Lib.hid hok
  obtain ⟨M, hM⟩ : ∃ M : Nat, M = 2 * m := ⟨_, rfl⟩
  have HM := Lib.hid hM
  have hSz : S.size = M := by omega
  have hM2 : M ≤ 2000 := by omega
  clear hl hok hM
  go_enter Tryz.func67, Tryz.ntmps67
  go_wp2
  go_loopw [3, 4] (fun o i wr => ∃ (j q : Nat) (A1 : Option Addr) (c1 : Nat), j ≤ m ∧ Hid (q = 2 * j) ∧ i = .int .i64 (q : Int) ∧ o = .slice A1 j c1 ∧ Hid (Row wr w.heap.size 5 A1 j c1 (cn .u8 ((hexs S.data.toList).take j))) ∧ Below w.heap.size w wr ∧ w.heap.size ≤ wr.heap.size) (fun _ i _ => 2 * m + 2 - (intOf i).toNat)
  case atStart => exact ⟨0, 0, none, 0, by omega, rfl, rfl, rfl, Row.nil w _ _, below_self, Nat.le_refl _⟩
  case round =>
    obtain ⟨j, q, A1, c1, hj, HQ, rfl, rfl, HRow, hbe, hB⟩ := hrel
    by_cases hjm : j < m
    · have hq1 : q + 1 < M := by have := HQ.out; have := HM.out; omega
      have hlen : S.data.toList.length = M := by rw [← hSz]; exact Array.length_toList
      obtain ⟨a, ha⟩ : ∃ a, S.data.toList[q]? = some a := ⟨_, List.getElem?_eq_getElem (by omega)⟩
      obtain ⟨b, hb⟩ : ∃ b, S.data.toList[q + 1]? = some b := ⟨_, List.getElem?_eq_getElem (by omega)⟩
      have oka : hexOk a = true := List.all_eq_true.1 HOK.out a (List.mem_of_getElem? ha)
      have okb : hexOk b = true := List.all_eq_true.1 HOK.out b (List.mem_of_getElem? hb)
      have hget : (hexs S.data.toList)[j]? = some (16 * hexd a + hexd b) := hexs_get _ j a b (by rw [← HQ.out]; exact ha) (by rw [← HQ.out]; exact hb)
      have hnext := take_trim hget
      have hsl : (Instr.slice 9 (.string S) (some (.int .i64 (q : Int))) (some (.int .i64 ((q : Int) + 2))) none).run Tryz.prog wr = .ok (.string (S.extract q (q + 2))) wr := by
        have := run_slice_string (P := Tryz.prog) wr 9 S .i64 .i64 (q : Int) ((q : Int) + 2) Tryz.underlying9 (by omega) (by omega) (by omega)
        rw [show ((q : Int)).toNat = q by omega, show ((q : Int) + 2).toNat = q + 2 by omega] at this
        exact this
      have hTs : (S.extract q (q + 2)).size = 2 := by rw [ByteArray.size_extract]; omega
      have hTd : (S.extract q (q + 2)).data.toList = [a, b] := by
        obtain ⟨⟨L⟩⟩ := S
        have e := ByteArray.extract_mk L q (q + 2)
        show (ByteArray.extract (ByteArray.mk L.toArray) q (q + 2)).data.toList = _
        rw [e]
        show (L.drop q).take (q + 2 - q) = _
        rw [show q + 2 - q = 2 by omega]
        have h1 : L[q]? = some a := ha
        have h2 : L[q + 1]? = some b := hb
        have l1 := (List.getElem?_eq_some_iff.1 h1)
        have l2 := (List.getElem?_eq_some_iff.1 h2)
        rw [List.drop_eq_getElem_cons l1.1, List.drop_eq_getElem_cons l2.1, l1.2, l2.2]
        rfl
      generalize S.extract q (q + 2) = T at *
      have hcv := Lib.run_convert_string_bytes (P := Tryz.prog) wr 9 25 5 T Tryz.underlying9 Tryz.underlying25 Tryz.underlying5
      have hc0 : (Lib.bytesWorld wr 5 T).cell? ⟨wr.heap.size, 0, none⟩ = some (.int .u8 ((a.toNat : Nat) : Int)) := by rw [Lib.bytesWorld_cell wr 5 T 0 (by omega), hTd]; rfl
      have hc1 : (Lib.bytesWorld wr 5 T).cell? ⟨wr.heap.size, 1, none⟩ = some (.int .u8 ((b.toNat : Nat) : Int)) := by rw [Lib.bytesWorld_cell wr 5 T 1 (by omega), hTd]; rfl
      have hbw := below_bytesWorld wr T
      have HR2 := Lib.hid (HRow.out.below hbw)
      have bel2 : Below w.heap.size w (Lib.bytesWorld wr 5 T) := hbe.trans (hbw.mono hB)
      have hB2 : w.heap.size ≤ (Lib.bytesWorld wr 5 T).heap.size := Nat.le_trans hB hbw.size
      rw [hTs] at hcv
      generalize Lib.bytesWorld wr 5 T = w2 at *
      generalize grownCap wr 2 0 5 = cc at *
      generalize hg : wr.heap.size = g at *
      have hxa := hexd_lt oka
      have hxb := hexd_lt okb
      have CA := Lib.hid (hexOk_cases oka)
      have CB := Lib.hid (hexOk_cases okb)
      generalize hexd a = x at *
      generalize hexd b = y at *
      generalize a.toNat = na at *
      generalize b.toNat = nb at *
      have HNX := Lib.hid hnext
      obtain ⟨j3, hj3⟩ : ∃ j3, j + 1 = j3 := ⟨_, rfl⟩
      have HJ3 := Lib.hid hj3
      clear hget hnext ha hb oka okb hlen hTs hTd hbw hj3
      go_wp2
      go_loop [5, 7, 22] (fun n u i => ∃ t : Nat, t ≤ 2 ∧ i = .int .i64 (t : Int) ∧ n = .int .i64 ((two x y t : Nat) : Int)) (fun _ _ i => 2 - (intOf i).toNat)
      case atStart => exact ⟨0, by omega, rfl, rfl⟩
      case round =>
        obtain ⟨t, ht, rfl, rfl⟩ := hrel
        rcases t with _ | _ | _ | t
        · rw [show two x y 0 = 0 from rfl]
          rcases CA.out with ⟨h1, h2, h3⟩ | ⟨h1, h2, h3⟩
          · go_wp2
            go_round
            case rel => exact ⟨_, _, _, ⟨1, by omega, rfl, rfl⟩, by show _ = Value.int .i64 ((x : Nat) : Int); congr 1; omega, rfl, by go_num⟩
            case measure => simp [intOf]
          · go_wp2
            go_round
            case rel => exact ⟨_, _, _, ⟨1, by omega, rfl, rfl⟩, by show _ = Value.int .i64 ((x : Nat) : Int); congr 1; omega, rfl, by go_num⟩
            case measure => simp [intOf]
        · rw [show two x y (0 + 1) = x from rfl]
          rcases CB.out with ⟨h1, h2, h3⟩ | ⟨h1, h2, h3⟩
          · go_wp2
            go_round
            case rel => exact ⟨_, _, _, ⟨2, by omega, rfl, rfl⟩, by show _ = Value.int .i64 ((16 * x + y : Nat) : Int); congr 1; omega, rfl, by go_num⟩
            case measure => simp [intOf]
          · go_wp2
            go_round
            case rel => exact ⟨_, _, _, ⟨2, by omega, rfl, rfl⟩, by show _ = Value.int .i64 ((16 * x + y : Nat) : Int); congr 1; omega, rfl, by go_num⟩
            case measure => simp [intOf]
        · rw [show two x y (0 + 1 + 1) = 16 * x + y from rfl]
          have hyy : 16 * x + y < 256 := by omega
          go_wp2_with (first
            | ((with_reducible refine at_dst (some 50) ?_); refine wpList_appU8 (o := ⟨some 50, _, _, _, _, _⟩) rfl (.tmp 46) (.tmp 49) rfl bel2 hB2 (16 * x + y) _ (by omega) rfl HR2.out rfl (by omega) j3 HJ3.out ?_; intro A3 c3 w3 HRow3 hbe3 hB3))
          go_roundw
          case rel =>
            refine ⟨j3, q + 2, A3, c3, by have := HJ3.out; omega, by show _ = _; have := HJ3.out; have := HQ.out; omega, by go_num, rfl, ?_, hbe3, hB3⟩
            have := HRow3.out
            rw [← HNX.out, HJ3.out] at this
            exact this
          case measure => simp [intOf]; have := HM.out; omega
        · omega
    · have hq1 : ¬ q + 1 < M := by have := HQ.out; have := HM.out; omega
      have hq3 : q ≤ 2000 := by have := HQ.out; omega
      obtain rfl : j = m := by omega
      go_wp2
      go_ret
      refine ⟨A1, c1, rfl, ?_, hbe⟩
      have := HRow.out
      rw [List.take_of_length_le (by rw [hexs_length _ j (Array.length_toList.trans HL.out)]; exact Nat.le_refl _)] at this
      exact this
end Go.Proofs.YtlcoebenkhafcaaGreatDoor
namespace Go.Proofs.YtlcoebenkhafcaaGreatDoor
open Go.RowKit
set_option linter.unusedVariables false
set_option linter.unusedSimpArgs false
set_option maxRecDepth 100000
def keyN3 : Nat := 21194976876106637767765971718165402166353776426219101977383846722248938411909916334974259674239889560497095207569630968526574494887006368495708710046325672162422584895085717556702231790328714468474804417764748464856769271775639164236900590607434035455341442204371723308978322428797989385976785730466691083582103046616771517615007258510561437830504786488550206182749961020805330594563883953407125895219372141907850320983399201270241215599536426349582548563878865734947792524324328099558734342438666921317912254057202636830323200504800306119446616233962423300924062342948048824120326245834241393092211722134327371078417
def keyN (z : Nat) : Nat := if z = 1 then keyN1 else if z = 2 then keyN2 else if z = 3 then keyN3 else keyN0
def keyD (z : Nat) : Nat := if z = 1 then keyD1 else if z = 2 then keyD2 else keyD0
def keyK (z : Nat) : Nat := if z = 1 then 64 else if z = 2 then 128 else if z = 3 then 256 else 64
def GivesRow (w : World) (n : Nat) (l : List Nat) (e : Ending) (w' : World) : Prop :=
  ∃ A c, e = .returned (.slice A n c) ∧ Row w' w.heap.size 5 A n c (cn .u8 l) ∧ Below w.heap.size w w'
set_option maxHeartbeats 1000000 in
theorem Modulus_0 (w : World) : Calls Tryz.prog 24 #[.int .i64 0] w (GivesRow w 64 (bytesOf 64 keyN0)) := by
  go_enter Tryz.func24, Tryz.ntmps24
  go_wp2_with fail
  refine (Hex_any _ 64 w ?_ (by omega) ?_).mono ?_
  · kernel_rfl
  · kernel_rfl
  rintro e w1 ⟨A, c, rfl, hrow, hb⟩
  rw [show hexs _ = bytesOf 64 keyN0 from by kernel_rfl] at hrow
  have HROW := Lib.hid hrow
  clear hrow
  go_wp2
  go_ret
  exact ⟨A, c, rfl, HROW.out, hb⟩
set_option maxHeartbeats 1000000 in
theorem Modulus_1 (w : World) : Calls Tryz.prog 24 #[.int .i64 1] w (GivesRow w 64 (bytesOf 64 keyN1)) := by
  go_enter Tryz.func24, Tryz.ntmps24
  go_wp2_with fail
  refine (Hex_any _ 64 w ?_ (by omega) ?_).mono ?_
  · kernel_rfl
  · kernel_rfl
  rintro e w1 ⟨A, c, rfl, hrow, hb⟩
  rw [show hexs _ = bytesOf 64 keyN1 from by kernel_rfl] at hrow
  have HROW := Lib.hid hrow
  clear hrow
  go_wp2
  go_ret
  exact ⟨A, c, rfl, HROW.out, hb⟩
set_option maxHeartbeats 1000000 in
theorem Modulus_2 (w : World) : Calls Tryz.prog 24 #[.int .i64 2] w (GivesRow w 128 (bytesOf 128 keyN2)) := by
  go_enter Tryz.func24, Tryz.ntmps24
  go_wp2_with fail
  refine (Hex_any _ 128 w ?_ (by omega) ?_).mono ?_
  · kernel_rfl
  · kernel_rfl
  rintro e w1 ⟨A, c, rfl, hrow, hb⟩
  rw [show hexs _ = bytesOf 128 keyN2 from by kernel_rfl] at hrow
  have HROW := Lib.hid hrow
  clear hrow
  go_wp2
  go_ret
  exact ⟨A, c, rfl, HROW.out, hb⟩
set_option maxHeartbeats 1000000 in
theorem Modulus_3 (w : World) : Calls Tryz.prog 24 #[.int .i64 3] w (GivesRow w 256 (bytesOf 256 keyN3)) := by
  go_enter Tryz.func24, Tryz.ntmps24
  go_wp2_with fail
  refine (Hex_any _ 256 w ?_ (by omega) ?_).mono ?_
  · kernel_rfl
  · kernel_rfl
  rintro e w1 ⟨A, c, rfl, hrow, hb⟩
  rw [show hexs _ = bytesOf 256 keyN3 from by kernel_rfl] at hrow
  have HROW := Lib.hid hrow
  clear hrow
  go_wp2
  go_ret
  exact ⟨A, c, rfl, HROW.out, hb⟩
set_option maxHeartbeats 1000000 in
theorem Secret_0 (w : World) : Calls Tryz.prog 25 #[.int .i64 0] w (GivesRow w 64 (bytesOf 64 keyD0)) := by
  go_enter Tryz.func25, Tryz.ntmps25
  go_wp2_with fail
  refine (Hex_any _ 64 w ?_ (by omega) ?_).mono ?_
  · kernel_rfl
  · kernel_rfl
  rintro e w1 ⟨A, c, rfl, hrow, hb⟩
  rw [show hexs _ = bytesOf 64 keyD0 from by kernel_rfl] at hrow
  have HROW := Lib.hid hrow
  clear hrow
  go_wp2
  go_ret
  exact ⟨A, c, rfl, HROW.out, hb⟩
set_option maxHeartbeats 1000000 in
theorem Secret_1 (w : World) : Calls Tryz.prog 25 #[.int .i64 1] w (GivesRow w 64 (bytesOf 64 keyD1)) := by
  go_enter Tryz.func25, Tryz.ntmps25
  go_wp2_with fail
  refine (Hex_any _ 64 w ?_ (by omega) ?_).mono ?_
  · kernel_rfl
  · kernel_rfl
  rintro e w1 ⟨A, c, rfl, hrow, hb⟩
  rw [show hexs _ = bytesOf 64 keyD1 from by kernel_rfl] at hrow
  have HROW := Lib.hid hrow
  clear hrow
  go_wp2
  go_ret
  exact ⟨A, c, rfl, HROW.out, hb⟩
set_option maxHeartbeats 1000000 in
theorem Secret_2 (w : World) : Calls Tryz.prog 25 #[.int .i64 2] w (GivesRow w 128 (bytesOf 128 keyD2)) := by
  go_enter Tryz.func25, Tryz.ntmps25
  go_wp2_with fail
  refine (Hex_any _ 128 w ?_ (by omega) ?_).mono ?_
  · kernel_rfl
  · kernel_rfl
  rintro e w1 ⟨A, c, rfl, hrow, hb⟩
  rw [show hexs _ = bytesOf 128 keyD2 from by kernel_rfl] at hrow
  have HROW := Lib.hid hrow
  clear hrow
  go_wp2
  go_ret
  exact ⟨A, c, rfl, HROW.out, hb⟩
theorem ModulusOf_any (z : Nat) (hz : z ≤ 3) (w : World) : Calls Tryz.prog 24 #[.int .i64 (z : Int)] w (GivesRow w (keyK z) (bytesOf (keyK z) (keyN z))) := by
  rcases (by omega : z = 0 ∨ z = 1 ∨ z = 2 ∨ z = 3) with rfl | rfl | rfl | rfl
  · exact Modulus_0 w
  · exact Modulus_1 w
  · exact Modulus_2 w
  · exact Modulus_3 w
theorem SecretOf_any (z : Nat) (hz : z ≤ 2) (w : World) : Calls Tryz.prog 25 #[.int .i64 (z : Int)] w (GivesRow w (keyK z) (bytesOf (keyK z) (keyD z))) := by
  rcases (by omega : z = 0 ∨ z = 1 ∨ z = 2) with rfl | rfl | rfl
  · exact Secret_0 w
  · exact Secret_1 w
  · exact Secret_2 w
theorem keyK_ok {z : Nat} (hz : z ≤ 3) : 64 ≤ keyK z ∧ keyK z ≤ 256 ∧ keyK z % 64 = 0 := by
  rcases (by omega : z = 0 ∨ z = 1 ∨ z = 2 ∨ z = 3) with rfl | rfl | rfl | rfl <;> decide
theorem keyN_room {z : Nat} (hz : z ≤ 3) : keyN z < 256 ^ keyK z := by
  rcases (by omega : z = 0 ∨ z = 1 ∨ z = 2 ∨ z = 3) with rfl | rfl | rfl | rfl
  all_goals exact of_decide_eq_true (by kernel_rfl)
theorem keyD_room {z : Nat} (hz : z ≤ 2) : keyD z < 256 ^ keyK z := by
  rcases (by omega : z = 0 ∨ z = 1 ∨ z = 2) with rfl | rfl | rfl
  all_goals exact of_decide_eq_true (by kernel_rfl)
theorem keyN_modul {z : Nat} (hz : z ≤ 3) : Modul (keyK z) (bytesOf (keyK z) (keyN z)) := by
  obtain ⟨h1, h2, h3⟩ := keyK_ok hz
  refine ⟨h1, by omega, h3, ?_⟩
  rcases (by omega : z = 0 ∨ z = 1 ∨ z = 2 ∨ z = 3) with rfl | rfl | rfl | rfl
  · exact ⟨240, 145, by kernel_rfl, by kernel_rfl, by decide, by decide⟩
  · exact ⟨168, 29, by kernel_rfl, by kernel_rfl, by decide, by decide⟩
  · exact ⟨182, 149, by kernel_rfl, by kernel_rfl, by decide, by decide⟩
  · exact ⟨167, 17, by kernel_rfl, by kernel_rfl, by decide, by decide⟩
end Go.Proofs.YtlcoebenkhafcaaGreatDoor
namespace Go.Proofs.YtlcoebenkhafcaaGreatDoor
open Go.RowKit
set_option linter.unusedVariables false
set_option linter.unusedSimpArgs false
set_option maxRecDepth 100000
def intOf : Value → Int
  | .int _ n => n
  | _ => 0
def Pw (B : Int) : Prop := B = 64 ∨ B = 128 ∨ B = 256 ∨ B = 512 ∨ B = 1024 ∨ B = 2048 ∨ B = 4096
instance (B : Int) : Decidable (Pw B) := by unfold Pw; exact inferInstance
theorem and_pw : ((List.range 4097).all fun b => decide (b < 64) || (bits .and .i64 (b : Int) ((b : Int) - 1) == 0) == (b == 64 || b == 128 || b == 256 || b == 512 || b == 1024 || b == 2048 || b == 4096)) = true := by kernel_rfl
theorem and_iff {b : Nat} (h1 : 64 ≤ b) (h2 : b ≤ 4096) : (bits .and .i64 (b : Int) ((b : Int) - 1) == 0) = decide (Pw (b : Int)) := by
  have := List.all_eq_true.1 and_pw b (List.mem_range.2 (by omega))
  have hb : decide (b < 64) = false := by simp; omega
  rw [hb, Bool.false_or] at this
  rw [eq_of_beq this, Bool.eq_iff_iff]
  simp only [beq_iff_eq, Bool.or_eq_true, decide_eq_true_eq]
  unfold Pw
  omega
set_option maxHeartbeats 1000000 in
theorem Right_g (S B D : Int) (w : World) (h : S < 1 ∨ 1099511627776 < S ∨ (D ≠ 32 ∧ D ≠ 64) ∨ B < 2 * D ∨ 4096 < B) : Calls Tryz.prog 203 #[.agg #[.int .i64 S, .int .i64 B, .int .i64 D]] w fun e w' => e = .returned (.bool false) ∧ Below w.heap.size w w' := by
  have hb1 : Below w.heap.size w (w.alloc (.cells #[.int .i64 S, .int .i64 B, .int .i64 D] 230)) := (Below.refl _ _).alloc (Nat.le_refl _) _
  by_cases h1 : S < 1
  · go_enter Tryz.func203, Tryz.ntmps203
    go_wp2
    go_ret
    exact ⟨rfl, hb1⟩
  · by_cases h2 : 1099511627776 < S
    · go_enter Tryz.func203, Tryz.ntmps203
      go_wp2
      go_ret
      exact ⟨rfl, hb1⟩
    · by_cases h3 : D = 32 ∨ D = 64
      · rcases h3 with rfl | rfl
        · by_cases h5 : B < 64
          · have h6 : ¬ 64 ≤ B := by omega
            clear h
            go_enter Tryz.func203, Tryz.ntmps203
            go_wp2
            go_ret
            exact ⟨rfl, hb1⟩
          · have h6 : 64 ≤ B := by omega
            have h7 : ¬ B ≤ 4096 := by omega
            clear h h5
            go_enter Tryz.func203, Tryz.ntmps203
            go_wp2
            go_ret
            exact ⟨rfl, hb1⟩
        · by_cases h5 : B < 128
          · have h6 : ¬ 128 ≤ B := by omega
            clear h
            go_enter Tryz.func203, Tryz.ntmps203
            go_wp2
            go_ret
            exact ⟨rfl, hb1⟩
          · have h6 : 128 ≤ B := by omega
            have h7 : ¬ B ≤ 4096 := by omega
            clear h h5
            go_enter Tryz.func203, Tryz.ntmps203
            go_wp2
            go_ret
            exact ⟨rfl, hb1⟩
      · have d1 : (D != 32) = true := by simp; omega
        have d2 : (D != 64) = true := by simp; omega
        clear h
        go_enter Tryz.func203, Tryz.ntmps203
        go_wp2
        go_ret
        exact ⟨rfl, hb1⟩
set_option maxHeartbeats 1000000 in
theorem Right_b (S D : Int) (b : Nat) (w : World) (h1 : ¬ S < 1) (h2 : ¬ 1099511627776 < S) (h3 : D = 32 ∨ D = 64) (h4 : 2 * D ≤ b) (h5 : b ≤ 4096) : Calls Tryz.prog 203 #[.agg #[.int .i64 S, .int .i64 (b : Int), .int .i64 D]] w fun e w' => e = .returned (.bool (decide (Pw b))) ∧ Below w.heap.size w w' := by
  have hb1 : Below w.heap.size w (w.alloc (.cells #[.int .i64 S, .int .i64 (b : Int), .int .i64 D] 230)) := (Below.refl _ _).alloc (Nat.le_refl _) _
  have hiff := and_iff (b := b) (by omega) h5
  have z5 : (b : Int) ≤ 4096 := by omega
  have HI := Lib.hid hiff
  clear hiff
  rcases h3 with rfl | rfl
  · have h6 : (64 : Int) ≤ b := by omega
    go_enter Tryz.func203, Tryz.ntmps203
    go_wp2
    go_ret
    exact ⟨by rw [← HI.out]; rfl, hb1⟩
  · have h6 : (128 : Int) ≤ b := by omega
    go_enter Tryz.func203, Tryz.ntmps203
    go_wp2
    go_ret
    exact ⟨by rw [← HI.out]; rfl, hb1⟩
theorem PRight_any (S B D : Int) (w : World) : Calls Tryz.prog 203 #[.agg #[.int .i64 S, .int .i64 B, .int .i64 D]] w fun e w' => e = .returned (.bool (decide (Rgt S B D))) ∧ Below w.heap.size w w' := by
  by_cases h : S < 1 ∨ 1099511627776 < S ∨ (D ≠ 32 ∧ D ≠ 64) ∨ B < 2 * D ∨ 4096 < B
  · have : ¬ Rgt S B D := by unfold Rgt; omega
    rw [decide_eq_false this]
    exact Right_g S B D w h
  · obtain ⟨b, rfl⟩ : ∃ b : Nat, B = b := ⟨B.toNat, by omega⟩
    have e : decide (Pw (b : Int)) = decide (Rgt S b D) := by
      rw [Bool.eq_iff_iff]
      simp only [decide_eq_true_eq]
      unfold Rgt Pw
      omega
    rw [← e]
    exact Right_b S D b w (by omega) (by omega) (by omega) (by omega) (by omega)
theorem SizeS_any (z : Int) (w : World) : Calls Tryz.prog 38 #[.int .i64 z] w fun e w' => e = .returned (.int .i64 (szOf z)) ∧ w = w' := by
  rcases szOf_cases z with ⟨rfl, h⟩ | ⟨rfl, h⟩ | ⟨h1, h2, h⟩
  · rw [h]
    go_enter Tryz.func38, Tryz.ntmps38
    go_wp2
    go_ret
    exact ⟨rfl, rfl⟩
  · rw [h]
    go_enter Tryz.func38, Tryz.ntmps38
    go_wp2
    go_ret
    exact ⟨rfl, rfl⟩
  · rw [h]
    have e1 : (z == 1) = false := by simp [h1]
    have e2 : (z == 2) = false := by simp [h2]
    clear h1 h2 h
    go_enter Tryz.func38, Tryz.ntmps38
    go_wp2
    go_ret
    exact ⟨rfl, rfl⟩
end Go.Proofs.YtlcoebenkhafcaaGreatDoor
namespace Go.Proofs.YtlcoebenkhafcaaGreatDoor
open Go.RowKit
set_option linter.unusedVariables false
set_option linter.unusedSimpArgs false
set_option maxRecDepth 100000
def got (a : Act) (o : Oper) : Value := match o.dst with
  | some d => a.tmps.getD d undef
  | none => undef
def eachW (l : List Oper) (size : Nat) : Bool :=
  (List.range l.length).all fun i => match l[i]? with
    | some o => (match o.dst with
      | some d => decide (d < size) && (List.range i).all fun j => match l[j]? with
        | some o' => o'.dst != some d
        | none => true
      | none => true) && o.after.all fun e => !Region.binds .any e || decide (e.on < i)
    | none => true
theorem eachW_lt {l : List Oper} {size : Nat} (h : eachW l size = true) {i : Nat} {o : Oper} (ho : l[i]? = some o) {d : Nat} (hd : o.dst = some d) : d < size := by
  have hi := (List.getElem?_eq_some_iff.1 ho).1
  have := List.all_eq_true.1 h i (List.mem_range.2 hi)
  rw [ho] at this
  simp only [hd, Bool.and_eq_true, decide_eq_true_eq] at this
  exact this.1.1
theorem eachW_ne_lt {l : List Oper} {size : Nat} (h : eachW l size = true) {i j : Nat} {o o' : Oper} {d : Nat} (ho : l[i]? = some o) (ho' : l[j]? = some o') (hd : o.dst = some d) (hlt : j < i) : o'.dst ≠ some d := by
  have hi := (List.getElem?_eq_some_iff.1 ho).1
  have := List.all_eq_true.1 h i (List.mem_range.2 hi)
  rw [ho] at this
  simp only [hd, Bool.and_eq_true] at this
  have h2 := List.all_eq_true.1 this.1.2 j (List.mem_range.2 hlt)
  rw [ho'] at h2
  simpa using h2
theorem eachW_ne {l : List Oper} {size : Nat} (h : eachW l size = true) {i j : Nat} {o o' : Oper} {d d' : Nat} (ho : l[i]? = some o) (ho' : l[j]? = some o') (hd : o.dst = some d) (hd' : o'.dst = some d') (hne : i ≠ j) : d ≠ d' := by
  rintro rfl
  rcases Nat.lt_or_gt_of_ne hne with hlt | hlt
  · exact eachW_ne_lt h ho' ho hd' hlt hd
  · exact eachW_ne_lt h ho ho' hd hlt hd'
theorem eachW_on {l : List Oper} {size : Nat} (h : eachW l size = true) {i : Nat} {o : Oper} (ho : l[i]? = some o) {e : Edge} (he : e ∈ o.after) (hb : Region.binds .any e = true) : e.on < i := by
  have hi := (List.getElem?_eq_some_iff.1 ho).1
  have := List.all_eq_true.1 h i (List.mem_range.2 hi)
  rw [ho] at this
  simp only [Bool.and_eq_true] at this
  have h2 := Array.all_eq_true_iff_forall_mem.1 this.2 e he
  simpa [hb] using h2
def gotv (o : Oper) (v : Value) : Value := match o.dst with
  | some _ => v
  | none => undef
theorem wp_region_eachW {P : Program} {id : Nat} {l : List Oper} {Q : Exit → Act → World → Prop} {a0 : Act} {w0 : World} (hm : P.follows .mixedOrders = true) (hB : eachW l a0.tmps.size = true) (Sm : World → World → Prop)
    (V : Nat → Value → World → Prop) (R : World → Prop)
    (mono : ∀ i v w w', V i v w → R w → Sm w w' → V i v w') (hR : ∀ w w', R w → Sm w w' → R w') (h0 : R w0.drew)
    (step : ∀ i o, l[i]? = some o → ∀ (a : Act) (w : World), R w → Keeps l a0 a → (∀ j o', l[j]? = some o' → (∃ e ∈ o.after, Region.binds .any e = true ∧ e.on = j) → V j (got a o') w) →
      ∀ K : Act → World → Prop, (∀ v w', V i (gotv o v) w' → Sm w w' → K (a.put o.dst v) w') → (if Region.wanted o (yielded l.toArray a.tmps) then o.wp P a w K Q else K (a.put o.dst undef) w))
    (fin : ∀ (a : Act) (w : World), R w → Keeps l a0 a → (∀ i o, l[i]? = some o → V i (got a o) w) → Q .normal a w) :
    (Code.region id l.toArray true).wp P Q a0 w0 := by
  refine wp_region_any hm ?_
  have key : ∀ (fuel : Nat) (listed : Array Bool) (a : Act) (w : World), listed.size = l.length → (List.range l.length).countP (fun j => !listed.getD j true) = fuel → R w → Keeps l a0 a →
      (∀ i o, l[i]? = some o → listed.getD i true = true → V i (got a o) w) → wpAny P .any l.toArray Q fuel listed a w := by
    intro fuel
    induction fuel with
    | zero =>
      intro listed a w hsz hc hr hk hv
      have all : ∀ i, i < l.length → listed.getD i true = true := by
        intro i hi
        have := List.countP_eq_zero.1 hc i (List.mem_range.2 hi)
        simpa using this
      refine ⟨?_, fin a w hr hk (fun i o ho => hv i o ho (all i (List.getElem?_eq_some_iff.1 ho).1))⟩
      apply List.eq_nil_iff_forall_not_mem.2
      intro j hj
      obtain ⟨h1, o, ho, _⟩ := mem_ready.1 hj
      have hjl : j < l.length := by
        have := (Array.getElem?_eq_some_iff.1 ho).1
        simpa using this
      rw [all j hjl] at h1
      cases h1
    | succ fuel ih =>
      intro listed a w hsz hc hr hk hv
      refine ⟨fun hnil => ?_, fun i hi => ?_⟩
      · -- the least operation that is not listed is ready
        exfalso
        have hex : ∃ j, j < l.length ∧ listed.getD j true = false := by
          have hpos : 0 < (List.range l.length).countP (fun j => !listed.getD j true) := by omega
          obtain ⟨j, hj, hf⟩ := List.countP_pos_iff.1 hpos
          exact ⟨j, List.mem_range.1 hj, by simpa using hf⟩
        have least : ∀ n, (∃ j, j < n ∧ j < l.length ∧ listed.getD j true = false) → ∃ j, j < l.length ∧ listed.getD j true = false ∧ ∀ k, k < j → listed.getD k true = true := by
          intro n
          induction n with
          | zero => rintro ⟨j, h, _⟩; omega
          | succ n ihn =>
            rintro ⟨j, h1, h2, h3⟩
            by_cases hb : ∃ j, j < n ∧ j < l.length ∧ listed.getD j true = false
            · exact ihn hb
            · refine ⟨j, h2, h3, fun k hk => ?_⟩
              cases hq : listed.getD k true with
              | true => rfl
              | false => exact absurd ⟨k, by omega, by omega, hq⟩ hb
        obtain ⟨j, hj, hf⟩ := hex
        obtain ⟨j, hj, hf, hlow⟩ := least (j + 1) ⟨j, by omega, hj, hf⟩
        have hmem : j ∈ Region.ready .any l.toArray listed := by
          refine mem_ready.2 ⟨hf, l[j], by simp [hj], fun e he hbd => ?_⟩
          have hon := eachW_on hB (List.getElem?_eq_getElem hj) he hbd
          have h1 := hlow e.on hon
          have hlt : e.on < listed.size := by omega
          simp [Array.getD, hlt] at h1 ⊢
          exact h1
        rw [hnil] at hmem
        cases hmem
      · obtain ⟨hun, o, ho, hall⟩ := mem_ready.1 hi
        have ho' : l[i]? = some o := by simpa using ho
        have hil := (List.getElem?_eq_some_iff.1 ho').1
        have hcnt2 : listed.size = l.length → (List.range l.length).countP (fun j => !(listed.setIfInBounds i true).getD j true) = fuel := by
          intro hsz
          have hlt : i < listed.size := by omega
          have := count_drop (fun j => !listed.getD j true) (fun j => !(listed.setIfInBounds i true).getD j true) i (by simp [hun]) (by simp [Array.getD, hlt]) (fun j hj => by simp [Array.getD_eq_getD_getElem?, Ne.symm hj]) l.length hil
          omega
        have hother : ∀ j, j < l.length → i ≠ j → (listed.setIfInBounds i true).getD j true = true → listed.getD j true = true := by
          intro j hj hij hlj
          have e : (listed.setIfInBounds i true).getD j true = listed.getD j true := by
            simp [Array.getD_eq_getD_getElem?, Array.getElem?_setIfInBounds, hij]
          rw [e] at hlj
          exact hlj
        have hst := step i o ho' a w hr hk (fun j oj hj ⟨e, he, hbd, hej⟩ => hv j oj hj (by
          have h1 := hall e he hbd
          rw [hej] at h1
          have hlt : j < listed.size := by rw [hsz]; exact (List.getElem?_eq_some_iff.1 hj).1
          simp [Array.getD, hlt] at h1 ⊢
          exact h1)) (wpAny P .any l.toArray Q fuel (listed.setIfInBounds i true)) (fun v w' hvv hb => by
          rcases hd : o.dst with _ | d
          · have hput : a.put none v = a := rfl
            rw [hput]
            refine ih _ _ _ (by simpa using hsz) (hcnt2 hsz) (hR _ _ hr hb) hk ?_
            intro j oj hj hlj
            by_cases hij : i = j
            · subst hij
              rw [ho'] at hj
              injection hj with hj
              subst hj
              have e1 : got a o = undef := by simp [got, hd]
              have e2 : gotv o v = undef := by simp [gotv, hd]
              rw [e1]
              rw [e2] at hvv
              exact hvv
            · exact mono j _ w w' (hv j oj hj (hother j (List.getElem?_eq_some_iff.1 hj).1 hij hlj)) hr hb
          · have hds := eachW_lt hB ho' hd
            have hkd : (a.put (some d) v).tmps = a.tmps.setIfInBounds d v := rfl
            have hgv : gotv o v = v := by simp [gotv, hd]
            rw [hgv] at hvv
            refine ih _ _ _ (by simpa using hsz) (hcnt2 hsz) (hR _ _ hr hb) ⟨hk.defers, ?_, ?_⟩ ?_
            · rw [hkd]; simpa using hk.size
            · intro s hs
              rw [hkd, ← hk.slot s hs]
              have hne : d ≠ s := fun e => hs o (List.mem_of_getElem? ho') (by rw [hd, e])
              simp [Array.getD_eq_getD_getElem?, Array.getElem?_setIfInBounds, hne]
            · intro j oj hj hlj
              by_cases hij : i = j
              · subst hij
                rw [ho'] at hj
                injection hj with hj
                subst hj
                have hlt : d < a.tmps.size := by rw [hk.size]; exact hds
                have e1 : got (a.put (some d) v) o = v := by
                  simp [got, hd, hkd, Array.getD_eq_getD_getElem?, Array.getElem?_setIfInBounds, hlt]
                rw [e1]
                exact hvv
              · have e1 : got (a.put (some d) v) oj = got a oj := by
                  rcases hdj : oj.dst with _ | dj
                  · simp [got, hdj]
                  · have hne := eachW_ne hB ho' hj hd hdj hij
                    simp [got, hdj, hkd, Array.getD_eq_getD_getElem?, Array.getElem?_setIfInBounds, hne]
                rw [e1]
                exact mono j _ w w' (hv j oj hj (hother j (List.getElem?_eq_some_iff.1 hj).1 hij hlj)) hr hb)
        unfold wpOp
        rw [ho]
        simp only []
        split
        · next hw => rw [if_pos hw] at hst; exact .inl hst
        · next hw => rw [if_neg hw] at hst; exact hst
  have hsz : (Array.replicate l.toArray.size false).size = l.length := by simp
  have hcnt : (List.range l.length).countP (fun j => !(Array.replicate l.toArray.size false).getD j true) = l.toArray.size := by
    have e : (List.range l.length).countP (fun j => !(Array.replicate l.toArray.size false).getD j true) = (List.range l.length).length := by
      apply List.countP_eq_length.2
      intro j hj
      have := List.mem_range.1 hj
      simp [Array.getD, this]
    rw [e]; simp
  refine key _ _ a0 _ hsz hcnt h0 ⟨rfl, rfl, fun _ _ => rfl⟩ ?_
  intro i o ho hl
  have := (List.getElem?_eq_some_iff.1 ho).1
  simp [Array.getD, this] at hl
def mixP (p : Nat → Bool) (f : Nat → Value) : Nat → List Value → List Value
  | _, [] => []
  | k, v :: r => (if p k = true then f k else v) :: mixP p f (k + 1) r
theorem mixP_length (p : Nat → Bool) (f : Nat → Value) : ∀ (l : List Value) (k : Nat), (mixP p f k l).length = l.length
  | [], _ => rfl
  | _ :: r, k => by simp [mixP, mixP_length p f r (k + 1)]
theorem mixP_get (p : Nat → Bool) (f : Nat → Value) : ∀ (l : List Value) (k i : Nat), i < l.length → (mixP p f k l).getD i undef = if p (k + i) = true then f (k + i) else l.getD i undef
  | [], _, _, h => by simp at h
  | v :: r, k, 0, _ => by simp [mixP]
  | v :: r, k, i + 1, h => by
    have := mixP_get p f r (k + 1) i (by simpa using h)
    simp only [mixP, List.getD_cons_succ]
    rw [this, show k + 1 + i = k + (i + 1) by omega]
theorem keeps_frameP {l : List Oper} {tm : Array Value} {a : Act} (p : Nat → Bool) (hk : Keeps l ⟨tm, []⟩ a) (hd : ∀ o ∈ l, ∀ s, o.dst = some s → p s = true) : a = ⟨(mixP p (fun s => a.tmps.getD s undef) 0 tm.toList).toArray, []⟩ := by
  obtain ⟨t, df⟩ := a
  have h1 : df = [] := hk.defers
  have h2 : t.size = tm.size := hk.size
  subst h1
  congr 1
  apply Array.ext
  · simp [mixP_length, h2]
  · intro i hi1 hi2
    have hl : i < tm.toList.length := by simp; omega
    have e := mixP_get p (fun s => t.getD s undef) tm.toList 0 i hl
    rw [Nat.zero_add] at e
    have e1 : t[i] = t.getD i undef := by simp [Array.getD, hi1]
    have e2 : ((mixP p (fun s => t.getD s undef) 0 tm.toList).toArray)[i] = (mixP p (fun s => t.getD s undef) 0 tm.toList).getD i undef := by
      rw [List.getD_eq_getElem?_getD, List.getElem?_eq_getElem (by simpa using hi2)]
      simp
    rw [e1, e2, e]
    by_cases hn : p i = true
    · rw [if_pos hn]
    · rw [if_neg hn]
      have e3 : t.getD i undef = tm.getD i undef := hk.slot i (fun o ho e => hn (hd o ho i e))
      rw [e3]
      simp [Array.getD, show i < tm.size by simpa using hl, List.getD_eq_getElem?_getD]
section
variable {P : Program} {o : Oper} {a : Act} {w w' : World} {K : Act → World → Prop} {Q : Exit → Act → World → Prop} {E : Prop} {b : Bool}
theorem st_run (hw : b = true) (v : Value) (hr : (execOp a.eval o).run P w = .ok (.value v) w') (h : K (a.put o.dst v) w') : if b = true then o.wp P a w K Q else E := by
  rw [if_pos hw]
  unfold Oper.wp
  rw [hr]
  exact h
theorem st_skip (hw : b = true) (hr : (execOp a.eval o).run P w = .ok .skip w') (h : K (a.put o.dst undef) w') : if b = true then o.wp P a w K Q else E := by
  rw [if_pos hw]
  unfold Oper.wp
  rw [hr]
  exact h
theorem st_fall (hw : b = false) (h : E) : if b = true then o.wp P a w K Q else E := by
  rw [if_neg (by rw [hw]; exact Bool.false_ne_true)]
  exact h
end
theorem want_fall {l : List Oper} {o oj : Oper} {a : Act} {j d : Nat} {b c : Bool} (h : o.guard = some (j, b)) (hj : l[j]? = some oj) (hd : oj.dst = some d) (hv : a.tmps.getD d undef = .bool c) (hne : c ≠ b) : Region.wanted o (yielded l.toArray a.tmps) = false := by
  have ht : a.tmps[d]? = some (.bool c) := by
    rw [Array.getD_eq_getD_getElem?] at hv
    cases hq : a.tmps[d]? with
    | none => rw [hq] at hv; cases hv
    | some x => rw [hq] at hv; simp at hv; rw [hv]
  simp [Region.wanted, h, yielded, hj, hd, ht, hne]
section
variable {o : Oper} {a : Act} {w : World} {K : Act → World → Prop} {Q : Exit → Act → World → Prop} {E : Prop} {b : Bool}
theorem st_callN (f : Nat) (args : Array Operand) (ts : Array TypeId) (ho : o.op = .call { callee := .value (.func f), args := args, argTypes := ts }) (hw : b = true) (vs : Array Value) (hx : Array.map a.eval args = vs) (hcf : (callFunc f vs).run Tryz.prog w = .ok (.enter f vs) w) (post : Ending → World → Prop) (hc : Calls Tryz.prog f vs w post) (hp : ∀ e w', post e w' → ∃ u, e = .returned u ∧ K (a.put o.dst u) w') : if b = true then o.wp Tryz.prog a w K Q else E := by
  rw [if_pos hw]; unfold Oper.wp execOp
  have hf : a.eval (.func f) = .func (.func f) #[] #[] := rfl
  simp only [ho]
  simp only [resolve, hf, hx]
  simp [invoke, go_sem, Result.andThen]
  rw [hcf]
  refine hc.mono fun e w' h => ?_
  obtain ⟨u, rfl, hk⟩ := hp e w' h
  exact hk
end
section
variable {o : Oper} {a : Act} {w : World} {K : Act → World → Prop} {Q : Exit → Act → World → Prop} {E : Prop} {b : Bool}
end
end Go.Proofs.YtlcoebenkhafcaaGreatDoor
