/-
  The document's Size, Digest and Block.
-/
import Derived.Test.YtppoikamenbckaaGreatDoorS1
import Derived.Test.YtppoikamenbckaaGreatDoorSeal0
import Derived.Test.YtppoikamenbckaaGreatDoorK9
import Derived.Test.YtppoikamenbckaaGreatDoorLnB
namespace Go.Proofs.YtppoikamenbckaaGreatDoor
open Go.RowKit
set_option linter.unusedVariables false
set_option linter.unusedSimpArgs false
set_option maxRecDepth 100000

theorem cb_ofL {l : List Nat} (h : Fit 256 l) : YtppoikamenbckaaGreatDoorLn.cb (l.map UInt8.ofNat) = cn .u8 l := by
  simp only [YtppoikamenbckaaGreatDoorLn.cb, cn, List.map_map]
  apply List.map_congr_left
  intro x hx
  have := h x hx
  simp only [Function.comp_apply, YtppoikamenbckaaGreatDoorLn.ub, UInt8.toNat_ofNat']
  congr 1
  omega
theorem cb_toL (L : List UInt8) : YtppoikamenbckaaGreatDoorLn.cb L = cn .u8 (L.map UInt8.toNat) := by
  simp [YtppoikamenbckaaGreatDoorLn.cb, cn, YtppoikamenbckaaGreatDoorLn.ub, Function.comp_def]
theorem Rd.seg8L {w : World} {A : Option Addr} {n : Nat} {l : List Nat} (h : Rd .u8 w A n l) (hf : Fit 256 l) : YtppoikamenbckaaGreatDoorLn.Seg w A n (l.map UInt8.ofNat) :=
  ⟨by simp [h.1], fun hn => by
    obtain ⟨ad, e, hlt, hc⟩ := h.2 hn
    refine ⟨ad, e, hlt, fun j v hv => ?_⟩
    rw [cb_ofL hf] at hv
    have hj := (List.getElem?_eq_some_iff.1 hv).1
    rw [cn_length] at hj
    obtain ⟨x, hx⟩ := get_some hj
    rw [cn_get hx] at hv
    injection hv with hv
    rw [← hv]
    exact hc j x hx⟩
/-- How long a digest is. -/
def sizeOfAlg (alg : Int) : Nat := if alg = 1 then 32 else if alg = 2 then 64 else 0
/-- The sum of a text, by the algorithm. -/
def sumOf (alg : Nat) (l : List Nat) : List Nat := if alg = 1 then (YtppoikamenbckaaGreatDoorSh.sha (l.map UInt8.ofNat)).map UInt8.toNat else (YtppoikamenbckaaGreatDoorLn.sha (l.map UInt8.ofNat)).map UInt8.toNat
theorem sumOf_fit (alg : Nat) (l : List Nat) : Fit 256 (sumOf alg l) := by
  intro x hx
  unfold sumOf at hx
  split at hx
  · obtain ⟨y, _, rfl⟩ := List.mem_map.1 hx
    exact y.toNat_lt
  · obtain ⟨y, _, rfl⟩ := List.mem_map.1 hx
    exact y.toNat_lt
theorem sumOf_length1 (l : List Nat) : (sumOf 1 l).length = 32 := by
  simp only [sumOf, if_true, List.length_map]
  exact YtppoikamenbckaaGreatDoorSh.sha_length _
theorem sumOf_length2 (l : List Nat) : (sumOf 2 l).length = 64 := by
  rw [sumOf, if_neg (by omega), List.length_map]
  exact YtppoikamenbckaaGreatDoorLn.sha_length _
theorem Row.nilcap {w : World} {B : Nat} {A : Option Addr} {n cap : Nat} {xs : List Value} (h : Row w B 5 A n cap xs) (e : A = none) : cap = 0 := by
  rcases h.2 with ⟨e2, _⟩ | ⟨g, c, cur, e2, _⟩
  · injection e2
  · injection e2 with e2; rw [e] at e2; cases e2
theorem RefSize_any (z : Int) (w : World) : Calls Tryz.prog 10 #[.int .i64 z] w fun e w' => e = .returned (.int .i64 (sizeOfAlg z : Nat)) ∧ w = w' := by
  unfold sizeOfAlg
  by_cases h1 : z = 1
  · subst h1
    go_enter Tryz.func10, Tryz.ntmps10
    go_wp2
    go_ret
    exact ⟨rfl, rfl⟩
  · by_cases h2 : z = 2
    · subst h2
      go_enter Tryz.func10, Tryz.ntmps10
      go_wp2
      go_ret
      exact ⟨rfl, rfl⟩
    · rw [if_neg h1, if_neg h2]
      have d1 : (z == 1) = false := by simp [h1]
      have d2 : (z == 2) = false := by simp [h2]
      go_enter Tryz.func10, Tryz.ntmps10
      go_wp2
      go_ret
      exact ⟨rfl, rfl⟩
theorem head_any (z : Nat) (hz : z = 1 ∨ z = 2) (w : World) : Calls Tryz.prog 29 #[.int .i64 (z : Int)] w fun e w' => e = .returned (.string (str (headOf z))) ∧ w = w' := by
  have e1 : str (headOf 1) = ⟨#[48, 49, 48, 13, 6, 9, 96, 134, 72, 1, 101, 3, 4, 2, 1, 5, 0, 4, 32]⟩ := by kernel_rfl
  have e2 : str (headOf 2) = ⟨#[48, 81, 48, 13, 6, 9, 96, 134, 72, 1, 101, 3, 4, 2, 3, 5, 0, 4, 64]⟩ := by kernel_rfl
  rcases hz with rfl | rfl
  · rw [e1]
    go_enter Tryz.func29, Tryz.ntmps29
    go_wp2
    go_ret
    exact ⟨rfl, rfl⟩
  · rw [e2]
    go_enter Tryz.func29, Tryz.ntmps29
    go_wp2
    go_ret
    exact ⟨rfl, rfl⟩

/-- An answer: bytes to be read. -/
def GivesRd (w : World) (n : Nat) (l : List Nat) (e : Ending) (w' : World) : Prop := ∃ A c, e = .returned (.slice A n c) ∧ Rd .u8 w' A n l ∧ Below w.heap.size w w'
set_option maxHeartbeats 1000000 in
theorem RefDigest_1 (A : Option Addr) (n cap : Nat) (l : List Nat) (At : Option Addr) (m c2 : Nat) (lt : List Nat) (w : World) (h : Rd .u8 w A n l) (hf : Fit 256 l) (hnil : A = none → cap = 0) (hn : n ≤ 10000) (ht : Rd .u8 w At m lt) (hft : Fit 256 lt) (hnilt : At = none → c2 = 0) (hm : m ≤ 10000) :
    Calls Tryz.prog 12 #[.int .i64 1, .slice A n cap, .slice At m c2] w (GivesRd w 32 (sumOf 1 (l ++ lt))) := by
  have HR : Hid (Rd .u8 (w.alloc (.cells #[] 5)) A n l) := h.below ((Below.refl _ _).alloc (Nat.le_refl _) _)
  have HE : Hid (Row (w.alloc (.cells #[] 5)) w.heap.size 5 (some ⟨w.heap.size, 0, none⟩) 0 0 (cn .u8 [])) := own_empty w 5
  have HT := Lib.hid ht
  have HF := Lib.hid (hf.append hft)
  obtain ⟨M, hM⟩ : ∃ M, n + m = M := ⟨_, rfl⟩
  have HM := Lib.hid hM
  have M2 : M ≤ 20000 := by omega
  clear h ht hM
  go_enter Tryz.func12, Tryz.ntmps12
  go_wp2_with (first
    | ((with_reducible refine at_dst (some 10) ?_); refine wpList_appBs0 (o := ⟨some 10, _, _, _, _, _⟩) rfl (.tmp 8) (.tmp 9) rfl ((Below.refl w.heap.size w).alloc (Nat.le_refl _) _) (by simp) rfl HE.out rfl HR.out hnil (by omega) n (by omega) ?_; intro A3 c3 w3 HRow3 hbe3 hB3 HG3; have HT3 := Lib.hid (HT.out.below hbe3))
    | ((with_reducible refine at_dst (some 13) ?_); refine wpList_appBs0 (o := ⟨some 13, _, _, _, _, _⟩) rfl (.tmp 11) (.tmp 12) rfl hbe3 hB3 rfl HRow3.out rfl HT3.out hnilt (by omega) M HM.out ?_; intro A4 c4 w4 HRow4 hbe4 hB4 HG4))
  have hrow4 := HRow4.out
  rw [List.nil_append] at hrow4
  refine (YtppoikamenbckaaGreatDoorSh.refSum_any A4 M c4 _ w4 (hrow4.rd.seg8 HF.out) (fun e => hrow4.nilcap e) (by omega)).mono ?_
  rintro e w5 ⟨A5, c5, rfl, hrow5, hb5⟩
  rw [cb_to] at hrow5
  have hrow6 : Row w5 w4.heap.size 5 A5 32 c5 (cn .u8 (sumOf 1 (l ++ lt))) := hrow5
  have HRD := Lib.hid hrow6.rd
  have bel5 := hbe4.trans (hb5.mono hB4)
  clear hrow4 hrow5 hrow6
  go_wp2
  go_ret
  exact ⟨A5, c5, rfl, HRD.out, bel5⟩
set_option maxHeartbeats 1000000 in
theorem RefDigest_2 (z : Int) (hz : z ≠ 1) (A : Option Addr) (n cap : Nat) (l : List Nat) (At : Option Addr) (m c2 : Nat) (lt : List Nat) (w : World) (h : Rd .u8 w A n l) (hf : Fit 256 l) (hnil : A = none → cap = 0) (hn : n ≤ 10000) (ht : Rd .u8 w At m lt) (hft : Fit 256 lt) (hnilt : At = none → c2 = 0) (hm : m ≤ 10000) :
    Calls Tryz.prog 12 #[.int .i64 z, .slice A n cap, .slice At m c2] w (GivesRd w 64 (sumOf 2 (l ++ lt))) := by
  have HR : Hid (Rd .u8 (w.alloc (.cells #[] 5)) A n l) := h.below ((Below.refl _ _).alloc (Nat.le_refl _) _)
  have HE : Hid (Row (w.alloc (.cells #[] 5)) w.heap.size 5 (some ⟨w.heap.size, 0, none⟩) 0 0 (cn .u8 [])) := own_empty w 5
  have HT := Lib.hid ht
  have HF := Lib.hid (hf.append hft)
  have d1 : (z == 1) = false := by simp [hz]
  obtain ⟨M, hM⟩ : ∃ M, n + m = M := ⟨_, rfl⟩
  have HM := Lib.hid hM
  have M2 : M ≤ 20000 := by omega
  clear h ht hM
  go_enter Tryz.func12, Tryz.ntmps12
  go_wp2_with (first
    | ((with_reducible refine at_dst (some 10) ?_); refine wpList_appBs0 (o := ⟨some 10, _, _, _, _, _⟩) rfl (.tmp 8) (.tmp 9) rfl ((Below.refl w.heap.size w).alloc (Nat.le_refl _) _) (by simp) rfl HE.out rfl HR.out hnil (by omega) n (by omega) ?_; intro A3 c3 w3 HRow3 hbe3 hB3 HG3; have HT3 := Lib.hid (HT.out.below hbe3))
    | ((with_reducible refine at_dst (some 13) ?_); refine wpList_appBs0 (o := ⟨some 13, _, _, _, _, _⟩) rfl (.tmp 11) (.tmp 12) rfl hbe3 hB3 rfl HRow3.out rfl HT3.out hnilt (by omega) M HM.out ?_; intro A4 c4 w4 HRow4 hbe4 hB4 HG4))
  have hrow4 := HRow4.out
  rw [List.nil_append] at hrow4
  refine (YtppoikamenbckaaGreatDoorLn.refSum_any A4 M c4 _ w4 (hrow4.rd.seg8L HF.out) (fun e => hrow4.nilcap e) (by omega)).mono ?_
  rintro e w5 ⟨A5, c5, rfl, hrow5, hb5⟩
  rw [cb_toL] at hrow5
  have hrow6 : Row w5 w4.heap.size 5 A5 64 c5 (cn .u8 (sumOf 2 (l ++ lt))) := hrow5
  have HRD := Lib.hid hrow6.rd
  have bel5 := hbe4.trans (hb5.mono hB4)
  clear hrow4 hrow5 hrow6
  go_wp2
  go_ret
  exact ⟨A5, c5, rfl, HRD.out, bel5⟩

set_option maxHeartbeats 400000 in
theorem RefBlock_no (z : Nat) (hz : z = 1 ∨ z = 2) (A : Option Addr) (n cap : Nat) (sz : Int) (w : World) (hn : n ≤ 1000) (hs1 : -9223372036854775808 ≤ sz) (hs2 : sz ≤ 9223372036854775807) (h : 512 < sz ∨ sz < 30 + n) :
    Calls Tryz.prog 11 #[.int .i64 (z : Int), .slice A n cap, .int .i64 sz] w fun e w' => e = .returned (.tuple #[.slice none 0 0, .int .i64 21]) ∧ w = w' := by
  have hl : (str (headOf z)).size = 19 := by
    rw [← Lib.strCells_length, strCells_str (headOf_fit z), cn_length, headOf_length]
  by_cases h1 : 512 < sz
  · go_enter Tryz.func11, Tryz.ntmps11
    go_wp2_with fail
    refine (head_any z hz w).mono ?_
    rintro e w1 ⟨rfl, rfl⟩
    generalize str (headOf z) = S at *
    go_wp2
    go_ret2
    exact ⟨rfl, rfl⟩
  · have h2 : sz < 22 + (n : Int) + 8 := by omega
    go_enter Tryz.func11, Tryz.ntmps11
    go_wp2_with fail
    refine (head_any z hz w).mono ?_
    rintro e w1 ⟨rfl, rfl⟩
    generalize str (headOf z) = S at *
    go_wp2
    go_ret2
    exact ⟨rfl, rfl⟩
set_option maxHeartbeats 2000000 in
theorem RefBlock_ok (z : Nat) (hz : z = 1 ∨ z = 2) (A : Option Addr) (n cap : Nat) (l : List Nat) (sz : Nat) (w : World) (hr : Rd .u8 w A n l) (hf : Fit 256 l) (hnil : A = none → cap = 0) (h1 : 30 + n ≤ sz) (h2 : sz ≤ 512) :
    Calls Tryz.prog 11 #[.int .i64 (z : Int), .slice A n cap, .int .i64 (sz : Int)] w fun e w' => ∃ A' c', e = .returned (.tuple #[.slice A' sz c', .int .i64 0]) ∧ Row w' w.heap.size 5 A' sz c' (cn .u8 (blockOf z l sz)) ∧ Below w.heap.size w w' := by
  have hl : (str (headOf z)).size = 19 := by
    rw [← Lib.strCells_length, strCells_str (headOf_fit z), cn_length, headOf_length]
  have HR := Lib.hid hr
  have HZ := Lib.hid hz
  obtain ⟨T, hT⟩ : ∃ T, sz = T + 22 + n := ⟨sz - 22 - n, by omega⟩
  have HTT := Lib.hid hT
  have hq1 : ¬ (512 : Int) < sz := by omega
  have hq2 : ¬ (sz : Int) < 22 + (n : Int) + 8 := by omega
  have hq3 : (sz : Int) - (22 + (n : Int)) + 2 = (T : Int) + 2 := by omega
  have HL := Lib.hid hr.1
  clear hr hT hz
  go_enter Tryz.func11, Tryz.ntmps11
  go_wp2_with fail
  refine (head_any z HZ.out w).mono ?_
  rintro e w1 ⟨rfl, rfl⟩
  generalize hS : str (headOf z) = S at *
  have HS := Lib.hid hS.symm
  clear hS
  have HROW : Hid (Row (w.alloc (.cells #[.int .u8 0, .int .u8 1] 5)) w.heap.size 5 (some ⟨w.heap.size, 0, none⟩) 2 2 (cn .u8 ([0, 1] ++ List.replicate 0 255))) :=
    Blk.row (Blk.new w 5 (cn .u8 [0, 1])) (Nat.le_refl _) 2 rfl (by omega)
  have hbe : Below w.heap.size w (w.alloc (.cells #[.int .u8 0, .int .u8 1] 5)) := (Below.refl _ _).alloc (Nat.le_refl _) _
  go_wp2
  go_loopw [9] (fun o wr => ∃ (t : Nat) (A1 : Option Addr) (m1 c1 : Nat), t ≤ T ∧ o = .slice A1 m1 c1 ∧ Hid (m1 = 2 + t) ∧ Hid (Row wr w.heap.size 5 A1 m1 c1 (cn .u8 ([0, 1] ++ List.replicate t 255))) ∧ Below w.heap.size w wr ∧ w.heap.size ≤ wr.heap.size) (fun o _ => match o with | .slice _ m _ => T + 2 - m | _ => 0)
  case atStart => exact ⟨0, _, 2, 2, by omega, rfl, rfl, HROW, hbe, hbe.size⟩
  case round =>
    obtain ⟨t, A1, m1, c1, ht, rfl, HM1, HRow, hbr, hB⟩ := hrel
    have hm1 : (m1 : Int) = 2 + t := by have := HM1.out; omega
    by_cases htl : t < T
    · have hlt : (m1 : Int) < (T : Int) + 2 := by omega
      have HHm := Lib.hid hm1
      obtain ⟨m3, hm3⟩ : ∃ m3, m1 + 1 = m3 := ⟨_, rfl⟩
      have HM3 := Lib.hid hm3
      have hmb : m1 < 1000000 := by omega
      clear hm1 hm3
      go_wp2_with (first
        | ((with_reducible refine at_dst (some 35) ?_); refine wpList_appU8 (o := ⟨some 35, _, _, _, _, _⟩) rfl (.tmp 33) (.tmp 34) rfl hbr hB 255 _ (by first | rfl | omega) rfl HRow.out rfl hmb m3 HM3.out ?_; intro A3 c3 w3 HRow3 hbe3 hB3))
      go_roundw
      case rel =>
        refine ⟨t + 1, A3, m3, c3, by omega, rfl, by show _ = _; have := HM3.out; have := HM1.out; omega, ?_, hbe3, hB3⟩
        have := HRow3.out
        rw [List.append_assoc, ← List.replicate_succ'] at this
        exact this
      case measure => simp; have := HM3.out; omega
    · obtain rfl : t = T := by omega
      have hlt : ¬ (m1 : Int) < (t : Int) + 2 := by omega
      have hmb : m1 < 1000000 := by omega
      obtain ⟨m3, hm3⟩ : ∃ m3, m1 + 1 = m3 := ⟨_, rfl⟩
      have HM3 := Lib.hid hm3
      have m3b : m3 ≤ 1000 := by omega
      obtain ⟨m4, hm4⟩ : ∃ m4, m3 + 19 = m4 := ⟨_, rfl⟩
      have HM4 := Lib.hid hm4
      have m4b : m4 ≤ 1000 := by omega
      have HN : Hid (m4 + n = sz) := by show _ = _; have := HTT.out; omega
      have hnb : n ≤ 1000 := by omega
      clear hm1 hm3 hm4
      go_wp2_with (first
        | ((with_reducible refine at_dst (some 38) ?_); refine wpList_appU8 (o := ⟨some 38, _, _, _, _, _⟩) rfl (.tmp 36) (.tmp 37) rfl hbr hB 0 _ (by first | rfl | omega) rfl HRow.out rfl hmb m3 HM3.out ?_; intro A3 c3 w3 HRow3 hbe3 hB3))
      refine (head_any z HZ.out w3).mono ?_
      rintro e w4 ⟨rfl, rfl⟩
      rw [← HS.out]
      have HR3 := Lib.hid (HR.out.below hbe3)
      go_wp2_with (first
        | ((with_reducible refine at_dst (some 42) ?_); refine wpList_appStr (o := ⟨some 42, _, _, _, _, _⟩) rfl (.tmp 39) (.tmp 41) rfl hbe3 hB3 rfl HRow3.out rfl HS.out (headOf_fit z) (by rw [headOf_length]; omega) m4 (by rw [headOf_length]; exact HM4.out) ?_; intro A5 c5 w5 HRow5 hbe5 hB5 HG5; have HR5 := Lib.hid (HR.out.below hbe5))
        | ((with_reducible refine at_dst (some 45) ?_); refine wpList_appBs0 (o := ⟨some 45, _, _, _, _, _⟩) rfl (.tmp 43) (.tmp 44) rfl hbe5 hB5 rfl HRow5.out rfl HR5.out hnil (by omega) sz HN.out ?_; intro A6 c6 w6 HRow6 hbe6 hB6 HG6))
      go_ret2
      refine ⟨A6, c6, rfl, ?_, hbe6⟩
      have := HRow6.out
      have e : sz - (22 + l.length) = t := by rw [HL.out]; have := HTT.out; omega
      rw [blockOf, e]
      exact this
end Go.Proofs.YtppoikamenbckaaGreatDoor
