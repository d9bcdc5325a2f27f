/-
  The document's Size, Digest and Block.
-/
import Derived.Test.YtfoenafjaaidmaaDoorS1
import Derived.Test.YtfoenafjaaidmaaDoorLnB
namespace Go.Proofs.YtfoenafjaaidmaaDoor
open Go.RowKit
set_option linter.unusedVariables false
set_option linter.unusedSimpArgs false
set_option maxRecDepth 100000

theorem cb_ofL {l : List Nat} (h : Fit 256 l) : YtfoenafjaaidmaaDoorLn.cb (l.map UInt8.ofNat) = cn .u8 l := by
  simp only [YtfoenafjaaidmaaDoorLn.cb, cn, List.map_map]
  apply List.map_congr_left
  intro x hx
  have := h x hx
  simp only [Function.comp_apply, YtfoenafjaaidmaaDoorLn.ub, UInt8.toNat_ofNat']
  congr 1
  omega
theorem cb_toL (L : List UInt8) : YtfoenafjaaidmaaDoorLn.cb L = cn .u8 (L.map UInt8.toNat) := by
  simp [YtfoenafjaaidmaaDoorLn.cb, cn, YtfoenafjaaidmaaDoorLn.ub, Function.comp_def]
theorem Rd.seg8L {w : World} {A : Option Addr} {n : Nat} {l : List Nat} (h : Rd .u8 w A n l) (hf : Fit 256 l) : YtfoenafjaaidmaaDoorLn.Seg w A n (l.map UInt8.ofNat) :=
  ⟨by simp [h.1], fun hn => by
    obtain ⟨ad, e, hlt, hc⟩ := h.2 hn
    refine ⟨ad, e, hlt, fun j v hv => ?_⟩
    rw [cb_ofL hf] at hv
    have hj := (List.getElem?_eq_some_iff.1 hv).1
    rw [cn_length] at hj
    obtain ⟨x, hx⟩ := get_some hj
    rw [cn_get hx] at hv
    injection hv with hv
    rw [← hv]
    exact hc j x hx⟩
/-- How long a digest is. -/
def sizeOfAlg (alg : Int) : Nat := if alg = 1 then 32 else if alg = 2 then 64 else 0
/-- The sum of a text, by the algorithm. -/
def sumOf (alg : Nat) (l : List Nat) : List Nat := if alg = 1 then (YtfoenafjaaidmaaDoorSh.sha (l.map UInt8.ofNat)).map UInt8.toNat else (YtfoenafjaaidmaaDoorLn.sha (l.map UInt8.ofNat)).map UInt8.toNat
theorem sumOf_fit (alg : Nat) (l : List Nat) : Fit 256 (sumOf alg l) := by
  intro x hx
  unfold sumOf at hx
  split at hx
  · obtain ⟨y, _, rfl⟩ := List.mem_map.1 hx
    exact y.toNat_lt
  · obtain ⟨y, _, rfl⟩ := List.mem_map.1 hx
    exact y.toNat_lt
theorem sumOf_length1 (l : List Nat) : (sumOf 1 l).length = 32 := by
  simp only [sumOf, if_true, List.length_map]
  exact YtfoenafjaaidmaaDoorSh.sha_length _
theorem sumOf_length2 (l : List Nat) : (sumOf 2 l).length = 64 := by
  rw [sumOf, if_neg (by omega), List.length_map]
  exact YtfoenafjaaidmaaDoorLn.sha_length _
theorem Row.nilcap {w : World} {B : Nat} {A : Option Addr} {n cap : Nat} {xs : List Value} (h : Row w B 5 A n cap xs) (e : A = none) : cap = 0 := by
  rcases h.2 with ⟨e2, _⟩ | ⟨g, c, cur, e2, _⟩
  · injection e2
  · injection e2 with e2; rw [e] at e2; cases e2
theorem RefSize_any (z : Int) (w : World) : Calls Tryd.prog 16 #[.int .i64 z] w fun e w' => e = .returned (.int .i64 (sizeOfAlg z : Nat)) ∧ w = w' := by
  unfold sizeOfAlg
  by_cases h1 : z = 1
  · subst h1
    go_enter Tryd.func16, Tryd.ntmps16
    go_wp2
    go_ret
    exact ⟨rfl, rfl⟩
  · by_cases h2 : z = 2
    · subst h2
      go_enter Tryd.func16, Tryd.ntmps16
      go_wp2
      go_ret
      exact ⟨rfl, rfl⟩
    · rw [if_neg h1, if_neg h2]
      have d1 : (z == 1) = false := by simp [h1]
      have d2 : (z == 2) = false := by simp [h2]
      go_enter Tryd.func16, Tryd.ntmps16
      go_wp2
      go_ret
      exact ⟨rfl, rfl⟩
/-- An answer: bytes to be read. -/
def GivesRd (w : World) (n : Nat) (l : List Nat) (e : Ending) (w' : World) : Prop := ∃ A c, e = .returned (.slice A n c) ∧ Rd .u8 w' A n l ∧ (∀ ad, A = some ad → w.heap.size ≤ ad.block) ∧ n ≤ c ∧ c ≤ maxLen ∧ Below w.heap.size w w'
set_option maxHeartbeats 1000000 in
theorem RefDigest_1 (A : Option Addr) (n cap : Nat) (l : List Nat) (At : Option Addr) (m c2 : Nat) (lt : List Nat) (w : World) (h : Rd .u8 w A n l) (hf : Fit 256 l) (hnil : A = none → cap = 0) (hn : n ≤ 10000) (ht : Rd .u8 w At m lt) (hft : Fit 256 lt) (hnilt : At = none → c2 = 0) (hm : m ≤ 10000) :
    Calls Tryd.prog 22 #[.int .i64 1, .slice A n cap, .slice At m c2] w (GivesRd w 32 (sumOf 1 (l ++ lt))) := by
  have HR : Hid (Rd .u8 (w.alloc (.cells #[] 5)) A n l) := h.below ((Below.refl _ _).alloc (Nat.le_refl _) _)
  have HE : Hid (Row (w.alloc (.cells #[] 5)) w.heap.size 5 (some ⟨w.heap.size, 0, none⟩) 0 0 (cn .u8 [])) := own_empty w 5
  have HT := Lib.hid ht
  have HF := Lib.hid (hf.append hft)
  obtain ⟨M, hM⟩ : ∃ M, n + m = M := ⟨_, rfl⟩
  have HM := Lib.hid hM
  have M2 : M ≤ 20000 := by omega
  clear h ht hM
  go_enter Tryd.func22, Tryd.ntmps22
  go_wp2_with (first
    | ((with_reducible refine at_dst (some 10) ?_); refine wpList_appBs0 (o := ⟨some 10, _, _, _, _, _⟩) rfl (.tmp 8) (.tmp 9) rfl ((Below.refl w.heap.size w).alloc (Nat.le_refl _) _) (by simp) rfl HE.out rfl HR.out hnil (by omega) n (by omega) ?_; intro A3 c3 w3 HRow3 hbe3 hB3 HG3; have HT3 := Lib.hid (HT.out.below hbe3))
    | ((with_reducible refine at_dst (some 13) ?_); refine wpList_appBs0 (o := ⟨some 13, _, _, _, _, _⟩) rfl (.tmp 11) (.tmp 12) rfl hbe3 hB3 rfl HRow3.out rfl HT3.out hnilt (by omega) M HM.out ?_; intro A4 c4 w4 HRow4 hbe4 hB4 HG4))
  have hrow4 := HRow4.out
  rw [List.nil_append] at hrow4
  refine (YtfoenafjaaidmaaDoorSh.refSum_any A4 M c4 _ w4 (hrow4.rd.seg8 HF.out) (fun e => hrow4.nilcap e) (by omega)).mono ?_
  rintro e w5 ⟨A5, c5, rfl, hrow5, hb5⟩
  rw [cb_to] at hrow5
  have hrow6 : Row w5 w4.heap.size 5 A5 32 c5 (cn .u8 (sumOf 1 (l ++ lt))) := hrow5
  have HRD := Lib.hid hrow6.rd
  have HLE := Lib.hid hrow6.le
  have HFR : Hid (∀ ad, A5 = some ad → w.heap.size ≤ ad.block) := fun ad h => Nat.le_trans hB4 (hrow6.lt ad h).1
  have bel5 := hbe4.trans (hb5.mono hB4)
  clear hrow4 hrow5 hrow6
  go_wp2
  go_ret
  exact ⟨A5, c5, rfl, HRD.out, HFR.out, HLE.out.1, HLE.out.2, bel5⟩
set_option maxHeartbeats 1000000 in
theorem RefDigest_2 (z : Int) (hz : z ≠ 1) (A : Option Addr) (n cap : Nat) (l : List Nat) (At : Option Addr) (m c2 : Nat) (lt : List Nat) (w : World) (h : Rd .u8 w A n l) (hf : Fit 256 l) (hnil : A = none → cap = 0) (hn : n ≤ 10000) (ht : Rd .u8 w At m lt) (hft : Fit 256 lt) (hnilt : At = none → c2 = 0) (hm : m ≤ 10000) :
    Calls Tryd.prog 22 #[.int .i64 z, .slice A n cap, .slice At m c2] w (GivesRd w 64 (sumOf 2 (l ++ lt))) := by
  have HR : Hid (Rd .u8 (w.alloc (.cells #[] 5)) A n l) := h.below ((Below.refl _ _).alloc (Nat.le_refl _) _)
  have HE : Hid (Row (w.alloc (.cells #[] 5)) w.heap.size 5 (some ⟨w.heap.size, 0, none⟩) 0 0 (cn .u8 [])) := own_empty w 5
  have HT := Lib.hid ht
  have HF := Lib.hid (hf.append hft)
  have d1 : (z == 1) = false := by simp [hz]
  obtain ⟨M, hM⟩ : ∃ M, n + m = M := ⟨_, rfl⟩
  have HM := Lib.hid hM
  have M2 : M ≤ 20000 := by omega
  clear h ht hM
  go_enter Tryd.func22, Tryd.ntmps22
  go_wp2_with (first
    | ((with_reducible refine at_dst (some 10) ?_); refine wpList_appBs0 (o := ⟨some 10, _, _, _, _, _⟩) rfl (.tmp 8) (.tmp 9) rfl ((Below.refl w.heap.size w).alloc (Nat.le_refl _) _) (by simp) rfl HE.out rfl HR.out hnil (by omega) n (by omega) ?_; intro A3 c3 w3 HRow3 hbe3 hB3 HG3; have HT3 := Lib.hid (HT.out.below hbe3))
    | ((with_reducible refine at_dst (some 13) ?_); refine wpList_appBs0 (o := ⟨some 13, _, _, _, _, _⟩) rfl (.tmp 11) (.tmp 12) rfl hbe3 hB3 rfl HRow3.out rfl HT3.out hnilt (by omega) M HM.out ?_; intro A4 c4 w4 HRow4 hbe4 hB4 HG4))
  have hrow4 := HRow4.out
  rw [List.nil_append] at hrow4
  refine (YtfoenafjaaidmaaDoorLn.refSum_any A4 M c4 _ w4 (hrow4.rd.seg8L HF.out) (fun e => hrow4.nilcap e) (by omega)).mono ?_
  rintro e w5 ⟨A5, c5, rfl, hrow5, hb5⟩
  rw [cb_toL] at hrow5
  have hrow6 : Row w5 w4.heap.size 5 A5 64 c5 (cn .u8 (sumOf 2 (l ++ lt))) := hrow5
  have HRD := Lib.hid hrow6.rd
  have HLE := Lib.hid hrow6.le
  have HFR : Hid (∀ ad, A5 = some ad → w.heap.size ≤ ad.block) := fun ad h => Nat.le_trans hB4 (hrow6.lt ad h).1
  have bel5 := hbe4.trans (hb5.mono hB4)
  clear hrow4 hrow5 hrow6
  go_wp2
  go_ret
  exact ⟨A5, c5, rfl, HRD.out, HFR.out, HLE.out.1, HLE.out.2, bel5⟩

end Go.Proofs.YtfoenafjaaidmaaDoor
