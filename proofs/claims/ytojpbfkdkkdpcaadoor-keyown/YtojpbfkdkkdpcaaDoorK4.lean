/-
  What Bytes of package key answers: the bits, N0, the modulus, RR.
-/
import Derived.Test.YtojpbfkdkkdpcaaDoorK3
namespace Go.Proofs.YtojpbfkdkkdpcaaDoor
open Go.RowKit
set_option linter.unusedVariables false
set_option linter.unusedSimpArgs false
set_option maxRecDepth 100000

/-- What is against a number modulo 2^k, bit by bit. -/
def n0u (low : Nat) : Nat → Nat
  | 0 => 0
  | k + 1 => n0u low k + (n0u low k * low + 1) / 2 ^ k % 2 * 2 ^ k
theorem n0u_ok {low : Nat} (hl : low % 2 = 1) : ∀ k, (n0u low k * low + 1) % 2 ^ k = 0 ∧ n0u low k < 2 ^ k
  | 0 => by simp [n0u, Nat.mod_one]
  | k + 1 => by
    obtain ⟨h1, h2⟩ := n0u_ok hl k
    exact n0_step hl h1 h2 _ rfl
/-- N0 of a number. -/
def n0of (N : Nat) : Nat := n0u (N % 4294967296) 32
theorem n0of_lt {N : Nat} (h : N % 2 = 1) : n0of N < 4294967296 := (n0u_ok (by omega : N % 4294967296 % 2 = 1) 32).2
theorem n0of_eq {N x : Nat} (h : N % 2 = 1) (hx : x < 4294967296) (hi : x * N % 4294967296 = 4294967296 - 1) : x = n0of N := by
  have hl : N % 4294967296 % 2 = 1 := by omega
  obtain ⟨h1, h2⟩ := n0u_ok hl 32
  refine n0_one (k := 32) hl hx h2 ?_ h1
  refine n0_forms ?_
  rw [Nat.mul_mod, Nat.mod_mod, ← Nat.mul_mod]
  exact hi
/-- A key's bytes. -/
def keyBytes (k N : Nat) : List Nat := bytesOf 4 (8 * k) ++ bytesOf 4 (n0of N) ++ bytesOf k N ++ bytesOf k (256 ^ (2 * k) % N)
theorem keyBytes_length (k N : Nat) : (keyBytes k N).length = 8 + 2 * k := by simp [keyBytes, bytesOf_length]; omega
theorem keyBytes_fit (k N : Nat) : Fit 256 (keyBytes k N) := (((bytesOf_fit _ _).append (bytesOf_fit _ _)).append (bytesOf_fit _ _)).append (bytesOf_fit _ _)

def ints (l : List Nat) : List Int := l.map fun (x : Nat) => (x : Int)
theorem ints_bytes {l : List Nat} (h : Fit 256 l) : YtojpbfkdkkdpcaaDoorSp.AreBytes (ints l) := by
  intro x hx
  obtain ⟨y, hy, rfl⟩ := List.mem_map.1 hx
  have := h y hy
  exact ⟨by omega, by omega⟩
theorem Rd.seg {w : World} {A : Option Addr} {n : Nat} {l : List Nat} (h : Rd .u8 w A n l) (hf : Fit 256 l) : YtojpbfkdkkdpcaaDoorSp.Seg w A n (ints l) :=
  ⟨by simp [ints, h.1], ints_bytes hf, fun hn => by
    obtain ⟨ad, e, hlt, hc⟩ := h.2 hn
    refine ⟨ad, e, hlt, fun j hj => ?_⟩
    obtain ⟨x, hx⟩ := get_some (l := l) (i := j) (by rw [h.1]; exact hj)
    rw [hc j x hx]
    simp [ints, List.getD, hx]⟩
theorem own_blk {w : World} {g : Nat} {l : List Nat} (h : YtojpbfkdkkdpcaaDoorSp.Own w g (ints l)) : Blk w g 5 (cn .u8 l) := by
  have := h.2
  have e : YtojpbfkdkkdpcaaDoorSp.cellsOfBytes (ints l) = cn .u8 l := by simp [YtojpbfkdkkdpcaaDoorSp.cellsOfBytes, ints, cn, Function.comp_def]
  rw [e] at this
  exact this
theorem be_bytesOf (s x : Nat) : YtojpbfkdkkdpcaaDoorSp.be s (x : Int) = ints (bytesOf s x) := by
  apply List.ext_getElem?
  intro i
  by_cases hi : i < s
  · obtain ⟨u, hu⟩ : ∃ u, s = i + u + 1 := ⟨s - i - 1, by omega⟩
    have e1 := bytesOf_get (X := x) hu
    simp only [ints, List.getElem?_map, e1, Option.map_some]
    simp only [YtojpbfkdkkdpcaaDoorSp.be, List.getElem?_map, List.getElem?_range hi, Option.map_some]
    congr 1
    have e2 : s - 1 - i = u := by omega
    have e3 : (2 : Nat) ^ (8 * u) = 256 ^ u := by rw [Nat.pow_mul]
    have e4 : (2 : Int) ^ (8 * u) = ((256 ^ u : Nat) : Int) := by rw [← e3, Int.natCast_pow]; rfl
    rw [e2, e4, Int.natCast_emod, Int.natCast_ediv]
    rfl
  · rw [List.getElem?_eq_none (by simp [YtojpbfkdkkdpcaaDoorSp.be]; omega), List.getElem?_eq_none (by simp [ints, bytesOf_length]; omega)]
theorem Put4_any (A : Option Addr) (k cap : Nat) (l : List Nat) (x : Nat) (z : Int) (hz : z = x) (hx : x < 4294967296) (m : Nat) (hm : m = k + 4) (w : World) (h : Rd .u8 w A k l) (hf : Fit 256 l) (hk : k ≤ 90000) :
    Calls Tryd.prog 34 #[.slice A k cap, .int .i64 4, .int .i64 z] w fun e w' => e = .returned (.tuple #[.slice (some ⟨w.heap.size, 0, none⟩) m m, .int .i64 0]) ∧ Blk w' w.heap.size 5 (cn .u8 (l ++ bytesOf 4 x)) ∧ Below w.heap.size w w' := by
  subst hz
  have e0 : ((x : Int) / 2 ^ (8 * (4 : Int)).toNat != 0) = false := by
    have : (x : Int) / 4294967296 = 0 := by omega
    simpa using this
  refine (YtojpbfkdkkdpcaaDoorSp.Put_ok A k cap (ints l) 4 (x : Int) w (h.seg hf) hk (by omega) (by omega) (by omega) (by omega) e0 m (by omega)).mono ?_
  rintro e w' ⟨he, hl, ho, hb⟩
  refine ⟨he, own_blk (l := l ++ bytesOf 4 x) ?_, hb⟩
  have e1 : ints l ++ YtojpbfkdkkdpcaaDoorSp.be (4 : Int).toNat (x : Int) = ints (l ++ bytesOf 4 x) := by
    show ints l ++ YtojpbfkdkkdpcaaDoorSp.be 4 (x : Int) = _
    rw [be_bytesOf]; simp [ints]
  rw [e1] at ho
  exact ho
theorem Whole.ringed {w : World} {g k N : Nat} (h : Whole w g k N) : ∃ n0 A c R ln, Ringed w g k N n0 A c R ln := by
  obtain ⟨n0, A, c, ln, A', c', lr, h1, h2, h3, h4⟩ := h
  exact ⟨n0, A, c, _, ln, h1⟩
theorem Whole.odd {w : World} {g k N : Nat} (h : Whole w g k N) : N % 2 = 1 := by
  obtain ⟨n0, A, c, R, ln, h⟩ := h.ringed; exact h.odd
theorem Whole.gt {w : World} {g k N : Nat} (h : Whole w g k N) : 1 < N := by
  obtain ⟨n0, A, c, R, ln, h⟩ := h.ringed; exact h.gt
theorem KN0_any (g k N : Nat) (w : World) (h : Whole w g k N) :
    Calls Tryd.prog 35 #[.pointer (some ⟨g, 0, none⟩)] w fun e w' => e = .returned (.int .i64 (n0of N : Nat)) ∧ w = w' := by
  obtain ⟨n0, A, c, R, ln, hr⟩ := h.ringed
  rw [← n0of_eq hr.odd hr.n1 hr.inv]
  exact N0_any g k N n0 A c R ln w hr
theorem Bytes_okz (A : Option Addr) (n cap : Nat) (l : List Nat) (size : Nat) (z : Int) (hz : z = size) (w : World) (h : Rd .u32 w A n l) (hf : Fit 4294967296 l) (h1 : 1 ≤ n) (h2 : n ≤ 256) (hs : size ≤ 1024) (hb : val 4294967296 l < 256 ^ size) :
    Calls Tryd.prog 30 #[.slice A n cap, .int .i64 z] w fun e w' => ∃ g, e = .returned (.tuple #[.slice (some ⟨g, 0, none⟩) size size, .int .i64 0]) ∧ w.heap.size ≤ g ∧ Blk w' g 5 (cn .u8 (bytesOf size (val 4294967296 l))) ∧ Below w.heap.size w w' := by
  subst hz; exact Bytes_ok A n cap l size w h hf h1 h2 hs hb
theorem rr_pow {k W N : Nat} (h : k = 4 * W) : 4294967296 ^ (2 * W) % N = 256 ^ (2 * k) % N := by
  rw [h, show 2 * (4 * W) = 4 * (2 * W) by omega, pow256_32]

set_option maxHeartbeats 2000000 in
theorem KBytes_any (g k N gm c gr : Nat) (w : World) (h : Keyed w g k N gm c gr) (M : Nat) (hM : M = 8 + 2 * k) :
    Calls Tryd.prog 13 #[.pointer (some ⟨g, 0, none⟩)] w (GivesBs w M (keyBytes k N)) := by
  have HK := Lib.hid h
  have HM := Lib.hid hM
  have k1 := h.k1
  have k2 := h.k2
  have k3 := h.k3
  obtain ⟨W, hW⟩ : ∃ W, k = 4 * W := ⟨k / 4, by omega⟩
  have HW := Lib.hid hW
  have w1_ : 1 ≤ W := by omega
  have w2_ : W ≤ 128 := by omega
  have hring := h.ring
  rw [show k / 4 = W by omega] at hring
  have HG := Lib.hid hring
  have HN0 := Lib.hid (n0of_lt hring.odd)
  have HN := Lib.hid (Nat.lt_trans (by omega) hring.gt : 0 < N)
  clear h hM hring hW
  have qa := HK.out.q1
  go_enter Tryd.func13, Tryd.ntmps13
  go_wp2_with fail
  refine (Size_any g k N gm c gr w HK.out).mono ?_
  rintro e w1 ⟨rfl, rfl⟩
  go_wp2_with fail
  refine (Put4_any none 0 0 [] (8 * k) _ (by omega) (by omega) 4 rfl w (Rd.nil _ _ _) (Fit.nil _) (by omega)).mono ?_
  rintro e w1 ⟨rfl, hB1, hb1⟩
  have HB1 := Lib.hid hB1
  have q1 := (HK.out.below hb1).q1
  clear hB1
  go_wp2_with fail
  refine (KN0_any gr W N w1 (Whole.below HG.out hb1)).mono ?_
  rintro e w2 ⟨rfl, rfl⟩
  go_wp2_with fail
  refine (Put4_any _ 4 4 _ (n0of N) _ rfl HN0.out 8 rfl w1 (HB1.out.rd 4 rfl) (by simpa using bytesOf_fit 4 (8 * k)) (by omega)).mono ?_
  rintro e w2 ⟨rfl, hB2, hb2⟩
  rw [List.nil_append] at hB2
  have bel2 := below_then hb1 hb2
  have HB2 := Lib.hid hB2
  have q2 := (HK.out.below bel2).q1
  clear hB2 HB1
  go_wp2_with fail
  refine (RR_any gr W N w2 (Whole.below HG.out bel2)).mono ?_
  rintro e w3 ⟨A3, c3, l3, rfl, hr3, hf3, hv3, hb3⟩
  have bel3 := below_then bel2 hb3
  have HR3 := Lib.hid hr3
  have HV3 := Lib.hid hv3
  clear hr3 hv3
  go_wp2_with fail
  refine (Size_any g k N gm c gr w3 (HK.out.below bel3)).mono ?_
  rintro e w4 ⟨rfl, rfl⟩
  go_wp2_with fail
  refine (Bytes_okz A3 W c3 l3 k _ rfl w3 HR3.out hf3 w1_ (by omega) (by omega) (by rw [HV3.out]; exact Nat.lt_trans (Nat.mod_lt _ HN.out) HK.out.room)).mono ?_
  rintro e w4 ⟨g4, rfl, hg4, hB4, hb4⟩
  rw [HV3.out, rr_pow HW.out] at hB4
  have bel4 := below_then bel3 hb4
  have HB4 := Lib.hid hB4
  have hlt2 : w1.heap.size < w3.heap.size := Nat.lt_of_lt_of_le HB2.out.lt hb3.size
  have hne : g4 ≠ w1.heap.size := by omega
  have HROW : Hid (Row w4 w.heap.size 5 (some ⟨w1.heap.size, 0, none⟩) 8 8 (cn .u8 (bytesOf 4 (8 * k) ++ bytesOf 4 (n0of N)))) :=
    Blk.row ((HB2.out.below hb3 HB2.out.lt).below hb4 hlt2) hb1.size 8 (by simp [bytesOf_length]) (by omega)
  have HNE := Lib.hid hne
  have HMR := Lib.hid (HK.out.below bel4).rd
  have q4 := (HK.out.below bel4).q0
  have HBE := Lib.hid bel4
  have HSZ := Lib.hid bel4.size
  clear hB4 HB2 HR3 HV3 hne hlt2 hg4 hb1 hb2 hb3 hb4 bel2 bel3 bel4 q1 q2
  go_wp2_with (first
    | ((with_reducible refine at_dst (some 40) ?_); refine wpList_appBs (o := ⟨some 40, _, _, _, _, _⟩) rfl (.tmp 35) (.tmp 39) rfl HBE.out HSZ.out rfl HROW.out rfl HMR.out (by omega) (by omega) (8 + k) (by omega) ?_; intro A5 c5 w5 HRow5 hbe5 hB5 HG5)
    | ((with_reducible refine at_dst (some 43) ?_); refine wpList_appBs (o := ⟨some 43, _, _, _, _, _⟩) rfl (.tmp 41) (.tmp 42) rfl hbe5 hB5 rfl HRow5.out rfl ((HB4.out.rd k (bytesOf_length _ _)).grownBy HG5.out (fun ad e h => by injection e with e; injection h with h; exact HNE.out (by rw [← e] at h; exact h))) (by omega) (by omega) M (by have := HM.out; omega) ?_; intro A6 c6 w6 HRow6 hbe6 hB6 HG6))
  go_ret
  obtain ⟨g6, rfl, hg6, _, _⟩ := HRow6.out.cells (by have := HM.out; omega)
  exact ⟨g6, c6, rfl, hg6, HRow6.out, hbe6⟩
end Go.Proofs.YtojpbfkdkkdpcaaDoor
