/-
  The document's Bytes of a key, and its Open.
-/
import Derived.Test.YtojpbfkdkkdpcaaDoorR2
import Derived.Test.YtojpbfkdkkdpcaaDoorKeyR
import Derived.Test.YtojpbfkdkkdpcaaDoorMod2
import Derived.Test.YtojpbfkdkkdpcaaDoorH2
namespace Go.Proofs.YtojpbfkdkkdpcaaDoor
open Go.RowKit
set_option linter.unusedVariables false
set_option linter.unusedSimpArgs false
set_option maxRecDepth 100000

theorem Mul_digs (A A' : Option Addr) (n cap n' cap' x y : Nat) (w : World) (h : Rd .i64 w A n (digs x)) (h' : Rd .i64 w A' n' (digs y)) (hn : n ≤ 5000) (hn' : n' ≤ 5000) :
    Calls Tryd.prog 49 #[.slice A n cap, .slice A' n' cap'] w (GivesDigs w (x * y)) := by
  have := RefMul_any A A' n cap n' cap' _ _ w h h' (digs_fit _) (digs_fit _) (by omega) (by omega)
  rw [digs_val, digs_val] at this
  exact this
theorem Mod_digs (A A' : Option Addr) (n cap n' cap' x y : Nat) (w : World) (h : Rd .i64 w A n (digs x)) (h' : Rd .i64 w A' n' (digs y)) (hn : n ≤ 5000) (hn' : n' ≤ 5000) (hy : 0 < y) :
    Calls Tryd.prog 39 #[.slice A n cap, .slice A' n' cap'] w (GivesDigs w (x % y)) := by
  have := Mod_any A A' n cap n' cap' _ _ w h h' (digs_fit _) (digs_fit _) hn hn' (by rw [digs_val]; exact hy)
  rw [digs_val, digs_val] at this
  exact this
theorem high_bytes {x size : Nat} (h : (digs x).length ≤ size) : List.replicate (size - (digs x).length) 0 ++ (digs x).reverse = bytesOf size x := by
  refine bytesOf_eq (by simp; omega) ((Fit.replicate _ _ _ (by omega)).append (digs_fit x).reverse) ?_
  simp only [vbe, List.reverse_append, List.reverse_reverse, List.reverse_replicate, val_append, val_replicate, digs_val]
  simp
theorem High_digs (A : Option Addr) (m cap x size : Nat) (z : Int) (hz : z = size) (w : World) (h : Rd .i64 w A m (digs x)) (hs : size ≤ 10000) (hx : x < 256 ^ size) :
    Calls Tryd.prog 42 #[.slice A m cap, .int .i64 z] w fun e w' => ∃ g, e = .returned (.slice (some ⟨g, 0, none⟩) size size) ∧ Blk w' g 5 (cn .u8 (bytesOf size x)) ∧ Below w.heap.size w w' := by
  subst hz
  have hl : (digs x).length ≤ size := (digs_len x size).2 hx
  have hm : m ≤ size := by rw [← h.1]; exact hl
  have e : List.replicate (size - m) 0 ++ (digs x).reverse = bytesOf size x := by rw [← h.1]; exact high_bytes hl
  have hf := digs_fit x
  generalize digs x = D at *
  have := High_any A m cap D size w h hf hs hm
  rw [e] at this
  exact this

set_option maxHeartbeats 2000000 in
theorem RefBytes_any (A : Option Addr) (n cap : Nat) (l : List Nat) (w : World) (h : Rd .u8 w A n l) (hf : Fit 256 l) (hM : Modul n l) (M : Nat) (hMn : M = 8 + 2 * n) :
    Calls Tryd.prog 14 #[.slice A n cap] w (GivesRow w M (keyBytes n (vbe l))) := by
  have HO := Lib.hid (hM.odd h.1)
  have HG := Lib.hid (hM.gt h.1)
  have HN := Lib.hid (Nat.lt_trans (by omega) (hM.gt h.1) : 0 < vbe l)
  have HR := Lib.hid h
  have HM := Lib.hid hMn
  have HBO := Lib.hid (bytesOf_eq h.1 hf rfl)
  have HLT : Hid (vbe l < 256 ^ n) := by have := vbe_ltp hf; rw [h.1] at this; exact this
  obtain ⟨k1, k2, k3, _⟩ := hM
  have HN0 := Lib.hid (n0of_lt HO.out)
  clear h hMn
  go_enter Tryd.func14, Tryd.ntmps14
  go_wp2_with fail
  refine (Four_any (8 * n) _ (by omega) (by omega) w).mono ?_
  rintro e w1 ⟨rfl, hB1, hb1⟩
  have HB1 := Lib.hid hB1
  clear hB1
  go_wp2_with fail
  refine (RefN0_any A n cap l w1 (HR.out.below hb1) hf k1 (by omega) HO.out).mono ?_
  rintro e w2 ⟨rfl, rfl⟩
  go_wp2_with fail
  refine (Four_any (n0of (vbe l)) _ rfl HN0.out w1).mono ?_
  rintro e w2 ⟨rfl, hB2, hb2⟩
  have bel2 := below_then hb1 hb2
  have HROW : Hid (Row w2 w.heap.size 5 (some ⟨w.heap.size, 0, none⟩) 4 4 (cn .u8 (bytesOf 4 (8 * n)))) :=
    Blk.row (HB1.out.below hb2 HB1.out.lt) (Nat.le_refl _) 4 (bytesOf_length _ _) (by omega)
  have HX := Lib.hid (hB2.rd 4 (bytesOf_length _ _))
  have HBE := Lib.hid bel2
  have HSZ := Lib.hid bel2.size
  clear hB2 HB1 hb1 hb2 bel2
  go_wp2_with (first
    | ((with_reducible refine at_dst (some 13) ?_); refine wpList_appBs (o := ⟨some 13, _, _, _, _, _⟩) rfl (.tmp 9) (.tmp 12) rfl HBE.out HSZ.out rfl HROW.out rfl HX.out (by omega) (by omega) 8 (by omega) ?_; intro A3 c3 w3 HRow3 hbe3 hB3 HG3; have HR3 := Lib.hid (HR.out.below hbe3))
    | ((with_reducible refine at_dst (some 16) ?_); refine wpList_appBs (o := ⟨some 16, _, _, _, _, _⟩) rfl (.tmp 14) (.tmp 15) rfl hbe3 hB3 rfl HRow3.out rfl HR3.out (by omega) (by omega) (8 + n) (by omega) ?_; intro A4 c4 w4 HRow4 hbe4 hB4 HG4))
  have HRow4' : Hid (Row w4 w.heap.size 5 A4 (8 + n) c4 (cn .u8 (bytesOf 4 (8 * n) ++ bytesOf 4 (n0of (vbe l)) ++ bytesOf n (vbe l)))) := by
    have := HRow4.out
    rw [← HBO.out]
    exact this
  clear HRow4 HRow3 HG3 HG4 hbe3 hB3 HR3 HROW HX HBE HSZ
  refine (Power_any _ (2 * n) (by omega) (by omega) w4).mono ?_
  rintro e w5 ⟨A5, m5, c5, rfl, hr5, hc5, hm5, hb5⟩
  have HM5 : Hid (m5 ≤ 2 * n + 1) := by show _ ≤ _; rw [← hr5.1, digs_len]; exact Nat.pow_lt_pow_right (by omega) (by omega)
  have HR5 := Lib.hid hr5
  have bel5 := hbe4.trans (hb5.mono hB4)
  clear hr5 hc5 hm5
  go_wp2_with fail
  refine (Low_any A n cap l w5 (HR.out.below bel5) hf (by omega)).mono ?_
  rintro e w6 ⟨A6, m6, c6, rfl, hr6, hc6, hm6, hb6⟩
  have HM6 : Hid (m6 ≤ n) := by show _ ≤ _; rw [← hr6.1, digs_len]; exact HLT.out
  have HR6 := Lib.hid hr6
  have bel6 := below_then bel5 hb6
  clear hr6 hc6 hm6
  go_wp2_with fail
  refine (Mod_digs A5 A6 m5 c5 m6 c6 _ _ w6 (HR5.out.below hb6) HR6.out (by have := HM5.out; omega) (by have := HM6.out; omega) HN.out).mono ?_
  rintro e w7 ⟨A7, m7, c7, rfl, hr7, hc7, hm7, hb7⟩
  have HR7 := Lib.hid hr7
  have bel7 := below_then bel6 hb7
  clear hr7 hc7 hm7
  go_wp2_with fail
  refine (High_digs A7 m7 c7 _ n _ rfl w7 HR7.out (by omega) (Nat.lt_trans (Nat.mod_lt _ HN.out) HLT.out)).mono ?_
  rintro e w8 ⟨g8, rfl, hB8, hb8⟩
  have HX8 := Lib.hid (hB8.rd n (bytesOf_length _ _))
  have bel8 := below_then bel7 hb8
  have hsz8 := bel8.size
  have HROW8 := Lib.hid ((((HRow4'.out.below hb5).below hb6).below hb7).below hb8)
  clear hB8
  go_wp2_with (first
    | ((with_reducible refine at_dst (some 29) ?_); refine wpList_appBs (o := ⟨some 29, _, _, _, _, _⟩) rfl (.tmp 24) (.tmp 28) rfl bel8 hsz8 rfl HROW8.out rfl HX8.out (by omega) (by omega) M (by have := HM.out; omega) ?_; intro A9 c9 w9 HRow9 hbe9 hB9 HG9))
  go_ret
  exact ⟨A9, c9, rfl, HRow9.out, hbe9⟩

/-- t squares one behind the other. -/
def sqs (x N t : Nat) : Nat := x ^ (2 ^ t) % N
theorem sqs_zero {x N : Nat} (h : x < N) : sqs x N 0 = x := by simp [sqs, Nat.mod_eq_of_lt h]
theorem sqs_succ (x N t : Nat) : sqs x N t * sqs x N t % N = sqs x N (t + 1) := sq_step (j := t) rfl
theorem sqs_end (x N t e : Nat) (he : e = 2 ^ t + 1) : sqs x N t * x % N = x ^ e % N := by
  subst he
  exact sq_last (x := x) (n := N) (e := 2 ^ t) (y := sqs x N t) rfl
theorem sqs_last (x N : Nat) : sqs x N 16 * x % N = x ^ keyE % N := sqs_end x N 16 keyE (by decide)
theorem sqs_lt {x N t : Nat} (h : 0 < N) : sqs x N t < N := Nat.mod_lt _ h

set_option maxHeartbeats 400000 in
theorem RefOpen_size (A : Option Addr) (n cap : Nat) (As : Option Addr) (ns cs : Nat) (w : World) (hn : ns ≠ n) :
    Calls Tryd.prog 22 #[.slice A n cap, .slice As ns cs] w fun e w' => e = .returned (.tuple #[.slice none 0 0, .int .i64 24]) ∧ w = w' := by
  have hd : ((ns : Int) != (n : Int)) = true := by simp; omega
  have hd2 : (ns != n) = true := by simp [hn]
  go_enter Tryd.func22, Tryd.ntmps22
  go_wp2
  go_ret2
  exact ⟨rfl, rfl⟩
set_option maxHeartbeats 1000000 in
theorem RefOpen_no (A : Option Addr) (n cap : Nat) (l : List Nat) (As : Option Addr) (cs : Nat) (ls : List Nat) (w : World) (h : Rd .u8 w A n l) (hf : Fit 256 l) (hr : Rd .u8 w As n ls) (hfs : Fit 256 ls) (hn : n ≤ 1000) (hno : vbe l ≤ vbe ls) :
    Calls Tryd.prog 22 #[.slice A n cap, .slice As n cs] w (Refused w 13) := by
  have HR := Lib.hid h
  have HS := Lib.hid hr
  have HNO := Lib.hid hno
  have HLT : Hid (vbe l < 256 ^ n) := by have := vbe_ltp hf; rw [h.1] at this; exact this
  have HLS : Hid (vbe ls < 256 ^ n) := by have := vbe_ltp hfs; rw [hr.1] at this; exact this
  clear h hr hno
  go_enter Tryd.func22, Tryd.ntmps22
  go_wp2_with fail
  refine (Low_any A n cap l w HR.out hf (by omega)).mono ?_
  rintro e w1 ⟨A1, m1, c1, rfl, hr1, hc1, hm1, hb1⟩
  have HM1 : Hid (m1 ≤ n) := by show _ ≤ _; rw [← hr1.1, digs_len]; exact HLT.out
  have HR1 := Lib.hid hr1
  clear hr1 hc1 hm1
  go_wp2_with fail
  refine (Low_any As n cs ls w1 (HS.out.below hb1) hfs (by omega)).mono ?_
  rintro e w2 ⟨A2, m2, c2, rfl, hr2, hc2, hm2, hb2⟩
  have HM2 : Hid (m2 ≤ n) := by show _ ≤ _; rw [← hr2.1, digs_len]; exact HLS.out
  have HR2 := Lib.hid hr2
  have bel2 := below_then hb1 hb2
  clear hr2 hc2 hm2
  go_wp2_with fail
  refine (RefCompare_any A2 A1 m2 c2 m1 c1 _ _ w2 HR2.out (HR1.out.below hb2) (digs_fit _) (digs_fit _) (digs_tight _) (digs_tight _) (by have := HM2.out; omega) (by have := HM1.out; omega)).mono ?_
  rintro e w3 ⟨rfl, hb3⟩
  rw [digs_val, digs_val]
  have ho := (ord_ge _ _).2 HNO.out
  generalize ord (vbe ls) (vbe l) = z at *
  go_wp2
  go_ret2
  exact ⟨rfl, below_then bel2 hb3⟩
set_option maxHeartbeats 2000000 in
theorem RefOpen_yes (A : Option Addr) (n cap : Nat) (l : List Nat) (As : Option Addr) (cs : Nat) (ls : List Nat) (w : World) (h : Rd .u8 w A n l) (hf : Fit 256 l) (hr : Rd .u8 w As n ls) (hfs : Fit 256 ls) (hn : n ≤ 1000) (hlt : vbe ls < vbe l) :
    Calls Tryd.prog 22 #[.slice A n cap, .slice As n cs] w fun e w' => ∃ g, e = .returned (.tuple #[.slice (some ⟨g, 0, none⟩) n n, .int .i64 0]) ∧ Blk w' g 5 (cn .u8 (bytesOf n (vbe ls ^ keyE % vbe l))) ∧ Below w.heap.size w w' := by
  have HR := Lib.hid h
  have HS := Lib.hid hr
  have HNO := Lib.hid hlt
  have HLT : Hid (vbe l < 256 ^ n) := by have := vbe_ltp hf; rw [h.1] at this; exact this
  have HLS : Hid (vbe ls < 256 ^ n) := by have := vbe_ltp hfs; rw [hr.1] at this; exact this
  have HN : Hid (0 < vbe l) := by show 0 < _; omega
  clear h hr hlt
  go_enter Tryd.func22, Tryd.ntmps22
  go_wp2_with fail
  refine (Low_any A n cap l w HR.out hf (by omega)).mono ?_
  rintro e w1 ⟨A1, m1, c1, rfl, hr1, hc1, hm1, hb1⟩
  have HM1 : Hid (m1 ≤ n) := by show _ ≤ _; rw [← hr1.1, digs_len]; exact HLT.out
  have HR1 := Lib.hid hr1
  clear hr1 hc1 hm1
  go_wp2_with fail
  refine (Low_any As n cs ls w1 (HS.out.below hb1) hfs (by omega)).mono ?_
  rintro e w2 ⟨A2, m2, c2, rfl, hr2, hc2, hm2, hb2⟩
  have HM2 : Hid (m2 ≤ n) := by show _ ≤ _; rw [← hr2.1, digs_len]; exact HLS.out
  have HR2 := Lib.hid hr2
  have bel2 := below_then hb1 hb2
  clear hr2 hc2 hm2
  go_wp2_with fail
  refine (RefCompare_any A2 A1 m2 c2 m1 c1 _ _ w2 HR2.out (HR1.out.below hb2) (digs_fit _) (digs_fit _) (digs_tight _) (digs_tight _) (by have := HM2.out; omega) (by have := HM1.out; omega)).mono ?_
  rintro e w3 ⟨rfl, hb3⟩
  rw [digs_val, digs_val]
  have ho := (ord_lt _ _).2 HNO.out
  have HR13 := Lib.hid ((HR1.out.below hb2).below hb3)
  have HR23 := Lib.hid (HR2.out.below hb3)
  have bel3 := below_then bel2 hb3
  have HL := Lib.hid (And.intro HNO.out (And.intro HLT.out HN.out))
  generalize hx : vbe ls = x at *
  generalize hN : vbe l = N at *
  generalize ord x N = z at *
  have HX := Lib.hid hx
  have HNN := Lib.hid hN
  have ho2 : ¬ 0 ≤ z := by omega
  have HBE3 := Lib.hid bel3
  clear HR1 HR2 HR HS HNO HLT HLS HN hb1 hb2 hb3 bel2 bel3 hx hN
  go_wp2
  go_loopw [8, 9] (fun y i wr => ∃ (t : Nat) (Ay : Option Addr) (my cy : Nat), t ≤ 16 ∧ i = .int .i64 (t : Int) ∧ y = .slice Ay my cy ∧ Hid (Rd .i64 wr Ay my (digs (sqs x N t))) ∧ Hid (my ≤ n) ∧ Below w3.heap.size w3 wr) (fun _ i _ => 16 - (intOf i).toNat)
  case atStart => exact ⟨0, A2, m2, c2, by omega, rfl, rfl, by rw [sqs_zero HL.out.1]; exact HR23, HM2, below_self⟩
  case round =>
    obtain ⟨t, Ay, my, cy, ht, rfl, rfl, HY, HMY, hbe⟩ := hrel
    have hmy : my ≤ 1000 := by have := HMY.out; omega
    have hm1_ : m1 ≤ 1000 := by have := HM1.out; omega
    have hm2_ : m2 ≤ 1000 := by have := HM2.out; omega
    have HSL : Hid (∀ t, sqs x N t < 256 ^ n) := fun t => Nat.lt_trans (sqs_lt HL.out.2.2) HL.out.2.1
    by_cases htl : t < 16
    · go_wp2_with fail
      refine (Mul_digs Ay Ay my cy my cy _ _ wr HY.out HY.out (by omega) (by omega)).mono ?_
      rintro e w4 ⟨A4, m4, c4, rfl, hr4, hc4, hm4, hb4⟩
      have HM4 : Hid (m4 ≤ 2 * n) := by
        show _ ≤ _
        rw [← hr4.1, digs_len, show 2 * n = n + n by omega, Nat.pow_add]
        exact Nat.mul_lt_mul'' (HSL.out t) (HSL.out t)
      have HR4 := Lib.hid hr4
      clear hr4 hc4 hm4
      go_wp2_with fail
      refine (Mod_digs A4 A1 m4 c4 m1 c1 _ _ w4 HR4.out ((HR13.out.below hbe).below hb4) (by have := HM4.out; omega) (by omega) HL.out.2.2).mono ?_
      rintro e w5 ⟨A5, m5, c5, rfl, hr5, hc5, hm5, hb5⟩
      rw [sqs_succ] at hr5
      have HM5 : Hid (m5 ≤ n) := by show _ ≤ _; rw [← hr5.1, digs_len]; exact HSL.out (t + 1)
      have HR5 := Lib.hid hr5
      have bel5 := below_then (below_then hbe hb4) hb5
      clear hr5 hc5 hm5 HR4 HM4
      go_wp2
      go_roundw
      case rel => exact ⟨t + 1, A5, m5, c5, by omega, by go_num, rfl, HR5, HM5, bel5⟩
      case measure => simp [intOf]; omega
    · obtain rfl : t = 16 := by omega
      go_wp2_with fail
      refine (Mul_digs Ay A2 my cy m2 c2 _ _ wr HY.out (HR23.out.below hbe) (by omega) (by omega)).mono ?_
      rintro e w4 ⟨A4, m4, c4, rfl, hr4, hc4, hm4, hb4⟩
      have HM4 : Hid (m4 ≤ 2 * n) := by
        show _ ≤ _
        rw [← hr4.1, digs_len, show 2 * n = n + n by omega, Nat.pow_add]
        exact Nat.mul_lt_mul'' (HSL.out 16) (Nat.lt_trans HL.out.1 HL.out.2.1)
      have HR4 := Lib.hid hr4
      clear hr4 hc4 hm4
      go_wp2_with fail
      refine (Mod_digs A4 A1 m4 c4 m1 c1 _ _ w4 HR4.out ((HR13.out.below hbe).below hb4) (by have := HM4.out; omega) (by omega) HL.out.2.2).mono ?_
      rintro e w5 ⟨A5, m5, c5, rfl, hr5, hc5, hm5, hb5⟩
      rw [sqs_last] at hr5
      have HR5 := Lib.hid hr5
      have bel5 := below_then (below_then hbe hb4) hb5
      clear hr5 hc5 hm5 HR4 HM4
      go_wp2_with fail
      refine (High_digs A5 m5 c5 _ n _ rfl w5 HR5.out (by omega) (Nat.lt_trans (Nat.mod_lt _ HL.out.2.2) HL.out.2.1)).mono ?_
      rintro e w6 ⟨g6, rfl, hB6, hb6⟩
      have HB6 := Lib.hid hB6
      clear hB6
      go_wp2
      go_ret2
      exact ⟨g6, rfl, by rw [HX.out, HNN.out]; exact HB6.out, below_then HBE3.out (below_then bel5 hb6)⟩
end Go.Proofs.YtojpbfkdkkdpcaaDoor
