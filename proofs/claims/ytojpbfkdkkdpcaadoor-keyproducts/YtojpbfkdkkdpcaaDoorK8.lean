/-
  What the own function of KeyProducts answers: the product modulo the key's number, in bytes.
-/
import Derived.Test.YtojpbfkdkkdpcaaDoorK5
namespace Go.Proofs.YtojpbfkdkkdpcaaDoor
open Go.RowKit
set_option linter.unusedVariables false
set_option linter.unusedSimpArgs false
set_option maxRecDepth 100000

set_option maxHeartbeats 2000000 in
theorem times_any (gM gW : Nat) (Am : Option Addr) (k cm N : Nat) (A : Option Addr) (cap : Nat) (l : List Nat) (As : Option Addr) (cs : Nat) (ls : List Nat) (w : World)
    (hm : w.cell? ⟨gM, 0, none⟩ = some (.slice Am k cm)) (hgM : gM < w.heap.size) (z : Int) (hw : w.cell? ⟨gW, 0, none⟩ = some (.int .i64 z)) (hz : z = (k : Int) / 4) (hgW : gW < w.heap.size)
    (hr : Rd .u8 w Am k (bytesOf k N)) (hcm : k ≤ cm) (hmm : cm ≤ maxLen) (hM : Modul k (bytesOf k N)) (hN : N < 256 ^ k)
    (h : Rd .u8 w A k l) (hf : Fit 256 l) (hcn : k ≤ cap) (hmn : cap ≤ maxLen) (hs : Rd .u8 w As k ls) (hfs : Fit 256 ls) (hcs : k ≤ cs) (hms : cs ≤ maxLen) (hlt : vbe l < N) (hlts : vbe ls < N) :
    Calls Tryd.prog 26 #[.slice A k cap, .slice As k cs, .pointer (some ⟨gM, 0, none⟩), .pointer (some ⟨gW, 0, none⟩)] w fun e w' => ∃ g, e = .returned (.slice (some ⟨g, 0, none⟩) k k) ∧ Blk w' g 5 (cn .u8 (bytesOf k (vbe l * vbe ls % N))) ∧ Below w.heap.size w w' := by
  have HO := hM.odd (bytesOf_length _ _)
  have HG := hM.gt (bytesOf_length _ _)
  rw [bytesOf_val hN] at HO HG
  have k1 := hM.1
  have k2 := hM.2.1
  have k3 := hM.2.2.1
  obtain ⟨W, hW⟩ : ∃ W, k = 4 * W := ⟨k / 4, by omega⟩
  have hzW : z = (W : Int) := by omega
  have HZ := Lib.hid hzW
  have HR := Lib.hid hr
  have HA := Lib.hid h
  have HB := Lib.hid hs
  have HL := Lib.hid hlt
  have HLS := Lib.hid hlts
  have HOD := Lib.hid HO
  have HGT := Lib.hid HG
  have HV := Lib.hid (bytesOf_val hN)
  have HR1 : Hid (vbe (bytesOf k N) < 4294967296 ^ W) := limbs_room (bytesOf_fit _ _) (bytesOf_length _ _) hW
  have HR2 : Hid (vbe l < 4294967296 ^ W) := limbs_room hf h.1 hW
  have HR3 : Hid (vbe ls < 4294967296 ^ W) := limbs_room hfs hs.1 hW
  have w1_ : 1 ≤ W := by omega
  have w2_ : W ≤ 128 := by omega
  have HNN := Lib.hid hN
  clear hr h hs hlt hlts HO HG hz hzW hM hW hN
  go_enter Tryd.func26, Tryd.ntmps26
  go_wp2_with fail
  refine (From_okz Am k cm _ W _ HZ.out w HR.out (bytesOf_fit _ _) hcm hmm (by omega) w1_ (by omega) HR1.out).mono ?_
  rintro e w1 ⟨A1, z1, rfl, ⟨hr1, hf1, _, _, hb1⟩, hv1⟩
  rw [HV.out] at hv1
  have Hr1 := Lib.hid hr1
  have Hv1 := Lib.hid hv1
  clear hr1 hv1
  go_wp2_with fail
  refine (New_ok A1 W W z1 w1 Hr1.out hf1 w1_ w2_ (by rw [Hv1.out]; exact HOD.out) (by rw [Hv1.out]; exact HGT.out)).mono ?_
  rintro e w2 ⟨gr, rfl, hw2, hb2⟩
  rw [Hv1.out] at hw2
  have Hw2 := Lib.hid hw2
  have bel2 := below_then hb1 hb2
  have q2 := (bel2.cell (p := ⟨gW, 0, none⟩) hgW).trans hw
  clear hw2
  go_wp2_with fail
  refine (From_okz A k cap l W _ HZ.out w2 (HA.out.below bel2) hf hcn hmn (by omega) w1_ (by omega) HR2.out).mono ?_
  rintro e w3 ⟨A3, z3, rfl, ⟨hr3, hf3, _, _, hb3⟩, hv3⟩
  have Hr3 := Lib.hid hr3
  have Hv3 := Lib.hid hv3
  have bel3 := below_then bel2 hb3
  have q3 := (bel3.cell (p := ⟨gW, 0, none⟩) hgW).trans hw
  clear hr3 hv3
  go_wp2_with fail
  refine (From_okz As k cs ls W _ HZ.out w3 (HB.out.below bel3) hfs hcs hms (by omega) w1_ (by omega) HR3.out).mono ?_
  rintro e w4 ⟨A4, z4, rfl, ⟨hr4, hf4, _, _, hb4⟩, hv4⟩
  have Hr4 := Lib.hid hr4
  have Hv4 := Lib.hid hv4
  have bel4 := below_then bel3 hb4
  clear hr4 hv4
  go_wp2_with fail
  refine (Times_yes gr W N A3 W z3 A4 W z4 w4 (Whole.below (Whole.below Hw2.out hb3) hb4) (Hr3.out.below hb4) hf3 (by rw [Hv3.out]; exact HL.out) Hr4.out hf4 (by rw [Hv4.out]; exact HLS.out)).mono ?_
  rw [Hv3.out, Hv4.out]
  rintro e w5 ⟨A5, c5, l5, rfl, hr5, hf5, hv5, hb5⟩
  have Hr5 := Lib.hid hr5
  have Hv5 := Lib.hid hv5
  have bel5 := below_then bel4 hb5
  have q5 := (bel5.cell (p := ⟨gM, 0, none⟩) hgM).trans hm
  clear hr5 hv5
  go_wp2_with fail
  refine (Bytes_okz A5 W c5 l5 k _ rfl w5 Hr5.out hf5 w1_ (by omega) (by omega) (by rw [Hv5.out]; exact Nat.lt_trans (Nat.mod_lt _ (Nat.lt_trans Nat.zero_lt_one HGT.out)) HNN.out)).mono ?_
  rintro e w6 ⟨g6, rfl, hg6, hB6, hb6⟩
  rw [Hv5.out] at hB6
  have HB6 := Lib.hid hB6
  clear hB6
  go_wp2
  go_ret
  exact ⟨g6, rfl, HB6.out, below_then bel5 hb6⟩
end Go.Proofs.YtojpbfkdkkdpcaaDoor
