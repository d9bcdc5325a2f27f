/-
  LimbsBytes at a text that has no room.
-/
import Derived.Test.YtbajckbjjepceaaDoorBytesP
namespace Go.Proofs.YtbajckbjjepceaaDoor.limbsBytes
open Go.Proofs.YtbajckbjjepceaaDoor Go.ChangeShapes Go.WideShapes Go.ChangeAt Go.RowKit
set_option linter.unusedVariables false
set_option linter.unusedSimpArgs false

set_option maxHeartbeats 4000000 in
theorem walk_big_none (A : Option Addr) (n cap : Nat) (l : List Nat) (W : Nat) (A' : Option Addr) (n' cap' : Nat) (ln : List Nat) (s : Int) (w : World) (g : Rd .u8 w A n l) (hf : Fit 256 l) (hc : n ≤ cap) (hm : cap ≤ maxLen) (g' : Rd .u32 w A' n' ln) (hf' : Fit 4294967296 ln) (h0 : n ≤ 1200) (h0' : n' ≤ 300) (h1 : 1 ≤ W) (h2 : W ≤ 256) (hv : 4294967296 ^ W ≤ vbe l) (q : okW n' = false) :
    Calls Tryd.prog 3 #[.slice A n cap, .int .i64 (W : Int), .slice A' n' cap', .int .i64 s] w fun e w' => e = .returned (.bool true) ∧ Below w.heap.size w w' := by
  have HR := Lib.hid g
  have HR' := Lib.hid g'
  have HM := Lib.hid hm
  have HV := Lib.hid hv
  have i1 : (1 : Int) ≤ W := by omega
  have i2 : (W : Int) ≤ 256 := by omega
  clear g g' hm hv
  go_enter Tryd.func3, Tryd.ntmps3
  go_wp2_with fail
  refine (anchor_any _).mono ?_
  rintro e w1 ⟨rfl, hb1⟩
  go_wp2_with fail
  refine (From_big A n cap l W w1 (HR.out.below hb1) hf hc HM.out (by omega) h1 h2 HV.out).mono ?_
  rintro e w2 ⟨rfl, rfl⟩
  have B2 := hb1
  go_wp2_with fail
  refine (Low_any A n cap l w1 (HR.out.below B2) hf (by omega)).mono ?_
  rintro e w3 ⟨A3, m3, c3, rfl, hr3, _, _, hb3⟩
  have B3 := below_then B2 hb3
  have m3b : (4 : Int) * W < m3 := by
    have : ¬ (digs (vbe l)).length ≤ 4 * W := fun h => by have := (digs_len _ _).1 h; rw [pow256_32] at this; have := HV.out; omega
    rw [hr3.1] at this
    omega
  clear hr3 hb3 B2
  go_wp2_with fail
  refine (Bytes_size A' n' cap' s w3 (.inl q)).mono ?_
  rintro e w5 ⟨rfl, hb5⟩
  go_wp2_with (first | (go_at_call 16; refine (right_any _ _ _ _).mono ?_; rintro e w' ⟨rfl, rfl⟩))
  go_ret
  exact ⟨rfl, below_then B3 hb5⟩

set_option maxHeartbeats 4000000 in
theorem walk_big_neg (A : Option Addr) (n cap : Nat) (l : List Nat) (W : Nat) (A' : Option Addr) (n' cap' : Nat) (ln : List Nat) (s : Int) (w : World) (g : Rd .u8 w A n l) (hf : Fit 256 l) (hc : n ≤ cap) (hm : cap ≤ maxLen) (g' : Rd .u32 w A' n' ln) (hf' : Fit 4294967296 ln) (h0 : n ≤ 1200) (h0' : n' ≤ 300) (h1 : 1 ≤ W) (h2 : W ≤ 256) (hv : 4294967296 ^ W ≤ vbe l) (q : okW n' = true) (k1 : s < 0) :
    Calls Tryd.prog 3 #[.slice A n cap, .int .i64 (W : Int), .slice A' n' cap', .int .i64 s] w fun e w' => e = .returned (.bool true) ∧ Below w.heap.size w w' := by
  have HR := Lib.hid g
  have HR' := Lib.hid g'
  have HM := Lib.hid hm
  have HV := Lib.hid hv
  have i1 : (1 : Int) ≤ W := by omega
  have i2 : (W : Int) ≤ 256 := by omega
  clear g g' hm hv
  go_enter Tryd.func3, Tryd.ntmps3
  go_wp2_with fail
  refine (anchor_any _).mono ?_
  rintro e w1 ⟨rfl, hb1⟩
  go_wp2_with fail
  refine (From_big A n cap l W w1 (HR.out.below hb1) hf hc HM.out (by omega) h1 h2 HV.out).mono ?_
  rintro e w2 ⟨rfl, rfl⟩
  have B2 := hb1
  go_wp2_with fail
  refine (Low_any A n cap l w1 (HR.out.below B2) hf (by omega)).mono ?_
  rintro e w3 ⟨A3, m3, c3, rfl, hr3, _, _, hb3⟩
  have B3 := below_then B2 hb3
  have m3b : (4 : Int) * W < m3 := by
    have : ¬ (digs (vbe l)).length ≤ 4 * W := fun h => by have := (digs_len _ _).1 h; rw [pow256_32] at this; have := HV.out; omega
    rw [hr3.1] at this
    omega
  clear hr3 hb3 B2
  go_wp2_with fail
  refine (Bytes_size A' n' cap' s w3 (.inr (.inl k1))).mono ?_
  rintro e w5 ⟨rfl, hb5⟩
  go_wp2_with (first | (go_at_call 16; refine (right_any _ _ _ _).mono ?_; rintro e w' ⟨rfl, rfl⟩))
  go_ret
  exact ⟨rfl, below_then B3 hb5⟩

set_option maxHeartbeats 4000000 in
theorem walk_big_great (A : Option Addr) (n cap : Nat) (l : List Nat) (W : Nat) (A' : Option Addr) (n' cap' : Nat) (ln : List Nat) (s : Int) (w : World) (g : Rd .u8 w A n l) (hf : Fit 256 l) (hc : n ≤ cap) (hm : cap ≤ maxLen) (g' : Rd .u32 w A' n' ln) (hf' : Fit 4294967296 ln) (h0 : n ≤ 1200) (h0' : n' ≤ 300) (h1 : 1 ≤ W) (h2 : W ≤ 256) (hv : 4294967296 ^ W ≤ vbe l) (q : okW n' = true) (k1 : 0 ≤ s) (k2 : 1024 < s) :
    Calls Tryd.prog 3 #[.slice A n cap, .int .i64 (W : Int), .slice A' n' cap', .int .i64 s] w fun e w' => e = .returned (.bool true) ∧ Below w.heap.size w w' := by
  have HR := Lib.hid g
  have HR' := Lib.hid g'
  have HM := Lib.hid hm
  have HV := Lib.hid hv
  have i1 : (1 : Int) ≤ W := by omega
  have i2 : (W : Int) ≤ 256 := by omega
  clear g g' hm hv
  go_enter Tryd.func3, Tryd.ntmps3
  go_wp2_with fail
  refine (anchor_any _).mono ?_
  rintro e w1 ⟨rfl, hb1⟩
  go_wp2_with fail
  refine (From_big A n cap l W w1 (HR.out.below hb1) hf hc HM.out (by omega) h1 h2 HV.out).mono ?_
  rintro e w2 ⟨rfl, rfl⟩
  have B2 := hb1
  go_wp2_with fail
  refine (Low_any A n cap l w1 (HR.out.below B2) hf (by omega)).mono ?_
  rintro e w3 ⟨A3, m3, c3, rfl, hr3, _, _, hb3⟩
  have B3 := below_then B2 hb3
  have m3b : (4 : Int) * W < m3 := by
    have : ¬ (digs (vbe l)).length ≤ 4 * W := fun h => by have := (digs_len _ _).1 h; rw [pow256_32] at this; have := HV.out; omega
    rw [hr3.1] at this
    omega
  clear hr3 hb3 B2
  go_wp2_with fail
  refine (Bytes_size A' n' cap' s w3 (.inr (.inr k2))).mono ?_
  rintro e w5 ⟨rfl, hb5⟩
  go_wp2_with (first | (go_at_call 16; refine (right_any _ _ _ _).mono ?_; rintro e w' ⟨rfl, rfl⟩))
  go_ret
  exact ⟨rfl, below_then B3 hb5⟩

set_option maxHeartbeats 4000000 in
theorem walk_big_big (A : Option Addr) (n cap : Nat) (l : List Nat) (W : Nat) (A' : Option Addr) (n' cap' : Nat) (ln : List Nat) (S : Nat) (w : World) (g : Rd .u8 w A n l) (hf : Fit 256 l) (hc : n ≤ cap) (hm : cap ≤ maxLen) (g' : Rd .u32 w A' n' ln) (hf' : Fit 4294967296 ln) (h0 : n ≤ 1200) (h0' : n' ≤ 300) (h1 : 1 ≤ W) (h2 : W ≤ 256) (hv : 4294967296 ^ W ≤ vbe l) (q : okW n' = true) (k1 : S ≤ 1024) (hx : 256 ^ S ≤ val 4294967296 ln) :
    Calls Tryd.prog 3 #[.slice A n cap, .int .i64 (W : Int), .slice A' n' cap', .int .i64 (S : Int)] w fun e w' => e = .returned (.bool true) ∧ Below w.heap.size w w' := by
  have HR := Lib.hid g
  have HR' := Lib.hid g'
  have HM := Lib.hid hm
  have HV := Lib.hid hv
  have i1 : (1 : Int) ≤ W := by omega
  have i2 : (W : Int) ≤ 256 := by omega
  have HX := Lib.hid hx
  have OK := Lib.hid (okW_of q)
  have j2 : (S : Int) ≤ 1024 := by omega
  clear g g' hm hv hx
  go_enter Tryd.func3, Tryd.ntmps3
  go_wp2_with fail
  refine (anchor_any _).mono ?_
  rintro e w1 ⟨rfl, hb1⟩
  go_wp2_with fail
  refine (From_big A n cap l W w1 (HR.out.below hb1) hf hc HM.out (by omega) h1 h2 HV.out).mono ?_
  rintro e w2 ⟨rfl, rfl⟩
  have B2 := hb1
  go_wp2_with fail
  refine (Low_any A n cap l w1 (HR.out.below B2) hf (by omega)).mono ?_
  rintro e w3 ⟨A3, m3, c3, rfl, hr3, _, _, hb3⟩
  have B3 := below_then B2 hb3
  have m3b : (4 : Int) * W < m3 := by
    have : ¬ (digs (vbe l)).length ≤ 4 * W := fun h => by have := (digs_len _ _).1 h; rw [pow256_32] at this; have := HV.out; omega
    rw [hr3.1] at this
    omega
  clear hr3 hb3 B2
  go_wp2_with fail
  refine (Bytes_big A' n' cap' ln S w3 (HR'.out.below B3) hf' OK.out.1 OK.out.2 k1 HX.out).mono ?_
  rintro e w5 ⟨rfl, hb5⟩
  have B5 := below_then B3 hb5
  clear hb5 B3
  go_wp2_with (first | (go_at_call 16; refine (right_any _ _ _ _).mono ?_; rintro e w' ⟨rfl, rfl⟩) | fail)
  refine (Digits_any A' n' cap' ln w5 (HR'.out.below B5) hf' (by omega)).mono ?_
  rintro e w6 ⟨A6, m6, c6, rfl, hr6, _, _, hb6⟩
  have m6b : (S : Int) < m6 := by
    have : ¬ (digs (val 4294967296 ln)).length ≤ S := fun h => by have := (digs_len _ _).1 h; have := HX.out; omega
    rw [hr6.1] at this
    omega
  clear hr6
  go_wp2
  go_ret
  exact ⟨rfl, below_then B5 hb6⟩

set_option maxHeartbeats 4000000 in
theorem walk_big_ok (A : Option Addr) (n cap : Nat) (l : List Nat) (W : Nat) (A' : Option Addr) (n' cap' : Nat) (ln : List Nat) (S : Nat) (w : World) (g : Rd .u8 w A n l) (hf : Fit 256 l) (hc : n ≤ cap) (hm : cap ≤ maxLen) (g' : Rd .u32 w A' n' ln) (hf' : Fit 4294967296 ln) (h0 : n ≤ 1200) (h0' : n' ≤ 300) (h1 : 1 ≤ W) (h2 : W ≤ 256) (hv : 4294967296 ^ W ≤ vbe l) (q : okW n' = true) (k1 : S ≤ 1024) (hx : val 4294967296 ln < 256 ^ S) :
    Calls Tryd.prog 3 #[.slice A n cap, .int .i64 (W : Int), .slice A' n' cap', .int .i64 (S : Int)] w fun e w' => e = .returned (.bool true) ∧ Below w.heap.size w w' := by
  have HR := Lib.hid g
  have HR' := Lib.hid g'
  have HM := Lib.hid hm
  have HV := Lib.hid hv
  have i1 : (1 : Int) ≤ W := by omega
  have i2 : (W : Int) ≤ 256 := by omega
  have HX := Lib.hid hx
  have OK := Lib.hid (okW_of q)
  have j2 : (S : Int) ≤ 1024 := by omega
  clear g g' hm hv hx
  go_enter Tryd.func3, Tryd.ntmps3
  go_wp2_with fail
  refine (anchor_any _).mono ?_
  rintro e w1 ⟨rfl, hb1⟩
  go_wp2_with fail
  refine (From_big A n cap l W w1 (HR.out.below hb1) hf hc HM.out (by omega) h1 h2 HV.out).mono ?_
  rintro e w2 ⟨rfl, rfl⟩
  have B2 := hb1
  go_wp2_with fail
  refine (Low_any A n cap l w1 (HR.out.below B2) hf (by omega)).mono ?_
  rintro e w3 ⟨A3, m3, c3, rfl, hr3, _, _, hb3⟩
  have B3 := below_then B2 hb3
  have m3b : (4 : Int) * W < m3 := by
    have : ¬ (digs (vbe l)).length ≤ 4 * W := fun h => by have := (digs_len _ _).1 h; rw [pow256_32] at this; have := HV.out; omega
    rw [hr3.1] at this
    omega
  clear hr3 hb3 B2
  go_wp2_with fail
  refine (Bytes_ok A' n' cap' ln S w3 (HR'.out.below B3) hf' OK.out.1 OK.out.2 k1 HX.out).mono ?_
  rintro e w5 ⟨g5, rfl, hk5, hb5⟩
  have B5 := below_then B3 hb5
  have HP5 := Lib.hid (hk5.rd S (bytesOf_length _ _))
  clear hk5 hb5 B3
  go_wp2_with (first | (go_at_call 16; refine (right_any _ _ _ _).mono ?_; rintro e w' ⟨rfl, rfl⟩) | fail)
  refine (Digits_any A' n' cap' ln w5 (HR'.out.below B5) hf' (by omega)).mono ?_
  rintro e w6 ⟨A6, m6, c6, rfl, hr6, _, _, hb6⟩
  have B6 := below_then B5 hb6
  have hl6 : (digs (val 4294967296 ln)).length ≤ S := (digs_len _ _).2 HX.out
  have m6b : m6 ≤ S := by rw [← hr6.1]; exact hl6
  have hhb := high_bytes hl6
  rw [hr6.1] at hhb
  have HR6 := Lib.hid hr6
  have HP6 : Hid (Rd .u8 w6.drew (some ⟨g5, 0, none⟩) S (bytesOf S (val 4294967296 ln))) := HP5.out.below (below_drew1 hb6)
  have HHB := Lib.hid hhb
  have hd6 : Hid (Rd .i64 w6.drew A6 m6 (digs (val 4294967296 ln))) := HR6.out
  have cv0 := rd_str HP6.out S
  have B6d : Hid (Below w.heap.size w w6.drew) := below_drew1 B6
  clear hr6 hb6 B5 hl6 hhb HP5
  go_wp2
  go_region_law (first
    | (go_simp; go_at_call 18; refine (High_any A6 m6 c6 _ S w6.drew hd6.out (digs_fit _) (by omega) m6b).mono ?_; rintro e w7 ⟨g7, rfl, hk7, hb7⟩; rw [HHB.out] at hk7; have cv1 := rd_str (HP6.out.below hb7) S; have cv2 := rd_str (hk7.rd S (bytesOf_length _ _)) S))
  all_goals
    have B7 := below_then B6d.out hb7
    clear cv1 cv2 hk7 hb7
    go_wp2
    go_ret
    exact ⟨rfl, B7⟩
end Go.Proofs.YtbajckbjjepceaaDoor.limbsBytes
