/-
  For every two numbers and every two texts SealTexts returns true. No condition but that six tables hold what their text lays there: the code's own four, which the sums are made with, and two of Go's library, which the call does not read.
-/
import Derived.Test.YtppoikamenbckaaGreatDoorF7
import Derived.Test.YtppoikamenbckaaGreatDoorTie
import Derived.Test.YtppoikamenbckaaGreatDoorCards
namespace Go.Proofs.YtppoikamenbckaaGreatDoor.sealTexts
open Go.Proofs.YtppoikamenbckaaGreatDoor Go.ChangeShapes Go.WideShapes Go.ChangeAt Go.RowKit
set_option linter.unusedVariables false
set_option linter.unusedSimpArgs false

set_option maxRecDepth 100000 in
set_option maxHeartbeats 1000000 in
theorem walk_g0 (y z : Int) (A : Option Addr) (n cap : Nat) (Ao : Option Addr) (m co : Nat) (w : World) (ht : Both w) (g0 : y < 0) :
    Calls Tryz.prog 5 #[.int .i64 y, .int .i64 z, .slice A n cap, .slice Ao m co] w fun e w' => e = .returned (.bool true) ∧ Below w.heap.size w w' := by
  have HT := Lib.hid ht
  clear ht
  go_enter Tryz.func5, Tryz.ntmps5
  go_wp2_with fail
  refine (anchor_any w HT.out).mono ?_
  rintro e w1 ⟨rfl, hb1⟩
  go_wp2
  go_ret
  exact ⟨rfl, hb1⟩

set_option maxRecDepth 100000 in
set_option maxHeartbeats 1000000 in
theorem walk_g1 (y z : Int) (A : Option Addr) (n cap : Nat) (Ao : Option Addr) (m co : Nat) (w : World) (ht : Both w) (g0 : ¬ y < 0) (g1 : 2 < y) :
    Calls Tryz.prog 5 #[.int .i64 y, .int .i64 z, .slice A n cap, .slice Ao m co] w fun e w' => e = .returned (.bool true) ∧ Below w.heap.size w w' := by
  have HT := Lib.hid ht
  clear ht
  go_enter Tryz.func5, Tryz.ntmps5
  go_wp2_with fail
  refine (anchor_any w HT.out).mono ?_
  rintro e w1 ⟨rfl, hb1⟩
  go_wp2
  go_ret
  exact ⟨rfl, hb1⟩

set_option maxRecDepth 100000 in
set_option maxHeartbeats 1000000 in
theorem walk_g2 (y z : Int) (A : Option Addr) (n cap : Nat) (Ao : Option Addr) (m co : Nat) (w : World) (ht : Both w) (g0 : ¬ y < 0) (g1 : ¬ 2 < y) (g2 : (500 : Int) < n) :
    Calls Tryz.prog 5 #[.int .i64 y, .int .i64 z, .slice A n cap, .slice Ao m co] w fun e w' => e = .returned (.bool true) ∧ Below w.heap.size w w' := by
  have HT := Lib.hid ht
  clear ht
  go_enter Tryz.func5, Tryz.ntmps5
  go_wp2_with fail
  refine (anchor_any w HT.out).mono ?_
  rintro e w1 ⟨rfl, hb1⟩
  go_wp2
  go_ret
  exact ⟨rfl, hb1⟩

set_option maxRecDepth 100000 in
set_option maxHeartbeats 1000000 in
theorem walk_g3 (y z : Int) (A : Option Addr) (n cap : Nat) (Ao : Option Addr) (m co : Nat) (w : World) (ht : Both w) (g0 : ¬ y < 0) (g1 : ¬ 2 < y) (g2 : ¬ (500 : Int) < n) (g3 : (500 : Int) < m) :
    Calls Tryz.prog 5 #[.int .i64 y, .int .i64 z, .slice A n cap, .slice Ao m co] w fun e w' => e = .returned (.bool true) ∧ Below w.heap.size w w' := by
  have HT := Lib.hid ht
  clear ht
  go_enter Tryz.func5, Tryz.ntmps5
  go_wp2_with fail
  refine (anchor_any w HT.out).mono ?_
  rintro e w1 ⟨rfl, hb1⟩
  go_wp2
  go_ret
  exact ⟨rfl, hb1⟩

set_option maxRecDepth 100000 in
set_option maxHeartbeats 1000000 in
theorem walk_alg (y k N D : Nat) (hF : Fixed y k N D) (hy : y ≤ 2) (z : Int) (A : Option Addr) (n cap : Nat) (Ao : Option Addr) (m co : Nat) (w : World) (ht : Both w) (h1 : ¬ (500 : Int) < n) (h2 : ¬ (500 : Int) < m) (z1 : z ≠ 1) (z2 : z ≠ 2) :
    Calls Tryz.prog 5 #[.int .i64 (y : Int), .int .i64 z, .slice A n cap, .slice Ao m co] w fun e w' => e = .returned (.bool true) ∧ Below w.heap.size w w' := by
  have HF := Lib.hid hF
  have k1 := hF.k1
  have k2 := hF.k2
  have y0 : ¬ (y : Int) < 0 := by omega
  have y1 : ¬ (2 : Int) < y := by omega
  clear hF hy
  have HT := Lib.hid ht
  clear ht
  go_enter Tryz.func5, Tryz.ntmps5
  go_wp2_with fail
  refine (anchor_any w HT.out).mono ?_
  rintro e w1 ⟨rfl, hb1⟩
  go_wp2_with fail
  refine (HF.out.mo w1).mono ?_
  rintro e w2 ⟨Am, cm, rfl, hrow2, hb2⟩
  have HM := Lib.hid hrow2.rd
  have hcm := hrow2.le.1
  have hmm := hrow2.le.2
  have bel2 := below_then hb1 hb2
  clear hrow2
  go_wp2_with fail
  refine (HF.out.se w2).mono ?_
  rintro e w3 ⟨Ad, cd, rfl, hrow3, hb3⟩
  have HD := Lib.hid hrow3.rd
  have hcd := hrow3.le.1
  have hmd := hrow3.le.2
  have bel3 := below_then bel2 hb3
  clear hrow3
  go_wp2_with fail
  refine (Sign_alg z z1 z2 _ _ _ _ _ _ _ _ _ _).mono ?_
  rintro e w4 ⟨rfl, hb4⟩
  have bel4 := below_then bel3 hb4
  have HM4 := Lib.hid ((HM.out.below hb3).below hb4)
  clear HM HD hb3 hb2
  go_wp2_with fail
  refine (Make_ok Am k cm _ w4 HM4.out (bytesOf_fit _ _) hcm hmm HF.out.modul).mono ?_
  rintro e w5 ⟨gk, gm, rfl, ⟨ck, gr, hK⟩, hgm, hb5⟩
  rw [HF.out.vn] at hK
  have HK := Lib.hid hK
  have bel5 := below_then bel4 hb5
  clear hK hgm
  go_wp2
  go_ret
  exact ⟨rfl, bel5⟩

set_option maxRecDepth 100000 in
set_option maxHeartbeats 1000000 in
theorem walk_bits (y k N D : Nat) (hF : Fixed y k N D) (hy : y ≤ 2) (z : Nat) (hz : z = 1 ∨ z = 2) (s : Nat) (hs : sizeOfAlg z = s) (A : Option Addr) (n cap : Nat) (Ao : Option Addr) (m co : Nat) (w : World) (ht : Both w) (h1 : ¬ (500 : Int) < n) (h2 : ¬ (500 : Int) < m) (l lo : List Nat) (h : Rd .u8 w A n l) (hf : Fit 256 l) (hcn : n ≤ cap) (hnil : A = none → cap = 0) (hro : Rd .u8 w Ao m lo) (hfo : Fit 256 lo) (hco : m ≤ co) (hno : Ao = none → co = 0) (hk : k < 30 + s) :
    Calls Tryz.prog 5 #[.int .i64 (y : Int), .int .i64 (z : Int), .slice A n cap, .slice Ao m co] w fun e w' => e = .returned (.bool true) ∧ Below w.heap.size w w' := by
  have HZ := Lib.hid hz
  have HS := Lib.hid hs
  have HR := Lib.hid h
  have HRO := Lib.hid hro
  clear hz hs h hro
  have HF := Lib.hid hF
  have k1 := hF.k1
  have k2 := hF.k2
  have y0 : ¬ (y : Int) < 0 := by omega
  have y1 : ¬ (2 : Int) < y := by omega
  clear hF hy
  have HT := Lib.hid ht
  clear ht
  go_enter Tryz.func5, Tryz.ntmps5
  go_wp2_with fail
  refine (anchor_any w HT.out).mono ?_
  rintro e w1 ⟨rfl, hb1⟩
  go_wp2_with fail
  refine (HF.out.mo w1).mono ?_
  rintro e w2 ⟨Am, cm, rfl, hrow2, hb2⟩
  have HM := Lib.hid hrow2.rd
  have hcm := hrow2.le.1
  have hmm := hrow2.le.2
  have bel2 := below_then hb1 hb2
  clear hrow2
  go_wp2_with fail
  refine (HF.out.se w2).mono ?_
  rintro e w3 ⟨Ad, cd, rfl, hrow3, hb3⟩
  have HD := Lib.hid hrow3.rd
  have hcd := hrow3.le.1
  have hmd := hrow3.le.2
  have bel3 := below_then bel2 hb3
  clear hrow3
  go_wp2_with fail
  refine (Sign_bits z HZ.out s HS.out Am k cm _ Ad k cd A n cap l w3 (HM.out.below hb3) (bytesOf_fit _ _) hcm hmm HF.out.modul (HR.out.below bel3) hf hcn (by omega) (HT.out.below bel3) hk).mono ?_
  rintro e w4 ⟨rfl, hb4⟩
  have bel4 := below_then bel3 hb4
  have HM4 := Lib.hid ((HM.out.below hb3).below hb4)
  clear HM HD hb3 hb2
  go_wp2_with fail
  refine (Make_ok Am k cm _ w4 HM4.out (bytesOf_fit _ _) hcm hmm HF.out.modul).mono ?_
  rintro e w5 ⟨gk, gm, rfl, ⟨ck, gr, hK⟩, hgm, hb5⟩
  rw [HF.out.vn] at hK
  have HK := Lib.hid hK
  have bel5 := below_then bel4 hb5
  clear hK hgm
  go_wp2
  go_ret
  exact ⟨rfl, bel5⟩

/-- The document's Digest without a salt, by either algorithm. -/
theorem RefDig0 (z : Nat) (hz : z = 1 ∨ z = 2) (s : Nat) (hs : sizeOfAlg z = s) (At : Option Addr) (m c2 : Nat) (lt : List Nat) (w : World) (ht : Rd .u8 w At m lt) (hft : Fit 256 lt) (hnilt : At = none → c2 = 0) (hm : m ≤ 10000) :
    Calls Tryz.prog 12 #[.int .i64 (z : Int), .slice none 0 0, .slice At m c2] w (GivesRd w s (sumOf z lt)) := by
  rcases hz with rfl | rfl
  · obtain rfl : 32 = s := hs
    exact RefDigest_1 none 0 0 [] At m c2 lt w (Rd.nil _ _ _) (Fit.nil _) (fun _ => rfl) (by omega) ht hft hnilt hm
  · obtain rfl : 64 = s := hs
    exact RefDigest_2 2 (by omega) none 0 0 [] At m c2 lt w (Rd.nil _ _ _) (Fit.nil _) (fun _ => rfl) (by omega) ht hft hnilt hm
theorem cf_12 (v0 v1 v2 : Value) (w : World) : (callFunc 12 #[v0, v1, v2]).run Tryz.prog w = .ok (.enter 12 #[v0, v1, v2]) w := by kernel_rfl
set_option maxRecDepth 100000 in
set_option maxHeartbeats 1000000 in
theorem walk_ok (y k N D : Nat) (hF : Fixed y k N D) (hy : y ≤ 2) (z : Nat) (hz : z = 1 ∨ z = 2) (s : Nat) (hs : sizeOfAlg z = s) (A : Option Addr) (n cap : Nat) (Ao : Option Addr) (m co : Nat) (w : World) (ht : Both w) (h1 : ¬ (500 : Int) < n) (h2 : ¬ (500 : Int) < m) (l lo : List Nat) (h : Rd .u8 w A n l) (hf : Fit 256 l) (hcn : n ≤ cap) (hnil : A = none → cap = 0) (hro : Rd .u8 w Ao m lo) (hfo : Fit 256 lo) (hco : m ≤ co) (hno : Ao = none → co = 0) (hk0 : 30 + s ≤ k) :
    Calls Tryz.prog 5 #[.int .i64 (y : Int), .int .i64 (z : Int), .slice A n cap, .slice Ao m co] w fun e w' => e = .returned (.bool true) ∧ Below w.heap.size w w' := by
  have HZ := Lib.hid hz
  have HS := Lib.hid hs
  have HR := Lib.hid h
  have HRO := Lib.hid hro
  clear hz hs h hro
  have HF := Lib.hid hF
  have k1 := hF.k1
  have k2 := hF.k2
  have y0 : ¬ (y : Int) < 0 := by omega
  have y1 : ¬ (2 : Int) < y := by omega
  clear hF hy
  have HT := Lib.hid ht
  clear ht
  go_enter Tryz.func5, Tryz.ntmps5
  go_wp2_with fail
  refine (anchor_any w HT.out).mono ?_
  rintro e w1 ⟨rfl, hb1⟩
  go_wp2_with fail
  refine (HF.out.mo w1).mono ?_
  rintro e w2 ⟨Am, cm, rfl, hrow2, hb2⟩
  have HM := Lib.hid hrow2.rd
  have hcm := hrow2.le.1
  have hmm := hrow2.le.2
  have bel2 := below_then hb1 hb2
  clear hrow2
  go_wp2_with fail
  refine (HF.out.se w2).mono ?_
  rintro e w3 ⟨Ad, cd, rfl, hrow3, hb3⟩
  have HD := Lib.hid hrow3.rd
  have hcd := hrow3.le.1
  have hmd := hrow3.le.2
  have bel3 := below_then bel2 hb3
  clear hrow3
  go_wp2_with fail
  refine (Sign_ok z HZ.out s HS.out Am k cm _ Ad k cd _ A n cap l w3 (HM.out.below hb3) (bytesOf_fit _ _) hcm hmm HF.out.modul HD.out (bytesOf_fit _ _) hcd hmd (by omega) (HR.out.below bel3) hf hcn (by omega) (HT.out.below bel3) hk0).mono ?_
  rw [HF.out.vn, HF.out.vd]
  rintro e w4 ⟨g4, rfl, hg4, hB4, hb4⟩
  have HB4 : Hid (Rd .u8 w4 (some ⟨g4, 0, none⟩) k (bytesOf k (sigOf k N D z l))) := hB4.rd k (bytesOf_length _ _)
  clear hB4 hg4
  have bel4 := below_then bel3 hb4
  have HM4 := Lib.hid ((HM.out.below hb3).below hb4)
  clear HM HD hb3 hb2
  go_wp2_with fail
  refine (Make_ok Am k cm _ w4 HM4.out (bytesOf_fit _ _) hcm hmm HF.out.modul).mono ?_
  rintro e w5 ⟨gk, gm, rfl, ⟨ck, gr, hK⟩, hgm, hb5⟩
  rw [HF.out.vn] at hK
  have HK := Lib.hid hK
  have bel5 := below_then bel4 hb5
  clear hK hgm
  have HR5 := Lib.hid (HR.out.below bel5)
  have HRO5 := Lib.hid (HRO.out.below bel5)
  have HT5 := Lib.hid (HT.out.below bel5)
  have HBEL5 := Lib.hid bel5
  clear bel2 bel3 bel4 bel5 hb1 hb4 HM4 HR HRO HT
  go_wp2
  rename_i hKx
  refine wp_region_eachS (by kernel_rfl) (by kernel_rfl) (fun iX v w => match iX with
      | 0 => v = .int .i64 (z : Int)
      | 1 => v = .slice A n cap
      | 2 => VRo s (sumOf z l) v w
      | 3 => v = .string (str (sumOf z l))
      | 4 => v = .int .i64 (z : Int)
      | 5 => v = .slice Ao m co
      | 6 => VRo s (sumOf z lo) v w
      | 7 => v = .string (str (sumOf z lo))
      | 8 => v = .bool (decide (sumOf z l = sumOf z lo))
      | 9 => v = .bool (decide (sumOf z l = sumOf z lo))
      | _ => True) (Since w5) (Like w5.heap.size) ?m1 (fun _ _ h1 h2 => h1.like h2) (Since.start w5) ?m2 ?m3
  case m1 =>
    intro iX v w w' h hr hb
    rcases iX with _ | _ | _ | _ | _ | _ | _ | _ | _ | _ | iX
    · exact h
    · exact h
    · exact h.like hb
    · exact h
    · exact h
    · exact h
    · exact h.like hb
    · exact h
    · exact h
    · exact h
    · trivial
  case m2 =>
    intro iX o ho a w hr hk hpre K hK
    have e1 : a.tmps.getD 1 undef = .int .i64 (z : Int) := hk.slot 1 (by simp)
    have e2 : a.tmps.getD 2 undef = .slice A n cap := hk.slot 2 (by simp)
    have e3 : a.tmps.getD 3 undef = .slice Ao m co := hk.slot 3 (by simp)
    rcases iX with _ | _ | _ | _ | _ | _ | _ | _ | _ | _ | iX
    · obtain rfl := Option.some.inj ho
      exact st_move (.tmp 1) rfl (want_none rfl) _ e1 (hK _ _ rfl (Like.refl _ _))
    · obtain rfl := Option.some.inj ho
      exact st_move (.tmp 2) rfl (want_none rfl) _ e2 (hK _ _ rfl (Like.refl _ _))
    · obtain rfl := Option.some.inj ho
      have hx0 : a.eval (.tmp 57) = .int .i64 (z : Int) := (hpre 0 _ 57 rfl rfl ⟨⟨0, .data⟩, by simp, rfl, rfl⟩)
      have hx1 : a.eval (.const (.slice none 0 0)) = (.slice none 0 0) := rfl
      have hx2 : a.eval (.tmp 58) = .slice A n cap := (hpre 1 _ 58 rfl rfl ⟨⟨1, .data⟩, by simp, rfl, rfl⟩)
      exact st_callN 12 #[.tmp 57, .const (.slice none 0 0), .tmp 58] #[3, 22, 22] rfl (want_none rfl) _ (by simp only [List.map_toArray, List.map_cons, List.map_nil, hx0, hx1, hx2]) (cf_12 _ _ _ _) _ (RefDig0 z HZ.out s HS.out A n cap l w (HR5.out.below hr.1) hf hnil (by omega)) (fun e w' ⟨_, _, he, hrd, hb⟩ => ⟨_, he, hK _ _ ⟨_, _, rfl, hrd⟩ (Like.of_below hb hr.2)⟩)
    · obtain rfl := Option.some.inj ho
      obtain ⟨A, c, eg, hs⟩ := (hpre 2 _ 59 rfl rfl ⟨⟨2, .data⟩, by simp, rfl, rfl⟩)
      exact st_conv (.tmp 59) rfl (want_none rfl) _ _ _ _ eg hs (hK _ _ rfl (Like.refl _ _))
    · obtain rfl := Option.some.inj ho
      exact st_move (.tmp 1) rfl (want_none rfl) _ e1 (hK _ _ rfl (Like.refl _ _))
    · obtain rfl := Option.some.inj ho
      exact st_move (.tmp 3) rfl (want_none rfl) _ e3 (hK _ _ rfl (Like.refl _ _))
    · obtain rfl := Option.some.inj ho
      have hx0 : a.eval (.tmp 61) = .int .i64 (z : Int) := (hpre 4 _ 61 rfl rfl ⟨⟨4, .data⟩, by simp, rfl, rfl⟩)
      have hx1 : a.eval (.const (.slice none 0 0)) = (.slice none 0 0) := rfl
      have hx2 : a.eval (.tmp 62) = .slice Ao m co := (hpre 5 _ 62 rfl rfl ⟨⟨5, .data⟩, by simp, rfl, rfl⟩)
      exact st_callN 12 #[.tmp 61, .const (.slice none 0 0), .tmp 62] #[3, 22, 22] rfl (want_none rfl) _ (by simp only [List.map_toArray, List.map_cons, List.map_nil, hx0, hx1, hx2]) (cf_12 _ _ _ _) _ (RefDig0 z HZ.out s HS.out Ao m co lo w (HRO5.out.below hr.1) hfo hno (by omega)) (fun e w' ⟨_, _, he, hrd, hb⟩ => ⟨_, he, hK _ _ ⟨_, _, rfl, hrd⟩ (Like.of_below hb hr.2)⟩)
    · obtain rfl := Option.some.inj ho
      obtain ⟨A, c, eg, hs⟩ := (hpre 6 _ 63 rfl rfl ⟨⟨6, .data⟩, by simp, rfl, rfl⟩)
      exact st_conv (.tmp 63) rfl (want_none rfl) _ _ _ _ eg hs (hK _ _ rfl (Like.refl _ _))
    · obtain rfl := Option.some.inj ho
      exact st_eqlStrB (.tmp 60) (.tmp 64) rfl (want_none rfl) _ _ (sumOf_fit _ _) (sumOf_fit _ _) (hpre 3 _ 60 rfl rfl ⟨⟨3, .data⟩, by simp, rfl, rfl⟩) (hpre 7 _ 64 rfl rfl ⟨⟨7, .data⟩, by simp, rfl, rfl⟩) (hK _ _ rfl (Like.refl _ _))
    · obtain rfl := Option.some.inj ho
      exact st_assign (.tmp 65) rfl (want_none rfl) _ (hpre 8 _ 65 rfl rfl ⟨⟨8, .data⟩, by simp, rfl, rfl⟩) (hK _ _ rfl (Like.refl _ _))
    · cases ho
  case m3 =>
    intro a w hr hk hv
    have h14 := hv 9 _ 14 rfl rfl
    have hfr := keeps_frameP (fun s => decide (s = 14 ∨ (57 ≤ s ∧ s ≤ 65))) hk (by simp)
    refine hKx a w ?_
    rw [hfr]
    generalize hff : (fun s => a.tmps.getD s undef) = ff
    have hf14 : ff 14 = .bool (decide (sumOf z l = sumOf z lo)) := by rw [← hff]; exact h14
    simp only [mixP, hf14, decide_eq_true_eq, Nat.reduceAdd, Nat.reduceLeDiff, Nat.reduceEqDiff, false_or, true_or, or_false, or_true, and_true, and_false, true_and, false_and, and_self, if_true, if_false, Nat.zero_le]
    have hb6 := hr.1
    have bel6 := below_then HBEL5.out hb6
    obtain ⟨bb, hbb⟩ : ∃ bb, decide (sumOf z l = sumOf z lo) = bb := ⟨_, rfl⟩
    rw [hbb]
    have HBB := Lib.hid hbb
    clear hfr hff h14 hf14 hv hk hr hKx hbb
    have HOP : Hid ((((if bb = true then (0 : Int) else 23) = 0) ∧ Opens k N (bytesOf k (sigOf k N D z l)) (blockOf z (sumOf z lo) k)) ∨ (((if bb = true then (0 : Int) else 23) = 23) ∧ ¬ Opens k N (bytesOf k (sigOf k N D z l)) (blockOf z (sumOf z lo) k))) := by
      show _ ∨ _
      rw [HF.out.opens HZ.out HS.out hk0 l lo, ← HBB.out]
      by_cases hq : sumOf z l = sumOf z lo
      · simp [hq]
      · simp [hq]
    go_wp2_with fail
    refine (Verify_any z HZ.out s HS.out gk k N gm ck gr Ao m co lo _ k k _ w (HK.out.below hb6) (HRO5.out.below hb6) hfo hco (by omega) ((HB4.out.below hb5).below hb6) (bytesOf_fit _ _) (Nat.le_refl _) (by unfold maxLen; omega) (HT5.out.below hb6) hk0 _ HOP.out).mono ?_
    rintro e w7 ⟨rfl, hb7⟩
    have bel7 := below_then bel6 hb7
    cases bb
    · go_wp2
      go_ret
      exact ⟨rfl, bel7⟩
    · go_wp2
      go_ret
      exact ⟨rfl, bel7⟩

theorem walk (y z : Int) (A : Option Addr) (n cap : Nat) (l : List Nat) (Ao : Option Addr) (m co : Nat) (lo : List Nat) (w : World) (_ : (Lit.int .i64 y).wf = true) (_ : (Lit.int .i64 z).wf = true) (h : Rd .u8 w A n l) (hf : Fit 256 l) (hcn : n ≤ cap) (hmn : cap ≤ maxLen) (hnil : A = none → cap = 0) (hro : Rd .u8 w Ao m lo) (hfo : Fit 256 lo) (hco : m ≤ co) (hmo : co ≤ maxLen) (hno : Ao = none → co = 0) (ht : Both w) :
    Calls Tryz.prog 5 #[.int .i64 y, .int .i64 z, .slice A n cap, .slice Ao m co] w fun e w' => e = .returned (.bool true) ∧ Below w.heap.size w w' := by
  by_cases g0 : y < 0
  · exact walk_g0 y z A n cap Ao m co w ht g0
  by_cases g1 : 2 < y
  · exact walk_g1 y z A n cap Ao m co w ht g0 g1
  by_cases g2 : 500 < n
  · exact walk_g2 y z A n cap Ao m co w ht g0 g1 (by omega)
  by_cases g3 : 500 < m
  · exact walk_g3 y z A n cap Ao m co w ht g0 g1 (by omega) (by omega)
  obtain ⟨x, rfl⟩ : ∃ x : Nat, y = (x : Int) := ⟨y.toNat, by omega⟩
  obtain ⟨k, N, D, hF⟩ := fixed_of (z := x) (by omega)
  by_cases z1 : z = 1 ∨ z = 2
  · obtain ⟨q, rfl, hq⟩ : ∃ q : Nat, z = (q : Int) ∧ (q = 1 ∨ q = 2) := ⟨z.toNat, by omega, by omega⟩
    by_cases hk : k < 30 + sizeOfAlg q
    · exact walk_bits x k N D hF (by omega) q hq _ rfl A n cap Ao m co w ht (by omega) (by omega) l lo h hf hcn hnil hro hfo hco hno hk
    · exact walk_ok x k N D hF (by omega) q hq _ rfl A n cap Ao m co w ht (by omega) (by omega) l lo h hf hcn hnil hro hfo hco hno (by omega)
  · exact walk_alg x k N D hF (by omega) z A n cap Ao m co w ht (by omega) (by omega) (fun e => z1 (.inl e)) (fun e => z1 (.inr e))

-- THE ROW's STEP
set_option maxRecDepth 100000 in
theorem lifted (os : Os) (started : os.Started) (H : Type) (enc : TypeId × Value → H) :
    ReturnsInHanded {} Tryz.checked os 5 .any (fun w args => (Rows.sealTextsSpec.pre enc Tryz.prog Tryz.f5 [] false w args ∧ laidMetH Tryz.prog listed w) ∧ sizedMet enc Tryz.prog Tryz.f5 (OpenSpec.ofChange Rows.sealTextsSpec) false w args)
      (Rows.sealTextsSpec.post enc Tryz.prog Tryz.f5 false true false false) := by
  refine returnsInHanded_of_change_and (C := Tryz.checked) (X := fun w _ => laidMetH Tryz.prog listed w) (fun _ _ _ hh h => h.of_heap hh) own started (by kernel_rfl) Tryz.func5
    (ChangeSpec.witness_shaped (enc := enc) (C := Tryz.checked) (os := os) (X := fun w _ => laidMetH Tryz.prog listed w) false (World.laidAll Tryz.prog os listed) #[.int .i64 0, .int .i64 0, .slice none 0 0, .slice none 0 0] 8 (World.laidAll_os _ _ _)
      (World.shaped_of_ZipB (by kernel_rfl) (by kernel_rfl)) (by kernel_rfl) (by kernel_rfl) (by kernel_rfl)
      (by rw [MakeChecks.laidMetH_plain _ _ _ (by kernel_rfl)]; exact laidMet_laidAll _ (by kernel_rfl) (by kernel_rfl))) ?_
  intro W base args ds gs before hval0 hW _ _ hL _
  have hval : ∀ (j : Nat) t v, Tryz.f5.params[j]? = some t → args[j]? = some v → Value.okWide Tryz.prog W .any base t v := hval0
  have hW' := hW
  obtain ⟨p, q, hA0, hV, rfl, hfz, hnd⟩ := hW
  have hA : DataW.TrodAll enc Tryz.prog W 0 (fun _ => true) true Tryz.f5.params.toList args.toList ds p := hA0
  rw [Tryz.params5] at hA hval
  obtain ⟨v0, vs0, d0, ds0, p0, q0, hargs, rfl, rfl, h0, r0⟩ := trodAll_cons hA
  obtain ⟨v1, vs1, d1, ds1, p1, q1, rfl, rfl, rfl, h1, r1⟩ := trodAll_cons r0
  obtain ⟨v2, vs2, d2, ds2, p2, q2, rfl, rfl, rfl, h2, r2⟩ := trodAll_cons r1
  obtain ⟨v3, vs3, d3, ds3, p3, q3, rfl, rfl, rfl, h3, r3⟩ := trodAll_cons r2
  obtain ⟨rfl, rfl, rfl⟩ := trodAll_nil r3
  obtain rfl : args = #[v0, v1, v2, v3] := by cases args; simp_all
  obtain ⟨rfl, rfl⟩ := trodVars_none hV
  obtain ⟨a0, rfl, rfl, rfl, w0⟩ := open_int Tryz.underlying3 (hval 0 3 v0 rfl rfl) h0
  obtain ⟨a1, rfl, rfl, rfl, w1⟩ := open_int Tryz.underlying3 (hval 1 3 v1 rfl rfl) h1
  have k2 := h2
  have lt2 : ∀ x ∈ p2, x.block < W.heap.size := by obtain ⟨m, hm⟩ := k2; exact DataW.trod_lt m _ _ _ hm
  obtain ⟨fuel2, hf2⟩ := h2
  obtain ⟨a2, len2, cap2, l2, e2, g2, hlc2, hcm2, hnil2⟩ := bytes_of_trod hf2
  obtain ⟨b2, lb2, cb2, hv2⟩ := okWide_slice Tryz.underlying22 (hval 2 22 v2 rfl rfl)
  have ev2 : v2 = .slice a2 len2 cap2 := by rw [hv2] at e2 ⊢; simpa [Value.cells] using e2
  subst ev2
  have k3 := h3
  have lt3 : ∀ x ∈ p3, x.block < W.heap.size := by obtain ⟨m, hm⟩ := k3; exact DataW.trod_lt m _ _ _ hm
  obtain ⟨fuel3, hf3⟩ := h3
  obtain ⟨a3, len3, cap3, l3, e3, g3, hlc3, hcm3, hnil3⟩ := bytes_of_trod hf3
  obtain ⟨b3, lb3, cb3, hv3⟩ := okWide_slice Tryz.underlying22 (hval 3 22 v3 rfl rfl)
  have ev3 : v3 = .slice a3 len3 cap3 := by rw [hv3] at e3 ⊢; simpa [Value.cells] using e3
  subst ev3
  clear hA0 hval0
  refine (walk a0 a1 a2 len2 cap2 l2 a3 len3 cap3 l3 W w0 w1 g2.1 g2.2 hlc2 hcm2 hnil2 g3.1 g3.2 hlc3 hcm3 hnil3 (tabs_of_laid hL)).mono fun e W' ⟨he, bel⟩ => ?_
  subst he
  exact ⟨_, rfl, _, _, _, [], _, [], hW', trodAll_mk1 (shut_bool Tryz.underlying4 _), (trodAll_cons_mk (shut_int Tryz.underlying3 w0) (trodAll_cons_mk (shut_int Tryz.underlying3 w1) (trodAll_cons_mk (Below.trod laidOut (by kernel_rfl) (of_decide_eq_true (by kernel_rfl)) k2 bel lt2) (trodAll_cons_mk (Below.trod laidOut (by kernel_rfl) (of_decide_eq_true (by kernel_rfl)) k3 bel lt3) trodAll_mk0)))), rfl, bel.frame _, fun h => by cases h⟩

theorem row_holds : Rows.SealTextsSaid :=
  OpenClaim.holds_of_wide 5 Tryz.f5 rfl rfl rfl rfl rfl rfl rfl ⟨rfl, rfl, rfl, rfl, rfl⟩ rfl rfl rfl rfl rfl (by kernel_rfl) Tryz.func5 (by kernel_rfl)
    (of_decide_eq_true (by kernel_rfl)) (by unfold Func.isWrapper; first | (rw [if_pos (by decide +kernel)]; kernel_rfl) | (rw [if_neg (by decide +kernel)]; exact ⟨rfl, rfl⟩))
    (fun os started H enc _ => lifted os started H enc)

theorem proved : Rows.SealTextsCardSaid :=
  Claim7.holds_tied_plain_at .later [] [.data, .data, .data, .data, .data, .pinned] true Rows.sealTextsCard.stood.harness false
    row_holds (fun _ h => by cases h) (by kernel_rfl) (fun _ h => by cases h) sealTexts_row_tie rfl ⟨rfl, rfl⟩ (by kernel_rfl) rfl
    (fun f fn hf hfn => by
      obtain rfl : f = 5 := Option.some.inj ((show Tryz.prog.funcNamed Tryz.f5.name = some 5 by kernel_rfl).symm.trans hf) |>.symm
      obtain rfl : fn = Tryz.f5 := (Option.some.inj (Tryz.func5.symm.trans hfn)).symm
      exact ⟨by kernel_rfl, fun j t ht => by
        rw [Tryz.params5] at ht
        have hm : t ∈ [3, 3, 22, 22] := by simpa using Array.mem_of_getElem? ht
        have hall : ([3, 3, 22, 22].all fun u => !Tryz.prog.wantsStandIn u) = true := by kernel_rfl
        exact (show Tryz.prog.wantsStandIn t = false by simpa using List.all_eq_true.1 hall t hm)⟩)
    (by kernel_rfl)
end Go.Proofs.YtppoikamenbckaaGreatDoor.sealTexts
