/-
  For every three texts and every number SealHolds returns true. No condition but that six tables hold what their text lays there: the code's own four, which the sums are made with, and two of Go's library, which the call does not read.
-/
import Derived.Test.YtppoikamenbckaaGreatDoorL7
import Derived.Test.YtppoikamenbckaaGreatDoorQ7
import Derived.Test.YtppoikamenbckaaGreatDoorTie
import Derived.Test.YtppoikamenbckaaGreatDoorCards
namespace Go.Proofs.YtppoikamenbckaaGreatDoor.sealHolds
open Go.Proofs.YtppoikamenbckaaGreatDoor Go.ChangeShapes Go.WideShapes Go.ChangeAt Go.RowKit
set_option linter.unusedVariables false
set_option linter.unusedSimpArgs false

set_option maxRecDepth 100000 in
set_option maxHeartbeats 1000000 in
theorem walk_g0 (A : Option Addr) (n cap : Nat) (z : Int) (At : Option Addr) (nt ct : Nat) (As : Option Addr) (ns cs : Nat) (w : World) (ht : Both w) (h1 : (64 : Int) < n) :
    Calls Tryz.prog 3 #[.slice A n cap, .int .i64 z, .slice At nt ct, .slice As ns cs] w fun e w' => e = .returned (.bool true) ∧ Below w.heap.size w w' := by
  have HT := Lib.hid ht
  clear ht
  go_enter Tryz.func3, Tryz.ntmps3
  go_wp2_with fail
  refine (anchor_any w HT.out).mono ?_
  rintro e w1 ⟨rfl, hb1⟩
  go_wp2
  go_ret
  exact ⟨rfl, hb1⟩

set_option maxRecDepth 100000 in
set_option maxHeartbeats 1000000 in
theorem walk_g1 (A : Option Addr) (n cap : Nat) (z : Int) (At : Option Addr) (nt ct : Nat) (As : Option Addr) (ns cs : Nat) (w : World) (ht : Both w) (h1 : ¬ (64 : Int) < n) (h2 : (500 : Int) < nt) :
    Calls Tryz.prog 3 #[.slice A n cap, .int .i64 z, .slice At nt ct, .slice As ns cs] w fun e w' => e = .returned (.bool true) ∧ Below w.heap.size w w' := by
  have HT := Lib.hid ht
  clear ht
  go_enter Tryz.func3, Tryz.ntmps3
  go_wp2_with fail
  refine (anchor_any w HT.out).mono ?_
  rintro e w1 ⟨rfl, hb1⟩
  go_wp2
  go_ret
  exact ⟨rfl, hb1⟩

set_option maxRecDepth 100000 in
set_option maxHeartbeats 1000000 in
theorem walk_g2 (A : Option Addr) (n cap : Nat) (z : Int) (At : Option Addr) (nt ct : Nat) (As : Option Addr) (ns cs : Nat) (w : World) (ht : Both w) (h1 : ¬ (64 : Int) < n) (h2 : ¬ (500 : Int) < nt) (h3 : (200 : Int) < ns) :
    Calls Tryz.prog 3 #[.slice A n cap, .int .i64 z, .slice At nt ct, .slice As ns cs] w fun e w' => e = .returned (.bool true) ∧ Below w.heap.size w w' := by
  have HT := Lib.hid ht
  clear ht
  go_enter Tryz.func3, Tryz.ntmps3
  go_wp2_with fail
  refine (anchor_any w HT.out).mono ?_
  rintro e w1 ⟨rfl, hb1⟩
  go_wp2
  go_ret
  exact ⟨rfl, hb1⟩

set_option maxRecDepth 100000 in
set_option maxHeartbeats 1000000 in
theorem walk_no (A : Option Addr) (n cap : Nat) (z : Int) (At : Option Addr) (nt ct : Nat) (As : Option Addr) (ns cs : Nat) (w : World) (ht : Both w) (h1 : ¬ (64 : Int) < n) (h2 : ¬ (500 : Int) < nt) (h3 : ¬ (200 : Int) < ns) (l : List Nat) (h : Rd .u8 w A n l) (hf : Fit 256 l) (hM : ¬ Modul n l) :
    Calls Tryz.prog 3 #[.slice A n cap, .int .i64 z, .slice At nt ct, .slice As ns cs] w fun e w' => e = .returned (.bool true) ∧ Below w.heap.size w w' := by
  have HR := Lib.hid h
  have HM := Lib.hid hM
  clear h hM
  have HT := Lib.hid ht
  clear ht
  go_enter Tryz.func3, Tryz.ntmps3
  go_wp2_with fail
  refine (anchor_any w HT.out).mono ?_
  rintro e w1 ⟨rfl, hb1⟩
  go_wp2_with fail
  refine (Make_no A n cap l w1 (HR.out.below hb1) hf (by omega) HM.out).mono ?_
  rintro e w2 ⟨er, her, rfl, hb2⟩
  have bel2 := below_then hb1 hb2
  rcases her with rfl | rfl
  · go_wp2
    go_ret
    exact ⟨rfl, bel2⟩
  · go_wp2
    go_ret
    exact ⟨rfl, bel2⟩

set_option maxRecDepth 100000 in
set_option maxHeartbeats 1000000 in
theorem walk_alg (A : Option Addr) (n cap : Nat) (z : Int) (At : Option Addr) (nt ct : Nat) (As : Option Addr) (ns cs : Nat) (w : World) (ht : Both w) (h1 : ¬ (64 : Int) < n) (h2 : ¬ (500 : Int) < nt) (h3 : ¬ (200 : Int) < ns) (l : List Nat) (h : Rd .u8 w A n l) (hf : Fit 256 l) (hcn : n ≤ cap) (hmn : cap ≤ maxLen) (hM : Modul n l) (z1 : z ≠ 1) (z2 : z ≠ 2) :
    Calls Tryz.prog 3 #[.slice A n cap, .int .i64 z, .slice At nt ct, .slice As ns cs] w fun e w' => e = .returned (.bool true) ∧ Below w.heap.size w w' := by
  have HR := Lib.hid h
  have HM := Lib.hid hM
  clear h hM
  have HT := Lib.hid ht
  clear ht
  go_enter Tryz.func3, Tryz.ntmps3
  go_wp2_with fail
  refine (anchor_any w HT.out).mono ?_
  rintro e w1 ⟨rfl, hb1⟩
  go_wp2_with fail
  refine (Make_ok A n cap l w1 (HR.out.below hb1) hf hcn hmn HM.out).mono ?_
  rintro e w2 ⟨gk, gm, rfl, ⟨ck, gr, hK⟩, hgm, hb2⟩
  have HK := Lib.hid hK
  have bel2 := below_then hb1 hb2
  clear hK hgm
  go_wp2_with fail
  refine (Verify_alg z z1 z2 gk n _ gm ck gr At nt ct As ns cs w2 HK.out).mono ?_
  rintro e w3 ⟨rfl, hb3⟩
  have bel3 := below_then bel2 hb3
  go_wp2_with fail
  refine (RefSize_any z w3).mono ?_
  rintro e w4 ⟨rfl, rfl⟩
  rw [sizeOfAlg, if_neg z1, if_neg z2]
  go_wp2
  go_ret
  exact ⟨rfl, bel3⟩

/-- The document's Digest, by either algorithm. -/
theorem RefDig (z : Nat) (hz : z = 1 ∨ z = 2) (s : Nat) (hs : sizeOfAlg z = s) (A : Option Addr) (n cap : Nat) (l : List Nat) (At : Option Addr) (m c2 : Nat) (lt : List Nat) (w : World) (h : Rd .u8 w A n l) (hf : Fit 256 l) (hnil : A = none → cap = 0) (hn : n ≤ 10000) (ht : Rd .u8 w At m lt) (hft : Fit 256 lt) (hnilt : At = none → c2 = 0) (hm : m ≤ 10000) :
    Calls Tryz.prog 12 #[.int .i64 (z : Int), .slice A n cap, .slice At m c2] w (GivesRd w s (sumOf z (l ++ lt))) := by
  rcases hz with rfl | rfl
  · obtain rfl : 32 = s := hs
    exact RefDigest_1 A n cap l At m c2 lt w h hf hnil hn ht hft hnilt hm
  · obtain rfl : 64 = s := hs
    exact RefDigest_2 2 (by omega) A n cap l At m c2 lt w h hf hnil hn ht hft hnilt hm
set_option maxRecDepth 100000 in
set_option maxHeartbeats 1000000 in
theorem walk_bits (A : Option Addr) (n cap : Nat) (z : Nat) (hz : z = 1 ∨ z = 2) (s : Nat) (hs : sizeOfAlg z = s) (At : Option Addr) (nt ct : Nat) (lt : List Nat) (As : Option Addr) (ns cs : Nat) (w : World) (ht : Both w) (h1 : ¬ (64 : Int) < n) (h2 : ¬ (500 : Int) < nt) (h3 : ¬ (200 : Int) < ns) (l : List Nat) (h : Rd .u8 w A n l) (hf : Fit 256 l) (hcn : n ≤ cap) (hmn : cap ≤ maxLen) (hM : Modul n l) (hrt : Rd .u8 w At nt lt) (hft : Fit 256 lt) (hct : nt ≤ ct) (hnt : At = none → ct = 0) (hk : n < 30 + s) :
    Calls Tryz.prog 3 #[.slice A n cap, .int .i64 (z : Int), .slice At nt ct, .slice As ns cs] w fun e w' => e = .returned (.bool true) ∧ Below w.heap.size w w' := by
  have hs2 : s = 32 ∨ s = 64 := by have := sizeAlg_cases hz; omega
  have d0 : ((s : Int) == 0) = false := by simp; omega
  have HZ := Lib.hid hz
  have HS := Lib.hid hs
  have HR := Lib.hid h
  have HM := Lib.hid hM
  have HRT := Lib.hid hrt
  clear h hM hrt hz hs
  have HT := Lib.hid ht
  clear ht
  go_enter Tryz.func3, Tryz.ntmps3
  go_wp2_with fail
  refine (anchor_any w HT.out).mono ?_
  rintro e w1 ⟨rfl, hb1⟩
  go_wp2_with fail
  refine (Make_ok A n cap l w1 (HR.out.below hb1) hf hcn hmn HM.out).mono ?_
  rintro e w2 ⟨gk, gm, rfl, ⟨ck, gr, hK⟩, hgm, hb2⟩
  have HK := Lib.hid hK
  have bel2 := below_then hb1 hb2
  clear hK hgm
  go_wp2_with fail
  refine (Verify_bits z HZ.out s HS.out gk n _ gm ck gr At nt ct lt As ns cs w2 HK.out (HRT.out.below bel2) hft hct (by omega) (HT.out.below bel2) hk).mono ?_
  rintro e w3 ⟨rfl, hb3⟩
  have bel3 := below_then bel2 hb3
  go_wp2_with fail
  refine (RefSize_any z w3).mono ?_
  rintro e w4 ⟨rfl, rfl⟩
  rw [HS.out]
  go_wp2_with fail
  refine (RefDig z HZ.out s HS.out none 0 0 [] At nt ct lt w3 (Rd.nil _ _ _) (Fit.nil _) (fun _ => rfl) (by omega) (HRT.out.below bel3) hft hnt (by omega)).mono ?_
  rintro e w4 ⟨A4, c4, rfl, hR4, hb4⟩
  rw [List.nil_append] at hR4
  have HR4 := Lib.hid hR4
  have bel4 := below_then bel3 hb4
  clear hR4
  go_wp2_with fail
  refine (RefBlock_no z HZ.out A4 s c4 (n : Int) w4 (by omega) (by omega) (by omega) (.inr (by omega))).mono ?_
  rintro e w5 ⟨rfl, rfl⟩
  go_wp2
  go_ret
  exact ⟨rfl, bel4⟩

set_option maxRecDepth 100000 in
set_option maxHeartbeats 1000000 in
theorem walk_unlike (A : Option Addr) (n cap : Nat) (z : Nat) (hz : z = 1 ∨ z = 2) (s : Nat) (hs : sizeOfAlg z = s) (At : Option Addr) (nt ct : Nat) (lt : List Nat) (As : Option Addr) (ns cs : Nat) (w : World) (ht : Both w) (h1 : ¬ (64 : Int) < n) (h2 : ¬ (500 : Int) < nt) (h3 : ¬ (200 : Int) < ns) (l : List Nat) (h : Rd .u8 w A n l) (hf : Fit 256 l) (hcn : n ≤ cap) (hmn : cap ≤ maxLen) (hM : Modul n l) (hrt : Rd .u8 w At nt lt) (hft : Fit 256 lt) (hct : nt ≤ ct) (hnt : At = none → ct = 0) (ls : List Nat) (hrs : Rd .u8 w As ns ls) (hfs : Fit 256 ls) (hcs : ns ≤ cs) (hms : cs ≤ maxLen) (hk : 30 + s ≤ n) (hno : ns ≠ n ∨ vbe l ≤ vbe ls) :
    Calls Tryz.prog 3 #[.slice A n cap, .int .i64 (z : Int), .slice At nt ct, .slice As ns cs] w fun e w' => e = .returned (.bool true) ∧ Below w.heap.size w w' := by
  have hs2 : s = 32 ∨ s = 64 := by have := sizeAlg_cases hz; omega
  have d0 : ((s : Int) == 0) = false := by simp; omega
  have HZ := Lib.hid hz
  have HS := Lib.hid hs
  have HR := Lib.hid h
  have HM := Lib.hid hM
  have HRT := Lib.hid hrt
  clear h hM hrt hz hs
  have HRS := Lib.hid hrs
  have HFB : Hid (Fit 256 (blockOf z (sumOf z lt) n)) := blockOf_fit (sumOf_fit _ _)
  have hn5 := HM.out.2.1
  clear hrs
  have HNO := Lib.hid hno
  have HOP : Hid (¬ Opens n (vbe l) ls (blockOf z (sumOf z lt) n)) := fun h => HNO.out.elim (fun h2 => h2 (HRS.out.1.symm.trans h.1)) (fun h2 => by have := h.2.1; omega)
  clear hno
  have HT := Lib.hid ht
  clear ht
  go_enter Tryz.func3, Tryz.ntmps3
  go_wp2_with fail
  refine (anchor_any w HT.out).mono ?_
  rintro e w1 ⟨rfl, hb1⟩
  go_wp2_with fail
  refine (Make_ok A n cap l w1 (HR.out.below hb1) hf hcn hmn HM.out).mono ?_
  rintro e w2 ⟨gk, gm, rfl, ⟨ck, gr, hK⟩, hgm, hb2⟩
  have HK := Lib.hid hK
  have bel2 := below_then hb1 hb2
  clear hK hgm
  go_wp2_with fail
  refine (Verify_any z HZ.out s HS.out gk n _ gm ck gr At nt ct lt As ns cs ls w2 HK.out (HRT.out.below bel2) hft hct (by omega) (HRS.out.below bel2) hfs hcs hms (HT.out.below bel2) hk 23 (.inr ⟨rfl, HOP.out⟩)).mono ?_
  rintro e w3 ⟨rfl, hb3⟩
  have bel3 := below_then bel2 hb3
  go_wp2_with fail
  refine (RefSize_any z w3).mono ?_
  rintro e w4 ⟨rfl, rfl⟩
  rw [HS.out]
  go_wp2_with fail
  refine (RefDig z HZ.out s HS.out none 0 0 [] At nt ct lt w3 (Rd.nil _ _ _) (Fit.nil _) (fun _ => rfl) (by omega) (HRT.out.below bel3) hft hnt (by omega)).mono ?_
  rintro e w4 ⟨A4, c4, rfl, hR4, hb4⟩
  rw [List.nil_append] at hR4
  have HR4 := Lib.hid hR4
  have bel4 := below_then bel3 hb4
  clear hR4
  have hnA : A4 = none → c4 = 0 := fun e => by
    obtain ⟨ad, e2, _⟩ := HR4.out.2 (by omega)
    rw [e] at e2; cases e2
  go_wp2_with fail
  refine (RefBlock_ok z HZ.out A4 s c4 _ n w4 HR4.out (sumOf_fit _ _) hnA hk hn5).mono ?_
  generalize blockOf z (sumOf z lt) n = blk at *
  rintro e w5 ⟨A5, c5, rfl, hrow5, hb5⟩
  have HR5 := Lib.hid hrow5.rd
  have bel5 := below_then bel4 hb5
  clear hrow5 hnA
  go_wp2_with fail
  by_cases hne : ns = n
  · subst hne
    refine (RefOpen_no A ns cap l As cs ls w5 (HR.out.below bel5) hf (HRS.out.below bel5) hfs (by omega) (HNO.out.resolve_left (fun h => h rfl))).mono ?_
    rintro e w6 ⟨rfl, hb6⟩
    have bel6 := below_then bel5 hb6
    go_wp2
    go_ret
    exact ⟨rfl, bel6⟩
  · refine (RefOpen_size A n cap As ns cs w5 hne).mono ?_
    rintro e w6 ⟨rfl, rfl⟩
    go_wp2
    go_ret
    exact ⟨rfl, bel5⟩

set_option maxRecDepth 100000 in
set_option maxHeartbeats 1000000 in
theorem walk_eq (A : Option Addr) (n cap : Nat) (z : Nat) (hz : z = 1 ∨ z = 2) (s : Nat) (hs : sizeOfAlg z = s) (At : Option Addr) (nt ct : Nat) (lt : List Nat) (As : Option Addr) (cs : Nat) (w : World) (ht : Both w) (h1 : ¬ (64 : Int) < n) (h2 : ¬ (500 : Int) < nt) (h3 : ¬ (200 : Int) < n) (l : List Nat) (h : Rd .u8 w A n l) (hf : Fit 256 l) (hcn : n ≤ cap) (hmn : cap ≤ maxLen) (hM : Modul n l) (hrt : Rd .u8 w At nt lt) (hft : Fit 256 lt) (hct : nt ≤ ct) (hnt : At = none → ct = 0) (ls : List Nat) (hrs : Rd .u8 w As n ls) (hfs : Fit 256 ls) (hcs : n ≤ cs) (hms : cs ≤ maxLen) (hk : 30 + s ≤ n) (hlt : vbe ls < vbe l) (heq : bytesOf n (vbe ls ^ keyE % vbe l) = blockOf z (sumOf z lt) n) :
    Calls Tryz.prog 3 #[.slice A n cap, .int .i64 (z : Int), .slice At nt ct, .slice As n cs] w fun e w' => e = .returned (.bool true) ∧ Below w.heap.size w w' := by
  have hs2 : s = 32 ∨ s = 64 := by have := sizeAlg_cases hz; omega
  have d0 : ((s : Int) == 0) = false := by simp; omega
  have HZ := Lib.hid hz
  have HS := Lib.hid hs
  have HR := Lib.hid h
  have HM := Lib.hid hM
  have HRT := Lib.hid hrt
  clear h hM hrt hz hs
  have HRS := Lib.hid hrs
  have HFB : Hid (Fit 256 (blockOf z (sumOf z lt) n)) := blockOf_fit (sumOf_fit _ _)
  have hn5 := HM.out.2.1
  clear hrs
  have HLT := Lib.hid hlt
  have HEQ := Lib.hid heq
  have HOP : Hid (Opens n (vbe l) ls (blockOf z (sumOf z lt) n)) := ⟨HRS.out.1, hlt, heq⟩
  clear hlt heq
  have HT := Lib.hid ht
  clear ht
  go_enter Tryz.func3, Tryz.ntmps3
  go_wp2_with fail
  refine (anchor_any w HT.out).mono ?_
  rintro e w1 ⟨rfl, hb1⟩
  go_wp2_with fail
  refine (Make_ok A n cap l w1 (HR.out.below hb1) hf hcn hmn HM.out).mono ?_
  rintro e w2 ⟨gk, gm, rfl, ⟨ck, gr, hK⟩, hgm, hb2⟩
  have HK := Lib.hid hK
  have bel2 := below_then hb1 hb2
  clear hK hgm
  go_wp2_with fail
  refine (Verify_any z HZ.out s HS.out gk n _ gm ck gr At nt ct lt As n cs ls w2 HK.out (HRT.out.below bel2) hft hct (by omega) (HRS.out.below bel2) hfs hcs hms (HT.out.below bel2) hk 0 (.inl ⟨rfl, HOP.out⟩)).mono ?_
  rintro e w3 ⟨rfl, hb3⟩
  have bel3 := below_then bel2 hb3
  go_wp2_with fail
  refine (RefSize_any z w3).mono ?_
  rintro e w4 ⟨rfl, rfl⟩
  rw [HS.out]
  go_wp2_with fail
  refine (RefDig z HZ.out s HS.out none 0 0 [] At nt ct lt w3 (Rd.nil _ _ _) (Fit.nil _) (fun _ => rfl) (by omega) (HRT.out.below bel3) hft hnt (by omega)).mono ?_
  rintro e w4 ⟨A4, c4, rfl, hR4, hb4⟩
  rw [List.nil_append] at hR4
  have HR4 := Lib.hid hR4
  have bel4 := below_then bel3 hb4
  clear hR4
  have hnA : A4 = none → c4 = 0 := fun e => by
    obtain ⟨ad, e2, _⟩ := HR4.out.2 (by omega)
    rw [e] at e2; cases e2
  go_wp2_with fail
  refine (RefBlock_ok z HZ.out A4 s c4 _ n w4 HR4.out (sumOf_fit _ _) hnA hk hn5).mono ?_
  generalize blockOf z (sumOf z lt) n = blk at *
  rintro e w5 ⟨A5, c5, rfl, hrow5, hb5⟩
  have HR5 := Lib.hid hrow5.rd
  have bel5 := below_then bel4 hb5
  clear hrow5 hnA
  go_wp2_with fail
  refine (RefOpen_yes A n cap l As cs ls w5 (HR.out.below bel5) hf (HRS.out.below bel5) hfs (by omega) HLT.out).mono ?_
  rw [HEQ.out]
  rintro e w6 ⟨g6, rfl, hB6, hb6⟩
  have hc1 := rd_str (HR5.out.below hb6) c5
  have hc2 := rd_str (hB6.rd n HR5.out.1) n
  have bel6 := below_then bel5 hb6
  generalize str blk = S at *
  clear hB6
  go_wp2
  go_ret
  exact ⟨rfl, bel6⟩

set_option maxRecDepth 100000 in
set_option maxHeartbeats 1000000 in
theorem walk_ne (A : Option Addr) (n cap : Nat) (z : Nat) (hz : z = 1 ∨ z = 2) (s : Nat) (hs : sizeOfAlg z = s) (At : Option Addr) (nt ct : Nat) (lt : List Nat) (As : Option Addr) (cs : Nat) (w : World) (ht : Both w) (h1 : ¬ (64 : Int) < n) (h2 : ¬ (500 : Int) < nt) (h3 : ¬ (200 : Int) < n) (l : List Nat) (h : Rd .u8 w A n l) (hf : Fit 256 l) (hcn : n ≤ cap) (hmn : cap ≤ maxLen) (hM : Modul n l) (hrt : Rd .u8 w At nt lt) (hft : Fit 256 lt) (hct : nt ≤ ct) (hnt : At = none → ct = 0) (ls : List Nat) (hrs : Rd .u8 w As n ls) (hfs : Fit 256 ls) (hcs : n ≤ cs) (hms : cs ≤ maxLen) (hk : 30 + s ≤ n) (hlt : vbe ls < vbe l) (hne : bytesOf n (vbe ls ^ keyE % vbe l) ≠ blockOf z (sumOf z lt) n) :
    Calls Tryz.prog 3 #[.slice A n cap, .int .i64 (z : Int), .slice At nt ct, .slice As n cs] w fun e w' => e = .returned (.bool true) ∧ Below w.heap.size w w' := by
  have hs2 : s = 32 ∨ s = 64 := by have := sizeAlg_cases hz; omega
  have d0 : ((s : Int) == 0) = false := by simp; omega
  have HZ := Lib.hid hz
  have HS := Lib.hid hs
  have HR := Lib.hid h
  have HM := Lib.hid hM
  have HRT := Lib.hid hrt
  clear h hM hrt hz hs
  have HRS := Lib.hid hrs
  have HFB : Hid (Fit 256 (blockOf z (sumOf z lt) n)) := blockOf_fit (sumOf_fit _ _)
  have hn5 := HM.out.2.1
  clear hrs
  have HLT := Lib.hid hlt
  have HNE : Hid (blockOf z (sumOf z lt) n ≠ bytesOf n (vbe ls ^ keyE % vbe l)) := fun e => hne e.symm
  have HOP : Hid (¬ Opens n (vbe l) ls (blockOf z (sumOf z lt) n)) := fun h => hne h.2.2
  clear hlt hne
  have HT := Lib.hid ht
  clear ht
  go_enter Tryz.func3, Tryz.ntmps3
  go_wp2_with fail
  refine (anchor_any w HT.out).mono ?_
  rintro e w1 ⟨rfl, hb1⟩
  go_wp2_with fail
  refine (Make_ok A n cap l w1 (HR.out.below hb1) hf hcn hmn HM.out).mono ?_
  rintro e w2 ⟨gk, gm, rfl, ⟨ck, gr, hK⟩, hgm, hb2⟩
  have HK := Lib.hid hK
  have bel2 := below_then hb1 hb2
  clear hK hgm
  go_wp2_with fail
  refine (Verify_any z HZ.out s HS.out gk n _ gm ck gr At nt ct lt As n cs ls w2 HK.out (HRT.out.below bel2) hft hct (by omega) (HRS.out.below bel2) hfs hcs hms (HT.out.below bel2) hk 23 (.inr ⟨rfl, HOP.out⟩)).mono ?_
  rintro e w3 ⟨rfl, hb3⟩
  have bel3 := below_then bel2 hb3
  go_wp2_with fail
  refine (RefSize_any z w3).mono ?_
  rintro e w4 ⟨rfl, rfl⟩
  rw [HS.out]
  go_wp2_with fail
  refine (RefDig z HZ.out s HS.out none 0 0 [] At nt ct lt w3 (Rd.nil _ _ _) (Fit.nil _) (fun _ => rfl) (by omega) (HRT.out.below bel3) hft hnt (by omega)).mono ?_
  rintro e w4 ⟨A4, c4, rfl, hR4, hb4⟩
  rw [List.nil_append] at hR4
  have HR4 := Lib.hid hR4
  have bel4 := below_then bel3 hb4
  clear hR4
  have hnA : A4 = none → c4 = 0 := fun e => by
    obtain ⟨ad, e2, _⟩ := HR4.out.2 (by omega)
    rw [e] at e2; cases e2
  go_wp2_with fail
  refine (RefBlock_ok z HZ.out A4 s c4 _ n w4 HR4.out (sumOf_fit _ _) hnA hk hn5).mono ?_
  generalize blockOf z (sumOf z lt) n = blk at *
  rintro e w5 ⟨A5, c5, rfl, hrow5, hb5⟩
  have HR5 := Lib.hid hrow5.rd
  have bel5 := below_then bel4 hb5
  clear hrow5 hnA
  go_wp2_with fail
  refine (RefOpen_yes A n cap l As cs ls w5 (HR.out.below bel5) hf (HRS.out.below bel5) hfs (by omega) HLT.out).mono ?_
  generalize vbe ls ^ keyE % vbe l = x at *
  rintro e w6 ⟨g6, rfl, hB6, hb6⟩
  have hc1 := rd_str (HR5.out.below hb6) c5
  have hc2 := rd_str (hB6.rd n (bytesOf_length _ _)) n
  have e1 := str_same HFB.out (bytesOf_fit n x)
  rw [decide_eq_false HNE.out] at e1
  have bel6 := below_then bel5 hb6
  generalize str blk = S at *
  generalize str (bytesOf n x) = S2 at *
  clear hB6
  go_wp2
  go_ret
  exact ⟨rfl, bel6⟩

theorem walk (A : Option Addr) (n cap : Nat) (l : List Nat) (z : Int) (At : Option Addr) (nt ct : Nat) (lt : List Nat) (As : Option Addr) (ns cs : Nat) (ls : List Nat) (w : World) (h : Rd .u8 w A n l) (hf : Fit 256 l) (hcn : n ≤ cap) (hmn : cap ≤ maxLen) (hnil : A = none → cap = 0) (_ : (Lit.int .i64 z).wf = true) (hrt : Rd .u8 w At nt lt) (hft : Fit 256 lt) (hct : nt ≤ ct) (hmt : ct ≤ maxLen) (hnt : At = none → ct = 0) (hrs : Rd .u8 w As ns ls) (hfs : Fit 256 ls) (hcs : ns ≤ cs) (hms : cs ≤ maxLen) (hns : As = none → cs = 0) (ht : Both w) :
    Calls Tryz.prog 3 #[.slice A n cap, .int .i64 z, .slice At nt ct, .slice As ns cs] w fun e w' => e = .returned (.bool true) ∧ Below w.heap.size w w' := by
  by_cases h1 : 64 < n
  · exact walk_g0 A n cap z At nt ct As ns cs w ht (by omega)
  by_cases h2 : 500 < nt
  · exact walk_g1 A n cap z At nt ct As ns cs w ht (by omega) (by omega)
  by_cases h3 : 200 < ns
  · exact walk_g2 A n cap z At nt ct As ns cs w ht (by omega) (by omega) (by omega)
  by_cases hM : Modul n l
  · by_cases z1 : z = 1 ∨ z = 2
    · obtain ⟨y, rfl, hy⟩ : ∃ y : Nat, z = (y : Int) ∧ (y = 1 ∨ y = 2) := ⟨z.toNat, by omega, by omega⟩
      by_cases hk : n < 30 + sizeOfAlg y
      · exact walk_bits A n cap y hy _ rfl At nt ct lt As ns cs w ht (by omega) (by omega) (by omega) l h hf hcn hmn hM hrt hft hct hnt hk
      · by_cases hne : ns = n
        · subst hne
          by_cases hlt : vbe ls < vbe l
          · by_cases heq : bytesOf ns (vbe ls ^ keyE % vbe l) = blockOf y (sumOf y lt) ns
            · exact walk_eq A ns cap y hy _ rfl At nt ct lt As cs w ht (by omega) (by omega) (by omega) l h hf hcn hmn hM hrt hft hct hnt ls hrs hfs hcs hms (by omega) hlt heq
            · exact walk_ne A ns cap y hy _ rfl At nt ct lt As cs w ht (by omega) (by omega) (by omega) l h hf hcn hmn hM hrt hft hct hnt ls hrs hfs hcs hms (by omega) hlt heq
          · exact walk_unlike A ns cap y hy _ rfl At nt ct lt As ns cs w ht (by omega) (by omega) (by omega) l h hf hcn hmn hM hrt hft hct hnt ls hrs hfs hcs hms (by omega) (.inr (by omega))
        · exact walk_unlike A n cap y hy _ rfl At nt ct lt As ns cs w ht (by omega) (by omega) (by omega) l h hf hcn hmn hM hrt hft hct hnt ls hrs hfs hcs hms (by omega) (.inl hne)
    · exact walk_alg A n cap z At nt ct As ns cs w ht (by omega) (by omega) (by omega) l h hf hcn hmn hM (fun e => z1 (.inl e)) (fun e => z1 (.inr e))
  · exact walk_no A n cap z At nt ct As ns cs w ht (by omega) (by omega) (by omega) l h hf hM

-- THE ROW's STEP
set_option maxRecDepth 100000 in
theorem lifted (os : Os) (started : os.Started) (H : Type) (enc : TypeId × Value → H) :
    ReturnsInHanded {} Tryz.checked os 3 .any (fun w args => (Rows.sealHoldsSpec.pre enc Tryz.prog Tryz.f3 [] false w args ∧ laidMetH Tryz.prog listed w) ∧ sizedMet enc Tryz.prog Tryz.f3 (OpenSpec.ofChange Rows.sealHoldsSpec) false w args)
      (Rows.sealHoldsSpec.post enc Tryz.prog Tryz.f3 false true false false) := by
  refine returnsInHanded_of_change_and (C := Tryz.checked) (X := fun w _ => laidMetH Tryz.prog listed w) (fun _ _ _ hh h => h.of_heap hh) own started (by kernel_rfl) Tryz.func3
    (ChangeSpec.witness_shaped (enc := enc) (C := Tryz.checked) (os := os) (X := fun w _ => laidMetH Tryz.prog listed w) false (World.laidAll Tryz.prog os listed) #[.slice none 0 0, .int .i64 0, .slice none 0 0, .slice none 0 0] 8 (World.laidAll_os _ _ _)
      (World.shaped_of_ZipB (by kernel_rfl) (by kernel_rfl)) (by kernel_rfl) (by kernel_rfl) (by kernel_rfl)
      (by rw [MakeChecks.laidMetH_plain _ _ _ (by kernel_rfl)]; exact laidMet_laidAll _ (by kernel_rfl) (by kernel_rfl))) ?_
  intro W base args ds gs before hval0 hW _ _ hL _
  have hval : ∀ (j : Nat) t v, Tryz.f3.params[j]? = some t → args[j]? = some v → Value.okWide Tryz.prog W .any base t v := hval0
  have hW' := hW
  obtain ⟨p, q, hA0, hV, rfl, hfz, hnd⟩ := hW
  have hA : DataW.TrodAll enc Tryz.prog W 0 (fun _ => true) true Tryz.f3.params.toList args.toList ds p := hA0
  rw [Tryz.params3] at hA hval
  obtain ⟨v0, vs0, d0, ds0, p0, q0, hargs, rfl, rfl, h0, r0⟩ := trodAll_cons hA
  obtain ⟨v1, vs1, d1, ds1, p1, q1, rfl, rfl, rfl, h1, r1⟩ := trodAll_cons r0
  obtain ⟨v2, vs2, d2, ds2, p2, q2, rfl, rfl, rfl, h2, r2⟩ := trodAll_cons r1
  obtain ⟨v3, vs3, d3, ds3, p3, q3, rfl, rfl, rfl, h3, r3⟩ := trodAll_cons r2
  obtain ⟨rfl, rfl, rfl⟩ := trodAll_nil r3
  obtain rfl : args = #[v0, v1, v2, v3] := by cases args; simp_all
  obtain ⟨rfl, rfl⟩ := trodVars_none hV
  have k0 := h0
  have lt0 : ∀ x ∈ p0, x.block < W.heap.size := by obtain ⟨m, hm⟩ := k0; exact DataW.trod_lt m _ _ _ hm
  obtain ⟨fuel0, hf0⟩ := h0
  obtain ⟨a0, len0, cap0, l0, e0, g0, hlc0, hcm0, hnil0⟩ := bytes_of_trod hf0
  obtain ⟨b0, lb0, cb0, hv0⟩ := okWide_slice Tryz.underlying22 (hval 0 22 v0 rfl rfl)
  have ev0 : v0 = .slice a0 len0 cap0 := by rw [hv0] at e0 ⊢; simpa [Value.cells] using e0
  subst ev0
  obtain ⟨a1, rfl, rfl, rfl, w1⟩ := open_int Tryz.underlying3 (hval 1 3 v1 rfl rfl) h1
  have k2 := h2
  have lt2 : ∀ x ∈ p2, x.block < W.heap.size := by obtain ⟨m, hm⟩ := k2; exact DataW.trod_lt m _ _ _ hm
  obtain ⟨fuel2, hf2⟩ := h2
  obtain ⟨a2, len2, cap2, l2, e2, g2, hlc2, hcm2, hnil2⟩ := bytes_of_trod hf2
  obtain ⟨b2, lb2, cb2, hv2⟩ := okWide_slice Tryz.underlying22 (hval 2 22 v2 rfl rfl)
  have ev2 : v2 = .slice a2 len2 cap2 := by rw [hv2] at e2 ⊢; simpa [Value.cells] using e2
  subst ev2
  have k3 := h3
  have lt3 : ∀ x ∈ p3, x.block < W.heap.size := by obtain ⟨m, hm⟩ := k3; exact DataW.trod_lt m _ _ _ hm
  obtain ⟨fuel3, hf3⟩ := h3
  obtain ⟨a3, len3, cap3, l3, e3, g3, hlc3, hcm3, hnil3⟩ := bytes_of_trod hf3
  obtain ⟨b3, lb3, cb3, hv3⟩ := okWide_slice Tryz.underlying22 (hval 3 22 v3 rfl rfl)
  have ev3 : v3 = .slice a3 len3 cap3 := by rw [hv3] at e3 ⊢; simpa [Value.cells] using e3
  subst ev3
  clear hA0 hval0
  refine (walk a0 len0 cap0 l0 a1 a2 len2 cap2 l2 a3 len3 cap3 l3 W g0.1 g0.2 hlc0 hcm0 hnil0 w1 g2.1 g2.2 hlc2 hcm2 hnil2 g3.1 g3.2 hlc3 hcm3 hnil3 (tabs_of_laid hL)).mono fun e W' ⟨he, bel⟩ => ?_
  subst he
  exact ⟨_, rfl, _, _, _, [], _, [], hW', trodAll_mk1 (shut_bool Tryz.underlying4 _), (trodAll_cons_mk (Below.trod laidOut (by kernel_rfl) (of_decide_eq_true (by kernel_rfl)) k0 bel lt0) (trodAll_cons_mk (shut_int Tryz.underlying3 w1) (trodAll_cons_mk (Below.trod laidOut (by kernel_rfl) (of_decide_eq_true (by kernel_rfl)) k2 bel lt2) (trodAll_cons_mk (Below.trod laidOut (by kernel_rfl) (of_decide_eq_true (by kernel_rfl)) k3 bel lt3) trodAll_mk0)))), rfl, bel.frame _, fun h => by cases h⟩

theorem row_holds : Rows.SealHoldsSaid :=
  OpenClaim.holds_of_wide 3 Tryz.f3 rfl rfl rfl rfl rfl rfl rfl ⟨rfl, rfl, rfl, rfl, rfl⟩ rfl rfl rfl rfl rfl (by kernel_rfl) Tryz.func3 (by kernel_rfl)
    (of_decide_eq_true (by kernel_rfl)) (by unfold Func.isWrapper; first | (rw [if_pos (by decide +kernel)]; kernel_rfl) | (rw [if_neg (by decide +kernel)]; exact ⟨rfl, rfl⟩))
    (fun os started H enc _ => lifted os started H enc)

theorem proved : Rows.SealHoldsCardSaid :=
  Claim7.holds_tied_plain_at .later [] [.data, .data, .data, .data, .data, .pinned] true Rows.sealHoldsCard.stood.harness false
    row_holds (fun _ h => by cases h) (by kernel_rfl) (fun _ h => by cases h) sealHolds_row_tie rfl ⟨rfl, rfl⟩ (by kernel_rfl) rfl
    (fun f fn hf hfn => by
      obtain rfl : f = 3 := Option.some.inj ((show Tryz.prog.funcNamed Tryz.f3.name = some 3 by kernel_rfl).symm.trans hf) |>.symm
      obtain rfl : fn = Tryz.f3 := (Option.some.inj (Tryz.func3.symm.trans hfn)).symm
      exact ⟨by kernel_rfl, fun j t ht => by
        rw [Tryz.params3] at ht
        have hm : t ∈ [22, 3, 22, 22] := by simpa using Array.mem_of_getElem? ht
        have hall : ([22, 3, 22, 22].all fun u => !Tryz.prog.wantsStandIn u) = true := by kernel_rfl
        exact (show Tryz.prog.wantsStandIn t = false by simpa using List.all_eq_true.1 hall t hm)⟩)
    (by kernel_rfl)
end Go.Proofs.YtppoikamenbckaaGreatDoor.sealHolds
