/-
  For every number and every two texts KeyBack returns true. No condition but that two tables of Go's library, which the call does not read, hold what their text lays there.
-/
import Derived.Test.YtojpbfkdkkdpcaaDoorLaw
import Derived.Test.YtojpbfkdkkdpcaaDoorH3
import Derived.Test.YtojpbfkdkkdpcaaDoorTie
import Derived.Test.YtojpbfkdkkdpcaaDoorCards
namespace Go.Proofs.YtojpbfkdkkdpcaaDoor.keyBack
open Go.Proofs.YtojpbfkdkkdpcaaDoor Go.ChangeShapes Go.WideShapes Go.ChangeAt Go.RowKit
set_option linter.unusedVariables false
set_option linter.unusedSimpArgs false

set_option maxRecDepth 100000 in
set_option maxHeartbeats 4000000 in
theorem walk_g0 (z : Int) (A : Option Addr) (n cap : Nat) (As : Option Addr) (ns cs : Nat) (w : World) (h1 : z < 0) :
    Calls Tryd.prog 6 #[.int .i64 z, .slice A n cap, .slice As ns cs] w fun e w' => e = .returned (.bool true) ∧ Below w.heap.size w w' := by
  go_enter Tryd.func6, Tryd.ntmps6
  go_wp2_with fail
  refine (anchor_any w).mono ?_
  rintro e w1 ⟨rfl, hb1⟩
  go_wp2
  go_ret
  exact ⟨rfl, hb1⟩

set_option maxRecDepth 100000 in
set_option maxHeartbeats 4000000 in
theorem walk_g1 (z : Int) (A : Option Addr) (n cap : Nat) (As : Option Addr) (ns cs : Nat) (w : World) (h0 : ¬ z < 0) (h1 : 2 < z) :
    Calls Tryd.prog 6 #[.int .i64 z, .slice A n cap, .slice As ns cs] w fun e w' => e = .returned (.bool true) ∧ Below w.heap.size w w' := by
  go_enter Tryd.func6, Tryd.ntmps6
  go_wp2_with fail
  refine (anchor_any w).mono ?_
  rintro e w1 ⟨rfl, hb1⟩
  go_wp2
  go_ret
  exact ⟨rfl, hb1⟩

set_option maxRecDepth 100000 in
set_option maxHeartbeats 4000000 in
theorem walk_g2 (z : Int) (A : Option Addr) (n cap : Nat) (As : Option Addr) (ns cs : Nat) (w : World) (h0 : ¬ z < 0) (h1 : ¬ 2 < z) (h2 : (1000 : Int) < n) :
    Calls Tryd.prog 6 #[.int .i64 z, .slice A n cap, .slice As ns cs] w fun e w' => e = .returned (.bool true) ∧ Below w.heap.size w w' := by
  go_enter Tryd.func6, Tryd.ntmps6
  go_wp2_with fail
  refine (anchor_any w).mono ?_
  rintro e w1 ⟨rfl, hb1⟩
  go_wp2
  go_ret
  exact ⟨rfl, hb1⟩

set_option maxRecDepth 100000 in
set_option maxHeartbeats 4000000 in
theorem walk_g3 (z : Int) (A : Option Addr) (n cap : Nat) (As : Option Addr) (ns cs : Nat) (w : World) (h0 : ¬ z < 0) (h1 : ¬ 2 < z) (h2 : ¬ (1000 : Int) < n) (h3 : (1000 : Int) < ns) :
    Calls Tryd.prog 6 #[.int .i64 z, .slice A n cap, .slice As ns cs] w fun e w' => e = .returned (.bool true) ∧ Below w.heap.size w w' := by
  go_enter Tryd.func6, Tryd.ntmps6
  go_wp2_with fail
  refine (anchor_any w).mono ?_
  rintro e w1 ⟨rfl, hb1⟩
  go_wp2
  go_ret
  exact ⟨rfl, hb1⟩

/-- What the walks need of a fixed key: its modulus N in k bytes, its secret D. -/
structure Fixed (z k N D : Nat) : Prop where
  k1 : 64 ≤ k
  k2 : k ≤ 256
  mo : ∀ w, Calls Tryd.prog 23 #[.int .i64 (z : Int)] w (GivesRow w k (bytesOf k N))
  se : ∀ w, Calls Tryd.prog 25 #[.int .i64 (z : Int)] w (GivesRow w k (bytesOf k D))
  modul : Modul k (bytesOf k N)
  vn : vbe (bytesOf k N) = N
  vd : vbe (bytesOf k D) = D
  room : N < 256 ^ k
  gt : 1 < N
  ok : KeyOk N keyE D
theorem fixed_of {z : Nat} (hz : z ≤ 2) : ∃ k N D, Fixed z k N D :=
  ⟨keyK z, keyN z, keyD z, (keyK_ok (by omega)).1, (keyK_ok (by omega)).2.1, ModulusOf_any z (by omega), SecretOf_any z hz, keyN_modul (by omega), bytesOf_val (keyN_room (by omega)), bytesOf_val (keyD_room hz), keyN_room (by omega), keyN_gt (by omega), keyz_ok hz⟩
/-- What Close answers of a text, whatever it is: an error and nothing, or the closed block. -/
def Closed (w : World) (k N D : Nat) (l : List Nat) (n : Nat) (e : Ending) (w' : World) : Prop :=
  (∃ er : Int, e = .returned (.tuple #[.slice none 0 0, .int .i64 er]) ∧ er ≠ 0 ∧ (n ≠ k → er = 24) ∧ (n = k → er = 13 ∧ N ≤ vbe l) ∧ Below w.heap.size w w') ∨
  (∃ g, e = .returned (.tuple #[.slice (some ⟨g, 0, none⟩) k k, .int .i64 0]) ∧ n = k ∧ vbe l < N ∧ Blk w' g 5 (cn .u8 (bytesOf k (vbe l ^ D % N))) ∧ Below w.heap.size w w')
theorem Close_all {z k N D : Nat} (hF : Fixed z k N D) (Am : Option Addr) (cm : Nat) (Ad : Option Addr) (cd : Nat) (A : Option Addr) (n cap : Nat) (l : List Nat) (w : World) (hm : Rd .u8 w Am k (bytesOf k N)) (hcm : k ≤ cm) (hmm : cm ≤ maxLen) (hd : Rd .u8 w Ad k (bytesOf k D)) (hcd : k ≤ cd) (hmd : cd ≤ maxLen) (h : Rd .u8 w A n l) (hf : Fit 256 l) (hcn : n ≤ cap) (hmn : cap ≤ maxLen) :
    Calls Tryd.prog 24 #[.slice Am k cm, .slice Ad k cd, .slice A n cap] w (Closed w k N D l n) := by
  by_cases hne : n = k
  · subst hne
    by_cases hlt : vbe l < N
    · have := Close_yes Am n cm _ Ad n cd _ A cap l w hm (bytesOf_fit _ _) hcm hmm hF.modul h hf hcn hmn (by rw [hF.vn]; exact hlt) hd (bytesOf_fit _ _) hcd hmd (by have := hF.k2; omega)
      rw [hF.vn, hF.vd] at this
      exact this.mono fun e w' ⟨g, h1, h2, h3, h4⟩ => .inr ⟨g, h1, rfl, hlt, h3, h4⟩
    · have hge : N ≤ vbe l := by omega
      have := Close_no Am n cm _ Ad n cd A cap l w hm (bytesOf_fit _ _) hcm hmm hF.modul h hf hcn hmn 13 (.inl ⟨rfl, by rw [hF.vn]; exact hge⟩)
      exact this.mono fun e w' ⟨h1, h2⟩ => .inl ⟨13, h1, by omega, fun h => absurd rfl h, fun _ => ⟨rfl, hge⟩, h2⟩
  · have := Close_size Am k cm _ Ad k cd A n cap w hm (bytesOf_fit _ _) hcm hmm hF.modul hne
    exact this.mono fun e w' ⟨h1, h2⟩ => .inl ⟨24, h1, by omega, fun _ => rfl, fun h => absurd h hne, h2⟩
set_option maxRecDepth 100000 in
set_option maxHeartbeats 4000000 in
theorem walk_no (z k N D : Nat) (hF : Fixed z k N D) (A : Option Addr) (n cap : Nat) (l : List Nat) (As : Option Addr) (ns cs : Nat) (ls : List Nat) (w : World) (h : Rd .u8 w A n l) (hf : Fit 256 l) (hcn : n ≤ cap) (hmn : cap ≤ maxLen) (hs : Rd .u8 w As ns ls) (hfs : Fit 256 ls) (hcs : ns ≤ cs) (hms : cs ≤ maxLen) (hz : z ≤ 2) (h2 : ¬ (1000 : Int) < n) (h3 : ¬ (1000 : Int) < ns) (hno : n ≠ k ∨ N ≤ vbe l) :
    Calls Tryd.prog 6 #[.int .i64 (z : Int), .slice A n cap, .slice As ns cs] w fun e w' => e = .returned (.bool true) ∧ Below w.heap.size w w' := by
  have HNO := Lib.hid hno
  clear hno
  have HF := Lib.hid hF
  have k1 := hF.k1
  have k2 := hF.k2
  have HR := Lib.hid h
  have HS := Lib.hid hs
  have z0 : ¬ (z : Int) < 0 := by omega
  have z1 : ¬ (2 : Int) < z := by omega
  clear h hs hF hz
  go_enter Tryd.func6, Tryd.ntmps6
  go_wp2_with fail
  refine (anchor_any w).mono ?_
  rintro e w1 ⟨rfl, hb1⟩
  go_wp2_with fail
  refine (HF.out.mo w1).mono ?_
  rintro e w2 ⟨Am, cm, rfl, hrow2, hb2⟩
  have HM := Lib.hid hrow2.rd
  have hcm := hrow2.le.1
  have hmm := hrow2.le.2
  have bel2 := below_then hb1 hb2
  clear hrow2
  go_wp2_with fail
  refine (HF.out.se w2).mono ?_
  rintro e w3 ⟨Ad, cd, rfl, hrow3, hb3⟩
  have HD := Lib.hid hrow3.rd
  have hcd := hrow3.le.1
  have hmd := hrow3.le.2
  have bel3 := below_then bel2 hb3
  clear hrow3
  go_wp2_with fail
  refine (Close_all HF.out Am cm Ad cd A n cap l w3 (HM.out.below hb3) hcm hmm HD.out hcd hmd (HR.out.below bel3) hf hcn hmn).mono ?_
  intro e w4 hC
  obtain ⟨er, rfl, her0, her1, her2, hb4⟩ := hC.resolve_right (fun ⟨_, _, hk, hlt, _, _⟩ => HNO.out.elim (fun h => h hk) (fun h => Nat.lt_irrefl _ (Nat.lt_of_lt_of_le hlt h)))
  have HER1 := Lib.hid her1
  have HER2 := Lib.hid her2
  clear her0 her1 her2
  have HM4 := Lib.hid ((HM.out.below hb3).below hb4)
  have bel4 := below_then bel3 hb4
  go_wp2_with fail
  refine (HF.out.se w4).mono ?_
  rintro e w5 ⟨Ae, ce, rfl, hrow5, hb5⟩
  have HE := Lib.hid hrow5.rd
  have hce := hrow5.le.1
  have hme := hrow5.le.2
  have bel5 := below_then bel4 hb5
  clear hrow5
  go_wp2_with fail
  refine (Close_all HF.out Am cm Ae ce As ns cs ls w5 (HM4.out.below hb5) hcm hmm HE.out hce hme (HS.out.below bel5) hfs hcs hms).mono ?_
  intro e w6 hC2
  have hfin : ∃ (s2 : Value) (er2 : Int), e = .returned (.tuple #[s2, .int .i64 er2]) ∧ (∃ (p : Option Addr) (a c : Nat), s2 = .slice p a c) ∧ Below w5.heap.size w5 w6 := by
    rcases hC2 with ⟨er2, h1, _, _, _, h2⟩ | ⟨g2, h1, _, _, _, h2⟩
    · exact ⟨_, _, h1, ⟨_, _, _, rfl⟩, h2⟩
    · exact ⟨_, _, h1, ⟨_, _, _, rfl⟩, h2⟩
  obtain ⟨s2, er2, rfl, ⟨p2, a2, c2, rfl⟩, hb6⟩ := hfin
  have bel6 := below_then bel5 hb6
  clear hC2
  by_cases hnk : n = k
  · subst hnk
    obtain ⟨rfl, hge⟩ := HER2.out rfl
    have hs1 := rd_str (HR.out.below bel6) cap
    have hs2 := rd_str ((HM4.out.below hb5).below hb6) cm
    have hl := str_less hf (bytesOf_fit n N) (by rw [HR.out.1, bytesOf_length])
    rw [HF.out.vn, decide_eq_false (by omega)] at hl
    generalize str l = S1 at *
    generalize str (bytesOf n N) = S2 at *
    clear hge
    go_wp2
    go_ret
    exact ⟨rfl, bel6⟩
  · obtain rfl := HER1.out hnk
    have hd : ((n : Int) != (k : Int)) = true := by simp; omega
    have hd2 : (n != k) = true := by simp [hnk]
    go_wp2
    go_ret
    exact ⟨rfl, bel6⟩

set_option maxRecDepth 100000 in
set_option maxHeartbeats 4000000 in
theorem walk_yes (z k N D : Nat) (hF : Fixed z k N D) (A : Option Addr) (n cap : Nat) (l : List Nat) (As : Option Addr) (ns cs : Nat) (ls : List Nat) (w : World) (h : Rd .u8 w A n l) (hf : Fit 256 l) (hcn : n ≤ cap) (hmn : cap ≤ maxLen) (hs : Rd .u8 w As ns ls) (hfs : Fit 256 ls) (hcs : ns ≤ cs) (hms : cs ≤ maxLen) (hz : z ≤ 2) (h2 : ¬ (1000 : Int) < n) (h3 : ¬ (1000 : Int) < ns) (hyes : n = k) (hlt : vbe l < N) :
    Calls Tryd.prog 6 #[.int .i64 (z : Int), .slice A n cap, .slice As ns cs] w fun e w' => e = .returned (.bool true) ∧ Below w.heap.size w w' := by
  have HLT := Lib.hid hlt
  subst hyes
  clear hlt
  have HF := Lib.hid hF
  have k1 := hF.k1
  have k2 := hF.k2
  have HR := Lib.hid h
  have HS := Lib.hid hs
  have z0 : ¬ (z : Int) < 0 := by omega
  have z1 : ¬ (2 : Int) < z := by omega
  clear h hs hF hz
  go_enter Tryd.func6, Tryd.ntmps6
  go_wp2_with fail
  refine (anchor_any w).mono ?_
  rintro e w1 ⟨rfl, hb1⟩
  go_wp2_with fail
  refine (HF.out.mo w1).mono ?_
  rintro e w2 ⟨Am, cm, rfl, hrow2, hb2⟩
  have HM := Lib.hid hrow2.rd
  have hcm := hrow2.le.1
  have hmm := hrow2.le.2
  have bel2 := below_then hb1 hb2
  clear hrow2
  go_wp2_with fail
  refine (HF.out.se w2).mono ?_
  rintro e w3 ⟨Ad, cd, rfl, hrow3, hb3⟩
  have HD := Lib.hid hrow3.rd
  have hcd := hrow3.le.1
  have hmd := hrow3.le.2
  have bel3 := below_then bel2 hb3
  clear hrow3
  go_wp2_with fail
  refine (Close_all HF.out Am cm Ad cd A n cap l w3 (HM.out.below hb3) hcm hmm HD.out hcd hmd (HR.out.below bel3) hf hcn hmn).mono ?_
  intro e w4 hC
  rcases hC with ⟨er, _, _, _, her2, _⟩ | ⟨g4, rfl, _, _, hB4, hb4⟩
  · have := (her2 rfl).2
    have := HLT.out
    omega
  have HB4 := Lib.hid hB4
  clear hB4
  have HM4 := Lib.hid ((HM.out.below hb3).below hb4)
  have bel4 := below_then bel3 hb4
  go_wp2_with fail
  refine (HF.out.se w4).mono ?_
  rintro e w5 ⟨Ae, ce, rfl, hrow5, hb5⟩
  have HE := Lib.hid hrow5.rd
  have hce := hrow5.le.1
  have hme := hrow5.le.2
  have bel5 := below_then bel4 hb5
  clear hrow5
  go_wp2_with fail
  refine (Close_all HF.out Am cm Ae ce As ns cs ls w5 (HM4.out.below hb5) hcm hmm HE.out hce hme (HS.out.below bel5) hfs hcs hms).mono ?_
  intro e w6 hC2
  have hx := Nat.mod_lt (vbe l ^ D) (Nat.lt_trans Nat.zero_lt_one HF.out.gt)
  have HBK := Lib.hid (HF.out.ok.back (vbe l) HLT.out)
  have HAP := Lib.hid (fun h => HF.out.ok.apart (vbe l) (vbe ls) HLT.out h)
  generalize hxx : vbe l ^ D % N = x at *
  have HEQ := Lib.hid hxx
  have HX := Lib.hid hx
  have HXR := Lib.hid (bytesOf_val (Nat.lt_trans hx HF.out.room))
  have HFX := Lib.hid (bytesOf_fit n x)
  have HLR := Lib.hid (bytesOf_eq HR.out.1 hf rfl)
  clear hx hxx
  have HBEL5 := Lib.hid bel5
  clear bel3 bel4 HM HD HE
  rcases hC2 with ⟨er2, rfl, her0, _, _, hb6⟩ | ⟨g6, rfl, hk6, hlt6, hB6, hb6⟩
  · have bel6 := below_then HBEL5.out hb6
    have hs2 := rd_str ((HM4.out.below hb5).below hb6) cm
    have hs1 := rd_str (HR.out.below bel6) cap
    have hl := str_less hf (bytesOf_fit n N) (by rw [HR.out.1, bytesOf_length])
    rw [HF.out.vn, decide_eq_true HLT.out] at hl
    generalize hS1 : str l = S1 at *
    generalize str (bytesOf n N) = S2 at *
    have HS1 := Lib.hid hS1
    clear hS1
    go_wp2_with fail
    refine (Make_ok Am n cm _ w6 ((HM4.out.below hb5).below hb6) (bytesOf_fit _ _) hcm hmm HF.out.modul).mono ?_
    rintro e w7 ⟨gk, gm, rfl, ⟨ck, gr, hK⟩, hgm, hb7⟩
    rw [HF.out.vn] at hK
    have HK := Lib.hid hK
    have bel7 := below_then bel6 hb7
    clear hK hgm hs1 hs2 hl
    go_wp2_with fail
    refine (Open_yes gk n N gm ck gr _ n _ w7 HK.out ((((HB4.out.rd n (bytesOf_length _ _)).below hb5).below hb6).below hb7) (bytesOf_fit _ _) (Nat.le_refl _) (by unfold maxLen; omega) (by rw [HXR.out]; exact HX.out)).mono ?_
    rw [HXR.out, HBK.out]
    rintro e w8 ⟨g8, rfl, hg8, hB8, hb8⟩
    have bel8 := below_then bel7 hb8
    have hs8 := rd_str (hB8.rd n (bytesOf_length _ _)) n
    rw [← HLR.out, HS1.out] at hs8
    have hs1 : (convert 22 9 (.slice A n cap)).run Tryd.prog w8 = .ok (.string S1) w8 := by rw [← HS1.out]; exact rd_str (HR.out.below bel8) cap
    clear hB8 hg8
    have hd6 : (er2 != 0) = true := by simp [her0]
    go_wp2
    go_ret
    exact ⟨rfl, bel8⟩
  · have hk7 := hk6.symm
    subst hk7
    clear hk6
    have HB6 := Lib.hid hB6
    clear hB6
    have bel6 := below_then HBEL5.out hb6
    have hs2 := rd_str ((HM4.out.below hb5).below hb6) cm
    have hs1 := rd_str (HR.out.below bel6) cap
    have hl := str_less hf (bytesOf_fit n N) (by rw [HR.out.1, bytesOf_length])
    rw [HF.out.vn, decide_eq_true HLT.out] at hl
    generalize hS1 : str l = S1 at *
    generalize str (bytesOf n N) = S2 at *
    have HS1 := Lib.hid hS1
    clear hS1
    go_wp2_with fail
    refine (Make_ok Am n cm _ w6 ((HM4.out.below hb5).below hb6) (bytesOf_fit _ _) hcm hmm HF.out.modul).mono ?_
    rintro e w7 ⟨gk, gm, rfl, ⟨ck, gr, hK⟩, hgm, hb7⟩
    rw [HF.out.vn] at hK
    have HK := Lib.hid hK
    have bel7 := below_then bel6 hb7
    clear hK hgm hs1 hs2 hl
    go_wp2_with fail
    refine (Open_yes gk n N gm ck gr _ n _ w7 HK.out ((((HB4.out.rd n (bytesOf_length _ _)).below hb5).below hb6).below hb7) (bytesOf_fit _ _) (Nat.le_refl _) (by unfold maxLen; omega) (by rw [HXR.out]; exact HX.out)).mono ?_
    rw [HXR.out, HBK.out]
    rintro e w8 ⟨g8, rfl, hg8, hB8, hb8⟩
    have bel8 := below_then bel7 hb8
    have hs8 := rd_str (hB8.rd n (bytesOf_length _ _)) n
    rw [← HLR.out, HS1.out] at hs8
    have hs1 : (convert 22 9 (.slice A n cap)).run Tryd.prog w8 = .ok (.string S1) w8 := by rw [← HS1.out]; exact rd_str (HR.out.below bel8) cap
    clear hB8 hg8
    have hs4 := rd_str (((((HB4.out.rd n (bytesOf_length _ _)).below hb5).below hb6).below hb7).below hb8) n
    have hs6 := rd_str (((HB6.out.rd n (bytesOf_length _ _)).below hb7).below hb8) n
    have hs7 := rd_str (HS.out.below bel8) cs
    have e1 := str_same (bytesOf_fit n x) (bytesOf_fit n (vbe ls ^ D % N))
    have e2 := str_same hf hfs
    have e3 : decide (bytesOf n x = bytesOf n (vbe ls ^ D % N)) = decide (l = ls) := by
      rw [Bool.eq_iff_iff]
      simp only [decide_eq_true_eq]
      constructor
      · intro h
        have h2 : x = vbe ls ^ D % N := by
          have h3 := congrArg vbe h
          rwa [HXR.out, bytesOf_val (Nat.lt_trans (Nat.mod_lt _ (Nat.lt_trans Nat.zero_lt_one HF.out.gt)) HF.out.room)] at h3
        have h4 := HAP.out hlt6 h2
        rw [HLR.out, h4, ← bytesOf_eq HS.out.1 hfs rfl]
      · intro h
        rw [← h, HEQ.out]
    rw [e3] at e1
    rw [HS1.out] at e2
    clear e3 HAP hlt6
    generalize str (bytesOf n x) = S4 at *
    generalize str (bytesOf n (vbe ls ^ D % N)) = S6 at *
    generalize str ls = S7 at *
    generalize decide (l = ls) = b at *
    go_wp2
    go_ret
    exact ⟨rfl, bel8⟩

theorem walk (z : Int) (A : Option Addr) (n cap : Nat) (l : List Nat) (As : Option Addr) (ns cs : Nat) (ls : List Nat) (w : World) (_ : (Lit.int .i64 z).wf = true) (h : Rd .u8 w A n l) (hf : Fit 256 l) (hcn : n ≤ cap) (hmn : cap ≤ maxLen) (hs : Rd .u8 w As ns ls) (hfs : Fit 256 ls) (hcs : ns ≤ cs) (hms : cs ≤ maxLen) :
    Calls Tryd.prog 6 #[.int .i64 z, .slice A n cap, .slice As ns cs] w fun e w' => e = .returned (.bool true) ∧ Below w.heap.size w w' := by
  by_cases h0 : z < 0
  · exact walk_g0 z A n cap As ns cs w h0
  by_cases h1 : 2 < z
  · exact walk_g1 z A n cap As ns cs w h0 h1
  by_cases h2 : 1000 < n
  · exact walk_g2 z A n cap As ns cs w h0 h1 (by omega)
  by_cases h3 : 1000 < ns
  · exact walk_g3 z A n cap As ns cs w h0 h1 (by omega) (by omega)
  obtain ⟨y, rfl⟩ : ∃ y : Nat, z = (y : Int) := ⟨z.toNat, by omega⟩
  obtain ⟨k, N, D, hF⟩ := fixed_of (z := y) (by omega)
  by_cases hk : n = k
  · by_cases hlt : vbe l < N
    · exact walk_yes y k N D hF A n cap l As ns cs ls w h hf hcn hmn hs hfs hcs hms (by omega) (by omega) (by omega) hk hlt
    · exact walk_no y k N D hF A n cap l As ns cs ls w h hf hcn hmn hs hfs hcs hms (by omega) (by omega) (by omega) (.inr (by omega))
  · exact walk_no y k N D hF A n cap l As ns cs ls w h hf hcn hmn hs hfs hcs hms (by omega) (by omega) (by omega) (.inl hk)

-- THE ROW's STEP
set_option maxRecDepth 100000 in
theorem lifted (os : Os) (started : os.Started) (H : Type) (enc : TypeId × Value → H) :
    ReturnsInHanded {} Tryd.checked os 6 .any (fun w args => (Rows.keyBackSpec.pre enc Tryd.prog Tryd.f6 [] false w args ∧ laidMetH Tryd.prog listed w) ∧ sizedMet enc Tryd.prog Tryd.f6 (OpenSpec.ofChange Rows.keyBackSpec) false w args)
      (Rows.keyBackSpec.post enc Tryd.prog Tryd.f6 false true false false) := by
  refine returnsInHanded_of_change_and (C := Tryd.checked) (X := fun w _ => laidMetH Tryd.prog listed w) (fun _ _ _ hh h => h.of_heap hh) own started (by kernel_rfl) Tryd.func6
    (ChangeSpec.witness_shaped (enc := enc) (C := Tryd.checked) (os := os) (X := fun w _ => laidMetH Tryd.prog listed w) false (World.laidAll Tryd.prog os listed) #[.int .i64 0, .slice none 0 0, .slice none 0 0] 8 (World.laidAll_os _ _ _)
      (World.shaped_of_ZipB (by kernel_rfl) (by kernel_rfl)) (by kernel_rfl) (by kernel_rfl) (by kernel_rfl)
      (by rw [MakeChecks.laidMetH_plain _ _ _ (by kernel_rfl)]; exact laidMet_laidAll _ (by kernel_rfl) (by kernel_rfl))) ?_
  intro W base args ds gs before hval0 hW _ _ hL _
  have hval : ∀ (j : Nat) t v, Tryd.f6.params[j]? = some t → args[j]? = some v → Value.okWide Tryd.prog W .any base t v := hval0
  have hW' := hW
  obtain ⟨p, q, hA0, hV, rfl, hfz, hnd⟩ := hW
  have hA : DataW.TrodAll enc Tryd.prog W 0 (fun _ => true) true Tryd.f6.params.toList args.toList ds p := hA0
  rw [Tryd.params6] at hA hval
  obtain ⟨v0, vs0, d0, ds0, p0, q0, hargs, rfl, rfl, h0, r0⟩ := trodAll_cons hA
  obtain ⟨v1, vs1, d1, ds1, p1, q1, rfl, rfl, rfl, h1, r1⟩ := trodAll_cons r0
  obtain ⟨v2, vs2, d2, ds2, p2, q2, rfl, rfl, rfl, h2, r2⟩ := trodAll_cons r1
  obtain ⟨rfl, rfl, rfl⟩ := trodAll_nil r2
  obtain rfl : args = #[v0, v1, v2] := by cases args; simp_all
  obtain ⟨rfl, rfl⟩ := trodVars_none hV
  obtain ⟨a0, rfl, rfl, rfl, w0⟩ := open_int Tryd.underlying3 (hval 0 3 v0 rfl rfl) h0
  have k1 := h1
  have lt1 : ∀ x ∈ p1, x.block < W.heap.size := by obtain ⟨m, hm⟩ := k1; exact DataW.trod_lt m _ _ _ hm
  obtain ⟨fuel1, hf1⟩ := h1
  obtain ⟨a1, len1, cap1, l1, e1, g1, hlc1, hcm1, hnil1⟩ := bytes_of_trod hf1
  obtain ⟨b1, lb1, cb1, hv1⟩ := okWide_slice Tryd.underlying22 (hval 1 22 v1 rfl rfl)
  have ev1 : v1 = .slice a1 len1 cap1 := by rw [hv1] at e1 ⊢; simpa [Value.cells] using e1
  subst ev1
  have k2 := h2
  have lt2 : ∀ x ∈ p2, x.block < W.heap.size := by obtain ⟨m, hm⟩ := k2; exact DataW.trod_lt m _ _ _ hm
  obtain ⟨fuel2, hf2⟩ := h2
  obtain ⟨a2, len2, cap2, l2, e2, g2, hlc2, hcm2, hnil2⟩ := bytes_of_trod hf2
  obtain ⟨b2, lb2, cb2, hv2⟩ := okWide_slice Tryd.underlying22 (hval 2 22 v2 rfl rfl)
  have ev2 : v2 = .slice a2 len2 cap2 := by rw [hv2] at e2 ⊢; simpa [Value.cells] using e2
  subst ev2
  clear hA0 hval0
  refine (walk a0 a1 len1 cap1 l1 a2 len2 cap2 l2 W w0 g1.1 g1.2 hlc1 hcm1 g2.1 g2.2 hlc2 hcm2).mono fun e W' ⟨he, bel⟩ => ?_
  subst he
  exact ⟨_, rfl, _, _, _, [], _, [], hW', trodAll_mk1 (shut_bool Tryd.underlying4 _), (trodAll_cons_mk (shut_int Tryd.underlying3 w0) (trodAll_cons_mk (Below.trod laidOut (by kernel_rfl) (of_decide_eq_true (by kernel_rfl)) k1 bel lt1) (trodAll_cons_mk (Below.trod laidOut (by kernel_rfl) (of_decide_eq_true (by kernel_rfl)) k2 bel lt2) trodAll_mk0))), rfl, bel.frame _, fun h => by cases h⟩

theorem row_holds : Rows.KeyBackSaid :=
  OpenClaim.holds_of_wide 6 Tryd.f6 rfl rfl rfl rfl rfl rfl rfl ⟨rfl, rfl, rfl, rfl, rfl⟩ rfl rfl rfl rfl rfl (by kernel_rfl) Tryd.func6 (by kernel_rfl)
    (of_decide_eq_true (by kernel_rfl)) (by unfold Func.isWrapper; first | (rw [if_pos (by decide +kernel)]; kernel_rfl) | (rw [if_neg (by decide +kernel)]; exact ⟨rfl, rfl⟩))
    (fun os started H enc _ => lifted os started H enc)

theorem proved : Rows.KeyBackCardSaid :=
  Claim7.holds_tied_plain_at .later [] [.data, .pinned] true Rows.keyBackCard.stood.harness false
    row_holds (fun _ h => by cases h) (by kernel_rfl) (fun _ h => by cases h) keyBack_row_tie rfl ⟨rfl, rfl⟩ (by kernel_rfl) rfl
    (fun f fn hf hfn => by
      obtain rfl : f = 6 := Option.some.inj ((show Tryd.prog.funcNamed Tryd.f6.name = some 6 by kernel_rfl).symm.trans hf) |>.symm
      obtain rfl : fn = Tryd.f6 := (Option.some.inj (Tryd.func6.symm.trans hfn)).symm
      exact ⟨by kernel_rfl, fun j t ht => by
        rw [Tryd.params6] at ht
        have hm : t ∈ [3, 22, 22] := by simpa using Array.mem_of_getElem? ht
        have hall : ([3, 22, 22].all fun u => !Tryd.prog.wantsStandIn u) = true := by kernel_rfl
        exact (show Tryd.prog.wantsStandIn t = false by simpa using List.all_eq_true.1 hall t hm)⟩)
    (by kernel_rfl)
end Go.Proofs.YtojpbfkdkkdpcaaDoor.keyBack
