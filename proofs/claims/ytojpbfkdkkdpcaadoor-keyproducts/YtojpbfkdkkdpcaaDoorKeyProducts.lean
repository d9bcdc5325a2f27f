/-
  For every number and every two texts KeyProducts returns true. No condition but that two tables of Go's library, which the call does not read, hold what their text lays there.
-/
import Derived.Test.YtojpbfkdkkdpcaaDoorLaw
import Derived.Test.YtojpbfkdkkdpcaaDoorK8
import Derived.Test.YtojpbfkdkkdpcaaDoorEach6
import Derived.Test.YtojpbfkdkkdpcaaDoorH2
import Derived.Test.YtojpbfkdkkdpcaaDoorTie
import Derived.Test.YtojpbfkdkkdpcaaDoorCards
namespace Go.Proofs.YtojpbfkdkkdpcaaDoor.keyProducts
open Go.Proofs.YtojpbfkdkkdpcaaDoor Go.ChangeShapes Go.WideShapes Go.ChangeAt Go.RowKit
set_option linter.unusedVariables false
set_option linter.unusedSimpArgs false

set_option maxRecDepth 100000 in
set_option maxHeartbeats 4000000 in
theorem walk_g0 (z : Int) (A : Option Addr) (n cap : Nat) (As : Option Addr) (ns cs : Nat) (w : World) (h0 : z < 0) :
    Calls Tryd.prog 8 #[.int .i64 z, .slice A n cap, .slice As ns cs] w fun e w' => e = .returned (.bool true) ∧ Below w.heap.size w w' := by
  go_enter Tryd.func8, Tryd.ntmps8
  go_wp2_with fail
  refine (anchor_any w).mono ?_
  rintro e w1 ⟨rfl, hb1⟩
  go_wp2
  go_ret
  exact ⟨rfl, hb1⟩

set_option maxRecDepth 100000 in
set_option maxHeartbeats 4000000 in
theorem walk_g1 (z : Int) (A : Option Addr) (n cap : Nat) (As : Option Addr) (ns cs : Nat) (w : World) (h0 : ¬ z < 0) (h1 : 2 < z) :
    Calls Tryd.prog 8 #[.int .i64 z, .slice A n cap, .slice As ns cs] w fun e w' => e = .returned (.bool true) ∧ Below w.heap.size w w' := by
  go_enter Tryd.func8, Tryd.ntmps8
  go_wp2_with fail
  refine (anchor_any w).mono ?_
  rintro e w1 ⟨rfl, hb1⟩
  go_wp2
  go_ret
  exact ⟨rfl, hb1⟩

set_option maxRecDepth 100000 in
set_option maxHeartbeats 4000000 in
theorem walk_g2 (z : Int) (A : Option Addr) (n cap : Nat) (As : Option Addr) (ns cs : Nat) (w : World) (h0 : ¬ z < 0) (h1 : ¬ 2 < z) (h2 : (600 : Int) < n) :
    Calls Tryd.prog 8 #[.int .i64 z, .slice A n cap, .slice As ns cs] w fun e w' => e = .returned (.bool true) ∧ Below w.heap.size w w' := by
  go_enter Tryd.func8, Tryd.ntmps8
  go_wp2_with fail
  refine (anchor_any w).mono ?_
  rintro e w1 ⟨rfl, hb1⟩
  go_wp2
  go_ret
  exact ⟨rfl, hb1⟩

set_option maxRecDepth 100000 in
set_option maxHeartbeats 4000000 in
theorem walk_g3 (z : Int) (A : Option Addr) (n cap : Nat) (As : Option Addr) (ns cs : Nat) (w : World) (h0 : ¬ z < 0) (h1 : ¬ 2 < z) (h2 : ¬ (600 : Int) < n) (h3 : (600 : Int) < ns) :
    Calls Tryd.prog 8 #[.int .i64 z, .slice A n cap, .slice As ns cs] w fun e w' => e = .returned (.bool true) ∧ Below w.heap.size w w' := by
  go_enter Tryd.func8, Tryd.ntmps8
  go_wp2_with fail
  refine (anchor_any w).mono ?_
  rintro e w1 ⟨rfl, hb1⟩
  go_wp2
  go_ret
  exact ⟨rfl, hb1⟩

/-- What the walks need of a fixed key: its modulus N in k bytes. -/
structure Fixed (z k N : Nat) : Prop where
  k1 : 64 ≤ k
  k2 : k ≤ 256
  k3 : k % 64 = 0
  mo : ∀ w, Calls Tryd.prog 23 #[.int .i64 (z : Int)] w (GivesRow w k (bytesOf k N))
  modul : Modul k (bytesOf k N)
  vn : vbe (bytesOf k N) = N
  room : N < 256 ^ k
  gt : 1 < N
theorem fixed_of {z : Nat} (hz : z ≤ 2) : ∃ k N, Fixed z k N :=
  ⟨keyK z, keyN z, (keyK_ok (by omega)).1, (keyK_ok (by omega)).2.1, (keyK_ok (by omega)).2.2, ModulusOf_any z (by omega), keyN_modul (by omega), bytesOf_val (keyN_room (by omega)), keyN_room (by omega), keyN_gt (by omega)⟩
/-- What Open answers of a text, whatever it is: an error and nothing, or the opened block. -/
def Opened (w : World) (k N : Nat) (l : List Nat) (n : Nat) (e : Ending) (w' : World) : Prop :=
  (∃ er : Int, e = .returned (.tuple #[.slice none 0 0, .int .i64 er]) ∧ er ≠ 0 ∧ Below w.heap.size w w') ∨
  (∃ g, e = .returned (.tuple #[.slice (some ⟨g, 0, none⟩) k k, .int .i64 0]) ∧ n = k ∧ vbe l < N ∧ Blk w' g 5 (cn .u8 (bytesOf k (vbe l ^ keyE % N))) ∧ Below w.heap.size w w')
theorem Open_all (g k N gm c gr : Nat) (A : Option Addr) (n cap : Nat) (l : List Nat) (w : World) (hK : Keyed w g k N gm c gr) (h : Rd .u8 w A n l) (hf : Fit 256 l) (hcn : n ≤ cap) (hmn : cap ≤ maxLen) :
    Calls Tryd.prog 21 #[.pointer (some ⟨g, 0, none⟩), .slice A n cap] w (Opened w k N l n) := by
  by_cases hne : n = k
  · subst hne
    by_cases hlt : vbe l < N
    · exact (Open_yes g n N gm c gr A cap l w hK h hf hcn hmn hlt).mono fun e w' ⟨g, h1, h2, h3, h4⟩ => .inr ⟨g, h1, rfl, hlt, h3, h4⟩
    · exact (Open_no g n N gm c gr A cap l w hK h hf hcn hmn (by omega)).mono fun e w' ⟨h1, h2⟩ => .inl ⟨13, h1, by omega, h2⟩
  · exact (Open_size g k N gm c gr A n cap w hK hne).mono fun e w' ⟨h1, h2⟩ => .inl ⟨24, h1, by omega, h2⟩
theorem pow_prod (a b e N : Nat) : (a * b % N) ^ e % N = (a ^ e % N) * (b ^ e % N) % N := by
  rw [← Nat.pow_mod, Nat.mul_pow, Nat.mul_mod]
set_option maxRecDepth 100000 in
set_option maxHeartbeats 4000000 in
theorem walk_main (z k N : Nat) (hF : Fixed z k N) (A : Option Addr) (n cap : Nat) (l : List Nat) (As : Option Addr) (ns cs : Nat) (ls : List Nat) (w : World) (h : Rd .u8 w A n l) (hf : Fit 256 l) (hcn : n ≤ cap) (hmn : cap ≤ maxLen) (hs : Rd .u8 w As ns ls) (hfs : Fit 256 ls) (hcs : ns ≤ cs) (hms : cs ≤ maxLen) (hz : z ≤ 2) (h2 : ¬ (600 : Int) < n) (h3 : ¬ (600 : Int) < ns) :
    Calls Tryd.prog 8 #[.int .i64 (z : Int), .slice A n cap, .slice As ns cs] w fun e w' => e = .returned (.bool true) ∧ Below w.heap.size w w' := by
  have HF := Lib.hid hF
  have k1 := hF.k1
  have k2 := hF.k2
  have HR := Lib.hid h
  have HS := Lib.hid hs
  have z0 : ¬ (z : Int) < 0 := by omega
  have z1 : ¬ (2 : Int) < z := by omega
  clear h hs hF hz
  go_enter Tryd.func8, Tryd.ntmps8
  go_wp2_with fail
  refine (anchor_any w).mono ?_
  rintro e w1 ⟨rfl, hb1⟩
  go_wp2_with fail
  refine (HF.out.mo w1).mono ?_
  rintro e w2 ⟨Am, cm, rfl, hrow2, hb2⟩
  have HM := Lib.hid hrow2.rd
  have hcm := hrow2.le.1
  have hmm := hrow2.le.2
  have bel2 := below_then hb1 hb2
  clear hrow2
  go_wp2_with fail
  have hx3 : Below w2.heap.size w2 (w2.alloc (.cells #[.slice Am k cm] 22)) := (Below.refl _ _).alloc (Nat.le_refl _) _
  have hc3 : (w2.alloc (.cells #[.slice Am k cm] 22)).cell? ⟨w2.heap.size, 0, none⟩ = some (.slice Am k cm) := (Blk.new w2 22 [.slice Am k cm]).cell 0
  have hl3 : w2.heap.size < (w2.alloc (.cells #[.slice Am k cm] 22)).heap.size := by simp
  have hx4 := HM.out.below hx3
  generalize w2.alloc (.cells #[.slice Am k cm] 22) = w3 at *
  have HM3 := Lib.hid hx4
  have bel3 := below_then bel2 hx3
  clear hx4 hb1 hb2 bel2
  refine (Make_ok Am k cm _ w3 HM3.out (bytesOf_fit _ _) hcm hmm HF.out.modul).mono ?_
  rintro e w4 ⟨g, gm, rfl, ⟨ck, gr, hK⟩, hgm, hb4⟩
  rw [HF.out.vn] at hK
  have HK := Lib.hid hK
  have bel4 := below_then bel3 hb4
  clear hK hgm
  go_wp2_with fail
  refine (Open_all g k N gm ck gr A n cap l w4 HK.out (HR.out.below bel4) hf hcn hmn).mono ?_
  intro e w5 hO
  rcases hO with ⟨er, rfl, her, hb5⟩ | ⟨g5, rfl, hk5, hlt5, hB5, hb5⟩
  · have hd : (er != 0) = true := by simp [her]
    have bel5 := below_then bel4 hb5
    go_wp2_with fail
    refine (Open_all g k N gm ck gr As ns cs ls w5 (HK.out.below hb5) (HS.out.below bel5) hfs hcs hms).mono ?_
    intro e w6 hO
    have hfin : ∃ (p : Option Addr) (a c : Nat) (er2 : Int), e = .returned (.tuple #[.slice p a c, .int .i64 er2]) ∧ Below w5.heap.size w5 w6 := by
      rcases hO with ⟨er2, h1, _, h2⟩ | ⟨g2, h1, _, _, _, h2⟩
      · exact ⟨_, _, _, _, h1, h2⟩
      · exact ⟨_, _, _, _, h1, h2⟩
    obtain ⟨p2, a2, c2, er2, rfl, hb6⟩ := hfin
    clear hO
    go_wp2
    go_ret
    exact ⟨rfl, below_then bel5 hb6⟩
  · have HB5 := Lib.hid hB5
    have bel5 := below_then bel4 hb5
    clear hB5
    go_wp2_with fail
    refine (Open_all g k N gm ck gr As ns cs ls w5 (HK.out.below hb5) (HS.out.below bel5) hfs hcs hms).mono ?_
    intro e w6 hO
    rcases hO with ⟨er, rfl, her, hb6⟩ | ⟨g6, rfl, hk6, hlt6, hB6, hb6⟩
    · have hd : (er != 0) = true := by simp [her]
      clear hk5 hlt5
      go_wp2
      go_ret
      exact ⟨rfl, below_then bel5 hb6⟩
    · have hk5' := hk5.symm
      subst hk5'
      have hk6' := hk6.symm
      subst hk6'
      clear hk5 hk6
      have HB6 := Lib.hid hB6
      have bel6 := below_then bel5 hb6
      have hp : ∀ x, x % N < N := fun x => Nat.mod_lt x (Nat.lt_trans Nat.zero_lt_one HF.out.gt)
      have HP := Lib.hid hp
      have HLT5 := Lib.hid hlt5
      have HLT6 := Lib.hid hlt6
      have q6 : w6.cell? ⟨w2.heap.size, 0, none⟩ = some (.slice Am k cm) := ((below_then (below_then hb4 hb5) hb6).cell (p := ⟨w2.heap.size, 0, none⟩) hl3).trans hc3
      have HM6 := Lib.hid (((HM3.out.below hb4).below hb5).below hb6)
      have hl6 : w2.heap.size < w6.heap.size := Nat.lt_of_lt_of_le hl3 (below_then (below_then hb4 hb5) hb6).size
      have HK6 := Lib.hid ((HK.out.below hb5).below hb6)
      have HX5 := Lib.hid ((HB5.out.rd k (bytesOf_length _ _)).below hb6)
      have HX6 := Lib.hid (HB6.out.rd k (bytesOf_length _ _))
      have hmf : ∀ (fn : Fn) (first cap : Array Value) (w : World), (Instr.makeFunc fn first cap).run Tryd.prog w = .ok (.func fn first cap) w := fun _ _ _ _ => rfl
      clear hB6 HB5 HB6 hp hlt5 hlt6 hb4 hb5 hb6 bel3 bel4 bel5 HK hc3 hl3 HM HM3 hx3
      go_wp2_with fail
      have hx7 : Below w6.heap.size w6 (w6.alloc (.cells #[.int .i64 ((k : Int) / 4)] 3)) := (Below.refl _ _).alloc (Nat.le_refl _) _
      have hc7 : (w6.alloc (.cells #[.int .i64 ((k : Int) / 4)] 3)).cell? ⟨w6.heap.size, 0, none⟩ = some (.int .i64 ((k : Int) / 4)) := (Blk.new w6 3 [.int .i64 ((k : Int) / 4)]).cell 0
      have hl7 : w6.heap.size < (w6.alloc (.cells #[.int .i64 ((k : Int) / 4)] 3)).heap.size := by simp
      generalize w6.alloc (.cells #[.int .i64 ((k : Int) / 4)] 3) = w7 at *
      have q7 := (hx7.cell (p := ⟨w2.heap.size, 0, none⟩) hl6).trans q6
      have bel7 := below_then bel6 hx7
      have hl7m := Nat.lt_of_lt_of_le hl6 hx7.size
      refine (times_any w2.heap.size w6.heap.size Am k cm N A cap l As cs ls w7 q7 hl7m _ hc7 rfl hl7 (HM6.out.below hx7) hcm hmm HF.out.modul HF.out.room (HR.out.below bel7) hf hcn hmn (HS.out.below bel7) hfs hcs hms HLT5.out HLT6.out).mono ?_
      rintro e w8 ⟨g8, rfl, hB8, hb8⟩
      have HX8 := Lib.hid (hB8.rd k (bytesOf_length _ _))
      have bel8 := below_then bel7 hb8
      have HV8 := Lib.hid (bytesOf_val (Nat.lt_trans (HP.out (vbe l * vbe ls)) HF.out.room))
      clear hB8
      go_wp2_with fail
      refine (Open_yes g k N gm ck gr _ k _ w8 ((HK6.out.below hx7).below hb8) HX8.out (bytesOf_fit _ _) (Nat.le_refl _) (by unfold maxLen; omega) (by rw [HV8.out]; exact HP.out _)).mono ?_
      rw [HV8.out, pow_prod]
      rintro e w9 ⟨g9, rfl, hg9, hB9, hb9⟩
      have HX9 := Lib.hid (hB9.rd k (bytesOf_length _ _))
      have bel9 := below_then bel8 hb9
      have HV5 := Lib.hid (bytesOf_val (Nat.lt_trans (HP.out (vbe l ^ keyE)) HF.out.room))
      have HV6 := Lib.hid (bytesOf_val (Nat.lt_trans (HP.out (vbe ls ^ keyE)) HF.out.room))
      have HL5 := Lib.hid (HP.out (vbe l ^ keyE))
      have HL6 := Lib.hid (HP.out (vbe ls ^ keyE))
      generalize vbe l ^ keyE % N = x at *
      generalize vbe ls ^ keyE % N = y at *
      have HBEL := Lib.hid bel9
      have HT : Hid (∀ w, Below w9.heap.size w9 w → Calls Tryd.prog 26 #[.slice (some ⟨g5, 0, none⟩) k k, .slice (some ⟨g6, 0, none⟩) k k, .pointer (some ⟨w2.heap.size, 0, none⟩), .pointer (some ⟨w6.heap.size, 0, none⟩)] w fun e w' => ∃ g, e = .returned (.slice (some ⟨g, 0, none⟩) k k) ∧ Rd .u8 w' (some ⟨g, 0, none⟩) k (bytesOf k (x * y % N)) ∧ Below w.heap.size w w') := by
        intro w hr
        have hb7 := below_then (below_then hb8 hb9) hr
        have := times_any w2.heap.size w6.heap.size Am k cm N (some ⟨g5, 0, none⟩) k (bytesOf k x) (some ⟨g6, 0, none⟩) k (bytesOf k y) w ((hb7.cell (p := ⟨w2.heap.size, 0, none⟩) hl7m).trans q7) (Nat.lt_of_lt_of_le hl7m hb7.size) _ ((hb7.cell (p := ⟨w6.heap.size, 0, none⟩) hl7).trans hc7) rfl (Nat.lt_of_lt_of_le hl7 hb7.size) ((HM6.out.below hx7).below hb7) hcm hmm HF.out.modul HF.out.room ((HX5.out.below hx7).below hb7) (bytesOf_fit _ _) (Nat.le_refl _) (by unfold maxLen; omega) ((HX6.out.below hx7).below hb7) (bytesOf_fit _ _) (Nat.le_refl _) (by unfold maxLen; omega) (by rw [HV5.out]; exact HL5.out) (by rw [HV6.out]; exact HL6.out)
        rw [HV5.out, HV6.out] at this
        exact this.mono fun e w' ⟨g, he, hB, hb⟩ => ⟨g, he, hB.rd k (bytesOf_length _ _), hb⟩
      clear hB9 hg9 q7 hc7 hx7 hb8 hb9 bel7 bel8 bel9 HK6 q6 HX5 HX6 HM6 HX8 HV8
      go_wp2
      rename_i hKx
      refine wp_region_each (by kernel_rfl) (by kernel_rfl) (fun iX v w => match iX with
          | 0 => v = .int .i64 0
          | 1 => v = .bool true
          | 2 => v = .bool true
          | 3 => v = .slice (some ⟨g9, 0, none⟩) k k
          | 4 => v = .string (str (bytesOf k (x * y % N)))
          | 5 => v = .func (.func 26) #[] #[.pointer (some ⟨w2.heap.size, 0, none⟩), .pointer (some ⟨w6.heap.size, 0, none⟩)]
          | 6 => v = .slice (some ⟨g5, 0, none⟩) k k
          | 7 => v = .slice (some ⟨g6, 0, none⟩) k k
          | 8 => ∃ A c, v = .slice A k c ∧ Rd .u8 w A k (bytesOf k (x * y % N))
          | 9 => v = .string (str (bytesOf k (x * y % N)))
          | 10 => v = .bool true
          | 11 => v = .bool true
          | 12 => v = .bool true
          | _ => True) (fun u => Below w9.heap.size w9 u) ?m1 (fun _ _ h1 h2 => h1.trans (h2.mono h1.size)) ⟨rfl, rfl, rfl, Nat.le_refl _, fun _ _ => rfl⟩ ?m2 ?m3
      case m1 =>
        intro iX v w w' h hr hb
        rcases iX with _ | _ | _ | _ | _ | _ | _ | _ | _ | _ | _ | _ | _ | iX
        · exact h
        · exact h
        · exact h
        · exact h
        · exact h
        · exact h
        · exact h
        · exact h
        · obtain ⟨A, c, e, hk⟩ := h; exact ⟨A, c, e, hk.below hb⟩
        · exact h
        · exact h
        · exact h
        · exact h
        · trivial
      case m2 =>
        intro iX o ho a w hr hk hpre K hK
        have e17 : a.tmps.getD 17 undef = .int .i64 0 := hk.slot 17 (by simp)
        have e16 : a.tmps.getD 16 undef = .slice (some ⟨g9, 0, none⟩) k k := hk.slot 16 (by simp)
        have e15 : a.tmps.getD 15 undef = .func (.func 26) #[] #[.pointer (some ⟨w2.heap.size, 0, none⟩), .pointer (some ⟨w6.heap.size, 0, none⟩)] := hk.slot 15 (by simp)
        have e10 : a.tmps.getD 10 undef = .slice (some ⟨g5, 0, none⟩) k k := hk.slot 10 (by simp)
        have e12 : a.tmps.getD 12 undef = .slice (some ⟨g6, 0, none⟩) k k := hk.slot 12 (by simp)
        rcases iX with _ | _ | _ | _ | _ | _ | _ | _ | _ | _ | _ | _ | _ | iX
        · obtain rfl := Option.some.inj ho
          exact st_move (.tmp 17) rfl (want_none rfl) _ e17 (hK _ _ rfl (Below.refl _ _))
        · obtain rfl := Option.some.inj ho
          exact st_eqlInt 25 (.tmp 80) (.const (.int .i64 0)) rfl (want_none rfl) _ (hpre 0 _ 80 rfl rfl ⟨⟨0, .data⟩, by simp, rfl, rfl⟩) rfl (hK _ _ rfl (Below.refl _ _))
        · obtain rfl := Option.some.inj ho
          exact st_move (.tmp 81) rfl (want_none rfl) _ (hpre 1 _ 81 rfl rfl ⟨⟨1, .data⟩, by simp, rfl, rfl⟩) (hK _ _ rfl (Below.refl _ _))
        · obtain rfl := Option.some.inj ho
          exact st_move (.tmp 16) rfl (want_some rfl rfl rfl (hpre 2 _ 82 rfl rfl ⟨⟨2, .guard⟩, by simp, rfl, rfl⟩)) _ e16 (hK _ _ rfl (Below.refl _ _))
        · obtain rfl := Option.some.inj ho
          exact st_conv (.tmp 83) rfl (want_some rfl rfl rfl (hpre 2 _ 82 rfl rfl ⟨⟨2, .guard⟩, by simp, rfl, rfl⟩)) _ _ _ _ (hpre 3 _ 83 rfl rfl ⟨⟨3, .data⟩, by simp, rfl, rfl⟩) (HX9.out.below hr) (hK _ _ rfl (Below.refl _ _))
        · obtain rfl := Option.some.inj ho
          exact st_move (.tmp 15) rfl (want_some rfl rfl rfl (hpre 2 _ 82 rfl rfl ⟨⟨2, .guard⟩, by simp, rfl, rfl⟩)) _ e15 (hK _ _ rfl (Below.refl _ _))
        · obtain rfl := Option.some.inj ho
          exact st_move (.tmp 10) rfl (want_some rfl rfl rfl (hpre 2 _ 82 rfl rfl ⟨⟨2, .guard⟩, by simp, rfl, rfl⟩)) _ e10 (hK _ _ rfl (Below.refl _ _))
        · obtain rfl := Option.some.inj ho
          exact st_move (.tmp 12) rfl (want_some rfl rfl rfl (hpre 2 _ 82 rfl rfl ⟨⟨2, .guard⟩, by simp, rfl, rfl⟩)) _ e12 (hK _ _ rfl (Below.refl _ _))
        · obtain rfl := Option.some.inj ho
          exact st_callV 26 (.tmp 85) (.tmp 86) (.tmp 87) 22 22 rfl (want_some rfl rfl rfl (hpre 2 _ 82 rfl rfl ⟨⟨2, .guard⟩, by simp, rfl, rfl⟩)) _ _ _ _ (hpre 5 _ 85 rfl rfl ⟨⟨5, .data⟩, by simp, rfl, rfl⟩) (hpre 6 _ 86 rfl rfl ⟨⟨6, .data⟩, by simp, rfl, rfl⟩) (hpre 7 _ 87 rfl rfl ⟨⟨7, .data⟩, by simp, rfl, rfl⟩) (cf26 _ _ _ _ _) _ (HT.out w hr) (fun e w' ⟨_, he, hrd, hb⟩ => ⟨_, he, hK _ _ ⟨_, _, rfl, hrd⟩ hb⟩)
        · obtain rfl := Option.some.inj ho
          obtain ⟨A, c, eg, hs⟩ := (hpre 8 _ 88 rfl rfl ⟨⟨8, .data⟩, by simp, rfl, rfl⟩)
          exact st_conv (.tmp 88) rfl (want_some rfl rfl rfl (hpre 2 _ 82 rfl rfl ⟨⟨2, .guard⟩, by simp, rfl, rfl⟩)) _ _ _ _ eg hs (hK _ _ rfl (Below.refl _ _))
        · obtain rfl := Option.some.inj ho
          exact st_eqlStr (.tmp 84) (.tmp 89) rfl (want_some rfl rfl rfl (hpre 2 _ 82 rfl rfl ⟨⟨2, .guard⟩, by simp, rfl, rfl⟩)) _ (hpre 4 _ 84 rfl rfl ⟨⟨4, .data⟩, by simp, rfl, rfl⟩) (hpre 9 _ 89 rfl rfl ⟨⟨9, .data⟩, by simp, rfl, rfl⟩) (hK _ _ rfl (Below.refl _ _))
        · obtain rfl := Option.some.inj ho
          exact st_pick (.tmp 82) (.tmp 90) (.const (.bool false)) rfl (want_none rfl) true (hpre 2 _ 82 rfl rfl ⟨⟨2, .data⟩, by simp, rfl, rfl⟩) _ ((if_pos rfl).trans (hpre 10 _ 90 rfl rfl ⟨⟨10, .data⟩, by simp, rfl, rfl⟩)) (hK _ _ rfl (Below.refl _ _))
        · obtain rfl := Option.some.inj ho
          exact st_assign (.tmp 91) rfl (want_none rfl) _ (hpre 11 _ 91 rfl rfl ⟨⟨11, .data⟩, by simp, rfl, rfl⟩) (hK _ _ rfl (Below.refl _ _))
        · cases ho
      case m3 =>
        intro a w hr hk hv
        have h6 := hv 12 _ 6 rfl rfl
        refine hKx a w (wp_ret (bodyPost_ret (results_tmp rfl _ _ _) hk.defers ⟨?_, below_then HBEL.out hr⟩))
        exact congrArg Ending.returned h6

theorem walk (z : Int) (A : Option Addr) (n cap : Nat) (l : List Nat) (As : Option Addr) (ns cs : Nat) (ls : List Nat) (w : World) (_ : (Lit.int .i64 z).wf = true) (h : Rd .u8 w A n l) (hf : Fit 256 l) (hcn : n ≤ cap) (hmn : cap ≤ maxLen) (hs : Rd .u8 w As ns ls) (hfs : Fit 256 ls) (hcs : ns ≤ cs) (hms : cs ≤ maxLen) :
    Calls Tryd.prog 8 #[.int .i64 z, .slice A n cap, .slice As ns cs] w fun e w' => e = .returned (.bool true) ∧ Below w.heap.size w w' := by
  by_cases h0 : z < 0
  · exact walk_g0 z A n cap As ns cs w h0
  by_cases h1 : 2 < z
  · exact walk_g1 z A n cap As ns cs w h0 h1
  by_cases h2 : 600 < n
  · exact walk_g2 z A n cap As ns cs w h0 h1 (by omega)
  by_cases h3 : 600 < ns
  · exact walk_g3 z A n cap As ns cs w h0 h1 (by omega) (by omega)
  obtain ⟨y, rfl⟩ : ∃ y : Nat, z = (y : Int) := ⟨z.toNat, by omega⟩
  obtain ⟨k, N, hF⟩ := fixed_of (z := y) (by omega)
  exact walk_main y k N hF A n cap l As ns cs ls w h hf hcn hmn hs hfs hcs hms (by omega) (by omega) (by omega)

-- THE ROW's STEP
set_option maxRecDepth 100000 in
theorem lifted (os : Os) (started : os.Started) (H : Type) (enc : TypeId × Value → H) :
    ReturnsInHanded {} Tryd.checked os 8 .any (fun w args => (Rows.keyProductsSpec.pre enc Tryd.prog Tryd.f8 [] false w args ∧ laidMetH Tryd.prog listed w) ∧ sizedMet enc Tryd.prog Tryd.f8 (OpenSpec.ofChange Rows.keyProductsSpec) false w args)
      (Rows.keyProductsSpec.post enc Tryd.prog Tryd.f8 false true false false) := by
  refine returnsInHanded_of_change_and (C := Tryd.checked) (X := fun w _ => laidMetH Tryd.prog listed w) (fun _ _ _ hh h => h.of_heap hh) own started (by kernel_rfl) Tryd.func8
    (ChangeSpec.witness_shaped (enc := enc) (C := Tryd.checked) (os := os) (X := fun w _ => laidMetH Tryd.prog listed w) false (World.laidAll Tryd.prog os listed) #[.int .i64 0, .slice none 0 0, .slice none 0 0] 8 (World.laidAll_os _ _ _)
      (World.shaped_of_ZipB (by kernel_rfl) (by kernel_rfl)) (by kernel_rfl) (by kernel_rfl) (by kernel_rfl)
      (by rw [MakeChecks.laidMetH_plain _ _ _ (by kernel_rfl)]; exact laidMet_laidAll _ (by kernel_rfl) (by kernel_rfl))) ?_
  intro W base args ds gs before hval0 hW _ _ hL _
  have hval : ∀ (j : Nat) t v, Tryd.f8.params[j]? = some t → args[j]? = some v → Value.okWide Tryd.prog W .any base t v := hval0
  have hW' := hW
  obtain ⟨p, q, hA0, hV, rfl, hfz, hnd⟩ := hW
  have hA : DataW.TrodAll enc Tryd.prog W 0 (fun _ => true) true Tryd.f8.params.toList args.toList ds p := hA0
  rw [Tryd.params8] at hA hval
  obtain ⟨v0, vs0, d0, ds0, p0, q0, hargs, rfl, rfl, h0, r0⟩ := trodAll_cons hA
  obtain ⟨v1, vs1, d1, ds1, p1, q1, rfl, rfl, rfl, h1, r1⟩ := trodAll_cons r0
  obtain ⟨v2, vs2, d2, ds2, p2, q2, rfl, rfl, rfl, h2, r2⟩ := trodAll_cons r1
  obtain ⟨rfl, rfl, rfl⟩ := trodAll_nil r2
  obtain rfl : args = #[v0, v1, v2] := by cases args; simp_all
  obtain ⟨rfl, rfl⟩ := trodVars_none hV
  obtain ⟨a0, rfl, rfl, rfl, w0⟩ := open_int Tryd.underlying3 (hval 0 3 v0 rfl rfl) h0
  have k1 := h1
  have lt1 : ∀ x ∈ p1, x.block < W.heap.size := by obtain ⟨m, hm⟩ := k1; exact DataW.trod_lt m _ _ _ hm
  obtain ⟨fuel1, hf1⟩ := h1
  obtain ⟨a1, len1, cap1, l1, e1, g1, hlc1, hcm1, hnil1⟩ := bytes_of_trod hf1
  obtain ⟨b1, lb1, cb1, hv1⟩ := okWide_slice Tryd.underlying22 (hval 1 22 v1 rfl rfl)
  have ev1 : v1 = .slice a1 len1 cap1 := by rw [hv1] at e1 ⊢; simpa [Value.cells] using e1
  subst ev1
  have k2 := h2
  have lt2 : ∀ x ∈ p2, x.block < W.heap.size := by obtain ⟨m, hm⟩ := k2; exact DataW.trod_lt m _ _ _ hm
  obtain ⟨fuel2, hf2⟩ := h2
  obtain ⟨a2, len2, cap2, l2, e2, g2, hlc2, hcm2, hnil2⟩ := bytes_of_trod hf2
  obtain ⟨b2, lb2, cb2, hv2⟩ := okWide_slice Tryd.underlying22 (hval 2 22 v2 rfl rfl)
  have ev2 : v2 = .slice a2 len2 cap2 := by rw [hv2] at e2 ⊢; simpa [Value.cells] using e2
  subst ev2
  clear hA0 hval0
  refine (walk a0 a1 len1 cap1 l1 a2 len2 cap2 l2 W w0 g1.1 g1.2 hlc1 hcm1 g2.1 g2.2 hlc2 hcm2).mono fun e W' ⟨he, bel⟩ => ?_
  subst he
  exact ⟨_, rfl, _, _, _, [], _, [], hW', trodAll_mk1 (shut_bool Tryd.underlying4 _), (trodAll_cons_mk (shut_int Tryd.underlying3 w0) (trodAll_cons_mk (Below.trod laidOut (by kernel_rfl) (of_decide_eq_true (by kernel_rfl)) k1 bel lt1) (trodAll_cons_mk (Below.trod laidOut (by kernel_rfl) (of_decide_eq_true (by kernel_rfl)) k2 bel lt2) trodAll_mk0))), rfl, bel.frame _, fun h => by cases h⟩

theorem row_holds : Rows.KeyProductsSaid :=
  OpenClaim.holds_of_wide 8 Tryd.f8 rfl rfl rfl rfl rfl rfl rfl ⟨rfl, rfl, rfl, rfl, rfl⟩ rfl rfl rfl rfl rfl (by kernel_rfl) Tryd.func8 (by kernel_rfl)
    (of_decide_eq_true (by kernel_rfl)) (by unfold Func.isWrapper; first | (rw [if_pos (by decide +kernel)]; kernel_rfl) | (rw [if_neg (by decide +kernel)]; exact ⟨rfl, rfl⟩))
    (fun os started H enc _ => lifted os started H enc)

theorem proved : Rows.KeyProductsCardSaid :=
  Claim7.holds_tied_plain_at .later [] [.data, .pinned] true Rows.keyProductsCard.stood.harness false
    row_holds (fun _ h => by cases h) (by kernel_rfl) (fun _ h => by cases h) keyProducts_row_tie rfl ⟨rfl, rfl⟩ (by kernel_rfl) rfl
    (fun f fn hf hfn => by
      obtain rfl : f = 8 := Option.some.inj ((show Tryd.prog.funcNamed Tryd.f8.name = some 8 by kernel_rfl).symm.trans hf) |>.symm
      obtain rfl : fn = Tryd.f8 := (Option.some.inj (Tryd.func8.symm.trans hfn)).symm
      exact ⟨by kernel_rfl, fun j t ht => by
        rw [Tryd.params8] at ht
        have hm : t ∈ [3, 22, 22] := by simpa using Array.mem_of_getElem? ht
        have hall : ([3, 22, 22].all fun u => !Tryd.prog.wantsStandIn u) = true := by kernel_rfl
        exact (show Tryd.prog.wantsStandIn t = false by simpa using List.all_eq_true.1 hall t hm)⟩)
    (by kernel_rfl)
end Go.Proofs.YtojpbfkdkkdpcaaDoor.keyProducts
