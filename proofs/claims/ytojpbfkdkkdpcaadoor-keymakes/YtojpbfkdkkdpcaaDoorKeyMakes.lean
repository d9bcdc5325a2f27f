/-
  For every text KeyMakes returns true. No condition but that four tables hold what their text lays there: two of the code's own, which the sums are made with, and two of Go's library, which the call does not read.
-/
import Derived.Test.YtojpbfkdkkdpcaaDoorLaw4
import Derived.Test.YtojpbfkdkkdpcaaDoorEach6
import Derived.Test.YtojpbfkdkkdpcaaDoorR4
import Derived.Test.YtojpbfkdkkdpcaaDoorTie
import Derived.Test.YtojpbfkdkkdpcaaDoorCards
namespace Go.Proofs.YtojpbfkdkkdpcaaDoor.keyMakes
open Go.Proofs.YtojpbfkdkkdpcaaDoor Go.ChangeShapes Go.WideShapes Go.ChangeAt Go.RowKit
set_option linter.unusedVariables false
set_option linter.unusedSimpArgs false

set_option maxRecDepth 100000 in
set_option maxHeartbeats 4000000 in
theorem walk_g1 (A : Option Addr) (n cap : Nat) (l : List Nat) (w : World) (h1 : (128 : Int) < n) (h2 : (n : Int) < 600) :
    Calls Tryd.prog 3 #[.slice A n cap] w fun e w' => e = .returned (.bool true) ∧ Below w.heap.size w w' := by
  go_enter Tryd.func3, Tryd.ntmps3
  go_wp2_with fail
  refine (anchor_any w).mono ?_
  rintro e w1 ⟨rfl, hb1⟩
  go_wp2
  go_ret
  exact ⟨rfl, hb1⟩

set_option maxRecDepth 100000 in
set_option maxHeartbeats 4000000 in
theorem walk_g2 (A : Option Addr) (n cap : Nat) (l : List Nat) (w : World) (h1 : (128 : Int) < n) (h2 : ¬ (n : Int) < 600) (h3 : (1000 : Int) < n) :
    Calls Tryd.prog 3 #[.slice A n cap] w fun e w' => e = .returned (.bool true) ∧ Below w.heap.size w w' := by
  go_enter Tryd.func3, Tryd.ntmps3
  go_wp2_with fail
  refine (anchor_any w).mono ?_
  rintro e w1 ⟨rfl, hb1⟩
  go_wp2
  go_ret
  exact ⟨rfl, hb1⟩

set_option maxRecDepth 100000 in
set_option maxHeartbeats 4000000 in
theorem walk_size_a (A : Option Addr) (n cap : Nat) (l : List Nat) (w : World) (h1 : ¬ (128 : Int) < n) (h3 : ¬ (1000 : Int) < n) (hs : n < 64 ∨ 512 < n ∨ n % 64 ≠ 0) :
    Calls Tryd.prog 3 #[.slice A n cap] w fun e w' => e = .returned (.bool true) ∧ Below w.heap.size w w' := by
  have HS := Lib.hid hs
  clear hs
  go_enter Tryd.func3, Tryd.ntmps3
  go_wp2_with fail
  refine (anchor_any w).mono ?_
  rintro e w1 ⟨rfl, hb1⟩
  go_wp2_with fail
  refine (Make_bits A n cap w1 (by omega) HS.out).mono ?_
  rintro e w2 ⟨rfl, hb2⟩
  have bel2 := below_then hb1 hb2
  go_wp2_with fail
  refine (Right_size A n cap w2 (by unfold maxLen; omega) HS.out).mono ?_
  rintro e w3 ⟨rfl, rfl⟩
  go_wp2
  go_ret
  exact ⟨rfl, bel2⟩

set_option maxRecDepth 100000 in
set_option maxHeartbeats 4000000 in
theorem walk_size_b (A : Option Addr) (n cap : Nat) (l : List Nat) (w : World) (h1 : (128 : Int) < n) (h2 : ¬ (n : Int) < 600) (h3 : ¬ (1000 : Int) < n) (hs : n < 64 ∨ 512 < n ∨ n % 64 ≠ 0) :
    Calls Tryd.prog 3 #[.slice A n cap] w fun e w' => e = .returned (.bool true) ∧ Below w.heap.size w w' := by
  have HS := Lib.hid hs
  clear hs
  go_enter Tryd.func3, Tryd.ntmps3
  go_wp2_with fail
  refine (anchor_any w).mono ?_
  rintro e w1 ⟨rfl, hb1⟩
  go_wp2_with fail
  refine (Make_bits A n cap w1 (by omega) HS.out).mono ?_
  rintro e w2 ⟨rfl, hb2⟩
  have bel2 := below_then hb1 hb2
  go_wp2_with fail
  refine (Right_size A n cap w2 (by unfold maxLen; omega) HS.out).mono ?_
  rintro e w3 ⟨rfl, rfl⟩
  go_wp2
  go_ret
  exact ⟨rfl, bel2⟩

set_option maxRecDepth 100000 in
set_option maxHeartbeats 4000000 in
theorem walk_form (A : Option Addr) (n cap : Nat) (l : List Nat) (w : World) (h1 : ¬ (128 : Int) < n) (h3 : ¬ (1000 : Int) < n) (h : Rd .u8 w A n l) (hf : Fit 256 l) (hcn : n ≤ cap) (hmn : cap ≤ maxLen) (hs : 64 ≤ n ∧ n ≤ 512 ∧ n % 64 = 0) (a z : Nat) (ha : l[0]? = some a) (hz : l[n - 1]? = some z) (hb : a < 128 ∨ z % 2 = 0) :
    Calls Tryd.prog 3 #[.slice A n cap] w fun e w' => e = .returned (.bool true) ∧ Below w.heap.size w w' := by
  have HR := Lib.hid h
  have HH := Lib.hid (And.intro hs (And.intro ha (And.intro hz hb)))
  clear h hs ha hz hb
  go_enter Tryd.func3, Tryd.ntmps3
  go_wp2_with fail
  refine (anchor_any w).mono ?_
  rintro e w1 ⟨rfl, hb1⟩
  go_wp2_with fail
  refine (Make_form A n cap l w1 (HR.out.below hb1) hf HH.out.1 a z HH.out.2.1 HH.out.2.2.1 HH.out.2.2.2).mono ?_
  rintro e w2 ⟨rfl, hb2⟩
  have bel2 := below_then hb1 hb2
  go_wp2_with fail
  refine (Right_form A n cap l w2 (HR.out.below bel2) HH.out.1 a z HH.out.2.1 HH.out.2.2.1 HH.out.2.2.2).mono ?_
  rintro e w3 ⟨rfl, rfl⟩
  go_wp2
  go_ret
  exact ⟨rfl, bel2⟩

set_option maxRecDepth 100000 in
set_option maxHeartbeats 4000000 in
theorem walk_ok (A : Option Addr) (n cap : Nat) (l : List Nat) (w : World) (h1 : ¬ (128 : Int) < n) (h3 : ¬ (1000 : Int) < n) (h : Rd .u8 w A n l) (hf : Fit 256 l) (hcn : n ≤ cap) (hmn : cap ≤ maxLen) (hM : Modul n l) (ht : YtojpbfkdkkdpcaaDoorSh.Tabs w) :
    Calls Tryd.prog 3 #[.slice A n cap] w fun e w' => e = .returned (.bool true) ∧ Below w.heap.size w w' := by
  have HR := Lib.hid h
  have HM := Lib.hid hM
  have HT0 := Lib.hid ht
  have HBO : Hid (str (bytesOf n (vbe l)) = str l) := by show _ = _; rw [← bytesOf_eq h.1 hf rfl]
  obtain ⟨M, hMM⟩ : ∃ M, M = 8 + 2 * n := ⟨_, rfl⟩
  have HMM := Lib.hid hMM
  clear h hM ht hMM
  go_enter Tryd.func3, Tryd.ntmps3
  go_wp2_with fail
  refine (anchor_any w).mono ?_
  rintro e w1 ⟨rfl, hb1⟩
  go_wp2_with fail
  refine (Make_ok A n cap l w1 (HR.out.below hb1) hf hcn hmn HM.out).mono ?_
  rintro e w2 ⟨g, gm, rfl, ⟨ck, gr, hK⟩, hgm, hb2⟩
  have HK := Lib.hid hK
  have bel2 := below_then hb1 hb2
  have HR2 := Lib.hid (HR.out.below bel2)
  have HT := Lib.hid (HT0.out.below bel2)
  have HBEL := Lib.hid bel2
  clear hK hgm hb1 hb2 bel2
  go_wp2_with fail
  refine (Right_yes A n cap l w2 HR2.out HM.out).mono ?_
  rintro e w3 ⟨rfl, rfl⟩
  go_wp2
  rename_i hKx
  refine wp_region_each (by kernel_rfl) (by kernel_rfl) (fun iX v w => match iX with
      | 0 => v = .pointer (some ⟨g, 0, none⟩)
      | 1 => ∃ A c, v = .slice A M c ∧ Rd .u8 w A M (keyBytes n (vbe l))
      | 2 => v = .string (str (keyBytes n (vbe l)))
      | 3 => v = .slice A n cap
      | 4 => ∃ A c, v = .slice A M c ∧ Rd .u8 w A M (keyBytes n (vbe l))
      | 5 => v = .string (str (keyBytes n (vbe l)))
      | 6 => v = .bool true
      | 7 => v = .bool true
      | 8 => v = .pointer (some ⟨g, 0, none⟩)
      | 9 => v = .int .i64 (n : Int)
      | 10 => v = .slice A n cap
      | 11 => v = .int .i64 (n : Int)
      | 12 => v = .bool true
      | 13 => v = .bool true
      | 14 => v = .bool true
      | 15 => v = .pointer (some ⟨g, 0, none⟩)
      | 16 => ∃ A c, v = .slice A n c ∧ Rd .u8 w A n (bytesOf n (vbe l))
      | 17 => v = .string (str l)
      | 18 => v = .slice A n cap
      | 19 => v = .string (str l)
      | 20 => v = .bool true
      | 21 => v = .bool true
      | 22 => v = .bool true
      | 23 => v = .pointer (some ⟨g, 0, none⟩)
      | 24 => ∃ A c, v = .slice A 32 c ∧ Rd .u8 w A 32 (nameOf n (vbe l))
      | 25 => v = .string (str (nameOf n (vbe l)))
      | 26 => v = .slice A n cap
      | 27 => ∃ A c, v = .slice A 32 c ∧ Rd .u8 w A 32 (nameOf n (vbe l))
      | 28 => v = .string (str (nameOf n (vbe l)))
      | 29 => v = .bool true
      | 30 => v = .bool true
      | 31 => v = .bool true
      | _ => True) (fun u => Below w2.heap.size w2 u) ?m1 (fun _ _ h1 h2 => h1.trans (h2.mono h1.size)) ⟨rfl, rfl, rfl, Nat.le_refl _, fun _ _ => rfl⟩ ?m2 ?m3
  case m1 =>
    intro iX v w w' h hr hb
    rcases iX with _ | _ | _ | _ | _ | _ | _ | _ | _ | _ | _ | _ | _ | _ | _ | _ | _ | _ | _ | _ | _ | _ | _ | _ | _ | _ | _ | _ | _ | _ | _ | _ | iX
    · exact h
    · obtain ⟨A, c, e, hk⟩ := h; exact ⟨A, c, e, hk.below hb⟩
    · exact h
    · exact h
    · obtain ⟨A, c, e, hk⟩ := h; exact ⟨A, c, e, hk.below hb⟩
    · exact h
    · exact h
    · exact h
    · exact h
    · exact h
    · exact h
    · exact h
    · exact h
    · exact h
    · exact h
    · exact h
    · obtain ⟨A, c, e, hk⟩ := h; exact ⟨A, c, e, hk.below hb⟩
    · exact h
    · exact h
    · exact h
    · exact h
    · exact h
    · exact h
    · exact h
    · obtain ⟨A, c, e, hk⟩ := h; exact ⟨A, c, e, hk.below hb⟩
    · exact h
    · exact h
    · obtain ⟨A, c, e, hk⟩ := h; exact ⟨A, c, e, hk.below hb⟩
    · exact h
    · exact h
    · exact h
    · exact h
    · trivial
  case m2 =>
    intro iX o ho a w hr hk hpre K hK
    have e3 : a.tmps.getD 3 undef = .pointer (some ⟨g, 0, none⟩) := hk.slot 3 (by simp)
    have e0 : a.tmps.getD 0 undef = .slice A n cap := hk.slot 0 (by simp)
    rcases iX with _ | _ | _ | _ | _ | _ | _ | _ | _ | _ | _ | _ | _ | _ | _ | _ | _ | _ | _ | _ | _ | _ | _ | _ | _ | _ | _ | _ | _ | _ | _ | _ | iX
    · obtain rfl := Option.some.inj ho
      exact st_move (.tmp 3) rfl (want_none rfl) _ e3 (hK _ _ rfl (Below.refl _ _))
    · obtain rfl := Option.some.inj ho
      exact st_call1 13 (.tmp 43) 24 rfl (want_none rfl) _ (hpre 0 _ 43 rfl rfl ⟨⟨0, .data⟩, by simp, rfl, rfl⟩) (cf13 _ _) _ (KBytes_any g n _ gm ck gr w (HK.out.below hr) M HMM.out) (fun e w' ⟨_, _, he, _, hrow, hb⟩ => ⟨_, he, hK _ _ ⟨_, _, rfl, hrow.rd⟩ hb⟩)
    · obtain rfl := Option.some.inj ho
      obtain ⟨A, c, eg, hs⟩ := (hpre 1 _ 44 rfl rfl ⟨⟨1, .data⟩, by simp, rfl, rfl⟩)
      exact st_conv (.tmp 44) rfl (want_none rfl) _ _ _ _ eg hs (hK _ _ rfl (Below.refl _ _))
    · obtain rfl := Option.some.inj ho
      exact st_move (.tmp 0) rfl (want_none rfl) _ e0 (hK _ _ rfl (Below.refl _ _))
    · obtain rfl := Option.some.inj ho
      exact st_call1 14 (.tmp 46) 22 rfl (want_none rfl) _ (hpre 3 _ 46 rfl rfl ⟨⟨3, .data⟩, by simp, rfl, rfl⟩) (cf14 _ _) _ (RefBytes_any A n cap l w (HR2.out.below hr) hf HM.out M HMM.out) (fun e w' ⟨_, _, he, hrow, hb⟩ => ⟨_, he, hK _ _ ⟨_, _, rfl, hrow.rd⟩ hb⟩)
    · obtain rfl := Option.some.inj ho
      obtain ⟨A, c, eg, hs⟩ := (hpre 4 _ 47 rfl rfl ⟨⟨4, .data⟩, by simp, rfl, rfl⟩)
      exact st_conv (.tmp 47) rfl (want_none rfl) _ _ _ _ eg hs (hK _ _ rfl (Below.refl _ _))
    · obtain rfl := Option.some.inj ho
      exact st_eqlStr (.tmp 45) (.tmp 48) rfl (want_none rfl) _ (hpre 2 _ 45 rfl rfl ⟨⟨2, .data⟩, by simp, rfl, rfl⟩) (hpre 5 _ 48 rfl rfl ⟨⟨5, .data⟩, by simp, rfl, rfl⟩) (hK _ _ rfl (Below.refl _ _))
    · obtain rfl := Option.some.inj ho
      exact st_move (.tmp 49) rfl (want_none rfl) _ (hpre 6 _ 49 rfl rfl ⟨⟨6, .data⟩, by simp, rfl, rfl⟩) (hK _ _ rfl (Below.refl _ _))
    · obtain rfl := Option.some.inj ho
      exact st_move (.tmp 3) rfl (want_some rfl rfl rfl (hpre 7 _ 50 rfl rfl ⟨⟨7, .guard⟩, by simp, rfl, rfl⟩)) _ e3 (hK _ _ rfl (Below.refl _ _))
    · obtain rfl := Option.some.inj ho
      exact st_call1 15 (.tmp 51) 24 rfl (want_some rfl rfl rfl (hpre 7 _ 50 rfl rfl ⟨⟨7, .guard⟩, by simp, rfl, rfl⟩)) _ (hpre 8 _ 51 rfl rfl ⟨⟨8, .data⟩, by simp, rfl, rfl⟩) (cf15 _ _) _ (Size_any g n _ gm ck gr w (HK.out.below hr)) (fun e w' ⟨he, hw⟩ => ⟨_, he, hK _ _ rfl (by rw [← hw]; exact Below.refl _ _)⟩)
    · obtain rfl := Option.some.inj ho
      exact st_move (.tmp 0) rfl (want_some rfl rfl rfl (hpre 7 _ 50 rfl rfl ⟨⟨7, .guard⟩, by simp, rfl, rfl⟩)) _ e0 (hK _ _ rfl (Below.refl _ _))
    · obtain rfl := Option.some.inj ho
      exact st_len (.tmp 53) rfl (want_some rfl rfl rfl (hpre 7 _ 50 rfl rfl ⟨⟨7, .guard⟩, by simp, rfl, rfl⟩)) _ _ _ (hpre 10 _ 53 rfl rfl ⟨⟨10, .data⟩, by simp, rfl, rfl⟩) (hK _ _ rfl (Below.refl _ _))
    · obtain rfl := Option.some.inj ho
      exact st_eqlInt 3 (.tmp 52) (.tmp 54) rfl (want_some rfl rfl rfl (hpre 7 _ 50 rfl rfl ⟨⟨7, .guard⟩, by simp, rfl, rfl⟩)) _ (hpre 9 _ 52 rfl rfl ⟨⟨9, .data⟩, by simp, rfl, rfl⟩) (hpre 11 _ 54 rfl rfl ⟨⟨11, .data⟩, by simp, rfl, rfl⟩) (hK _ _ rfl (Below.refl _ _))
    · obtain rfl := Option.some.inj ho
      exact st_pick (.tmp 50) (.tmp 55) (.const (.bool false)) rfl (want_none rfl) true (hpre 7 _ 50 rfl rfl ⟨⟨7, .data⟩, by simp, rfl, rfl⟩) _ ((if_pos rfl).trans (hpre 12 _ 55 rfl rfl ⟨⟨12, .data⟩, by simp, rfl, rfl⟩)) (hK _ _ rfl (Below.refl _ _))
    · obtain rfl := Option.some.inj ho
      exact st_move (.tmp 56) rfl (want_none rfl) _ (hpre 13 _ 56 rfl rfl ⟨⟨13, .data⟩, by simp, rfl, rfl⟩) (hK _ _ rfl (Below.refl _ _))
    · obtain rfl := Option.some.inj ho
      exact st_move (.tmp 3) rfl (want_some rfl rfl rfl (hpre 14 _ 57 rfl rfl ⟨⟨14, .guard⟩, by simp, rfl, rfl⟩)) _ e3 (hK _ _ rfl (Below.refl _ _))
    · obtain rfl := Option.some.inj ho
      exact st_call1 16 (.tmp 58) 24 rfl (want_some rfl rfl rfl (hpre 14 _ 57 rfl rfl ⟨⟨14, .guard⟩, by simp, rfl, rfl⟩)) _ (hpre 15 _ 58 rfl rfl ⟨⟨15, .data⟩, by simp, rfl, rfl⟩) (cf16 _ _) _ (Modulus_any g n _ gm ck gr w (HK.out.below hr)) (fun e w' ⟨_, _, he, _, hrow, hb⟩ => ⟨_, he, hK _ _ ⟨_, _, rfl, hrow.rd⟩ hb⟩)
    · obtain rfl := Option.some.inj ho
      obtain ⟨A, c, eg, hs⟩ := (hpre 16 _ 59 rfl rfl ⟨⟨16, .data⟩, by simp, rfl, rfl⟩)
      exact st_conv (.tmp 59) rfl (want_some rfl rfl rfl (hpre 14 _ 57 rfl rfl ⟨⟨14, .guard⟩, by simp, rfl, rfl⟩)) _ _ _ _ eg hs (hK _ _ (congrArg Value.string HBO.out) (Below.refl _ _))
    · obtain rfl := Option.some.inj ho
      exact st_move (.tmp 0) rfl (want_some rfl rfl rfl (hpre 14 _ 57 rfl rfl ⟨⟨14, .guard⟩, by simp, rfl, rfl⟩)) _ e0 (hK _ _ rfl (Below.refl _ _))
    · obtain rfl := Option.some.inj ho
      exact st_conv (.tmp 61) rfl (want_some rfl rfl rfl (hpre 14 _ 57 rfl rfl ⟨⟨14, .guard⟩, by simp, rfl, rfl⟩)) _ _ _ _ (hpre 18 _ 61 rfl rfl ⟨⟨18, .data⟩, by simp, rfl, rfl⟩) (HR2.out.below hr) (hK _ _ rfl (Below.refl _ _))
    · obtain rfl := Option.some.inj ho
      exact st_eqlStr (.tmp 60) (.tmp 62) rfl (want_some rfl rfl rfl (hpre 14 _ 57 rfl rfl ⟨⟨14, .guard⟩, by simp, rfl, rfl⟩)) _ (hpre 17 _ 60 rfl rfl ⟨⟨17, .data⟩, by simp, rfl, rfl⟩) (hpre 19 _ 62 rfl rfl ⟨⟨19, .data⟩, by simp, rfl, rfl⟩) (hK _ _ rfl (Below.refl _ _))
    · obtain rfl := Option.some.inj ho
      exact st_pick (.tmp 57) (.tmp 63) (.const (.bool false)) rfl (want_none rfl) true (hpre 14 _ 57 rfl rfl ⟨⟨14, .data⟩, by simp, rfl, rfl⟩) _ ((if_pos rfl).trans (hpre 20 _ 63 rfl rfl ⟨⟨20, .data⟩, by simp, rfl, rfl⟩)) (hK _ _ rfl (Below.refl _ _))
    · obtain rfl := Option.some.inj ho
      exact st_move (.tmp 64) rfl (want_none rfl) _ (hpre 21 _ 64 rfl rfl ⟨⟨21, .data⟩, by simp, rfl, rfl⟩) (hK _ _ rfl (Below.refl _ _))
    · obtain rfl := Option.some.inj ho
      exact st_move (.tmp 3) rfl (want_some rfl rfl rfl (hpre 22 _ 65 rfl rfl ⟨⟨22, .guard⟩, by simp, rfl, rfl⟩)) _ e3 (hK _ _ rfl (Below.refl _ _))
    · obtain rfl := Option.some.inj ho
      exact st_call1 17 (.tmp 66) 24 rfl (want_some rfl rfl rfl (hpre 22 _ 65 rfl rfl ⟨⟨22, .guard⟩, by simp, rfl, rfl⟩)) _ (hpre 23 _ 66 rfl rfl ⟨⟨23, .data⟩, by simp, rfl, rfl⟩) (cf17 _ _) _ (Name_any g n _ gm ck gr w (HK.out.below hr) (HT.out.below hr)) (fun e w' ⟨_, he, _, hB, hb⟩ => ⟨_, he, hK _ _ ⟨_, _, rfl, hB.rd 32 (nameOf_length _ _)⟩ hb⟩)
    · obtain rfl := Option.some.inj ho
      obtain ⟨A, c, eg, hs⟩ := (hpre 24 _ 67 rfl rfl ⟨⟨24, .data⟩, by simp, rfl, rfl⟩)
      exact st_conv (.tmp 67) rfl (want_some rfl rfl rfl (hpre 22 _ 65 rfl rfl ⟨⟨22, .guard⟩, by simp, rfl, rfl⟩)) _ _ _ _ eg hs (hK _ _ rfl (Below.refl _ _))
    · obtain rfl := Option.some.inj ho
      exact st_move (.tmp 0) rfl (want_some rfl rfl rfl (hpre 22 _ 65 rfl rfl ⟨⟨22, .guard⟩, by simp, rfl, rfl⟩)) _ e0 (hK _ _ rfl (Below.refl _ _))
    · obtain rfl := Option.some.inj ho
      exact st_call1 18 (.tmp 69) 22 rfl (want_some rfl rfl rfl (hpre 22 _ 65 rfl rfl ⟨⟨22, .guard⟩, by simp, rfl, rfl⟩)) _ (hpre 26 _ 69 rfl rfl ⟨⟨26, .data⟩, by simp, rfl, rfl⟩) (cf18 _ _) _ (RefName_any A n cap l w (HR2.out.below hr) hf HM.out) (fun e w' ⟨_, _, he, hrd, hb⟩ => ⟨_, he, hK _ _ ⟨_, _, rfl, hrd⟩ hb⟩)
    · obtain rfl := Option.some.inj ho
      obtain ⟨A, c, eg, hs⟩ := (hpre 27 _ 70 rfl rfl ⟨⟨27, .data⟩, by simp, rfl, rfl⟩)
      exact st_conv (.tmp 70) rfl (want_some rfl rfl rfl (hpre 22 _ 65 rfl rfl ⟨⟨22, .guard⟩, by simp, rfl, rfl⟩)) _ _ _ _ eg hs (hK _ _ rfl (Below.refl _ _))
    · obtain rfl := Option.some.inj ho
      exact st_eqlStr (.tmp 68) (.tmp 71) rfl (want_some rfl rfl rfl (hpre 22 _ 65 rfl rfl ⟨⟨22, .guard⟩, by simp, rfl, rfl⟩)) _ (hpre 25 _ 68 rfl rfl ⟨⟨25, .data⟩, by simp, rfl, rfl⟩) (hpre 28 _ 71 rfl rfl ⟨⟨28, .data⟩, by simp, rfl, rfl⟩) (hK _ _ rfl (Below.refl _ _))
    · obtain rfl := Option.some.inj ho
      exact st_pick (.tmp 65) (.tmp 72) (.const (.bool false)) rfl (want_none rfl) true (hpre 22 _ 65 rfl rfl ⟨⟨22, .data⟩, by simp, rfl, rfl⟩) _ ((if_pos rfl).trans (hpre 29 _ 72 rfl rfl ⟨⟨29, .data⟩, by simp, rfl, rfl⟩)) (hK _ _ rfl (Below.refl _ _))
    · obtain rfl := Option.some.inj ho
      exact st_assign (.tmp 73) rfl (want_none rfl) _ (hpre 30 _ 73 rfl rfl ⟨⟨30, .data⟩, by simp, rfl, rfl⟩) (hK _ _ rfl (Below.refl _ _))
    · cases ho
  case m3 =>
    intro a w hr hk hv
    have h6 := hv 31 _ 2 rfl rfl
    refine hKx a w (wp_ret (bodyPost_ret (results_tmp rfl _ _ _) hk.defers ⟨?_, below_then HBEL.out hr⟩))
    exact congrArg Ending.returned h6

theorem walk (A : Option Addr) (n cap : Nat) (l : List Nat) (w : World) (h : Rd .u8 w A n l) (hf : Fit 256 l) (hcn : n ≤ cap) (hmn : cap ≤ maxLen) (ht : YtojpbfkdkkdpcaaDoorSh.Tabs w) :
    Calls Tryd.prog 3 #[.slice A n cap] w fun e w' => e = .returned (.bool true) ∧ Below w.heap.size w w' := by
  by_cases h1 : 128 < n
  · by_cases h2 : n < 600
    · exact walk_g1 A n cap l w (by omega) (by omega)
    · by_cases h3 : 1000 < n
      · exact walk_g2 A n cap l w (by omega) (by omega) (by omega)
      · exact walk_size_b A n cap l w (by omega) (by omega) (by omega) (by omega)
  · by_cases hM : Modul n l
    · exact walk_ok A n cap l w (by omega) (by omega) h hf hcn hmn hM ht
    · rcases not_modul h.1 hM with hs | ⟨hs, a, z, ha, hz, hb⟩
      · exact walk_size_a A n cap l w (by omega) (by omega) hs
      · exact walk_form A n cap l w (by omega) (by omega) h hf hcn hmn hs a z ha hz hb

-- THE ROW's STEP
set_option maxRecDepth 100000 in
theorem lifted (os : Os) (started : os.Started) (H : Type) (enc : TypeId × Value → H) :
    ReturnsInHanded {} Tryd.checked os 3 .any (fun w args => (Rows.keyMakesSpec.pre enc Tryd.prog Tryd.f3 [] false w args ∧ laidMetH Tryd.prog listed4 w) ∧ sizedMet enc Tryd.prog Tryd.f3 (OpenSpec.ofChange Rows.keyMakesSpec) false w args)
      (Rows.keyMakesSpec.post enc Tryd.prog Tryd.f3 false true false false) := by
  refine returnsInHanded_of_change_and (C := Tryd.checked) (X := fun w _ => laidMetH Tryd.prog listed4 w) (fun _ _ _ hh h => h.of_heap hh) own started (by kernel_rfl) Tryd.func3
    (ChangeSpec.witness_shaped (enc := enc) (C := Tryd.checked) (os := os) (X := fun w _ => laidMetH Tryd.prog listed4 w) false (World.laidAll Tryd.prog os listed4) #[.slice none 0 0] 8 (World.laidAll_os _ _ _)
      (World.shaped_of_ZipB (by kernel_rfl) (by kernel_rfl)) (by kernel_rfl) (by kernel_rfl) (by kernel_rfl)
      (by rw [MakeChecks.laidMetH_plain _ _ _ (by kernel_rfl)]; exact laidMet_laidAll _ (by kernel_rfl) (by kernel_rfl))) ?_
  intro W base args ds gs before hval0 hW _ _ hL _
  have hval : ∀ (j : Nat) t v, Tryd.f3.params[j]? = some t → args[j]? = some v → Value.okWide Tryd.prog W .any base t v := hval0
  have hW' := hW
  obtain ⟨p, q, hA0, hV, rfl, hfz, hnd⟩ := hW
  have hA : DataW.TrodAll enc Tryd.prog W 0 (fun _ => true) true Tryd.f3.params.toList args.toList ds p := hA0
  rw [Tryd.params3] at hA hval
  obtain ⟨v0, vs0, d0, ds0, p0, q0, hargs, rfl, rfl, h0, r0⟩ := trodAll_cons hA
  obtain ⟨rfl, rfl, rfl⟩ := trodAll_nil r0
  obtain rfl : args = #[v0] := by cases args; simp_all
  obtain ⟨rfl, rfl⟩ := trodVars_none hV
  have k0 := h0
  have lt0 : ∀ x ∈ p0, x.block < W.heap.size := by obtain ⟨m, hm⟩ := k0; exact DataW.trod_lt m _ _ _ hm
  obtain ⟨fuel0, hf0⟩ := h0
  obtain ⟨a0, len0, cap0, l0, e0, g0, hlc0, hcm0, hnil0⟩ := bytes_of_trod hf0
  obtain ⟨b0, lb0, cb0, hv0⟩ := okWide_slice Tryd.underlying22 (hval 0 22 v0 rfl rfl)
  have ev0 : v0 = .slice a0 len0 cap0 := by rw [hv0] at e0 ⊢; simpa [Value.cells] using e0
  subst ev0
  clear hA0 hval0
  refine (walk a0 len0 cap0 l0 W g0.1 g0.2 hlc0 hcm0 (tabs_of_laid hL)).mono fun e W' ⟨he, bel⟩ => ?_
  subst he
  exact ⟨_, rfl, _, _, _, [], _, [], hW', trodAll_mk1 (shut_bool Tryd.underlying4 _), (trodAll_cons_mk (Below.trod laidOut (by kernel_rfl) (of_decide_eq_true (by kernel_rfl)) k0 bel lt0) trodAll_mk0), rfl, bel.frame _, fun h => by cases h⟩

theorem row_holds : Rows.KeyMakesSaid :=
  OpenClaim.holds_of_wide 3 Tryd.f3 rfl rfl rfl rfl rfl rfl rfl ⟨rfl, rfl, rfl, rfl, rfl⟩ rfl rfl rfl rfl rfl (by kernel_rfl) Tryd.func3 (by kernel_rfl)
    (of_decide_eq_true (by kernel_rfl)) (by unfold Func.isWrapper; first | (rw [if_pos (by decide +kernel)]; kernel_rfl) | (rw [if_neg (by decide +kernel)]; exact ⟨rfl, rfl⟩))
    (fun os started H enc _ => lifted os started H enc)

theorem proved : Rows.KeyMakesCardSaid :=
  Claim7.holds_tied_plain_at .later [] [.data, .data, .data, .pinned] true Rows.keyMakesCard.stood.harness false
    row_holds (fun _ h => by cases h) (by kernel_rfl) (fun _ h => by cases h) keyMakes_row_tie rfl ⟨rfl, rfl⟩ (by kernel_rfl) rfl
    (fun f fn hf hfn => by
      obtain rfl : f = 3 := Option.some.inj ((show Tryd.prog.funcNamed Tryd.f3.name = some 3 by kernel_rfl).symm.trans hf) |>.symm
      obtain rfl : fn = Tryd.f3 := (Option.some.inj (Tryd.func3.symm.trans hfn)).symm
      exact ⟨by kernel_rfl, fun j t ht => by
        rw [Tryd.params3] at ht
        have hm : t ∈ [22] := by simpa using Array.mem_of_getElem? ht
        have hall : ([22].all fun u => !Tryd.prog.wantsStandIn u) = true := by kernel_rfl
        exact (show Tryd.prog.wantsStandIn t = false by simpa using List.all_eq_true.1 hall t hm)⟩)
    (by kernel_rfl)
end Go.Proofs.YtojpbfkdkkdpcaaDoor.keyMakes
