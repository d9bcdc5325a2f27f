/-
  For every two texts LongOwn returns true, and they read behind the call as before. No condition but that the package's two tables hold what its text lays there.
-/
import Derived.Test.YtidibhphnkiacaaDoorLaw
import Derived.Test.YtidibhphnkiacaaDoorStep
import Derived.Test.YtidibhphnkiacaaDoorTie
import Derived.Test.YtidibhphnkiacaaDoorCards
namespace Go.Proofs.YtidibhphnkiacaaDoor.longOwn
open Go.Proofs.YtidibhphnkiacaaDoor Go.ChangeShapes Go.WideShapes Go.ChangeAt Go.RowKit
set_option linter.unusedVariables false

theorem walk_out (A B : Option Addr) (n cap m cbp : Nat) (w : World) (ht : Tabs w) (h : 1000 < n ∨ (n ≤ 1000 ∧ 1000 < m)) :
    Calls Tryd.prog 6 #[.slice A n cap, .slice B m cbp] w fun e w' => e = .returned (.bool true) ∧ Below w.heap.size w w' := by
  have HT := Lib.hid ht
  clear ht
  rcases h with h | ⟨h0, h⟩
  all_goals
    go_enter Tryd.func6, Tryd.ntmps6
    go_wp2_with fail
    refine (anchor_any _ HT.out).mono ?_
    rintro e w1 ⟨rfl, hb1⟩
    go_wp2
    go_ret
    exact ⟨rfl, hb1⟩

set_option maxHeartbeats 1000000 in
theorem walk_in (A : Option Addr) (n cap : Nat) (l : List UInt8) (B : Option Addr) (m cbp : Nat) (lb : List UInt8) (w : World) (hs : Seg w A n l) (hA : A = none → cap = 0) (hc : n ≤ cap) (hsb : Seg w B m lb) (hcb : m ≤ cbp) (ht : Tabs w) (hn : n ≤ 1000) (hm : m ≤ 1000) :
    Calls Tryd.prog 6 #[.slice A n cap, .slice B m cbp] w fun e w' => e = .returned (.bool true) ∧ Below w.heap.size w w' := by
  have HT := Lib.hid ht
  have HS := Lib.hid hs
  have HSB := Lib.hid hsb
  have HA := Lib.hid hA
  obtain ⟨i0, hi0, hz0, hz1, hz2⟩ := info_parts byteInfo
  have HI := Lib.hid hi0
  have HZ0 := Lib.hid hz0
  have HZ1 := Lib.hid hz1
  have HZ2 := Lib.hid hz2
  have hm0 : A = none → n = 0 := by
    intro e
    rcases Nat.eq_zero_or_pos n with h0 | h0
    · exact h0
    · obtain ⟨ad, e', _⟩ := hs.2 h0
      rw [e] at e'
      cases e'
  have HM0 := Lib.hid hm0
  have HLEN : Hid ((cb l).length = n) := by show _ = _; rw [cb_length]; exact hs.1
  have hG := ht.lt
  clear ht hs hsb hA hi0 hz0 hz1 hz2 hm0
  go_enter Tryd.func6, Tryd.ntmps6
  go_wp2_with fail
  refine (anchor_any _ HT.out).mono ?_
  rintro e w1 ⟨rfl, hb1⟩
  have hs1 := hb1.size
  go_wp2_with fail
  refine (New_any w1 (HT.out.below hb1)).mono ?_
  rintro e w2 ⟨rfl, hsg2, hb2⟩
  have hs2 := hsg2.lt
  have b2 : Below w.heap.size w w2 := hb1.trans (hb2.mono hs1)
  go_wp2_with fail
  refine (New_any w2 (HT.out.below b2)).mono ?_
  rintro e w3 ⟨rfl, hsh3, hb3⟩
  have hs3 := hsh3.lt
  have b3 : Below w.heap.size w w3 := b2.trans (hb3.mono b2.size)
  have hsg3 : Sums w3 w1.heap.size [] := hsg2.below hb3 hs2
  have hsrc : (A = none ∧ cap = 0) ∨ ∃ ad, A = some ad ∧ ∀ j u, (cb l)[j]? = some u → (w3.alloc (.cells #[] 5)).cell? (ad.add j) = some u := by
    rcases A with _ | ad
    · exact .inl ⟨rfl, HA.out rfl⟩
    · refine .inr ⟨ad, rfl, fun j u hu => ?_⟩
      have hj := (List.getElem?_eq_some_iff.1 hu).1
      rw [cb_length, HS.out.1] at hj
      obtain ⟨ad', e, hlt, hcl⟩ := (HS.out.below b3).2 (by omega)
      injection e with e
      subst e
      rw [World.cell?_alloc_lt _ _ _ (by rw [block_add]; exact hlt)]
      exact hcl j u hu
  have R0 : Row (w3.alloc (.cells #[] 5)) w3.heap.size 5 (some ⟨w3.heap.size, 0, none⟩) 0 0 [] := Row.lit w3 5 [] w3.heap.size (Nat.le_refl _) (by simp)
  have HSRC := Lib.hid hsrc
  have HR0 := Lib.hid R0
  have HB0 : Hid (Below w3.heap.size w3 (w3.alloc (.cells #[] 5))) := (Below.refl _ _).alloc (Nat.le_refl _) _
  have HG3 := Lib.hid hsg3
  have HH3 := Lib.hid hsh3
  clear hsrc R0 hsg2 hsg3 hsh3 hb2 hb3
  go_wp2_with (first
    | ((with_reducible refine at_dst (some 23) ?_); refine wpList_app (o := ⟨some 23, _, _, _, _, _⟩) rfl (.tmp 21) (.tmp 22) 24 5 rfl Tryd.underlying24 HI.out HZ0.out HZ1.out HZ2.out rfl (by omega) HB0.out (by simp) rfl HR0.out rfl HLEN.out HSRC.out (cb_one l) HM0.out (by omega) n (Nat.zero_add n) ?_; intro A4 cap4 w4 hr4 hb4 hB4))
  have hs4 := hb4.size
  have b4 : Below w.heap.size w w4 := b3.trans (hb4.mono b3.size)
  have hr4' : Row w4 w3.heap.size 5 A4 n cap4 (cb l) := hr4.out
  refine (Write_any w1.heap.size [] l A4 n cap4 w4 (HG3.out.below hb4 (by omega)) hr4'.seg (fun _ ad ha => by have := hr4'.lt ad ha; omega) hr4'.le.1 (by omega) (by show 0 < _; omega) (HT.out.below b4) (by omega)).mono ?_
  rintro e w5 ⟨rfl, hsg5, hg5⟩
  have hs5 := hg5.size
  have b5 : Below w.heap.size w w5 := below_only b4 hg5 b4.size (by intro j hj; injection hj; omega)
  have hr5 : Row w5 w3.heap.size 5 A4 n cap4 (cb l) := hr4'.grown hg5 (fun ad ha => by have := hr4'.lt ad ha; omega)
  have hsh5 : Sums w5 w2.heap.size [] := (HH3.out.below hb4 hs3).grown hg5 (by intro e; injection e; omega)
  rw [List.nil_append] at hsg5
  have HR5 := Lib.hid hr5
  have HG5 := Lib.hid hsg5
  have HH5 := Lib.hid hsh5
  have HB5 := Lib.hid b5
  clear hr4 hr4' hr5 hsg5 hsh5 hg5 hb4 HG3 HH3 HR0 HB0 HSRC b4 b5
  go_wp2
  go_loopw [29] (fun j wr => ∃ k : Nat, k ≤ n ∧ j = .int .i64 k ∧ (∃ l', Row wr w3.heap.size 5 A4 n cap4 (cb l')) ∧ Sums wr w1.heap.size l ∧ Sums wr w2.heap.size [] ∧ Below w.heap.size w wr) (fun j _ => n - (intOf j).toNat)
  case atStart => exact ⟨0, by omega, rfl, ⟨l, HR5.out⟩, HG5.out, HH5.out, HB5.out⟩
  case round =>
    obtain ⟨k, hk, rfl, ⟨l', hr⟩, hsg, hsh, hb⟩ := hrel
    have HR := Lib.hid hr
    have HG := Lib.hid hsg
    have HH := Lib.hid hsh
    clear hr hsg hsh HR5 HG5 HH5 HB5
    by_cases hkn : k < n
    · obtain ⟨g, hA4, hg3, hgl, hcl⟩ := HR.out.cells (by omega)
      subst hA4
      have hl' : l'.length = n := by have := HR.out.length; rwa [cb_length] at this
      obtain ⟨x, hx⟩ : ∃ x, x = l'.getD k 0 := ⟨_, rfl⟩
      have cx := hcl k _ (cb_get l' k (by omega))
      rw [← hx] at cx
      have fx : wr.frozen? ⟨g, k, none⟩ = false := World.ownsRow.frozenAt HR.out k
      have hxo : bits .xor .u8 (ub x) 255 = ub (x ^^^ 255) := by
        unfold ub
        rw [show (255 : Int) = ((255 : Nat) : Int) from rfl, u8_xor_nat _ _ x.toNat_lt (by omega), UInt8.toNat_xor]
        rfl
      have HXO := Lib.hid hxo
      clear hx hcl hl' hxo
      go_wp2
      go_roundw
      case rel =>
        rw [HXO.out]
        refine ⟨k + 1, by omega, by go_num, ⟨l'.set k (x ^^^ 255), ?_⟩, ?_, ?_, hb.setCell (p := ⟨g, k, none⟩) (show w.heap.size ≤ g by omega) _⟩
        · have := (World.ownsRow.stored HR.out k (.int .u8 (ub (x ^^^ 255)))).1
          rw [cb_set] at this
          exact this
        · exact HG.out.grown (World.ownsRow.stored HR.out k _).2 (by intro e; injection e; omega)
        · exact HH.out.grown (World.ownsRow.stored HR.out k _).2 (by intro e; injection e; omega)
      case measure => simp [intOf]; omega
    · have hsB : Seg wr B m lb := HSB.out.below hb
      have apB : ∀ G, w.heap.size ≤ G → Apart B m G := by
        intro G hG' hn0 a ha
        obtain ⟨a', e', hlt', _⟩ := HSB.out.2 hn0
        rw [ha] at e'
        injection e' with e'
        rw [e']
        omega
      go_wp2_with fail
      refine (Write_any w2.heap.size [] lb B m cbp wr HH.out hsB (apB _ (by omega)) hcb (by omega) (by show 0 < _; omega) (HT.out.below hb) (by omega)).mono ?_
      rintro e w6 ⟨rfl, hsh6, hg6⟩
      have hs6 := hg6.size
      have b6 : Below w.heap.size w w6 := below_only hb hg6 hb.size (by intro j hj; injection hj; omega)
      have hsg6 : Sums w6 w1.heap.size l := HG.out.grown hg6 (by intro e; injection e; omega)
      rw [List.nil_append] at hsh6
      clear hg6
      go_wp2_with fail
      refine (Write_any w1.heap.size l lb B m cbp w6 hsg6 (HSB.out.below b6) (apB _ (by omega)) hcb (by omega) (by have := HS.out.1; omega) (HT.out.below b6) (by omega)).mono ?_
      rintro e w7 ⟨rfl, hsg7, hg7⟩
      have hs7 := hg7.size
      have b7 : Below w.heap.size w w7 := below_only b6 hg7 b6.size (by intro j hj; injection hj; omega)
      have hsh7 : Sums w7 w2.heap.size lb := hsh6.grown hg7 (by intro e; injection e; omega)
      have SA : Seg w7 A n l := HS.out.below b7
      have SB : Seg w7 B m lb := HSB.out.below b7
      have T7 : Tabs w7 := HT.out.below b7
      have g1l := hsg7.lt
      have g2l := hsh7.lt
      have HSG7 := Lib.hid hsg7
      have HSH7 := Lib.hid hsh7
      have HSA := Lib.hid SA
      have HSB7 := Lib.hid SB
      have HT7 := Lib.hid T7
      have hl1 := HS.out.1
      have hl2 := HSB.out.1
      have HL1 := Lib.hid hl1
      have HL2 := Lib.hid hl2
      clear hsg7 hsh7 SA SB T7 hg7 hsg6 hsh6 hsB apB HG HH HR hl1 hl2
      go_wp2
      rename_i hKx
      refine wp_region_each (by kernel_rfl) (by kernel_rfl) (fun i v w => match i with
          | 0 => v = .pointer (some ⟨w1.heap.size, 0, none⟩)
          | 1 => ∃ g, v = .slice (some ⟨g, 0, none⟩) 64 64 ∧ Blk w g 5 (cb (sha (l ++ lb)))
          | 2 => v = .string (str (sha (l ++ lb)))
          | 3 => v = .slice A n cap
          | 4 => v = .slice B m cbp
          | 5 => ∃ g, v = .slice (some ⟨g, 0, none⟩) 2 2 ∧ Parts w (some ⟨g, 0, none⟩) 2 [⟨A, n, cap, l⟩, ⟨B, m, cbp, lb⟩]
          | 6 => ∃ g, v = .slice (some ⟨g, 0, none⟩) 64 64 ∧ Blk w g 5 (cb (sha (l ++ lb)))
          | 7 => v = .string (str (sha (l ++ lb)))
          | 8 => v = .bool true
          | 9 => v = .bool true
          | 10 => v = .pointer (some ⟨w2.heap.size, 0, none⟩)
          | 11 => ∃ g, v = .slice (some ⟨g, 0, none⟩) 64 64 ∧ Blk w g 5 (cb (sha lb))
          | 12 => v = .string (str (sha lb))
          | 13 => v = .slice B m cbp
          | 14 => ∃ g, v = .slice (some ⟨g, 0, none⟩) 1 1 ∧ Parts w (some ⟨g, 0, none⟩) 1 [⟨B, m, cbp, lb⟩]
          | 15 => ∃ g, v = .slice (some ⟨g, 0, none⟩) 64 64 ∧ Blk w g 5 (cb (sha lb))
          | 16 => v = .string (str (sha lb))
          | 17 => v = .bool true
          | 18 => v = .bool true
          | 19 => v = .bool true
          | _ => True) (fun u => Below w7.heap.size w7 u) ?m1 (fun _ _ h1 h2 => h1.trans (h2.mono h1.size)) ⟨rfl, rfl, rfl, Nat.le_refl _, fun _ _ => rfl⟩ ?m2 ?m3
      case m1 =>
        intro i v w w' h hr hb
        rcases i with _ | _ | _ | _ | _ | _ | _ | _ | _ | _ | _ | _ | _ | _ | _ | _ | _ | _ | _ | _ | i
        · exact h
        · obtain ⟨g, e, hk⟩ := h; exact ⟨g, e, hk.below hb hk.lt⟩
        · exact h
        · exact h
        · exact h
        · obtain ⟨g, e, hk⟩ := h; exact ⟨g, e, hk.below hb⟩
        · obtain ⟨g, e, hk⟩ := h; exact ⟨g, e, hk.below hb hk.lt⟩
        · exact h
        · exact h
        · exact h
        · exact h
        · obtain ⟨g, e, hk⟩ := h; exact ⟨g, e, hk.below hb hk.lt⟩
        · exact h
        · exact h
        · obtain ⟨g, e, hk⟩ := h; exact ⟨g, e, hk.below hb⟩
        · obtain ⟨g, e, hk⟩ := h; exact ⟨g, e, hk.below hb hk.lt⟩
        · exact h
        · exact h
        · exact h
        · exact h
        · trivial
      case m2 =>
        intro i o ho a w hr hk hpre K hK
        have e5 : a.tmps.getD 5 undef = .pointer (some ⟨w1.heap.size, 0, none⟩) := hk.slot 5 (by simp)
        have e6 : a.tmps.getD 6 undef = .pointer (some ⟨w2.heap.size, 0, none⟩) := hk.slot 6 (by simp)
        have e0 : a.tmps.getD 0 undef = .slice A n cap := hk.slot 0 (by simp)
        have e1 : a.tmps.getD 1 undef = .slice B m cbp := hk.slot 1 (by simp)
        rcases i with _ | _ | _ | _ | _ | _ | _ | _ | _ | _ | _ | _ | _ | _ | _ | _ | _ | _ | _ | _ | i
        · obtain rfl := Option.some.inj ho
          exact st_move (.tmp 5) rfl (want_none rfl) _ e5 (hK _ _ rfl (Below.refl _ _))
        · obtain rfl := Option.some.inj ho
          exact st_call1 13 (.tmp 45) 25 rfl (want_none rfl) _ (hpre 0 _ 45 rfl rfl ⟨⟨0, .data⟩, by simp, rfl, rfl⟩) (cf13 _ _) _ (Sum_any w1.heap.size (l ++ lb) w (HSG7.out.below hr g1l) (by have := HL1.out; have := HL2.out; rw [List.length_append]; omega) (HT7.out.below hr) (by omega)) (fun e w' ⟨g, he, _, hbk, hb⟩ => ⟨_, he, hK _ _ ⟨g, rfl, hbk⟩ hb⟩)
        · obtain rfl := Option.some.inj ho
          obtain ⟨g, eg, hbk⟩ := (hpre 1 _ 46 rfl rfl ⟨⟨1, .data⟩, by simp, rfl, rfl⟩)
          exact st_conv (.tmp 46) rfl (want_none rfl) _ _ _ _ eg (hbk.seg 64 rfl) (hK _ _ rfl (Below.refl _ _))
        · obtain rfl := Option.some.inj ho
          exact st_move (.tmp 0) rfl (want_none rfl) _ e0 (hK _ _ rfl (Below.refl _ _))
        · obtain rfl := Option.some.inj ho
          exact st_move (.tmp 1) rfl (want_none rfl) _ e1 (hK _ _ rfl (Below.refl _ _))
        · obtain rfl := Option.some.inj ho
          have q0 := (hpre 3 _ 48 rfl rfl ⟨⟨3, .data⟩, by simp, rfl, rfl⟩)
          have q1 := (hpre 4 _ 49 rfl rfl ⟨⟨4, .data⟩, by simp, rfl, rfl⟩)
          exact st_build2 (.tmp 48) (.tmp 49) rfl (want_none rfl) _ _ q0 q1 rfl rfl (hK _ _ ⟨w.heap.size, rfl, parts_new w [⟨A, n, cap, l⟩, ⟨B, m, cbp, lb⟩] (fun p hp => by rcases List.mem_cons.1 hp with rfl | hp; exact ⟨HSA.out.below hr, hc⟩; obtain rfl := List.mem_singleton.1 hp; exact ⟨HSB7.out.below hr, hcb⟩)⟩ ((Below.refl _ _).alloc (Nat.le_refl _) _))
        · obtain rfl := Option.some.inj ho
          obtain ⟨gp, egp, hpp⟩ := (hpre 5 _ 50 rfl rfl ⟨⟨5, .data⟩, by simp, rfl, rfl⟩)
          exact st_call1 12 (.tmp 50) 22 rfl (want_none rfl) _ egp (cf12 _ _) _ (Of_any _ 2 2 [⟨A, n, cap, l⟩, ⟨B, m, cbp, lb⟩] w hpp (by omega) (by have := HL1.out; have := HL2.out; rw [textOf_two, List.length_append]; show l.length + lb.length < 100000; omega) (HT7.out.below hr)) (fun e w' ⟨g, he, _, hbk, hb⟩ => ⟨_, he, hK _ _ ⟨g, rfl, (by rw [textOf_two] at hbk; exact hbk)⟩ hb⟩)
        · obtain rfl := Option.some.inj ho
          obtain ⟨g, eg, hbk⟩ := (hpre 6 _ 51 rfl rfl ⟨⟨6, .data⟩, by simp, rfl, rfl⟩)
          exact st_conv (.tmp 51) rfl (want_none rfl) _ _ _ _ eg (hbk.seg 64 rfl) (hK _ _ rfl (Below.refl _ _))
        · obtain rfl := Option.some.inj ho
          exact st_eqlStr (.tmp 47) (.tmp 52) rfl (want_none rfl) _ (hpre 2 _ 47 rfl rfl ⟨⟨2, .data⟩, by simp, rfl, rfl⟩) (hpre 7 _ 52 rfl rfl ⟨⟨7, .data⟩, by simp, rfl, rfl⟩) (hK _ _ rfl (Below.refl _ _))
        · obtain rfl := Option.some.inj ho
          exact st_move (.tmp 53) rfl (want_none rfl) _ (hpre 8 _ 53 rfl rfl ⟨⟨8, .data⟩, by simp, rfl, rfl⟩) (hK _ _ rfl (Below.refl _ _))
        · obtain rfl := Option.some.inj ho
          exact st_move (.tmp 6) rfl (want_some rfl rfl rfl (hpre 9 _ 54 rfl rfl ⟨⟨9, .guard⟩, by simp, rfl, rfl⟩)) _ e6 (hK _ _ rfl (Below.refl _ _))
        · obtain rfl := Option.some.inj ho
          exact st_call1 13 (.tmp 55) 25 rfl (want_some rfl rfl rfl (hpre 9 _ 54 rfl rfl ⟨⟨9, .guard⟩, by simp, rfl, rfl⟩)) _ (hpre 10 _ 55 rfl rfl ⟨⟨10, .data⟩, by simp, rfl, rfl⟩) (cf13 _ _) _ (Sum_any w2.heap.size lb w (HSH7.out.below hr g2l) (by have := HL2.out; omega) (HT7.out.below hr) (by omega)) (fun e w' ⟨g, he, _, hbk, hb⟩ => ⟨_, he, hK _ _ ⟨g, rfl, hbk⟩ hb⟩)
        · obtain rfl := Option.some.inj ho
          obtain ⟨g, eg, hbk⟩ := (hpre 11 _ 56 rfl rfl ⟨⟨11, .data⟩, by simp, rfl, rfl⟩)
          exact st_conv (.tmp 56) rfl (want_some rfl rfl rfl (hpre 9 _ 54 rfl rfl ⟨⟨9, .guard⟩, by simp, rfl, rfl⟩)) _ _ _ _ eg (hbk.seg 64 rfl) (hK _ _ rfl (Below.refl _ _))
        · obtain rfl := Option.some.inj ho
          exact st_move (.tmp 1) rfl (want_some rfl rfl rfl (hpre 9 _ 54 rfl rfl ⟨⟨9, .guard⟩, by simp, rfl, rfl⟩)) _ e1 (hK _ _ rfl (Below.refl _ _))
        · obtain rfl := Option.some.inj ho
          have q0 := (hpre 13 _ 58 rfl rfl ⟨⟨13, .data⟩, by simp, rfl, rfl⟩)
          exact st_build1 (.tmp 58) rfl (want_some rfl rfl rfl (hpre 9 _ 54 rfl rfl ⟨⟨9, .guard⟩, by simp, rfl, rfl⟩)) _ q0 rfl (hK _ _ ⟨w.heap.size, rfl, parts_new w [⟨B, m, cbp, lb⟩] (fun p hp => by obtain rfl := List.mem_singleton.1 hp; exact ⟨HSB7.out.below hr, hcb⟩)⟩ ((Below.refl _ _).alloc (Nat.le_refl _) _))
        · obtain rfl := Option.some.inj ho
          obtain ⟨gp, egp, hpp⟩ := (hpre 14 _ 59 rfl rfl ⟨⟨14, .data⟩, by simp, rfl, rfl⟩)
          exact st_call1 12 (.tmp 59) 22 rfl (want_some rfl rfl rfl (hpre 9 _ 54 rfl rfl ⟨⟨9, .guard⟩, by simp, rfl, rfl⟩)) _ egp (cf12 _ _) _ (Of_any _ 1 1 [⟨B, m, cbp, lb⟩] w hpp (by omega) (by have := HL2.out; rw [textOf_one]; show lb.length < 100000; omega) (HT7.out.below hr)) (fun e w' ⟨g, he, _, hbk, hb⟩ => ⟨_, he, hK _ _ ⟨g, rfl, (by rw [textOf_one] at hbk; exact hbk)⟩ hb⟩)
        · obtain rfl := Option.some.inj ho
          obtain ⟨g, eg, hbk⟩ := (hpre 15 _ 60 rfl rfl ⟨⟨15, .data⟩, by simp, rfl, rfl⟩)
          exact st_conv (.tmp 60) rfl (want_some rfl rfl rfl (hpre 9 _ 54 rfl rfl ⟨⟨9, .guard⟩, by simp, rfl, rfl⟩)) _ _ _ _ eg (hbk.seg 64 rfl) (hK _ _ rfl (Below.refl _ _))
        · obtain rfl := Option.some.inj ho
          exact st_eqlStr (.tmp 57) (.tmp 61) rfl (want_some rfl rfl rfl (hpre 9 _ 54 rfl rfl ⟨⟨9, .guard⟩, by simp, rfl, rfl⟩)) _ (hpre 12 _ 57 rfl rfl ⟨⟨12, .data⟩, by simp, rfl, rfl⟩) (hpre 16 _ 61 rfl rfl ⟨⟨16, .data⟩, by simp, rfl, rfl⟩) (hK _ _ rfl (Below.refl _ _))
        · obtain rfl := Option.some.inj ho
          exact st_pick (.tmp 54) (.tmp 62) (.const (.bool false)) rfl (want_none rfl) true (hpre 9 _ 54 rfl rfl ⟨⟨9, .data⟩, by simp, rfl, rfl⟩) _ ((if_pos rfl).trans (hpre 17 _ 62 rfl rfl ⟨⟨17, .data⟩, by simp, rfl, rfl⟩)) (hK _ _ rfl (Below.refl _ _))
        · obtain rfl := Option.some.inj ho
          exact st_assign (.tmp 63) rfl (want_none rfl) _ (hpre 18 _ 63 rfl rfl ⟨⟨18, .data⟩, by simp, rfl, rfl⟩) (hK _ _ rfl (Below.refl _ _))
        · cases ho
      case m3 =>
        intro a w hr hk hv
        have h6 := hv 19 _ 4 rfl rfl
        refine hKx a w (wp_ret (bodyPost_ret (results_tmp rfl _ _ _) hk.defers ⟨?_, b7.trans (hr.mono b7.size)⟩))
        exact congrArg Ending.returned h6

theorem walk (A : Option Addr) (n cap : Nat) (l : List UInt8) (B : Option Addr) (m cbp : Nat) (lb : List UInt8) (w : World) (hs : Seg w A n l) (hA : A = none → cap = 0) (hc : n ≤ cap) (_ : cap ≤ maxLen) (hsb : Seg w B m lb) (_ : B = none → cbp = 0) (hcb : m ≤ cbp) (_ : cbp ≤ maxLen) (ht : Tabs w) :
    Calls Tryd.prog 6 #[.slice A n cap, .slice B m cbp] w fun e w' => e = .returned (.bool true) ∧ Below w.heap.size w w' := by
  by_cases h : n ≤ 1000 ∧ m ≤ 1000
  · exact walk_in A n cap l B m cbp lb w hs hA hc hsb hcb ht h.1 h.2
  · exact walk_out A B n cap m cbp w ht (by omega)

-- THE ROW's STEP
set_option maxRecDepth 100000 in
theorem lifted (os : Os) (started : os.Started) (H : Type) (enc : TypeId × Value → H) :
    ReturnsInHanded {} Tryd.checked os 6 .any (fun w args => (Rows.longOwnSpec.pre enc Tryd.prog Tryd.f6 [] false w args ∧ laidMetH Tryd.prog listed w) ∧ sizedMet enc Tryd.prog Tryd.f6 (OpenSpec.ofChange Rows.longOwnSpec) false w args)
      (Rows.longOwnSpec.post enc Tryd.prog Tryd.f6 false true false false) := by
  refine returnsInHanded_of_change_and (C := Tryd.checked) (X := fun w _ => laidMetH Tryd.prog listed w) (fun _ _ _ hh h => h.of_heap hh) own started (by kernel_rfl) Tryd.func6
    (ChangeSpec.witness_shaped (enc := enc) (C := Tryd.checked) (os := os) (X := fun w _ => laidMetH Tryd.prog listed w) false (World.doorLaid Tryd.prog 19 os) #[.slice none 0 0, .slice none 0 0] 8 rfl (World.shaped_of_RefB (by kernel_rfl) (by kernel_rfl)) (by kernel_rfl) (by kernel_rfl) (by kernel_rfl) (door_met os _)) ?_
  intro W base args ds gs before hval0 hW _ _ hL _
  have hval : ∀ (j : Nat) t v, Tryd.f6.params[j]? = some t → args[j]? = some v → Value.okWide Tryd.prog W .any base t v := hval0
  have hW' := hW
  obtain ⟨p, q, hA0, hV, rfl, hfz, hnd⟩ := hW
  have hA : DataW.TrodAll enc Tryd.prog W 0 (fun _ => true) true Tryd.f6.params.toList args.toList ds p := hA0
  rw [Tryd.params6] at hA hval
  obtain ⟨v0, vs0, d0, ds0, p0, q0, hargs, rfl, rfl, h0, r0⟩ := trodAll_cons hA
  obtain ⟨v1, vs1, d1, ds1, p1, q1, rfl, rfl, rfl, h1, r1⟩ := trodAll_cons r0
  obtain ⟨rfl, rfl, rfl⟩ := trodAll_nil r1
  obtain rfl : args = #[v0, v1] := by cases args; simp_all
  obtain ⟨rfl, rfl⟩ := trodVars_none hV
  have k0 := h0
  have lt0 : ∀ x ∈ p0, x.block < W.heap.size := by obtain ⟨m, hm⟩ := k0; exact DataW.trod_lt m _ _ _ hm
  obtain ⟨fuel0, hf0⟩ := h0
  obtain ⟨a0, len0, cap0, l0, e0, g0, hlc0, hcm0, hnil0⟩ := bytes_of_trod hf0
  obtain ⟨b0, lb0, cb0, hv0⟩ := okWide_slice Tryd.underlying24 (hval 0 24 v0 rfl rfl)
  have ev0 : v0 = .slice a0 len0 cap0 := by rw [hv0] at e0 ⊢; simpa [Value.cells] using e0
  subst ev0
  have k1 := h1
  have lt1 : ∀ x ∈ p1, x.block < W.heap.size := by obtain ⟨m, hm⟩ := k1; exact DataW.trod_lt m _ _ _ hm
  obtain ⟨fuel1, hf1⟩ := h1
  obtain ⟨a1, len1, cap1, l1, e1, g1, hlc1, hcm1, hnil1⟩ := bytes_of_trod hf1
  obtain ⟨b1, lb1, cb1, hv1⟩ := okWide_slice Tryd.underlying24 (hval 1 24 v1 rfl rfl)
  have ev1 : v1 = .slice a1 len1 cap1 := by rw [hv1] at e1 ⊢; simpa [Value.cells] using e1
  subst ev1
  clear hA0 hval0
  refine (walk a0 len0 cap0 l0 a1 len1 cap1 l1 W g0 hnil0 hlc0 hcm0 g1 hnil1 hlc1 hcm1 (tabs_of_laid hL)).mono fun e W' ⟨he, bel⟩ => ?_
  subst he
  exact ⟨_, rfl, _, _, _, [], _, [], hW', trodAll_mk1 (shut_bool Tryd.underlying4 _), (trodAll_cons_mk (Below.trod laidOut (by kernel_rfl) (of_decide_eq_true (by kernel_rfl)) k0 bel lt0) (trodAll_cons_mk (Below.trod laidOut (by kernel_rfl) (of_decide_eq_true (by kernel_rfl)) k1 bel lt1) trodAll_mk0)), rfl, bel.frame _, fun h => by cases h⟩

theorem row_holds : Rows.LongOwnSaid :=
  OpenClaim.holds_of_wide 6 Tryd.f6 rfl rfl rfl rfl rfl rfl rfl ⟨rfl, rfl, rfl, rfl, rfl⟩ rfl rfl rfl rfl rfl (by kernel_rfl) Tryd.func6 (by kernel_rfl)
    (of_decide_eq_true (by kernel_rfl)) (by unfold Func.isWrapper; first | (rw [if_pos (by decide +kernel)]; kernel_rfl) | (rw [if_neg (by decide +kernel)]; exact ⟨rfl, rfl⟩))
    (fun os started H enc _ => lifted os started H enc)

theorem proved : Rows.LongOwnCardSaid :=
  Claim7.holds_tied_plain_at .later [] [.data, .data] true Rows.longOwnCard.stood.harness false
    row_holds (fun _ h => by cases h) (by kernel_rfl) (fun _ h => by cases h) longOwn_row_tie rfl ⟨rfl, rfl⟩ (by kernel_rfl) rfl
    (fun f fn hf hfn => by
      obtain rfl : f = 6 := Option.some.inj ((show Tryd.prog.funcNamed Tryd.f6.name = some 6 by kernel_rfl).symm.trans hf) |>.symm
      obtain rfl : fn = Tryd.f6 := (Option.some.inj (Tryd.func6.symm.trans hfn)).symm
      exact ⟨by kernel_rfl, fun j t ht => by
        rw [Tryd.params6] at ht
        have h3 : t = 24 := by
          match j, ht with
          | 0, ht => simpa using ht.symm
          | 1, ht => simpa using ht.symm
          | j + 2, ht => simp at ht
        subst h3
        exact (show Tryd.prog.wantsStandIn 24 = false by kernel_rfl)⟩)
    (by kernel_rfl)
end Go.Proofs.YtidibhphnkiacaaDoor.longOwn
