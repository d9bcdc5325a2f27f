/-
  The statements' anchor holds.
-/
import Derived.Test.YtppoikamenbckaaGreatDoorQ6
import Derived.Test.YtppoikamenbckaaGreatDoorE7
import Derived.Lib.SlBytesConst
namespace Go.Proofs.YtppoikamenbckaaGreatDoor
open Go.RowKit
set_option linter.unusedVariables false
set_option linter.unusedSimpArgs false
set_option maxRecDepth 100000

/-- A new block of bytes, with whatever mark. -/
theorem rd_alloc (w : World) (l : List Nat) (fr : Nat × Nat) (cs : Array Value) (hcs : cs = (cn .u8 l).toArray) (n : Nat) (hn : l.length = n) (g : Nat) (hg : w.heap.size = g) : Rd .u8 (w.alloc (.cells cs 5 fr)) (some ⟨g, 0, none⟩) n l := by
  subst hcs hg
  refine ⟨hn, fun _ => ⟨_, rfl, by simp, fun j x hj => ?_⟩⟩
  rw [addr_add, Nat.zero_add, cell_of_row _ _ _ _ _ _ (heap_alloc_new w _), List.getElem?_toArray]
  exact cn_get hj
theorem below_alloc1 (w : World) (o : Obj) : Below w.heap.size w (w.alloc o) := (Below.refl _ _).alloc (Nat.le_refl _) _
theorem parts_two (p0 p1 : Bt) (w : World) (h : ∀ p ∈ [p0, p1], Rd .u8 w p.A p.n p.l ∧ Fit 256 p.l ∧ p.n ≤ p.cap) :
    PartsR (w.alloc (.cells #[.slice p0.A p0.n p0.cap, .slice p1.A p1.n p1.cap] 22)) (some ⟨w.heap.size, 0, none⟩) 2 [p0, p1] := by
  have hbl : Blk (w.alloc (.cells #[.slice p0.A p0.n p0.cap, .slice p1.A p1.n p1.cap] 22)) w.heap.size 22 (cells_ [p0, p1]) := Blk.new w 22 (cells_ [p0, p1])
  have hb1 := below_alloc1 w (.cells #[.slice p0.A p0.n p0.cap, .slice p1.A p1.n p1.cap] 22)
  refine ⟨rfl, fun _ => ⟨_, rfl, hbl.lt, fun j p hj => ?_⟩, fun p hp => ⟨(h p hp).1.below hb1, (h p hp).2⟩⟩
  rw [addr_add, Nat.zero_add, hbl.cell, cells_, List.getElem?_map, hj]
  rfl
theorem fit1 {x : Nat} (h : x < 256) : Fit 256 [x] := Fit.one h
/-- What lies ready for the first call. -/
theorem abc_ready (w : World) (g1 g2 g3 : Nat) (h1 : w.heap.size + 1 = g1) (h2 : g1 + 1 = g2) (h3 : g2 + 1 = g3) (W : World) (hW : (((w.alloc (.cells #[.int .u8 97] 5 (1, 2))).alloc (.cells #[.int .u8 98] 5 (1, 2))).alloc (.cells #[.int .u8 99] 5 (1, 2))).alloc (.cells #[.slice (some ⟨g1, 0, none⟩) 1 1, .slice (some ⟨g2, 0, none⟩) 1 1] 22) = W) :
    Rd .u8 W (some ⟨w.heap.size, 0, none⟩) 1 [97] ∧ PartsR W (some ⟨g3, 0, none⟩) 2 [⟨some ⟨g1, 0, none⟩, 1, 1, [98]⟩, ⟨some ⟨g2, 0, none⟩, 1, 1, [99]⟩] ∧ Below w.heap.size w W := by
  have a1 := rd_alloc w [97] (1, 2) #[.int .u8 97] rfl 1 rfl _ rfl
  have b1 := below_alloc1 w (.cells #[.int .u8 97] 5 (1, 2))
  have s1 : (w.alloc (.cells #[.int .u8 97] 5 (1, 2))).heap.size = g1 := by simp; omega
  generalize w.alloc (.cells #[.int .u8 97] 5 (1, 2)) = w1 at *
  have a2 := rd_alloc w1 [98] (1, 2) #[.int .u8 98] rfl 1 rfl g1 s1
  have b2 := below_alloc1 w1 (.cells #[.int .u8 98] 5 (1, 2))
  have s2 : (w1.alloc (.cells #[.int .u8 98] 5 (1, 2))).heap.size = g2 := by simp; omega
  generalize w1.alloc (.cells #[.int .u8 98] 5 (1, 2)) = w2 at *
  have a3 := rd_alloc w2 [99] (1, 2) #[.int .u8 99] rfl 1 rfl g2 s2
  have b3 := below_alloc1 w2 (.cells #[.int .u8 99] 5 (1, 2))
  have s3 : (w2.alloc (.cells #[.int .u8 99] 5 (1, 2))).heap.size = g3 := by simp; omega
  generalize w2.alloc (.cells #[.int .u8 99] 5 (1, 2)) = w3 at *
  have b4 := below_alloc1 w3 (.cells #[.slice (some ⟨g1, 0, none⟩) 1 1, .slice (some ⟨g2, 0, none⟩) 1 1] 22)
  have pp := parts_two ⟨some ⟨g1, 0, none⟩, 1, 1, [98]⟩ ⟨some ⟨g2, 0, none⟩, 1, 1, [99]⟩ w3 (by
    intro p hp
    simp only [List.mem_cons, List.not_mem_nil, or_false] at hp
    rcases hp with rfl | rfl
    · exact ⟨a2.below b3, fit1 (by omega), Nat.le_refl _⟩
    · exact ⟨a3, fit1 (by omega), Nat.le_refl _⟩)
  rw [s3] at pp
  have e : w3.alloc (.cells #[.slice (some ⟨g1, 0, none⟩) 1 1, .slice (some ⟨g2, 0, none⟩) 1 1] 22) = W := hW
  rw [e] at b4
  have pp2 : PartsR W (some ⟨g3, 0, none⟩) 2 [⟨some ⟨g1, 0, none⟩, 1, 1, [98]⟩, ⟨some ⟨g2, 0, none⟩, 1, 1, [99]⟩] := by rw [← e]; exact pp
  exact ⟨((a1.below b2).below b3).below b4, pp2, below_then (below_then (below_then b1 b2) b3) b4⟩
theorem bld_3_97_98_99 (w : World) : (Instr.buildSlice 22 3 #[(0, .int .u8 97), (1, .int .u8 98), (2, .int .u8 99)]).run Tryz.prog w = .ok (.slice (some ⟨w.heap.size, 0, none⟩) 3 3) (w.alloc (.cells #[.int .u8 97, .int .u8 98, .int .u8 99] 5)) := by kernel_rfl
theorem cf_12 (v0 v1 v2 : Value) (w : World) : (callFunc 12 #[v0, v1, v2]).run Tryz.prog w = .ok (.enter 12 #[v0, v1, v2]) w := by kernel_rfl
theorem cf_19 (v0 : Value) (w : World) : (callFunc 19 #[v0]).run Tryz.prog w = .ok (.enter 19 #[v0]) w := by kernel_rfl
theorem fit3 : Fit 256 [97, 98, 99] := by unfold Fit; decide
set_option maxHeartbeats 1000000 in
theorem anchor_any (w : World) (ht : Both w) : Calls Tryz.prog 7 #[] w fun e w' => e = .returned (.bool true) ∧ Below w.heap.size w w' := by
  have HT := Lib.hid ht
  have kc := fun (w : World) (C : Array Value) (n c : Nat) => Lib.run_convert_bytes_const (P := Tryz.prog) w 22 5 C n c Tryz.underlying22 Tryz.underlying5
  clear ht
  have kc1 : ∀ (o : Obj) (C : Array Value) (n c : Nat), (convert 22 22 (.slice (some ⟨w.heap.size + 1, 0, none⟩) n c)).run Tryz.prog ((w.alloc o).alloc (.cells C 5)) = .ok (.slice (some ⟨w.heap.size + 1, 0, none⟩) n c) ((w.alloc o).alloc (.cells C 5 (C.size, C.size + 1))) := by
    intro o C n c
    have := kc (w.alloc o) C n c
    rwa [show (w.alloc o).heap.size = w.heap.size + 1 by simp] at this
  have kc2 : ∀ (o o2 : Obj) (C : Array Value) (n c : Nat), (convert 22 22 (.slice (some ⟨w.heap.size + 1 + 1, 0, none⟩) n c)).run Tryz.prog (((w.alloc o).alloc o2).alloc (.cells C 5)) = .ok (.slice (some ⟨w.heap.size + 1 + 1, 0, none⟩) n c) (((w.alloc o).alloc o2).alloc (.cells C 5 (C.size, C.size + 1))) := by
    intro o o2 C n c
    have := kc ((w.alloc o).alloc o2) C n c
    rwa [show ((w.alloc o).alloc o2).heap.size = w.heap.size + 1 + 1 by simp] at this
  go_enter Tryz.func7, Tryz.ntmps7
  go_wp2_with fail
  clear kc1 kc2
  obtain ⟨g1, hg1⟩ : ∃ g, w.heap.size + 1 = g := ⟨_, rfl⟩
  rw [hg1]
  obtain ⟨g2, hg2⟩ : ∃ g, g1 + 1 = g := ⟨_, rfl⟩
  rw [hg2]
  obtain ⟨g3, hg3⟩ : ∃ g, g2 + 1 = g := ⟨_, rfl⟩
  rw [hg3]
  generalize hW : (((w.alloc (.cells #[.int .u8 97] 5 (1, 2))).alloc (.cells #[.int .u8 98] 5 (1, 2))).alloc (.cells #[.int .u8 99] 5 (1, 2))).alloc (.cells #[.slice (some ⟨g1, 0, none⟩) 1 1, .slice (some ⟨g2, 0, none⟩) 1 1] 22) = W at *
  obtain ⟨r1, r2, r3⟩ := abc_ready w g1 g2 g3 hg1 hg2 hg3 W hW
  clear hW
  refine (Digest_ok 1 (.inl rfl) 32 rfl _ 1 1 [97] _ 2 2 _ W r1 (fit1 (by omega)) (Nat.le_refl _) (by omega) r2 (fun e => by cases e) (by omega) (by simp [flat]) (HT.out.below r3)).mono ?_
  rintro e w1 ⟨ga, rfl, hga, hB1, hb1⟩
  have HRA := Lib.hid (hB1.rd 32 (sumOf_length1 _))
  have bel1 := below_then r3 hb1
  clear r1 r2 r3 hB1 hga
  go_wp2_with fail
  refine (Modulus_0 w1).mono ?_
  rintro e w2 ⟨A2, c2, rfl, hrow2, hb2⟩
  have HM := Lib.hid hrow2.rd
  have hcm := hrow2.le.1
  have hmm := hrow2.le.2
  have bel2 := below_then bel1 hb2
  clear hrow2
  go_wp2_with fail
  refine (Secret_0 w2).mono ?_
  rintro e w3 ⟨A3, c3, rfl, hrow3, hb3⟩
  have bel3 := below_then bel2 hb3
  clear hrow3
  go_wp2_with fail
  refine (Sign_bits 2 (.inr rfl) 64 rfl A2 64 c2 _ A3 64 c3 none 0 0 [] w3 (HM.out.below hb3) (bytesOf_fit _ _) hcm hmm (keyN_modul (z := 0) (by omega)) (Rd.nil _ _ _) (Fit.nil _) (Nat.le_refl _) (by omega) (HT.out.below bel3) (by omega)).mono ?_
  rintro e w4 ⟨rfl, hb4⟩
  have bel4 := below_then bel3 hb4
  have HRA4 := Lib.hid (((HRA.out.below hb2).below hb3).below hb4)
  clear HM HRA hcm hmm
  have HB4 := Lib.hid bel4
  clear bel1 bel2 bel3 bel4 hb1 hb2 hb3 hb4
  clear kc
  go_wp2
  rename_i hKx
  refine wp_region_eachS (by kernel_rfl) (by kernel_rfl) (fun iX v w => match iX with
      | 0 => v = .int .i64 0
      | 1 => v = .bool true
      | 2 => v = .bool true
      | 3 => v = .slice (some ⟨ga, 0, none⟩) 32 32
      | 4 => v = .string (str (sumOf 1 [97, 98, 99]))
      | 5 => VNew w4.heap.size 3 ([97, 98, 99]) v w
      | 6 => VRd 3 ([97, 98, 99]) v w
      | 7 => VRo 32 (sumOf 1 [97, 98, 99]) v w
      | 8 => v = .string (str (sumOf 1 [97, 98, 99]))
      | 9 => v = .bool true
      | 10 => v = .bool true
      | 11 => v = .bool true
      | 12 => v = .int .i64 21
      | 13 => v = .bool true
      | 14 => v = .bool true
      | 15 => v = .bool true
      | 16 => v = .int .i64 64
      | 17 => v = .bool true
      | 18 => v = .bool true
      | 19 => v = .bool true
      | _ => True) (Since w4) (Like w4.heap.size) ?m1 (fun _ _ h1 h2 => h1.like h2) (Since.start w4) ?m2 ?m3
  case m1 =>
    intro iX v w w' h hr hb
    rcases iX with _ | _ | _ | _ | _ | _ | _ | _ | _ | _ | _ | _ | _ | _ | _ | _ | _ | _ | _ | _ | iX
    · exact h
    · exact h
    · exact h
    · exact h
    · exact h
    · exact h.like hb
    · exact h.like hb
    · exact h.like hb
    · exact h
    · exact h
    · exact h
    · exact h
    · exact h
    · exact h
    · exact h
    · exact h
    · exact h
    · exact h
    · exact h
    · exact h
    · trivial
  case m2 =>
    intro iX o ho a w hr hk hpre K hK
    have e2 : a.tmps.getD 2 undef = .int .i64 0 := hk.slot 2 (by simp)
    have e1 : a.tmps.getD 1 undef = .slice (some ⟨ga, 0, none⟩) 32 32 := hk.slot 1 (by simp)
    have e4 : a.tmps.getD 4 undef = .int .i64 21 := hk.slot 4 (by simp)
    rcases iX with _ | _ | _ | _ | _ | _ | _ | _ | _ | _ | _ | _ | _ | _ | _ | _ | _ | _ | _ | _ | iX
    · obtain rfl := Option.some.inj ho
      exact st_move (.tmp 2) rfl (want_none rfl) _ e2 (hK _ _ rfl (Like.refl _ _))
    · obtain rfl := Option.some.inj ho
      exact st_eqlInt 25 (.tmp 22) (.const (.int .i64 0)) rfl (want_none rfl) _ (hpre 0 _ 22 rfl rfl ⟨⟨0, .data⟩, by simp, rfl, rfl⟩) rfl (hK _ _ rfl (Like.refl _ _))
    · obtain rfl := Option.some.inj ho
      exact st_move (.tmp 23) rfl (want_none rfl) _ (hpre 1 _ 23 rfl rfl ⟨⟨1, .data⟩, by simp, rfl, rfl⟩) (hK _ _ rfl (Like.refl _ _))
    · obtain rfl := Option.some.inj ho
      exact st_move (.tmp 1) rfl (want_some rfl rfl rfl (hpre 2 _ 24 rfl rfl ⟨⟨2, .guard⟩, by simp, rfl, rfl⟩)) _ e1 (hK _ _ rfl (Like.refl _ _))
    · obtain rfl := Option.some.inj ho
      exact st_conv (.tmp 25) rfl (want_some rfl rfl rfl (hpre 2 _ 24 rfl rfl ⟨⟨2, .guard⟩, by simp, rfl, rfl⟩)) _ _ _ _ (hpre 3 _ 25 rfl rfl ⟨⟨3, .data⟩, by simp, rfl, rfl⟩) (HRA4.out.below hr.1) (hK _ _ rfl (Like.refl _ _))
    · obtain rfl := Option.some.inj ho
      have hn := vnew_alloc w4 w hr [97, 98, 99] #[.int .u8 97, .int .u8 98, .int .u8 99] rfl 3 rfl
      exact st_buildN 22 3 #[(0, .const (.int .u8 97)), (1, .const (.int .u8 98)), (2, .const (.int .u8 99))] rfl (want_some rfl rfl rfl (hpre 2 _ 24 rfl rfl ⟨⟨2, .guard⟩, by simp, rfl, rfl⟩)) #[(0, .int .u8 97), (1, .int .u8 98), (2, .int .u8 99)] (by simp [Act.eval]) _ _ (bld_3_97_98_99 w) (hK _ _ hn.1 hn.2)
    · obtain rfl := Option.some.inj ho
      exact st_conv22 (.tmp 27) rfl (want_some rfl rfl rfl (hpre 2 _ 24 rfl rfl ⟨⟨2, .guard⟩, by simp, rfl, rfl⟩)) w4.heap.size _ _ _ rfl (hpre 5 _ 27 rfl rfl ⟨⟨5, .data⟩, by simp, rfl, rfl⟩) (fun w' h1 h2 => hK _ _ h1 h2)
    · obtain rfl := Option.some.inj ho
      have hx0 : a.eval (.const (.int .i64 1)) = (.int .i64 1) := rfl
      have hx1 : a.eval (.const (.slice none 0 0)) = (.slice none 0 0) := rfl
      obtain ⟨A2, c2, x2, r2, z2, y2⟩ := (hpre 6 _ 28 rfl rfl ⟨⟨6, .data⟩, by simp, rfl, rfl⟩)
      have hx2 : a.eval (.tmp 28) = _ := x2
      exact st_callN 12 #[.const (.int .i64 1), .const (.slice none 0 0), .tmp 28] #[3, 22, 22] rfl (want_some rfl rfl rfl (hpre 2 _ 24 rfl rfl ⟨⟨2, .guard⟩, by simp, rfl, rfl⟩)) _ (by simp only [List.map_toArray, List.map_cons, List.map_nil, hx0, hx1, hx2]) (cf_12 _ _ _ _) _ (RefDigest_1 none 0 0 [] _ 3 _ [97, 98, 99] w (Rd.nil _ _ _) (Fit.nil _) (fun _ => rfl) (by omega) r2 fit3 z2 (by omega)) (fun e w' ⟨_, _, he, hrd, hb⟩ => ⟨_, he, hK _ _ ⟨_, _, rfl, hrd⟩ (Like.of_below hb hr.2)⟩)
    · obtain rfl := Option.some.inj ho
      obtain ⟨A, c, eg, hs⟩ := (hpre 7 _ 29 rfl rfl ⟨⟨7, .data⟩, by simp, rfl, rfl⟩)
      exact st_conv (.tmp 29) rfl (want_some rfl rfl rfl (hpre 2 _ 24 rfl rfl ⟨⟨2, .guard⟩, by simp, rfl, rfl⟩)) _ _ _ _ eg hs (hK _ _ rfl (Like.refl _ _))
    · obtain rfl := Option.some.inj ho
      exact st_eqlStr (.tmp 26) (.tmp 30) rfl (want_some rfl rfl rfl (hpre 2 _ 24 rfl rfl ⟨⟨2, .guard⟩, by simp, rfl, rfl⟩)) _ (hpre 4 _ 26 rfl rfl ⟨⟨4, .data⟩, by simp, rfl, rfl⟩) (hpre 8 _ 30 rfl rfl ⟨⟨8, .data⟩, by simp, rfl, rfl⟩) (hK _ _ rfl (Like.refl _ _))
    · obtain rfl := Option.some.inj ho
      exact st_pick (.tmp 24) (.tmp 31) (.const (.bool false)) rfl (want_none rfl) true (hpre 2 _ 24 rfl rfl ⟨⟨2, .data⟩, by simp, rfl, rfl⟩) _ ((if_pos rfl).trans (hpre 9 _ 31 rfl rfl ⟨⟨9, .data⟩, by simp, rfl, rfl⟩)) (hK _ _ rfl (Like.refl _ _))
    · obtain rfl := Option.some.inj ho
      exact st_move (.tmp 32) rfl (want_none rfl) _ (hpre 10 _ 32 rfl rfl ⟨⟨10, .data⟩, by simp, rfl, rfl⟩) (hK _ _ rfl (Like.refl _ _))
    · obtain rfl := Option.some.inj ho
      exact st_move (.tmp 4) rfl (want_some rfl rfl rfl (hpre 11 _ 33 rfl rfl ⟨⟨11, .guard⟩, by simp, rfl, rfl⟩)) _ e4 (hK _ _ rfl (Like.refl _ _))
    · obtain rfl := Option.some.inj ho
      exact st_eqlInt 25 (.tmp 34) (.const (.int .i64 21)) rfl (want_some rfl rfl rfl (hpre 11 _ 33 rfl rfl ⟨⟨11, .guard⟩, by simp, rfl, rfl⟩)) _ (hpre 12 _ 34 rfl rfl ⟨⟨12, .data⟩, by simp, rfl, rfl⟩) rfl (hK _ _ rfl (Like.refl _ _))
    · obtain rfl := Option.some.inj ho
      exact st_pick (.tmp 33) (.tmp 35) (.const (.bool false)) rfl (want_none rfl) true (hpre 11 _ 33 rfl rfl ⟨⟨11, .data⟩, by simp, rfl, rfl⟩) _ ((if_pos rfl).trans (hpre 13 _ 35 rfl rfl ⟨⟨13, .data⟩, by simp, rfl, rfl⟩)) (hK _ _ rfl (Like.refl _ _))
    · obtain rfl := Option.some.inj ho
      exact st_move (.tmp 36) rfl (want_none rfl) _ (hpre 14 _ 36 rfl rfl ⟨⟨14, .data⟩, by simp, rfl, rfl⟩) (hK _ _ rfl (Like.refl _ _))
    · obtain rfl := Option.some.inj ho
      have hx0 : a.eval (.const (.int .i64 2)) = (.int .i64 2) := rfl
      exact st_callN 19 #[.const (.int .i64 2)] #[3] rfl (want_some rfl rfl rfl (hpre 15 _ 37 rfl rfl ⟨⟨15, .guard⟩, by simp, rfl, rfl⟩)) _ (by simp only [List.map_toArray, List.map_cons, List.map_nil, hx0]) (cf_19 _ _) _ (Size7_any 2 w) (fun e w' ⟨he, hw⟩ => ⟨_, he, hK _ _ rfl (by rw [← hw]; exact Like.refl _ _)⟩)
    · obtain rfl := Option.some.inj ho
      exact st_eqlInt 3 (.tmp 38) (.const (.int .i64 64)) rfl (want_some rfl rfl rfl (hpre 15 _ 37 rfl rfl ⟨⟨15, .guard⟩, by simp, rfl, rfl⟩)) _ (hpre 16 _ 38 rfl rfl ⟨⟨16, .data⟩, by simp, rfl, rfl⟩) rfl (hK _ _ rfl (Like.refl _ _))
    · obtain rfl := Option.some.inj ho
      exact st_pick (.tmp 37) (.tmp 39) (.const (.bool false)) rfl (want_none rfl) true (hpre 15 _ 37 rfl rfl ⟨⟨15, .data⟩, by simp, rfl, rfl⟩) _ ((if_pos rfl).trans (hpre 17 _ 39 rfl rfl ⟨⟨17, .data⟩, by simp, rfl, rfl⟩)) (hK _ _ rfl (Like.refl _ _))
    · obtain rfl := Option.some.inj ho
      exact st_assign (.tmp 40) rfl (want_none rfl) _ (hpre 18 _ 40 rfl rfl ⟨⟨18, .data⟩, by simp, rfl, rfl⟩) (hK _ _ rfl (Like.refl _ _))
    · cases ho
  case m3 =>
    intro a w hr hk hv
    have h6 := hv 19 _ 0 rfl rfl
    refine hKx a w (wp_ret (bodyPost_ret (results_tmp rfl _ _ _) hk.defers ⟨?_, below_then HB4.out hr.1⟩))
    exact congrArg Ending.returned h6
end Go.Proofs.YtppoikamenbckaaGreatDoor
