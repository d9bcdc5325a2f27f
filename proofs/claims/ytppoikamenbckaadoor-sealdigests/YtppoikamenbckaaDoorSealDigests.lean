/-
  For every number, every text and every list of texts SealDigests returns true. No condition but that six tables hold what their text lays there: the code's own four, which the sums are made with, and two of Go's library, which the call does not read.
-/
import Derived.Test.YtppoikamenbckaaDoorL7
import Derived.Test.YtppoikamenbckaaDoorTie
import Derived.Test.YtppoikamenbckaaDoorCards
namespace Go.Proofs.YtppoikamenbckaaDoor.sealDigests
open Go.Proofs.YtppoikamenbckaaDoor Go.ChangeShapes Go.WideShapes Go.ChangeAt Go.RowKit
set_option linter.unusedVariables false
set_option linter.unusedSimpArgs false

set_option maxRecDepth 100000 in
set_option maxHeartbeats 1000000 in
theorem walk_g0 (z : Int) (A : Option Addr) (n cap : Nat) (Ap : Option Addr) (np cp : Nat) (w : World) (ht : Both w) (h1 : (200 : Int) < n) :
    Calls Tryd.prog 3 #[.int .i64 z, .slice A n cap, .slice Ap np cp] w fun e w' => e = .returned (.bool true) ∧ Below w.heap.size w w' := by
  have HT := Lib.hid ht
  clear ht
  go_enter Tryd.func3, Tryd.ntmps3
  go_wp2_with fail
  refine (anchor_any w HT.out).mono ?_
  rintro e w1 ⟨rfl, hb1⟩
  go_wp2
  go_ret
  exact ⟨rfl, hb1⟩

set_option maxRecDepth 100000 in
set_option maxHeartbeats 1000000 in
theorem walk_g1 (z : Int) (A : Option Addr) (n cap : Nat) (Ap : Option Addr) (np cp : Nat) (w : World) (ht : Both w) (h1 : ¬ (200 : Int) < n) (h2 : (20 : Int) < np) :
    Calls Tryd.prog 3 #[.int .i64 z, .slice A n cap, .slice Ap np cp] w fun e w' => e = .returned (.bool true) ∧ Below w.heap.size w w' := by
  have HT := Lib.hid ht
  clear ht
  go_enter Tryd.func3, Tryd.ntmps3
  go_wp2_with fail
  refine (anchor_any w HT.out).mono ?_
  rintro e w1 ⟨rfl, hb1⟩
  go_wp2
  go_ret
  exact ⟨rfl, hb1⟩

/-- The document's Digest, by either algorithm. -/
theorem RefDig (z : Nat) (hz : z = 1 ∨ z = 2) (s : Nat) (hs : sizeOfAlg z = s) (A : Option Addr) (n cap : Nat) (l : List Nat) (At : Option Addr) (m c2 : Nat) (lt : List Nat) (w : World) (h : Rd .u8 w A n l) (hf : Fit 256 l) (hnil : A = none → cap = 0) (hn : n ≤ 10000) (ht : Rd .u8 w At m lt) (hft : Fit 256 lt) (hnilt : At = none → c2 = 0) (hm : m ≤ 10000) :
    Calls Tryd.prog 10 #[.int .i64 (z : Int), .slice A n cap, .slice At m c2] w (GivesRd w s (sumOf z (l ++ lt))) := by
  rcases hz with rfl | rfl
  · obtain rfl : 32 = s := hs
    exact RefDigest_1 A n cap l At m c2 lt w h hf hnil hn ht hft hnilt hm
  · obtain rfl : 64 = s := hs
    exact RefDigest_2 2 (by omega) A n cap l At m c2 lt w h hf hnil hn ht hft hnilt hm
theorem cf_10 (v0 v1 v2 : Value) (w : World) : (callFunc 10 #[v0, v1, v2]).run Tryd.prog w = .ok (.enter 10 #[v0, v1, v2]) w := by kernel_rfl
set_option maxRecDepth 100000 in
set_option maxHeartbeats 1000000 in
theorem walk_main (z : Int) (A : Option Addr) (n cap : Nat) (Ap : Option Addr) (np cp : Nat) (w : World) (ht : Both w) (h1 : ¬ (200 : Int) < n) (h2 : ¬ (20 : Int) < np) (l : List Nat) (ps : List Bt) (h : Rd .u8 w A n l) (hf : Fit 256 l) (hcn : n ≤ cap) (hnil : A = none → cap = 0) (hP : PartsR w Ap np ps) (hN : ∀ p ∈ ps, p.A = none → p.cap = 0) (hnp : Ap = none → cp = 0) :
    Calls Tryd.prog 3 #[.int .i64 z, .slice A n cap, .slice Ap np cp] w fun e w' => e = .returned (.bool true) ∧ Below w.heap.size w w' := by
  have HR := Lib.hid h
  have HP := Lib.hid hP
  have HN := Lib.hid hN
  have HNP := Lib.hid hnp
  clear h hP hN hnp
  have HT := Lib.hid ht
  clear ht
  go_enter Tryd.func3, Tryd.ntmps3
  go_wp2_with fail
  refine (anchor_any w HT.out).mono ?_
  rintro e w1 ⟨rfl, hb1⟩
  have HF : Hid (Row w1 w1.heap.size 5 none 0 0 (cn .u8 (flat (ps.take 0)))) := Row.nil _ _ _
  have hbs := Below.refl w1.heap.size w1
  go_wp2
  go_loopw [24, 7] (fun j v wr => ∃ (i : Nat) (A3 : Option Addr) (n3 c3 : Nat), i ≤ np ∧ j = .int .i64 (i : Int) ∧ v = .slice A3 n3 c3 ∧ Hid (Row wr w1.heap.size 5 A3 n3 c3 (cn .u8 (flat (ps.take i)))) ∧ Below w1.heap.size w1 wr ∧ w1.heap.size ≤ wr.heap.size ∧ n3 ≤ 200 * i) (fun j _ _ => np - (intOf j).toNat)
  case atStart => exact ⟨0, none, 0, 0, by omega, rfl, rfl, HF, hbs, Nat.le_refl _, by omega⟩
  case round =>
    obtain ⟨i, A3, n3, c3, hi, rfl, rfl, HR3, hbr, hB3, hn3⟩ := hrel
    clear HF hbs
    by_cases hin : i < np
    · obtain ⟨p, hpi⟩ : ∃ p, ps[i]? = some p := ⟨_, List.getElem?_eq_getElem (by rw [HP.out.1]; exact hin)⟩
      have belr := below_then hb1 hbr
      have hps := HP.out.below belr
      have hpm := List.mem_of_getElem? hpi
      obtain ⟨ad, hA, had, hcell⟩ := hps.2.1 (by omega)
      have hcl := hcell i p hpi
      obtain ⟨hrp, hfp, hpc⟩ := hps.2.2 p hpm
      have HRP := Lib.hid hrp
      have HPI := Lib.hid hpi
      have HNIL := Lib.hid (HN.out p hpm)
      clear hcell hps hrp hpi hpm
      subst hA
      by_cases h600 : p.n ≤ 200
      · obtain ⟨N, hN⟩ : ∃ N, n3 + p.n = N := ⟨_, rfl⟩
        have HNN := Lib.hid hN
        have bN : n3 + p.n ≤ 1000000 := by omega
        have hle : ¬ (200 : Int) < p.n := by omega
        clear hN
        go_wp2_with (first
          | ((with_reducible refine at_dst (some 33) ?_); refine wpList_appBs0 (o := ⟨some 33, _, _, _, _, _⟩) rfl (.tmp 31) (.tmp 32) rfl hbr hB3 rfl HR3.out rfl HRP.out HNIL.out bN N HNN.out ?_; intro A4 c4 w4 HR4 hb4 hB4 HG4))
        go_roundw
        case rel =>
          refine ⟨i + 1, A4, N, c4, by omega, by go_num, rfl, ?_, hb4, hB4, by have := HNN.out; omega⟩
          show Row _ _ _ _ _ _ _
          rw [flat_snoc ps i p HPI.out]
          exact HR4.out
        case measure => simp [intOf]; omega
      · have hle : (200 : Int) < p.n := by omega
        go_wp2
        go_ret
        exact ⟨rfl, belr⟩
    · obtain rfl : i = np := by omega
      have eT : flat (ps.take i) = flat ps := by rw [List.take_of_length_le (by rw [HP.out.1]; omega)]
      have hrow := HR3.out
      rw [eT] at hrow
      have HRW := Lib.hid hrow.rd
      have HNC : Hid (A3 = none → c3 = 0) := fun e => hrow.nilcap e
      have HFF : Hid (Fit 256 (flat ps)) := flat_fit (fun p hp => (HP.out.2.2 p hp).2.1)
      have belr := below_then hb1 hbr
      have HLN : Hid ((flat ps).length ≤ 40000) := by show _ ≤ _; have := hrow.length; rw [cn_length] at this; omega
      have hq : ¬ (i : Int) < i := by omega
      clear hrow eT HR3
      by_cases z12 : z = 1 ∨ z = 2
      · obtain ⟨y, rfl, hy⟩ : ∃ y : Nat, z = (y : Int) ∧ (y = 1 ∨ y = 2) := ⟨z.toNat, by omega, by omega⟩
        obtain ⟨s, hs⟩ : ∃ s, sizeOfAlg y = s := ⟨_, rfl⟩
        have hs2 : s = 32 ∨ s = 64 := by have := sizeAlg_cases hy; omega
        have d0 : ((s : Int) == 0) = false := by simp; omega
        have HY := Lib.hid hy
        have HS := Lib.hid hs
        clear hy hs z12
        by_cases h64 : 64 < n
        · have h64z : (64 : Int) < n := by omega
          go_wp2_with fail
          refine (Digest_big y HY.out A n cap h64 Ap i cp wr).mono ?_
          rintro e w5 ⟨rfl, hb5⟩
          have bel5 := below_then belr hb5
          go_wp2_with fail
          refine (Size7_any y w5).mono ?_
          rintro e w6 ⟨rfl, rfl⟩
          rw [HS.out]
          go_wp2_with fail
          refine (RefSize_any y w5).mono ?_
          rintro e w6 ⟨rfl, rfl⟩
          rw [HS.out]
          go_wp2_with fail
          refine (RefSize_any y w5).mono ?_
          rintro e w6 ⟨rfl, rfl⟩
          rw [HS.out]
          go_wp2
          go_ret
          exact ⟨rfl, bel5⟩
        · have h64z : ¬ (64 : Int) < n := by omega
          have HSL := Lib.hid ((sizeAlg HY.out (l ++ flat ps)).trans HS.out)
          go_wp2_with fail
          refine (Digest_ok y HY.out s HS.out A n cap l Ap i cp ps wr (HR.out.below belr) hf hcn (by omega) (HP.out.below belr) HNP.out (by omega) HLN.out (HT.out.below belr)).mono ?_
          rintro e w5 ⟨g5, rfl, hg5, hB5, hb5⟩
          have HR5 := Lib.hid (hB5.rd s HSL.out)
          have HRW5 := Lib.hid (HRW.out.below hb5)
          have bel5 := below_then belr hb5
          clear hB5 hg5 HRW
          go_wp2_with fail
          refine (Size7_any y w5).mono ?_
          rintro e w6 ⟨rfl, rfl⟩
          rw [HS.out]
          go_wp2_with fail
          refine (RefSize_any y w5).mono ?_
          rintro e w6 ⟨rfl, rfl⟩
          rw [HS.out]
          go_wp2_with fail
          refine (RefSize_any y w5).mono ?_
          rintro e w6 ⟨rfl, rfl⟩
          rw [HS.out]
          go_wp2
          rename_i hKx
          refine wp_region_eachS (by kernel_rfl) (by kernel_rfl) (fun iX v w => match iX with
              | 0 => v = .int .i64 0
              | 1 => v = .bool true
              | 2 => v = .bool true
              | 3 => v = .slice (some ⟨g5, 0, none⟩) s s
              | 4 => v = .string (str (sumOf y (l ++ flat ps)))
              | 5 => v = .int .i64 (y : Int)
              | 6 => v = .slice A n cap
              | 7 => v = .slice A3 n3 c3
              | 8 => VRo s (sumOf y (l ++ flat ps)) v w
              | 9 => v = .string (str (sumOf y (l ++ flat ps)))
              | 10 => v = .bool true
              | 11 => v = .bool true
              | 12 => v = .bool true
              | _ => True) (Since w5) (Like w5.heap.size) ?m1 (fun _ _ h1 h2 => h1.like h2) (Since.start w5) ?m2 ?m3
          case m1 =>
            intro iX v w w' h hr hb
            rcases iX with _ | _ | _ | _ | _ | _ | _ | _ | _ | _ | _ | _ | _ | iX
            · exact h
            · exact h
            · exact h
            · exact h
            · exact h
            · exact h
            · exact h
            · exact h
            · exact h.like hb
            · exact h
            · exact h
            · exact h
            · exact h
            · trivial
          case m2 =>
            intro iX o ho a w hr hk hpre K hK
            have e11 : a.tmps.getD 11 undef = .int .i64 0 := hk.slot 11 (by simp)
            have e10 : a.tmps.getD 10 undef = .slice (some ⟨g5, 0, none⟩) s s := hk.slot 10 (by simp)
            have e0 : a.tmps.getD 0 undef = .int .i64 (y : Int) := hk.slot 0 (by simp)
            have e1 : a.tmps.getD 1 undef = .slice A n cap := hk.slot 1 (by simp)
            have e7 : a.tmps.getD 7 undef = .slice A3 n3 c3 := hk.slot 7 (by simp)
            rcases iX with _ | _ | _ | _ | _ | _ | _ | _ | _ | _ | _ | _ | _ | iX
            · obtain rfl := Option.some.inj ho
              exact st_move (.tmp 11) rfl (want_none rfl) _ e11 (hK _ _ rfl (Like.refl _ _))
            · obtain rfl := Option.some.inj ho
              exact st_eqlInt 25 (.tmp 67) (.const (.int .i64 0)) rfl (want_none rfl) _ (hpre 0 _ 67 rfl rfl ⟨⟨0, .data⟩, by simp, rfl, rfl⟩) rfl (hK _ _ rfl (Like.refl _ _))
            · obtain rfl := Option.some.inj ho
              exact st_move (.tmp 68) rfl (want_none rfl) _ (hpre 1 _ 68 rfl rfl ⟨⟨1, .data⟩, by simp, rfl, rfl⟩) (hK _ _ rfl (Like.refl _ _))
            · obtain rfl := Option.some.inj ho
              exact st_move (.tmp 10) rfl (want_some rfl rfl rfl (hpre 2 _ 69 rfl rfl ⟨⟨2, .guard⟩, by simp, rfl, rfl⟩)) _ e10 (hK _ _ rfl (Like.refl _ _))
            · obtain rfl := Option.some.inj ho
              exact st_conv (.tmp 70) rfl (want_some rfl rfl rfl (hpre 2 _ 69 rfl rfl ⟨⟨2, .guard⟩, by simp, rfl, rfl⟩)) _ _ _ _ (hpre 3 _ 70 rfl rfl ⟨⟨3, .data⟩, by simp, rfl, rfl⟩) (HR5.out.below hr.1) (hK _ _ rfl (Like.refl _ _))
            · obtain rfl := Option.some.inj ho
              exact st_move (.tmp 0) rfl (want_some rfl rfl rfl (hpre 2 _ 69 rfl rfl ⟨⟨2, .guard⟩, by simp, rfl, rfl⟩)) _ e0 (hK _ _ rfl (Like.refl _ _))
            · obtain rfl := Option.some.inj ho
              exact st_move (.tmp 1) rfl (want_some rfl rfl rfl (hpre 2 _ 69 rfl rfl ⟨⟨2, .guard⟩, by simp, rfl, rfl⟩)) _ e1 (hK _ _ rfl (Like.refl _ _))
            · obtain rfl := Option.some.inj ho
              exact st_move (.tmp 7) rfl (want_some rfl rfl rfl (hpre 2 _ 69 rfl rfl ⟨⟨2, .guard⟩, by simp, rfl, rfl⟩)) _ e7 (hK _ _ rfl (Like.refl _ _))
            · obtain rfl := Option.some.inj ho
              have hx0 : a.eval (.tmp 72) = .int .i64 (y : Int) := (hpre 5 _ 72 rfl rfl ⟨⟨5, .data⟩, by simp, rfl, rfl⟩)
              have hx1 : a.eval (.tmp 73) = .slice A n cap := (hpre 6 _ 73 rfl rfl ⟨⟨6, .data⟩, by simp, rfl, rfl⟩)
              have hx2 : a.eval (.tmp 74) = .slice A3 n3 c3 := (hpre 7 _ 74 rfl rfl ⟨⟨7, .data⟩, by simp, rfl, rfl⟩)
              exact st_callN 10 #[.tmp 72, .tmp 73, .tmp 74] #[3, 22, 22] rfl (want_some rfl rfl rfl (hpre 2 _ 69 rfl rfl ⟨⟨2, .guard⟩, by simp, rfl, rfl⟩)) _ (by simp only [List.map_toArray, List.map_cons, List.map_nil, hx0, hx1, hx2]) (cf_10 _ _ _ _) _ (RefDig y HY.out s HS.out A n cap l A3 n3 c3 _ w ((HR.out.below bel5).below hr.1) hf hnil (by omega) (HRW5.out.below hr.1) HFF.out HNC.out (by omega)) (fun e w' ⟨_, _, he, hrd, hb⟩ => ⟨_, he, hK _ _ ⟨_, _, rfl, hrd⟩ (Like.of_below hb hr.2)⟩)
            · obtain rfl := Option.some.inj ho
              obtain ⟨A, c, eg, hs⟩ := (hpre 8 _ 75 rfl rfl ⟨⟨8, .data⟩, by simp, rfl, rfl⟩)
              exact st_conv (.tmp 75) rfl (want_some rfl rfl rfl (hpre 2 _ 69 rfl rfl ⟨⟨2, .guard⟩, by simp, rfl, rfl⟩)) _ _ _ _ eg hs (hK _ _ rfl (Like.refl _ _))
            · obtain rfl := Option.some.inj ho
              exact st_eqlStr (.tmp 71) (.tmp 76) rfl (want_some rfl rfl rfl (hpre 2 _ 69 rfl rfl ⟨⟨2, .guard⟩, by simp, rfl, rfl⟩)) _ (hpre 4 _ 71 rfl rfl ⟨⟨4, .data⟩, by simp, rfl, rfl⟩) (hpre 9 _ 76 rfl rfl ⟨⟨9, .data⟩, by simp, rfl, rfl⟩) (hK _ _ rfl (Like.refl _ _))
            · obtain rfl := Option.some.inj ho
              exact st_pick (.tmp 69) (.tmp 77) (.const (.bool false)) rfl (want_none rfl) true (hpre 2 _ 69 rfl rfl ⟨⟨2, .data⟩, by simp, rfl, rfl⟩) _ ((if_pos rfl).trans (hpre 10 _ 77 rfl rfl ⟨⟨10, .data⟩, by simp, rfl, rfl⟩)) (hK _ _ rfl (Like.refl _ _))
            · obtain rfl := Option.some.inj ho
              exact st_assign (.tmp 78) rfl (want_none rfl) _ (hpre 11 _ 78 rfl rfl ⟨⟨11, .data⟩, by simp, rfl, rfl⟩) (hK _ _ rfl (Like.refl _ _))
            · cases ho
          case m3 =>
            intro a w hr hk hv
            have h6 := hv 12 _ 6 rfl rfl
            refine hKx a w (wp_ret (bodyPost_ret (results_tmp rfl _ _ _) hk.defers ⟨?_, below_then bel5 hr.1⟩))
            exact congrArg Ending.returned h6
      · have z1 : z ≠ 1 := fun e => z12 (.inl e)
        have z2 : z ≠ 2 := fun e => z12 (.inr e)
        go_wp2_with fail
        refine (Digest_alg z z1 z2 A n cap Ap i cp wr).mono ?_
        rintro e w5 ⟨rfl, hb5⟩
        have bel5 := below_then belr hb5
        go_wp2_with fail
        refine (Size7_any z w5).mono ?_
        rintro e w6 ⟨rfl, rfl⟩
        rw [sizeOfAlg, if_neg z1, if_neg z2]
        go_wp2_with fail
        refine (RefSize_any z w5).mono ?_
        rintro e w6 ⟨rfl, rfl⟩
        rw [sizeOfAlg, if_neg z1, if_neg z2]
        go_wp2_with fail
        refine (RefSize_any z w5).mono ?_
        rintro e w6 ⟨rfl, rfl⟩
        rw [sizeOfAlg, if_neg z1, if_neg z2]
        go_wp2
        go_ret
        exact ⟨rfl, bel5⟩

theorem walk (z : Int) (A : Option Addr) (n cap : Nat) (l : List Nat) (Ap : Option Addr) (np cp : Nat) (ps : List Bt) (w : World) (_ : (Lit.int .i64 z).wf = true) (h : Rd .u8 w A n l) (hf : Fit 256 l) (hcn : n ≤ cap) (hmn : cap ≤ maxLen) (hnil : A = none → cap = 0) (hP : PartsR w Ap np ps) (hN : ∀ p ∈ ps, p.A = none → p.cap = 0) (hcp : np ≤ cp) (hmp : cp ≤ maxLen) (hnp : Ap = none → cp = 0) (ht : Both w) :
    Calls Tryd.prog 3 #[.int .i64 z, .slice A n cap, .slice Ap np cp] w fun e w' => e = .returned (.bool true) ∧ Below w.heap.size w w' := by
  by_cases h1 : 200 < n
  · exact walk_g0 z A n cap Ap np cp w ht (by omega)
  by_cases h2 : 20 < np
  · exact walk_g1 z A n cap Ap np cp w ht (by omega) (by omega)
  exact walk_main z A n cap Ap np cp w ht (by omega) (by omega) l ps h hf hcn hnil hP hN hnp

-- THE ROW's STEP
set_option maxRecDepth 100000 in
theorem lifted (os : Os) (started : os.Started) (H : Type) (enc : TypeId × Value → H) :
    ReturnsInHanded {} Tryd.checked os 3 .any (fun w args => (Rows.sealDigestsSpec.pre enc Tryd.prog Tryd.f3 [] false w args ∧ laidMetH Tryd.prog listed w) ∧ sizedMet enc Tryd.prog Tryd.f3 (OpenSpec.ofChange Rows.sealDigestsSpec) false w args)
      (Rows.sealDigestsSpec.post enc Tryd.prog Tryd.f3 false true false false) := by
  refine returnsInHanded_of_change_and (C := Tryd.checked) (X := fun w _ => laidMetH Tryd.prog listed w) (fun _ _ _ hh h => h.of_heap hh) own started (by kernel_rfl) Tryd.func3
    (ChangeSpec.witness_shaped (enc := enc) (C := Tryd.checked) (os := os) (X := fun w _ => laidMetH Tryd.prog listed w) false (World.laidAll Tryd.prog os listed) #[.int .i64 0, .slice none 0 0, .slice none 0 0] 8 (World.laidAll_os _ _ _)
      (World.shaped_of_ZipB (by kernel_rfl) (by kernel_rfl)) (by kernel_rfl) (by kernel_rfl) (by kernel_rfl)
      (by rw [MakeChecks.laidMetH_plain _ _ _ (by kernel_rfl)]; exact laidMet_laidAll _ (by kernel_rfl) (by kernel_rfl))) ?_
  intro W base args ds gs before hval0 hW _ _ hL _
  have hval : ∀ (j : Nat) t v, Tryd.f3.params[j]? = some t → args[j]? = some v → Value.okWide Tryd.prog W .any base t v := hval0
  have hW' := hW
  obtain ⟨p, q, hA0, hV, rfl, hfz, hnd⟩ := hW
  have hA : DataW.TrodAll enc Tryd.prog W 0 (fun _ => true) true Tryd.f3.params.toList args.toList ds p := hA0
  rw [Tryd.params3] at hA hval
  obtain ⟨v0, vs0, d0, ds0, p0, q0, hargs, rfl, rfl, h0, r0⟩ := trodAll_cons hA
  obtain ⟨v1, vs1, d1, ds1, p1, q1, rfl, rfl, rfl, h1, r1⟩ := trodAll_cons r0
  obtain ⟨v2, vs2, d2, ds2, p2, q2, rfl, rfl, rfl, h2, r2⟩ := trodAll_cons r1
  obtain ⟨rfl, rfl, rfl⟩ := trodAll_nil r2
  obtain rfl : args = #[v0, v1, v2] := by cases args; simp_all
  obtain ⟨rfl, rfl⟩ := trodVars_none hV
  obtain ⟨a0, rfl, rfl, rfl, w0⟩ := open_int Tryd.underlying3 (hval 0 3 v0 rfl rfl) h0
  have k1 := h1
  have lt1 : ∀ x ∈ p1, x.block < W.heap.size := by obtain ⟨m, hm⟩ := k1; exact DataW.trod_lt m _ _ _ hm
  obtain ⟨fuel1, hf1⟩ := h1
  obtain ⟨a1, len1, cap1, l1, e1, g1, hlc1, hcm1, hnil1⟩ := bytes_of_trod hf1
  obtain ⟨b1, lb1, cb1, hv1⟩ := okWide_slice Tryd.underlying22 (hval 1 22 v1 rfl rfl)
  have ev1 : v1 = .slice a1 len1 cap1 := by rw [hv1] at e1 ⊢; simpa [Value.cells] using e1
  subst ev1
  have k2 := h2
  have lt2 : ∀ x ∈ p2, x.block < W.heap.size := by obtain ⟨m, hm⟩ := k2; exact DataW.trod_lt m _ _ _ hm
  obtain ⟨fuel2, hf2⟩ := h2
  obtain ⟨a2, len2, cap2, l2, e2, g2, hlc2, hcm2, hnil2⟩ := parts_of_trod hf2
  obtain ⟨b2, lb2, cb2, hv2⟩ := okWide_slice Tryd.underlying23 (hval 2 23 v2 rfl rfl)
  have ev2 : v2 = .slice a2 len2 cap2 := by rw [hv2] at e2 ⊢; simpa [Value.cells] using e2
  subst ev2
  clear hA0 hval0
  refine (walk a0 a1 len1 cap1 l1 a2 len2 cap2 l2 W w0 g1.1 g1.2 hlc1 hcm1 hnil1 g2.1 g2.2 hlc2 hcm2 hnil2 (tabs_of_laid hL)).mono fun e W' ⟨he, bel⟩ => ?_
  subst he
  exact ⟨_, rfl, _, _, _, [], _, [], hW', trodAll_mk1 (shut_bool Tryd.underlying4 _), (trodAll_cons_mk (shut_int Tryd.underlying3 w0) (trodAll_cons_mk (Below.trod laidOut (by kernel_rfl) (of_decide_eq_true (by kernel_rfl)) k1 bel lt1) (trodAll_cons_mk (Below.trod laidOut (by kernel_rfl) (of_decide_eq_true (by kernel_rfl)) k2 bel lt2) trodAll_mk0))), rfl, bel.frame _, fun h => by cases h⟩

theorem row_holds : Rows.SealDigestsSaid :=
  OpenClaim.holds_of_wide 3 Tryd.f3 rfl rfl rfl rfl rfl rfl rfl ⟨rfl, rfl, rfl, rfl, rfl⟩ rfl rfl rfl rfl rfl (by kernel_rfl) Tryd.func3 (by kernel_rfl)
    (of_decide_eq_true (by kernel_rfl)) (by unfold Func.isWrapper; first | (rw [if_pos (by decide +kernel)]; kernel_rfl) | (rw [if_neg (by decide +kernel)]; exact ⟨rfl, rfl⟩))
    (fun os started H enc _ => lifted os started H enc)

theorem proved : Rows.SealDigestsCardSaid :=
  Claim7.holds_tied_plain_at .later [] [.data, .data, .data, .data, .data, .pinned] true Rows.sealDigestsCard.stood.harness false
    row_holds (fun _ h => by cases h) (by kernel_rfl) (fun _ h => by cases h) sealDigests_row_tie rfl ⟨rfl, rfl⟩ (by kernel_rfl) rfl
    (fun f fn hf hfn => by
      obtain rfl : f = 3 := Option.some.inj ((show Tryd.prog.funcNamed Tryd.f3.name = some 3 by kernel_rfl).symm.trans hf) |>.symm
      obtain rfl : fn = Tryd.f3 := (Option.some.inj (Tryd.func3.symm.trans hfn)).symm
      exact ⟨by kernel_rfl, fun j t ht => by
        rw [Tryd.params3] at ht
        have hm : t ∈ [3, 22, 23] := by simpa using Array.mem_of_getElem? ht
        have hall : ([3, 22, 23].all fun u => !Tryd.prog.wantsStandIn u) = true := by kernel_rfl
        exact (show Tryd.prog.wantsStandIn t = false by simpa using List.all_eq_true.1 hall t hm)⟩)
    (by kernel_rfl)
end Go.Proofs.YtppoikamenbckaaDoor.sealDigests
