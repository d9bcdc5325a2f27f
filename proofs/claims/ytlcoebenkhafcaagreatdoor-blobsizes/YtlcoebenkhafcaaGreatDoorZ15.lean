/-
  What ContainsFunc with like, allRight and anyTwice answer. No condition but that the texts are bytes that fit. What anyTwice and Encode answer. No condition but that the texts are bytes that fit. Blobs with no program: when they are right, their bytes, and what bytes are read as. No condition.
-/
import Derived.Test.YtlcoebenkhafcaaGreatDoorZ14
import Derived.Test.YtlcoebenkhafcaaGreatDoorZ08
namespace Go.Proofs.YtlcoebenkhafcaaGreatDoor
open Go.RowKit
set_option linter.unusedVariables false
set_option linter.unusedSimpArgs false
set_option maxRecDepth 100000
theorem des_get {xs : List Dx} {i : Nat} {x : Dx} (h : xs[i]? = some x) : (des xs)[i]? = some x.d := by simp [des, h]
theorem dup_yes {l : List De} {d y : De} {i : Nat} (h : l[i]? = some y) (hl : LikeD d y) : dup l d = true := by
  unfold dup
  rw [List.any_eq_true]
  exact ⟨y, List.mem_of_getElem? h, decide_eq_true hl⟩
theorem dup_no {l : List De} {d : De} (h : ∀ (i : Nat) y, l[i]? = some y → ¬ LikeD d y) : dup l d = false := by
  unfold dup
  rw [List.any_eq_false]
  intro y hy
  obtain ⟨i, hi, rfl⟩ := List.getElem_of_mem hy
  simpa using h i _ (List.getElem?_eq_getElem hi)
set_option maxHeartbeats 2000000 in
theorem IndexF_any (x : Dx) (A : Option Addr) (n cap : Nat) (xs : List Dx) (w : World) (hx : Fit 256 x.d.name) (hd : DL w A n xs) (hn : n ≤ 100000) : Calls Tryz.prog 151 #[.slice A n cap, .func (.func 111) #[x.val] #[]] w fun e w' => ∃ z, e = .returned (.int .i64 z) ∧ decide (0 ≤ z) = dup (des xs) x.d ∧ Below w.heap.size w w' := by
  obtain ⟨d0, hu0, hd0⟩ := uD
  have HX := Lib.hid hx
  have HD := Lib.hid hd
  obtain ⟨v, hv⟩ : ∃ v, x.val = v := ⟨_, rfl⟩
  have HV := Lib.hid hv
  rw [hv]
  clear hx hd hv
  go_enter Tryz.func151, Tryz.ntmps151
  go_wp2
  go_loopw [8] (fun o wr => ∃ i : Nat, i ≤ n ∧ o = .int .i64 (i : Int) ∧ (∀ (j : Nat) y, j < i → (des xs)[j]? = some y → ¬ LikeD x.d y) ∧ Hid (Below w.heap.size w wr)) (fun o _ => n - (intOf o).toNat)
  case atStart => exact ⟨0, Nat.zero_le _, rfl, fun j y h => absurd h (Nat.not_lt_zero j), Below.refl _ _⟩
  case round =>
    obtain ⟨i, hi, rfl, hall, HB⟩ := hrel
    have HA := Lib.hid hall
    clear hall
    by_cases hin : i < n
    · have hin2 : (i : Int) < (n : Int) := by omega
      obtain ⟨ad, y, rfl, had, hy, hym, hAt, hok⟩ := (HD.out.below HB.out).get hin
      have HAT := Lib.hid hAt
      have HY := Lib.hid hy
      have HL := Lib.hid (like_any x y wr HX.out hok.name)
      rw [HV.out] at HL
      clear hAt hy hym hok had
      go_wp2_with ((with_reducible refine at_dst (some 15) ?_); refine wpList_loadAt (op := ⟨some 15, _, _, _, _, _⟩) rfl 71 (.tmp 14) rfl (ad.add (i * 11)) rfl y.cells d0 HAT.out hu0 hd0 iD ?_)
      refine HL.out.mono ?_
      rintro e w2 ⟨rfl, hb2⟩
      have HB2 := Lib.hid (HB.out.trans (hb2.mono HB.out.size))
      clear hb2
      by_cases hlk : LikeD x.d y.d
      · have E := Lib.hid (decide_eq_true hlk)
        rw [E.out]
        have hdup := dup_yes (des_get HY.out) hlk
        have HDU := Lib.hid hdup
        clear hlk hdup
        go_wp2
        go_ret
        exact ⟨i, rfl, by rw [HDU.out]; simp, HB2.out⟩
      · have E := Lib.hid (decide_eq_false hlk)
        have HLK := Lib.hid hlk
        rw [E.out]
        clear hlk
        go_wp2
        go_roundw
        case rel =>
          refine ⟨i + 1, by omega, by go_num, fun j y' hj hy' => ?_, HB2⟩
          by_cases e : j = i
          · subst e
            rw [des_get HY.out] at hy'
            injection hy' with hy'
            rw [← hy']; exact HLK.out
          · exact HA.out j y' (by omega) hy'
        case measure => simp [intOf]; omega
    · obtain rfl : i = n := by omega
      have hdup : dup (des xs) x.d = false := dup_no (fun j y hy => HA.out j y (by have := (List.getElem?_eq_some_iff.1 hy).1; rw [des, List.length_map, HD.out.len] at this; exact this) hy)
      have HDU := Lib.hid hdup
      clear hdup
      go_wp2
      go_ret
      exact ⟨-1, rfl, by rw [HDU.out]; rfl, HB.out⟩
theorem ContainsF_any (x : Dx) (A : Option Addr) (n cap : Nat) (xs : List Dx) (w : World) (hx : Fit 256 x.d.name) (hd : DL w A n xs) (hn : n ≤ 100000) : Calls Tryz.prog 110 #[.slice A n cap, .func (.func 111) #[x.val] #[]] w fun e w' => e = .returned (.bool (dup (des xs) x.d)) ∧ Below w.heap.size w w' := by
  have HC := Lib.hid (IndexF_any x A n cap xs w hx hd hn)
  obtain ⟨v, hv⟩ : ∃ v, x.val = v := ⟨_, rfl⟩
  rw [hv] at HC ⊢
  clear hx hd hv
  go_enter Tryz.func110, Tryz.ntmps110
  go_wp2_with fail
  refine HC.out.mono ?_
  rintro e w2 ⟨z, rfl, hz, hb⟩
  have HZ := Lib.hid hz
  have HB := Lib.hid hb
  clear hz hb
  go_wp2
  go_ret
  exact ⟨by rw [← HZ.out]; rfl, HB.out⟩
def allR (xs : List Dx) : Bool := decide (∀ d ∈ des xs, Right d)
set_option maxHeartbeats 2000000 in
theorem allRight_any (A : Option Addr) (n cap : Nat) (xs : List Dx) (w : World) (hd : DL w A n xs) (hn : n ≤ 100000) (hnm : ∀ x ∈ xs, x.d.name.length ≤ 100000) : Calls Tryz.prog 68 #[.slice A n cap] w fun e w' => e = .returned (.bool (allR xs)) ∧ Below w.heap.size w w' := by
  obtain ⟨d0, hu0, hd0⟩ := uD
  have HD := Lib.hid hd
  have HN := Lib.hid hnm
  clear hd hnm
  go_enter Tryz.func68, Tryz.ntmps68
  go_wp2
  go_loopw [7] (fun o wr => ∃ i : Nat, i ≤ n ∧ o = .int .i64 (i : Int) ∧ (∀ (j : Nat) y, j < i → (des xs)[j]? = some y → Right y) ∧ Hid (Below w.heap.size w wr)) (fun o _ => n - (intOf o).toNat)
  case atStart => exact ⟨0, Nat.zero_le _, rfl, fun j y h => absurd h (Nat.not_lt_zero j), Below.refl _ _⟩
  case round =>
    obtain ⟨i, hi, rfl, hall, HB⟩ := hrel
    have HA := Lib.hid hall
    clear hall
    by_cases hin : i < n
    · have hin2 : (i : Int) < (n : Int) := by omega
      obtain ⟨ad, y, rfl, had, hy, hym, hAt, hok⟩ := (HD.out.below HB.out).get hin
      have HAT := Lib.hid hAt
      have HY := Lib.hid hy
      have hb1 : Below wr.heap.size wr (wr.alloc (.cells y.cells.toArray 71)) := (Below.refl _ _).alloc (Nat.le_refl _) _
      have HBB : Hid (Below w.heap.size w (wr.alloc (.cells y.cells.toArray 71))) := HB.out.trans (hb1.mono HB.out.size)
      have HL := Lib.hid (Right_any y (wr.alloc (.cells y.cells.toArray 71)) (hok.below hb1) (HN.out y hym))
      have HBK : Hid (At (wr.alloc (.cells y.cells.toArray 71)) ⟨wr.heap.size, 0, none⟩ y.cells) := (Blk.new wr 71 y.cells).at
      clear hAt hy hok had hb1
      go_wp2_with (first
        | ((with_reducible refine at_dst (some 10) ?_); refine wpList_loadAt (op := ⟨some 10, _, _, _, _, _⟩) rfl 71 (.tmp 9) rfl (ad.add (i * 11)) rfl y.cells d0 HAT.out hu0 hd0 iD ?_)
        | ((with_reducible refine at_dst none ?_); refine wpList_storeNew (w := wr) (op := ⟨none, _, _, _, _, _⟩) rfl 71 (.tmp 4) (.tmp 10) rfl zeroD y.cells rfl rfl rfl iD y.one ?_)
        | ((with_reducible refine at_dst (some 11) ?_); refine wpList_loadAt (op := ⟨some 11, _, _, _, _, _⟩) rfl 71 (.tmp 4) rfl ⟨wr.heap.size, 0, none⟩ rfl y.cells d0 HBK.out hu0 hd0 iD ?_))
      refine HL.out.mono ?_
      rintro e w2 ⟨rfl, hb2⟩
      have HB2 := Lib.hid (HBB.out.trans (hb2.mono HBB.out.size))
      clear hb2
      by_cases hlk : Right y.d
      · have E := Lib.hid (decide_eq_true hlk)
        have HLK := Lib.hid hlk
        rw [E.out]
        clear hlk
        go_wp2
        go_roundw
        case rel =>
          refine ⟨i + 1, by omega, by go_num, fun j y' hj hy' => ?_, HB2⟩
          by_cases e : j = i
          · subst e
            rw [des_get HY.out] at hy'
            injection hy' with hy'
            rw [← hy']; exact HLK.out
          · exact HA.out j y' (by omega) hy'
        case measure => simp [intOf]; omega
      · have E := Lib.hid (decide_eq_false hlk)
        have HF : Hid (allR xs = false) := decide_eq_false (fun h => hlk (h _ (List.mem_of_getElem? (des_get HY.out))))
        rw [E.out]
        clear hlk
        go_wp2
        go_ret
        exact ⟨by rw [HF.out]; rfl, HB2.out⟩
    · obtain rfl : i = n := by omega
      have HF : Hid (allR xs = true) := decide_eq_true (fun d hdm => by
        obtain ⟨j, hj, rfl⟩ := List.getElem_of_mem hdm
        exact HA.out j _ (by rw [des, List.length_map, HD.out.len] at hj; exact hj) (List.getElem?_eq_getElem hj))
      go_wp2
      go_ret
      exact ⟨by rw [HF.out]; rfl, HB.out⟩
end Go.Proofs.YtlcoebenkhafcaaGreatDoor
namespace Go.Proofs.YtlcoebenkhafcaaGreatDoor
open Go.RowKit
set_option linter.unusedVariables false
set_option linter.unusedSimpArgs false
set_option maxRecDepth 100000
theorem tw_snoc (l : List De) (d : De) : tw [] (l ++ [d]) = (tw [] l || dup l d) := by
  rw [tw_split]
  simp [tw]
theorem tw_take {l : List De} {i : Nat} (h : tw [] (l.take i) = true) : tw [] l = true := by
  have : l = l.take i ++ l.drop i := (List.take_append_drop i l).symm
  rw [this, tw_split, h, Bool.true_or]
theorem take_snoc' {α : Type} {l : List α} {i : Nat} {d : α} (h : l[i]? = some d) : l.take (i + 1) = l.take i ++ [d] := by
  obtain ⟨hi, rfl⟩ := List.getElem?_eq_some_iff.1 h
  rw [List.take_succ_eq_append_getElem hi]
theorem des_take (xs : List Dx) (i : Nat) : des (xs.take i) = (des xs).take i := by simp [des, List.map_take]
set_option maxHeartbeats 2000000 in
theorem anyTwice_any (A : Option Addr) (n cap : Nat) (xs : List Dx) (w : World) (hd : DL w A n xs) (hn : n ≤ 100000) (hnc : n ≤ cap) (hcm : cap ≤ 9223372036854775807) : Calls Tryz.prog 69 #[.slice A n cap] w fun e w' => e = .returned (.bool (tw [] (des xs))) ∧ Below w.heap.size w w' := by
  obtain ⟨d0, hu0, hd0⟩ := uD
  have HD := Lib.hid hd
  clear hd
  go_enter Tryz.func69, Tryz.ntmps69
  go_wp2
  go_loopw [7] (fun o wr => ∃ i : Nat, i ≤ n ∧ o = .int .i64 (i : Int) ∧ Hid (tw [] ((des xs).take i) = false) ∧ Hid (Below w.heap.size w wr)) (fun o _ => n - (intOf o).toNat)
  case atStart => exact ⟨0, Nat.zero_le _, rfl, rfl, Below.refl _ _⟩
  case round =>
    obtain ⟨i, hi, rfl, HT, HB⟩ := hrel
    by_cases hin : i < n
    · have hin2 : (i : Int) < (n : Int) := by omega
      have hic : (i : Int) ≤ (cap : Int) := by omega
      obtain ⟨ad, y, hA, had, hy, hym, hAt, hok⟩ := (HD.out.below HB.out).get hin
      have hDL := HD.out.take i (by omega)
      subst hA
      have HAT := Lib.hid hAt
      have HY := Lib.hid hy
      have hb1 : Below wr.heap.size wr (wr.alloc (.cells y.cells.toArray 71)) := (Below.refl _ _).alloc (Nat.le_refl _) _
      have HBK0 : Blk (wr.alloc (.cells y.cells.toArray 71)) wr.heap.size 71 y.cells := Blk.new wr 71 y.cells
      obtain ⟨wz, hwz⟩ : ∃ wz, wr.alloc (.cells y.cells.toArray 71) = wz := ⟨_, rfl⟩
      rw [hwz] at hb1 HBK0
      have hbz : Below w.heap.size w wz := HB.out.trans (hb1.mono HB.out.size)
      have HBZ : Hid (Below w.heap.size w wz) := hbz
      have c0 : wz.cell? ⟨wr.heap.size, 0, none⟩ = some (.int .i64 y.d.kind) := HBK0.cell 0
      have c1 : wz.cell? ⟨wr.heap.size, 1, none⟩ = some (.int .i64 y.d.alg) := HBK0.cell 1
      have c2 : wz.cell? ⟨wr.heap.size, 2, none⟩ = some (.int .i64 y.d.size) := HBK0.cell 2
      have c3 : wz.cell? ⟨wr.heap.size, 3, none⟩ = some (.int .i64 y.d.block) := HBK0.cell 3
      have c4 : wz.cell? ⟨wr.heap.size, 4, none⟩ = some (.int .i64 y.d.off) := HBK0.cell 4
      have c5 : wz.cell? ⟨wr.heap.size, 5, none⟩ = some (.int .i64 y.d.loc) := HBK0.cell 5
      have c6 : wz.cell? ⟨wr.heap.size, 6, none⟩ = some (.string (str y.d.name)) := HBK0.cell 6
      have c7 : wz.cell? ⟨wr.heap.size, 7, none⟩ = some (.slice y.s1.A y.s1.n y.s1.cap) := HBK0.cell 7
      have c8 : wz.cell? ⟨wr.heap.size, 8, none⟩ = some (.slice y.s2.A y.s2.n y.s2.cap) := HBK0.cell 8
      have c9 : wz.cell? ⟨wr.heap.size, 9, none⟩ = some (.slice y.s3.A y.s3.n y.s3.cap) := HBK0.cell 9
      have c10 : wz.cell? ⟨wr.heap.size, 10, none⟩ = some (.slice y.s4.A y.s4.n y.s4.cap) := HBK0.cell 10
      have HL := Lib.hid (ContainsF_any y (some ad) i cap (xs.take i) wz.drew hok.name (hDL.below (below_drew1 hbz)) (by omega))
      clear hAt hy hok had hb1 hDL HBK0 hbz
      go_wp2_with (first
        | ((with_reducible refine at_dst (some 11) ?_); refine wpList_loadAt (op := ⟨some 11, _, _, _, _, _⟩) rfl 71 (.tmp 10) rfl (ad.add (i * 11)) rfl y.cells d0 HAT.out hu0 hd0 iD ?_)
        | ((with_reducible refine at_dst none ?_); refine wpList_storeNew (w := wr) (op := ⟨none, _, _, _, _, _⟩) rfl 71 (.tmp 4) (.tmp 11) rfl zeroD y.cells rfl rfl rfl iD y.one ?_))
      rw [hwz]
      go_region_law (first | (go_simp; go_at_call 110; refine HL.out.mono ?_; rintro e w2 ⟨rfl, hb2⟩))
      all_goals
        clear c0 c1 c2 c3 c4 c5 c6 c7 c8 c9 c10
        have HBZd : Below w.heap.size w wz.drew := below_drew1 HBZ.out
        have HB2 := Lib.hid (HBZd.trans (hb2.mono HBZd.size))
        have hsn := tw_snoc ((des xs).take i) y.d
        rw [← take_snoc' (des_get HY.out), HT.out, Bool.false_or] at hsn
        have HSN := Lib.hid hsn
        clear HBZd hb2 hsn
        obtain ⟨bb, hbb⟩ : ∃ bb, dup (des (xs.take i)) y.d = bb := ⟨_, rfl⟩
        rw [hbb]
        rw [des_take] at hbb
        rw [hbb] at HSN
        clear hbb
        cases bb
        · go_wp2
          go_roundw
          case rel => exact ⟨i + 1, by omega, by go_num, HSN, HB2⟩
          case measure => simp [intOf]; omega
        · have HTW : Hid (tw [] (des xs) = true) := tw_take HSN.out
          go_wp2
          go_ret
          exact ⟨by rw [HTW.out]; rfl, HB2.out⟩
    · obtain rfl : i = n := by omega
      have HF : Hid (tw [] (des xs) = false) := by
        have := HT.out
        rw [List.take_of_length_le (by rw [des, List.length_map, HD.out.len]; exact Nat.le_refl _)] at this
        exact this
      go_wp2
      go_ret
      exact ⟨by rw [HF.out]; rfl, HB.out⟩
theorem encs_snoc (l : List De) (d : De) : dencs (l ++ [d]) = dencs l ++ enc d := by simp [dencs]
theorem encs_le {l : List De} (h : ∀ d ∈ l, Right d) : (dencs l).length ≤ 1600 * l.length := by
  induction l with
  | nil => simp [dencs]
  | cons d l ih =>
    have h1 := ih (fun x hx => h x (by simp [hx]))
    have h2 := (h d (by simp)).tlen_le
    have h3 := body_length d
    have h4 := enc_length d
    have e : dencs (d :: l) = enc d ++ dencs l := rfl
    rw [e, List.length_append, List.length_cons]
    omega
set_option maxHeartbeats 4000000 in
theorem Encode_any (A : Option Addr) (n cap : Nat) (xs : List Dx) (w : World) (hd : DL w A n xs) (hn : n ≤ 100000) (hnc : n ≤ cap) (hcm : cap ≤ 9223372036854775807) (hnm : ∀ x ∈ xs, x.d.name.length ≤ 100000) :
    Calls Tryz.prog 27 #[.slice A n cap] w fun e w' => ∃ A2 n2 c2 l, ∃ er : Nat, e = .returned (.tuple #[.slice A2 n2 c2, .int .i64 (er : Int)]) ∧ encode (des xs) = (l, er) ∧ Row w' w.heap.size 5 A2 n2 c2 (cn .u8 l) ∧ Below w.heap.size w w' := by
  obtain ⟨d0, hu0, hd0⟩ := uD
  have HD := Lib.hid hd
  have HN := Lib.hid hnm
  have hdl : (des xs).length = n := by rw [des, List.length_map, hd.len]
  have HDL := Lib.hid hdl
  obtain ⟨i0, hi0, hz0, hz1, hz2⟩ := info_parts byteInfo
  have HI0 := Lib.hid (And.intro hi0 (And.intro hz0 (And.intro hz1 hz2)))
  have HAR := Lib.hid (allRight_any A n cap xs w hd hn hnm)
  clear hd hnm hdl hi0 hz0 hz1 hz2
  by_cases h32 : n ≤ 32
  · have z1 : ¬ (32 : Int) < (n : Int) := by omega
    by_cases hall : ∀ d ∈ des xs, Right d
    · have E : Hid (allR xs = true) := decide_eq_true hall
      have HALL := Lib.hid hall
      obtain ⟨t, ht⟩ : ∃ t, tw [] (des xs) = t := ⟨_, rfl⟩
      have HT := Lib.hid ht
      clear hall ht
      go_enter Tryz.func27, Tryz.ntmps27
      go_wp2_with fail
      refine HAR.out.mono ?_
      rintro e w1 ⟨rfl, hb1⟩
      have HB1 := Lib.hid hb1
      have HTW := Lib.hid (anyTwice_any A n cap xs w1 (HD.out.below hb1) hn hnc hcm)
      rw [E.out]
      clear hb1
      go_wp2_with fail
      refine HTW.out.mono ?_
      rintro e w2 ⟨rfl, hb2⟩
      have HB2 := Lib.hid (HB1.out.trans (hb2.mono HB1.out.size))
      rw [HT.out]
      clear hb2
      cases t
      · have HEN : Hid (encode (des xs) = (dencs (des xs), 0)) := by
          show encode (des xs) = _
          unfold encode
          rw [if_neg (by rw [HDL.out]; omega), if_pos HALL.out, HT.out]
          rfl
        go_wp2
        go_loopw [4, 17] (fun a o wr => ∃ i : Nat, i ≤ n ∧ o = .int .i64 (i : Int) ∧ ∃ A2 k c2, a = .slice A2 k c2 ∧ Hid (Below w.heap.size w wr ∧ Row wr w.heap.size 5 A2 k c2 (cn .u8 (dencs ((des xs).take i))))) (fun _ o _ => n - (intOf o).toNat)
        case atStart => exact ⟨0, Nat.zero_le _, rfl, none, 0, 0, rfl, HB2.out, Row.nil _ _ _⟩
        case round =>
          obtain ⟨i, hi, rfl, A2, k, c2, rfl, HR⟩ := hrel
          by_cases hin : i < n
          · have hin2 : (i : Int) < (n : Int) := by omega
            obtain ⟨ad, y, hA, had, hy, hym, hAt, hok⟩ := (HD.out.below HR.out.1).get hin
            subst hA
            have HAT := Lib.hid hAt
            have HY := Lib.hid hy
            have hry : Right y.d := HALL.out _ (List.mem_of_getElem? (des_get hy))
            have hkl : k ≤ 60000 := by
              have h1 := HR.out.2.length
              rw [cn_length] at h1
              have h2 := encs_le (l := (des xs).take i) (fun d hd => HALL.out d (List.mem_of_mem_take hd))
              have h3 : ((des xs).take i).length ≤ 32 := by rw [List.length_take]; omega
              omega
            have hel : (enc y.d).length ≤ 2000 := by have h1 := enc_length y.d; have h2 := body_length y.d; have h3 := hry.tlen_le; omega
            have hb1 : Below wr.heap.size wr (wr.alloc (.cells y.cells.toArray 71)) := (Below.refl _ _).alloc (Nat.le_refl _) _
            have HBB : Hid (Below w.heap.size w (wr.alloc (.cells y.cells.toArray 71)) ∧ Row (wr.alloc (.cells y.cells.toArray 71)) w.heap.size 5 A2 k c2 (cn .u8 (dencs ((des xs).take i)))) := ⟨HR.out.1.trans (hb1.mono HR.out.1.size), HR.out.2.below hb1⟩
            have HL := Lib.hid (bytes_any y (wr.alloc (.cells y.cells.toArray 71)) (hok.below hb1) hry)
            have HBK : Hid (At (wr.alloc (.cells y.cells.toArray 71)) ⟨wr.heap.size, 0, none⟩ y.cells) := (Blk.new wr 71 y.cells).at
            have HEL := Lib.hid hel
            clear hAt hy hok had hb1 hry hel
            go_wp2_with (first
              | ((with_reducible refine at_dst (some 20) ?_); refine wpList_loadAt (op := ⟨some 20, _, _, _, _, _⟩) rfl 71 (.tmp 19) rfl (ad.add (i * 11)) rfl y.cells d0 HAT.out hu0 hd0 iD ?_)
              | ((with_reducible refine at_dst none ?_); refine wpList_storeNew (w := wr) (op := ⟨none, _, _, _, _, _⟩) rfl 71 (.tmp 6) (.tmp 20) rfl zeroD y.cells rfl rfl rfl iD y.one ?_)
              | ((with_reducible refine at_dst (some 22) ?_); refine wpList_loadAt (op := ⟨some 22, _, _, _, _, _⟩) rfl 71 (.tmp 6) rfl ⟨wr.heap.size, 0, none⟩ rfl y.cells d0 HBK.out hu0 hd0 iD ?_))
            refine HL.out.mono ?_
            rintro e w3 ⟨A3, n3, c3, rfl, hr3, hb3⟩
            have hn3 : n3 ≤ 2000 := by have h1 := hr3.length; rw [cn_length] at h1; have := HEL.out; omega
            have hsz : w.heap.size ≤ w3.heap.size := Nat.le_trans HBB.out.1.size hb3.size
            have HAPP : Hid (∀ {ops : Array Oper} {rest : List Oper} {o : Oper} {a : Act} {Q : Exit → Act → World → Prop} (hgd : o.guard = none) (s y' : Operand) (ho : o.op = .call { callee := .builtin .append, args := #[s, y'], argTypes := #[25, 25] }) (hs : a.eval s = .slice A2 k c2) (hy : a.eval y' = .slice A3 n3 c3)
                (hk : ∀ A' c' w', Hid (Row w' w.heap.size 5 A' (k + n3) c' (cn .u8 (dencs ((des xs).take i)) ++ cn .u8 (enc y.d))) → Below w.heap.size w w' → w.heap.size ≤ w'.heap.size → wpList Tryz.prog ops Q rest (a.put o.dst (.slice A' (k + n3) c')) w'), wpList Tryz.prog ops Q (o :: rest) a w3) :=
              fun hgd s y' ho hs hy hk => wpList_app hgd s y' 25 5 ho Tryz.underlying25 HI0.out.1 HI0.out.2.1 HI0.out.2.2.1 HI0.out.2.2.2 rfl (by omega) (HBB.out.1.trans (hb3.mono HBB.out.1.size)) hsz hs (HBB.out.2.below hb3) hy hr3.length (hr3.rd.srcs c3 (fun e => by
                rcases hr3.2 with ⟨e2, _⟩ | ⟨g, cap', cur, e2, _⟩
                · injection e2
                · rw [e] at e2; injection e2 with e3; cases e3)) (cn_one _ _) (fun e => by
                rcases hr3.2 with ⟨e2, _⟩ | ⟨g, cap', cur, e2, _⟩
                · injection e2
                · rw [e] at e2; injection e2 with e3; cases e3) (by omega) (k + n3) rfl hk
            have HTK : Hid (dencs ((des xs).take (i + 1)) = dencs ((des xs).take i) ++ enc y.d) := by
              show _ = _
              rw [take_snoc' (des_get HY.out), encs_snoc]
            clear hr3 hb3 hsz
            go_wp2_with ((with_reducible refine at_dst (some 24) ?_); refine HAPP.out (o := ⟨some 24, _, _, _, _, _⟩) rfl (.tmp 21) (.tmp 23) rfl rfl rfl ?_; intro A5 c5 w5 hrow5 hbe5 hB5)
            go_roundw
            case rel =>
              refine ⟨i + 1, by omega, by go_num, _, _, _, rfl, hbe5, ?_⟩
              rw [HTK.out, cn_append]
              exact hrow5.out
            case measure => simp [intOf]; omega
          · obtain rfl : i = n := by omega
            have hall2 : (des xs).take i = des xs := List.take_of_length_le (by rw [HDL.out]; exact Nat.le_refl _)
            rw [hall2] at HR
            clear hall2
            go_wp2
            go_ret2
            exact ⟨A2, k, c2, dencs (des xs), 0, rfl, HEN.out, HR.out.2, HR.out.1⟩
      · have HEN : Hid (encode (des xs) = ([], 35)) := by
          show encode (des xs) = _
          unfold encode
          rw [if_neg (by rw [HDL.out]; omega), if_pos HALL.out, HT.out]
          rfl
        go_wp2
        go_ret2
        exact ⟨none, 0, 0, [], 35, rfl, HEN.out, Row.nil _ _ _, HB2.out⟩
    · have E : Hid (allR xs = false) := decide_eq_false hall
      have HEN : Hid (encode (des xs) = ([], 12)) := by
        show encode (des xs) = _
        unfold encode
        rw [if_neg (by rw [HDL.out]; omega), if_neg hall]
      clear hall
      go_enter Tryz.func27, Tryz.ntmps27
      go_wp2_with fail
      refine HAR.out.mono ?_
      rintro e w1 ⟨rfl, hb1⟩
      have HB1 := Lib.hid hb1
      rw [E.out]
      clear hb1
      go_wp2
      go_ret2
      exact ⟨none, 0, 0, [], 12, rfl, HEN.out, Row.nil _ _ _, HB1.out⟩
  · have z1 : (32 : Int) < (n : Int) := by omega
    have HEN : Hid (encode (des xs) = ([], 11)) := by
      show encode (des xs) = _
      unfold encode
      rw [if_pos (by rw [HDL.out]; omega)]
    go_enter Tryz.func27, Tryz.ntmps27
    go_wp2
    go_ret2
    exact ⟨none, 0, 0, [], 11, rfl, HEN.out, Row.nil _ _ _, Below.refl _ _⟩
end Go.Proofs.YtlcoebenkhafcaaGreatDoor
namespace Go.Proofs.YtlcoebenkhafcaaGreatDoor
set_option linter.unusedVariables false
set_option linter.unusedSimpArgs false
structure Bl where
  alg : Int
  idx : Int
  flags : Int
  loc : Int
  ds : List De
  key : List Nat
  hash : List Nat
  sig : List Nat
def Bl.zero : Bl := ⟨0, 0, 0, 0, [], [], [], []⟩
structure Bl.Fits (b : Bl) : Prop where
  ds : ∀ d ∈ b.ds, Go.Proofs.YtlcoebenkhafcaaGreatDoor.Fits d
  key : Fit 256 b.key
  hash : Fit 256 b.hash
  sig : Fit 256 b.sig
def Headed (b : Bl) : Prop := (0 ≤ b.alg ∧ b.alg ≤ 2) ∧ (0 ≤ b.idx ∧ b.idx ≤ 281474976710656) ∧ (0 ≤ b.flags ∧ b.flags ≤ 3) ∧ (0 ≤ b.loc ∧ b.loc ≤ 31)
instance (b : Bl) : Decidable (Headed b) := by unfold Headed; exact inferInstance
def Listed (l : List De) : Prop := l.length ≤ 32 ∧ (∀ d ∈ l, Right d) ∧ tw [] l = false
instance (l : List De) : Decidable (Listed l) := by unfold Listed; exact inferInstance
theorem Listed.encode {l : List De} (h : Listed l) : encode l = (dencs l, 0) := by
  obtain ⟨h1, h2, h3⟩ := h
  unfold Go.Proofs.YtlcoebenkhafcaaGreatDoor.encode
  rw [if_neg (by omega), if_pos h2, h3]
  rfl
theorem listed_of {l : List De} (h : (encode l).2 = 0) : Listed l := by
  unfold encode at h
  split at h
  · cases h
  · split at h
    · rename_i h1 h2
      split at h
      · cases h
      · rename_i h3
        exact ⟨by omega, h2, by cases ht : tw [] l <;> simp_all⟩
    · cases h
theorem listed_iff (l : List De) : Listed l ↔ (encode l).2 = 0 := ⟨fun h => by rw [h.encode], listed_of⟩
def Lens (b : Bl) : Prop := (b.alg = 0 ∧ b.key.length = 0 ∧ b.hash.length = 0 ∧ b.sig.length = 0) ∨ (b.alg ≠ 0 ∧ (b.hash.length : Int) = szOf b.alg ∧ (1 ≤ b.key.length ∧ b.key.length ≤ 1032) ∧ (1 ≤ b.sig.length ∧ b.sig.length ≤ 512))
instance (b : Bl) : Decidable (Lens b) := by unfold Lens; exact inferInstance
def BRight (b : Bl) : Prop := Headed b ∧ Listed b.ds ∧ Lens b
instance (b : Bl) : Decidable (BRight b) := by unfold BRight; exact inferInstance
def up64 (n : Nat) : Nat := (n + 63) / 64 * 64
def pad (l : List Nat) : List Nat := l ++ List.replicate (gapn l.length 64) 0
theorem pad_length (l : List Nat) : (pad l).length = up64 l.length := by
  simp only [pad, List.length_append, List.length_replicate, gapn, up64]
  omega
theorem pad_fit {l : List Nat} (h : Fit 256 l) : Fit 256 (pad l) := h.append (Fit.noughts _)
structure Ol where
  ver : Nat
  auth : Nat
  aux : Nat
  alg : Nat
  hash : Nat
  sig : Nat
  key : Nat
  list : Nat
  idx : Nat
  flags : Nat
  loc : Nat
def magicL : List Nat := [65, 86, 66, 48]
def osegs (o : Ol) : List (List Nat) := [magicL, be 4 o.ver, be 8 o.auth, be 8 o.aux, be 4 o.alg, be 8 o.hash, be 8 o.sig, be 8 o.key, be 8 o.list, be 8 o.idx, be 4 o.flags, be 4 o.loc, List.replicate 52 0]
def obytes (o : Ol) : List Nat := (osegs o).flatten
theorem obytes_length (o : Ol) : (obytes o).length = 128 := by simp [obytes, osegs, be_length, magicL]
theorem obytes_fit (o : Ol) : Fit 256 (obytes o) := by
  intro d hd
  obtain ⟨s, hs, hd⟩ := List.mem_flatten.1 hd
  simp only [osegs, List.mem_cons, List.not_mem_nil, or_false] at hs
  have hm : Fit 256 magicL := by unfold Fit magicL; decide
  rcases hs with rfl | rfl | rfl | rfl | rfl | rfl | rfl | rfl | rfl | rfl | rfl | rfl | rfl
  · exact hm d hd
  all_goals first
    | exact be_fit _ _ d hd
    | exact Fit.noughts _ d hd
def gn (raw : List Nat) (at_ n : Nat) : Nat := num (sl raw at_ n)
def rdo (raw : List Nat) : Ol := ⟨gn raw 4 4, gn raw 8 8, gn raw 16 8, gn raw 24 4, gn raw 28 8, gn raw 36 8, gn raw 44 8, gn raw 52 8, gn raw 60 8, gn raw 68 4, gn raw 72 4⟩
structure Ol.Room (o : Ol) : Prop where
  ver : o.ver < 4294967296
  auth : o.auth < 18446744073709551616
  aux : o.aux < 18446744073709551616
  alg : o.alg < 4294967296
  hash : o.hash < 18446744073709551616
  sig : o.sig < 18446744073709551616
  key : o.key < 18446744073709551616
  list : o.list < 18446744073709551616
  idx : o.idx < 18446744073709551616
  flags : o.flags < 4294967296
  loc : o.loc < 4294967296
theorem oseg (o : Ol) (r : List Nat) (i at_ n : Nat) (s : List Nat) (h : (osegs o)[i]? = some s) (hn : s.length = n) (ho : ((osegs o).take i).flatten.length = at_) : sl (obytes o ++ r) at_ n = s := by
  subst hn ho
  have hi : i < (osegs o).length := by
    rcases Nat.lt_or_ge i (osegs o).length with h1 | h1
    · exact h1
    · rw [List.getElem?_eq_none h1] at h; cases h
  have e : obytes o ++ r = (osegs o ++ [r]).flatten := by simp [obytes]
  have t : (osegs o ++ [r]).take i = (osegs o).take i := by rw [List.take_append_of_le_length (by omega)]
  rw [e, ← t]
  exact sl_flat _ i s (by rw [List.getElem?_append_left hi]; exact h)
set_option maxHeartbeats 1000000 in
theorem ord_obytes {o : Ol} (h : o.Room) (r : List Nat) : rdo (obytes o ++ r) = o := by
  obtain ⟨h1, h2, h3, h4, h5, h6, h7, h8, h9, h10, h11⟩ := h
  have f1 : gn (obytes o ++ r) 4 4 = o.ver := by rw [gn, oseg o r 1 4 4 _ rfl (be_length _ _) (by simp [osegs, be_length, magicL])]; exact num_be 4 _ (by omega)
  have f2 : gn (obytes o ++ r) 8 8 = o.auth := by rw [gn, oseg o r 2 8 8 _ rfl (be_length _ _) (by simp [osegs, be_length, magicL])]; exact num_be 8 _ (by omega)
  have f3 : gn (obytes o ++ r) 16 8 = o.aux := by rw [gn, oseg o r 3 16 8 _ rfl (be_length _ _) (by simp [osegs, be_length, magicL])]; exact num_be 8 _ (by omega)
  have f4 : gn (obytes o ++ r) 24 4 = o.alg := by rw [gn, oseg o r 4 24 4 _ rfl (be_length _ _) (by simp [osegs, be_length, magicL])]; exact num_be 4 _ (by omega)
  have f5 : gn (obytes o ++ r) 28 8 = o.hash := by rw [gn, oseg o r 5 28 8 _ rfl (be_length _ _) (by simp [osegs, be_length, magicL])]; exact num_be 8 _ (by omega)
  have f6 : gn (obytes o ++ r) 36 8 = o.sig := by rw [gn, oseg o r 6 36 8 _ rfl (be_length _ _) (by simp [osegs, be_length, magicL])]; exact num_be 8 _ (by omega)
  have f7 : gn (obytes o ++ r) 44 8 = o.key := by rw [gn, oseg o r 7 44 8 _ rfl (be_length _ _) (by simp [osegs, be_length, magicL])]; exact num_be 8 _ (by omega)
  have f8 : gn (obytes o ++ r) 52 8 = o.list := by rw [gn, oseg o r 8 52 8 _ rfl (be_length _ _) (by simp [osegs, be_length, magicL])]; exact num_be 8 _ (by omega)
  have f9 : gn (obytes o ++ r) 60 8 = o.idx := by rw [gn, oseg o r 9 60 8 _ rfl (be_length _ _) (by simp [osegs, be_length, magicL])]; exact num_be 8 _ (by omega)
  have f10 : gn (obytes o ++ r) 68 4 = o.flags := by rw [gn, oseg o r 10 68 4 _ rfl (be_length _ _) (by simp [osegs, be_length, magicL])]; exact num_be 4 _ (by omega)
  have f11 : gn (obytes o ++ r) 72 4 = o.loc := by rw [gn, oseg o r 11 72 4 _ rfl (be_length _ _) (by simp [osegs, be_length, magicL])]; exact num_be 4 _ (by omega)
  unfold rdo
  rw [f1, f2, f3, f4, f5, f6, f7, f8, f9, f10, f11]
def bauth (b : Bl) : List Nat := pad (b.hash ++ b.sig)
def baux (b : Bl) : List Nat := pad (dencs b.ds ++ b.key)
def outl (b : Bl) : Ol := ⟨1, up64 (b.hash.length + b.sig.length), up64 ((dencs b.ds).length + b.key.length), b.alg.toNat, b.hash.length, b.sig.length, b.key.length, (dencs b.ds).length, b.idx.toNat, b.flags.toNat, b.loc.toNat⟩
def bhead (b : Bl) : List Nat := obytes (outl b)
def bbytes (b : Bl) : List Nat := bhead b ++ (bauth b ++ baux b)
def btext (b : Bl) : List Nat := bhead b ++ baux b
theorem bauth_length (b : Bl) : (bauth b).length = up64 (b.hash.length + b.sig.length) := by rw [bauth, pad_length, List.length_append]
theorem baux_length (b : Bl) : (baux b).length = up64 ((dencs b.ds).length + b.key.length) := by rw [baux, pad_length, List.length_append]
theorem bbytes_length (b : Bl) : (bbytes b).length = 128 + up64 (b.hash.length + b.sig.length) + up64 ((dencs b.ds).length + b.key.length) := by
  rw [bbytes, List.length_append, List.length_append, bauth_length, baux_length, bhead, obytes_length]; omega
theorem btext_length (b : Bl) : (btext b).length = 128 + up64 ((dencs b.ds).length + b.key.length) := by
  rw [btext, List.length_append, baux_length, bhead, obytes_length]
theorem bbytes_fit {b : Bl} (h : b.Fits) : Fit 256 (bbytes b) :=
  (obytes_fit _).append ((pad_fit (h.hash.append h.sig)).append (pad_fit ((encs_fit h.ds).append h.key)))
theorem btext_fit {b : Bl} (h : b.Fits) : Fit 256 (btext b) := (obytes_fit _).append (pad_fit ((encs_fit h.ds).append h.key))
theorem encs_lim : ∀ (l : List De), (∀ d ∈ l, Right d) → (dencs l).length ≤ 1512 * l.length
  | [], _ => by simp [dencs]
  | d :: l, h => by
    have h1 := encs_lim l (fun x hx => h x (by simp [hx]))
    have h2 := (h d (by simp)).tlen_le
    have h3 := enc_length d
    have h4 := body_length d
    have e : dencs (d :: l) = enc d ++ dencs l := by simp [dencs]
    rw [e, List.length_append, List.length_cons]
    omega
theorem Listed.le {l : List De} (h : Listed l) : (dencs l).length ≤ 48384 := by
  have := encs_lim l h.2.1
  have := h.1
  omega
theorem Lens.le {b : Bl} (h : Lens b) : b.hash.length ≤ 64 ∧ b.sig.length ≤ 512 ∧ b.key.length ≤ 1032 := by
  have := szOf_cases b.alg
  unfold Lens at h
  omega
theorem BRight.outl_room {b : Bl} (h : BRight b) : (outl b).Room := by
  have h1 := h.2.1.le
  have h2 := h.2.2.le
  have h3 := h.1
  unfold Headed at h3
  constructor <;> simp only [outl, up64] <;> omega
theorem BRight.len_le {b : Bl} (h : BRight b) : (bbytes b).length ≤ 50176 := by
  have h1 := h.2.1.le
  have h2 := h.2.2.le
  rw [bbytes_length]
  unfold up64
  omega
def blOf (raw : List Nat) (o : Ol) (ds : List De) : Bl where
  alg := o.alg
  idx := o.idx
  flags := o.flags
  loc := o.loc
  ds := ds
  key := sl raw (128 + o.auth + o.list) o.key
  hash := sl raw 128 o.hash
  sig := sl raw (128 + o.hash) o.sig
def faultOf (o : Ol) (n : Nat) : Nat :=
  if o.ver ≠ 1 then 31
  else if 65536 < o.auth ∨ 65536 < o.aux ∨ 65536 < n then 11
  else if n < 128 + o.auth + o.aux then 10
  else if 128 + o.auth + o.aux < n then 12
  else if 2 < o.alg then 20
  else if o.auth ≠ up64 (o.hash + o.sig) ∨ o.aux ≠ up64 (o.list + o.key) then 12
  else 0
def bparse (raw : List Nat) : Bl × Nat :=
  if raw.length < 128 then (Bl.zero, 10)
  else if raw.take 4 ≠ magicL then (Bl.zero, 30)
  else if faultOf (rdo raw) raw.length ≠ 0 then (Bl.zero, faultOf (rdo raw) raw.length)
  else if (parse (sl raw (128 + (rdo raw).auth) (rdo raw).list)).2 ≠ 0 then (Bl.zero, (parse (sl raw (128 + (rdo raw).auth) (rdo raw).list)).2)
  else if BRight (blOf raw (rdo raw) (parse (sl raw (128 + (rdo raw).auth) (rdo raw).list)).1) ∧ bbytes (blOf raw (rdo raw) (parse (sl raw (128 + (rdo raw).auth) (rdo raw).list)).1) = raw
    then (blOf raw (rdo raw) (parse (sl raw (128 + (rdo raw).auth) (rdo raw).list)).1, 0)
    else (Bl.zero, 12)
theorem bparse_ok {raw : List Nat} {b : Bl} (h : bparse raw = (b, 0)) : BRight b ∧ bbytes b = raw := by
  unfold bparse at h
  split at h
  · simp at h
  split at h
  · simp at h
  split at h
  · rename_i h1; injection h with h2 h3; exact absurd h3 h1
  split at h
  · rename_i h1; injection h with h2 h3; exact absurd h3 h1
  split at h
  · rename_i h1; injection h with h2 h3; subst h2; exact h1
  · simp at h
theorem sl_at {p q r : List Nat} {o n : Nat} (ho : p.length = o) (hn : q.length = n) : sl (p ++ (q ++ r)) o n = q := sl_append ho hn
theorem ord_bbytes {b : Bl} (h : BRight b) : rdo (bbytes b) = outl b := ord_obytes h.outl_room _
theorem BRight.parts {b : Bl} (h : BRight b) : sl (bbytes b) 128 b.hash.length = b.hash ∧ sl (bbytes b) (128 + b.hash.length) b.sig.length = b.sig
    ∧ sl (bbytes b) (128 + (outl b).auth) (dencs b.ds).length = dencs b.ds ∧ sl (bbytes b) (128 + (outl b).auth + (dencs b.ds).length) b.key.length = b.key := by
  have hl : (bhead b).length = 128 := obytes_length _
  refine ⟨?_, ?_, ?_, ?_⟩
  · have e : bbytes b = bhead b ++ (b.hash ++ (b.sig ++ (List.replicate (gapn (b.hash ++ b.sig).length 64) 0 ++ baux b))) := by simp [bbytes, bauth, pad]
    rw [e]; exact sl_at hl rfl
  · have e : bbytes b = (bhead b ++ b.hash) ++ (b.sig ++ (List.replicate (gapn (b.hash ++ b.sig).length 64) 0 ++ baux b)) := by simp [bbytes, bauth, pad]
    rw [e]; exact sl_at (by rw [List.length_append, hl]) rfl
  · have e : bbytes b = (bhead b ++ bauth b) ++ (dencs b.ds ++ (b.key ++ List.replicate (gapn (dencs b.ds ++ b.key).length 64) 0)) := by simp [bbytes, baux, pad]
    rw [e]; exact sl_at (by rw [List.length_append, hl, bauth_length]; rfl) rfl
  · have e : bbytes b = ((bhead b ++ bauth b) ++ dencs b.ds) ++ (b.key ++ List.replicate (gapn (dencs b.ds ++ b.key).length 64) 0) := by simp [bbytes, baux, pad]
    rw [e]; exact sl_at (by rw [List.length_append, List.length_append, hl, bauth_length]; rfl) rfl
theorem faultOf_zero {o : Ol} {n : Nat} (h1 : o.ver = 1) (h2 : ¬ (65536 < o.auth ∨ 65536 < o.aux ∨ 65536 < n)) (h3 : 128 + o.auth + o.aux = n) (h5 : o.alg ≤ 2) (h6 : o.auth = up64 (o.hash + o.sig)) (h7 : o.aux = up64 (o.list + o.key)) : faultOf o n = 0 := by
  unfold faultOf
  rw [if_neg (fun h => h h1), if_neg h2, if_neg (by omega), if_neg (by omega), if_neg (by omega), if_neg (fun h => h.elim (fun h => h h6) (fun h => h h7))]
theorem faultOf_bbytes {b : Bl} (h : BRight b) : faultOf (outl b) (bbytes b).length = 0 := by
  have h1 := h.2.1.le
  have h2 := h.2.2.le
  have h3 := h.1
  have hl := bbytes_length b
  have u1 : up64 (b.hash.length + b.sig.length) ≤ 639 := by unfold up64; omega
  have u2 : up64 ((dencs b.ds).length + b.key.length) ≤ 49479 := by unfold up64; omega
  unfold Headed at h3
  refine faultOf_zero rfl ?_ (by rw [hl]; rfl) ?_ rfl rfl
  · rw [hl]
    show ¬ (65536 < up64 (b.hash.length + b.sig.length) ∨ 65536 < up64 ((dencs b.ds).length + b.key.length) ∨ _)
    omega
  · show b.alg.toNat ≤ 2
    omega
theorem bbytes_magic (b : Bl) : (bbytes b).take 4 = magicL := by
  have e : bbytes b = magicL ++ ((osegs (outl b)).tail.flatten ++ (bauth b ++ baux b)) := by
    simp [bbytes, bhead, obytes, osegs]
  rw [e]
  rfl
theorem blOf_bbytes {b : Bl} (h : BRight b) : blOf (bbytes b) (outl b) b.ds = b := by
  obtain ⟨p1, p2, p3, p4⟩ := h.parts
  have h3 := h.1
  unfold Headed at h3
  obtain ⟨alg, idx, flags, loc, ds, key, hash, sig⟩ := b
  unfold blOf
  have e1 : ((outl ⟨alg, idx, flags, loc, ds, key, hash, sig⟩).alg : Int) = alg := by simp only [outl]; simp only at h3; omega
  have e2 : ((outl ⟨alg, idx, flags, loc, ds, key, hash, sig⟩).idx : Int) = idx := by simp only [outl]; simp only at h3; omega
  have e3 : ((outl ⟨alg, idx, flags, loc, ds, key, hash, sig⟩).flags : Int) = flags := by simp only [outl]; simp only at h3; omega
  have e4 : ((outl ⟨alg, idx, flags, loc, ds, key, hash, sig⟩).loc : Int) = loc := by simp only [outl]; simp only at h3; omega
  rw [e1, e2, e3, e4]
  simp only at p1 p2 p3 p4
  congr 1
theorem bparse_bbytes {b : Bl} (h : BRight b) : bparse (bbytes b) = (b, 0) := by
  have hl := bbytes_length b
  have hp : parse (sl (bbytes b) (128 + (outl b).auth) (outl b).list) = (b.ds, 0) := by
    have := h.parts.2.2.1
    show parse (sl (bbytes b) (128 + (outl b).auth) (dencs b.ds).length) = _
    rw [this]
    exact parse_encs h.2.1.2.1 h.2.1.2.2 h.2.1.1
  unfold bparse
  rw [if_neg (by omega), if_neg (by rw [bbytes_magic]; simp), ord_bbytes h, faultOf_bbytes h, hp, if_neg (by simp), if_neg (by simp)]
  simp only []
  rw [blOf_bbytes h, if_pos ⟨h, rfl⟩]
end Go.Proofs.YtlcoebenkhafcaaGreatDoor
