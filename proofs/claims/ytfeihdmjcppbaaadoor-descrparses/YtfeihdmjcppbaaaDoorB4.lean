/-
  What anyTwice and Encode answer. No condition but that the texts are bytes that fit.
-/
import Derived.Test.YtfeihdmjcppbaaaDoorB3
namespace Go.Proofs.YtfeihdmjcppbaaaDoor
open Go.RowKit
set_option linter.unusedVariables false
set_option linter.unusedSimpArgs false
set_option maxRecDepth 100000

theorem tw_snoc (l : List De) (d : De) : tw [] (l ++ [d]) = (tw [] l || dup l d) := by
  rw [tw_split]
  simp [tw]
theorem tw_take {l : List De} {i : Nat} (h : tw [] (l.take i) = true) : tw [] l = true := by
  have : l = l.take i ++ l.drop i := (List.take_append_drop i l).symm
  rw [this, tw_split, h, Bool.true_or]
theorem take_snoc' {α : Type} {l : List α} {i : Nat} {d : α} (h : l[i]? = some d) : l.take (i + 1) = l.take i ++ [d] := by
  obtain ⟨hi, rfl⟩ := List.getElem?_eq_some_iff.1 h
  rw [List.take_succ_eq_append_getElem hi]
theorem des_take (xs : List Dx) (i : Nat) : des (xs.take i) = (des xs).take i := by simp [des, List.map_take]
set_option maxHeartbeats 2000000 in
theorem anyTwice_any (A : Option Addr) (n cap : Nat) (xs : List Dx) (w : World) (hd : DL w A n xs) (hn : n ≤ 100000) (hnc : n ≤ cap) (hcm : cap ≤ 9223372036854775807) : Calls Tryd.prog 28 #[.slice A n cap] w fun e w' => e = .returned (.bool (tw [] (des xs))) ∧ Below w.heap.size w w' := by
  obtain ⟨d0, hu0, hd0⟩ := uD
  have HD := Lib.hid hd
  clear hd
  go_enter Tryd.func28, Tryd.ntmps28
  go_wp2
  go_loopw [7] (fun o wr => ∃ i : Nat, i ≤ n ∧ o = .int .i64 (i : Int) ∧ Hid (tw [] ((des xs).take i) = false) ∧ Hid (Below w.heap.size w wr)) (fun o _ => n - (intOf o).toNat)
  case atStart => exact ⟨0, Nat.zero_le _, rfl, rfl, Below.refl _ _⟩
  case round =>
    obtain ⟨i, hi, rfl, HT, HB⟩ := hrel
    by_cases hin : i < n
    · have hin2 : (i : Int) < (n : Int) := by omega
      have hic : (i : Int) ≤ (cap : Int) := by omega
      obtain ⟨ad, y, hA, had, hy, hym, hAt, hok⟩ := (HD.out.below HB.out).get hin
      have hDL := HD.out.take i (by omega)
      subst hA
      have HAT := Lib.hid hAt
      have HY := Lib.hid hy
      have hb1 : Below wr.heap.size wr (wr.alloc (.cells y.cells.toArray 27)) := (Below.refl _ _).alloc (Nat.le_refl _) _
      have HBK0 : Blk (wr.alloc (.cells y.cells.toArray 27)) wr.heap.size 27 y.cells := Blk.new wr 27 y.cells
      obtain ⟨wz, hwz⟩ : ∃ wz, wr.alloc (.cells y.cells.toArray 27) = wz := ⟨_, rfl⟩
      rw [hwz] at hb1 HBK0
      have hbz : Below w.heap.size w wz := HB.out.trans (hb1.mono HB.out.size)
      have HBZ : Hid (Below w.heap.size w wz) := hbz
      have c0 : wz.cell? ⟨wr.heap.size, 0, none⟩ = some (.int .i64 y.d.kind) := HBK0.cell 0
      have c1 : wz.cell? ⟨wr.heap.size, 1, none⟩ = some (.int .i64 y.d.alg) := HBK0.cell 1
      have c2 : wz.cell? ⟨wr.heap.size, 2, none⟩ = some (.int .i64 y.d.size) := HBK0.cell 2
      have c3 : wz.cell? ⟨wr.heap.size, 3, none⟩ = some (.int .i64 y.d.block) := HBK0.cell 3
      have c4 : wz.cell? ⟨wr.heap.size, 4, none⟩ = some (.int .i64 y.d.off) := HBK0.cell 4
      have c5 : wz.cell? ⟨wr.heap.size, 5, none⟩ = some (.int .i64 y.d.loc) := HBK0.cell 5
      have c6 : wz.cell? ⟨wr.heap.size, 6, none⟩ = some (.string (str y.d.name)) := HBK0.cell 6
      have c7 : wz.cell? ⟨wr.heap.size, 7, none⟩ = some (.slice y.s1.A y.s1.n y.s1.cap) := HBK0.cell 7
      have c8 : wz.cell? ⟨wr.heap.size, 8, none⟩ = some (.slice y.s2.A y.s2.n y.s2.cap) := HBK0.cell 8
      have c9 : wz.cell? ⟨wr.heap.size, 9, none⟩ = some (.slice y.s3.A y.s3.n y.s3.cap) := HBK0.cell 9
      have c10 : wz.cell? ⟨wr.heap.size, 10, none⟩ = some (.slice y.s4.A y.s4.n y.s4.cap) := HBK0.cell 10
      have HL := Lib.hid (ContainsF_any y (some ad) i cap (xs.take i) wz.drew hok.name (hDL.below (below_drew1 hbz)) (by omega))
      clear hAt hy hok had hb1 hDL HBK0 hbz
      go_wp2_with (first
        | ((with_reducible refine at_dst (some 11) ?_); refine wpList_loadAt (op := ⟨some 11, _, _, _, _, _⟩) rfl 27 (.tmp 10) rfl (ad.add (i * 11)) rfl y.cells d0 HAT.out hu0 hd0 iD ?_)
        | ((with_reducible refine at_dst none ?_); refine wpList_storeNew (w := wr) (op := ⟨none, _, _, _, _, _⟩) rfl 27 (.tmp 4) (.tmp 11) rfl zeroD y.cells rfl rfl rfl iD y.one ?_))
      rw [hwz]
      go_region_law (first | (go_simp; go_at_call 34; refine HL.out.mono ?_; rintro e w2 ⟨rfl, hb2⟩))
      all_goals
        clear c0 c1 c2 c3 c4 c5 c6 c7 c8 c9 c10
        have HBZd : Below w.heap.size w wz.drew := below_drew1 HBZ.out
        have HB2 := Lib.hid (HBZd.trans (hb2.mono HBZd.size))
        have hsn := tw_snoc ((des xs).take i) y.d
        rw [← take_snoc' (des_get HY.out), HT.out, Bool.false_or] at hsn
        have HSN := Lib.hid hsn
        clear HBZd hb2 hsn
        obtain ⟨bb, hbb⟩ : ∃ bb, dup (des (xs.take i)) y.d = bb := ⟨_, rfl⟩
        rw [hbb]
        rw [des_take] at hbb
        rw [hbb] at HSN
        clear hbb
        cases bb
        · go_wp2
          go_roundw
          case rel => exact ⟨i + 1, by omega, by go_num, HSN, HB2⟩
          case measure => simp [intOf]; omega
        · have HTW : Hid (tw [] (des xs) = true) := tw_take HSN.out
          go_wp2
          go_ret
          exact ⟨by rw [HTW.out]; rfl, HB2.out⟩
    · obtain rfl : i = n := by omega
      have HF : Hid (tw [] (des xs) = false) := by
        have := HT.out
        rw [List.take_of_length_le (by rw [des, List.length_map, HD.out.len]; exact Nat.le_refl _)] at this
        exact this
      go_wp2
      go_ret
      exact ⟨by rw [HF.out]; rfl, HB.out⟩
theorem encs_snoc (l : List De) (d : De) : encs (l ++ [d]) = encs l ++ enc d := by simp [encs]
theorem encs_le {l : List De} (h : ∀ d ∈ l, Right d) : (encs l).length ≤ 1600 * l.length := by
  induction l with
  | nil => simp [encs]
  | cons d l ih =>
    have h1 := ih (fun x hx => h x (by simp [hx]))
    have h2 := (h d (by simp)).tlen_le
    have h3 := body_length d
    have h4 := enc_length d
    have e : encs (d :: l) = enc d ++ encs l := rfl
    rw [e, List.length_append, List.length_cons]
    omega
set_option maxHeartbeats 4000000 in
theorem Encode_any (A : Option Addr) (n cap : Nat) (xs : List Dx) (w : World) (hd : DL w A n xs) (hn : n ≤ 100000) (hnc : n ≤ cap) (hcm : cap ≤ 9223372036854775807) (hnm : ∀ x ∈ xs, x.d.name.length ≤ 100000) :
    Calls Tryd.prog 13 #[.slice A n cap] w fun e w' => ∃ A2 n2 c2 l, ∃ er : Nat, e = .returned (.tuple #[.slice A2 n2 c2, .int .i64 (er : Int)]) ∧ encode (des xs) = (l, er) ∧ Row w' w.heap.size 5 A2 n2 c2 (cn .u8 l) ∧ Below w.heap.size w w' := by
  obtain ⟨d0, hu0, hd0⟩ := uD
  have HD := Lib.hid hd
  have HN := Lib.hid hnm
  have hdl : (des xs).length = n := by rw [des, List.length_map, hd.len]
  have HDL := Lib.hid hdl
  obtain ⟨i0, hi0, hz0, hz1, hz2⟩ := info_parts byteInfo
  have HI0 := Lib.hid (And.intro hi0 (And.intro hz0 (And.intro hz1 hz2)))
  have HAR := Lib.hid (allRight_any A n cap xs w hd hn hnm)
  clear hd hnm hdl hi0 hz0 hz1 hz2
  by_cases h32 : n ≤ 32
  · have z1 : ¬ (32 : Int) < (n : Int) := by omega
    by_cases hall : ∀ d ∈ des xs, Right d
    · have E : Hid (allR xs = true) := decide_eq_true hall
      have HALL := Lib.hid hall
      obtain ⟨t, ht⟩ : ∃ t, tw [] (des xs) = t := ⟨_, rfl⟩
      have HT := Lib.hid ht
      clear hall ht
      go_enter Tryd.func13, Tryd.ntmps13
      go_wp2_with fail
      refine HAR.out.mono ?_
      rintro e w1 ⟨rfl, hb1⟩
      have HB1 := Lib.hid hb1
      have HTW := Lib.hid (anyTwice_any A n cap xs w1 (HD.out.below hb1) hn hnc hcm)
      rw [E.out]
      clear hb1
      go_wp2_with fail
      refine HTW.out.mono ?_
      rintro e w2 ⟨rfl, hb2⟩
      have HB2 := Lib.hid (HB1.out.trans (hb2.mono HB1.out.size))
      rw [HT.out]
      clear hb2
      cases t
      · have HEN : Hid (encode (des xs) = (encs (des xs), 0)) := by
          show encode (des xs) = _
          unfold encode
          rw [if_neg (by rw [HDL.out]; omega), if_pos HALL.out, HT.out]
          rfl
        go_wp2
        go_loopw [4, 17] (fun a o wr => ∃ i : Nat, i ≤ n ∧ o = .int .i64 (i : Int) ∧ ∃ A2 k c2, a = .slice A2 k c2 ∧ Hid (Below w.heap.size w wr ∧ Row wr w.heap.size 5 A2 k c2 (cn .u8 (encs ((des xs).take i))))) (fun _ o _ => n - (intOf o).toNat)
        case atStart => exact ⟨0, Nat.zero_le _, rfl, none, 0, 0, rfl, HB2.out, Row.nil _ _ _⟩
        case round =>
          obtain ⟨i, hi, rfl, A2, k, c2, rfl, HR⟩ := hrel
          by_cases hin : i < n
          · have hin2 : (i : Int) < (n : Int) := by omega
            obtain ⟨ad, y, hA, had, hy, hym, hAt, hok⟩ := (HD.out.below HR.out.1).get hin
            subst hA
            have HAT := Lib.hid hAt
            have HY := Lib.hid hy
            have hry : Right y.d := HALL.out _ (List.mem_of_getElem? (des_get hy))
            have hkl : k ≤ 60000 := by
              have h1 := HR.out.2.length
              rw [cn_length] at h1
              have h2 := encs_le (l := (des xs).take i) (fun d hd => HALL.out d (List.mem_of_mem_take hd))
              have h3 : ((des xs).take i).length ≤ 32 := by rw [List.length_take]; omega
              omega
            have hel : (enc y.d).length ≤ 2000 := by have h1 := enc_length y.d; have h2 := body_length y.d; have h3 := hry.tlen_le; omega
            have hb1 : Below wr.heap.size wr (wr.alloc (.cells y.cells.toArray 27)) := (Below.refl _ _).alloc (Nat.le_refl _) _
            have HBB : Hid (Below w.heap.size w (wr.alloc (.cells y.cells.toArray 27)) ∧ Row (wr.alloc (.cells y.cells.toArray 27)) w.heap.size 5 A2 k c2 (cn .u8 (encs ((des xs).take i)))) := ⟨HR.out.1.trans (hb1.mono HR.out.1.size), HR.out.2.below hb1⟩
            have HL := Lib.hid (bytes_any y (wr.alloc (.cells y.cells.toArray 27)) (hok.below hb1) hry)
            have HBK : Hid (At (wr.alloc (.cells y.cells.toArray 27)) ⟨wr.heap.size, 0, none⟩ y.cells) := (Blk.new wr 27 y.cells).at
            have HEL := Lib.hid hel
            clear hAt hy hok had hb1 hry hel
            go_wp2_with (first
              | ((with_reducible refine at_dst (some 20) ?_); refine wpList_loadAt (op := ⟨some 20, _, _, _, _, _⟩) rfl 27 (.tmp 19) rfl (ad.add (i * 11)) rfl y.cells d0 HAT.out hu0 hd0 iD ?_)
              | ((with_reducible refine at_dst none ?_); refine wpList_storeNew (w := wr) (op := ⟨none, _, _, _, _, _⟩) rfl 27 (.tmp 6) (.tmp 20) rfl zeroD y.cells rfl rfl rfl iD y.one ?_)
              | ((with_reducible refine at_dst (some 22) ?_); refine wpList_loadAt (op := ⟨some 22, _, _, _, _, _⟩) rfl 27 (.tmp 6) rfl ⟨wr.heap.size, 0, none⟩ rfl y.cells d0 HBK.out hu0 hd0 iD ?_))
            refine HL.out.mono ?_
            rintro e w3 ⟨A3, n3, c3, rfl, hr3, hb3⟩
            have hn3 : n3 ≤ 2000 := by have h1 := hr3.length; rw [cn_length] at h1; have := HEL.out; omega
            have hsz : w.heap.size ≤ w3.heap.size := Nat.le_trans HBB.out.1.size hb3.size
            have HAPP : Hid (∀ {ops : Array Oper} {rest : List Oper} {o : Oper} {a : Act} {Q : Exit → Act → World → Prop} (hgd : o.guard = none) (s y' : Operand) (ho : o.op = .call { callee := .builtin .append, args := #[s, y'], argTypes := #[25, 25] }) (hs : a.eval s = .slice A2 k c2) (hy : a.eval y' = .slice A3 n3 c3)
                (hk : ∀ A' c' w', Hid (Row w' w.heap.size 5 A' (k + n3) c' (cn .u8 (encs ((des xs).take i)) ++ cn .u8 (enc y.d))) → Below w.heap.size w w' → w.heap.size ≤ w'.heap.size → wpList Tryd.prog ops Q rest (a.put o.dst (.slice A' (k + n3) c')) w'), wpList Tryd.prog ops Q (o :: rest) a w3) :=
              fun hgd s y' ho hs hy hk => wpList_app hgd s y' 25 5 ho Tryd.underlying25 HI0.out.1 HI0.out.2.1 HI0.out.2.2.1 HI0.out.2.2.2 rfl (by omega) (HBB.out.1.trans (hb3.mono HBB.out.1.size)) hsz hs (HBB.out.2.below hb3) hy hr3.length (hr3.rd.srcs c3 (fun e => by
                rcases hr3.2 with ⟨e2, _⟩ | ⟨g, cap', cur, e2, _⟩
                · injection e2
                · rw [e] at e2; injection e2 with e3; cases e3)) (cn_one _ _) (fun e => by
                rcases hr3.2 with ⟨e2, _⟩ | ⟨g, cap', cur, e2, _⟩
                · injection e2
                · rw [e] at e2; injection e2 with e3; cases e3) (by omega) (k + n3) rfl hk
            have HTK : Hid (encs ((des xs).take (i + 1)) = encs ((des xs).take i) ++ enc y.d) := by
              show _ = _
              rw [take_snoc' (des_get HY.out), encs_snoc]
            clear hr3 hb3 hsz
            go_wp2_with ((with_reducible refine at_dst (some 24) ?_); refine HAPP.out (o := ⟨some 24, _, _, _, _, _⟩) rfl (.tmp 21) (.tmp 23) rfl rfl rfl ?_; intro A5 c5 w5 hrow5 hbe5 hB5)
            go_roundw
            case rel =>
              refine ⟨i + 1, by omega, by go_num, _, _, _, rfl, hbe5, ?_⟩
              rw [HTK.out, cn_append]
              exact hrow5.out
            case measure => simp [intOf]; omega
          · obtain rfl : i = n := by omega
            have hall2 : (des xs).take i = des xs := List.take_of_length_le (by rw [HDL.out]; exact Nat.le_refl _)
            rw [hall2] at HR
            clear hall2
            go_wp2
            go_ret2
            exact ⟨A2, k, c2, encs (des xs), 0, rfl, HEN.out, HR.out.2, HR.out.1⟩
      · have HEN : Hid (encode (des xs) = ([], 35)) := by
          show encode (des xs) = _
          unfold encode
          rw [if_neg (by rw [HDL.out]; omega), if_pos HALL.out, HT.out]
          rfl
        go_wp2
        go_ret2
        exact ⟨none, 0, 0, [], 35, rfl, HEN.out, Row.nil _ _ _, HB2.out⟩
    · have E : Hid (allR xs = false) := decide_eq_false hall
      have HEN : Hid (encode (des xs) = ([], 12)) := by
        show encode (des xs) = _
        unfold encode
        rw [if_neg (by rw [HDL.out]; omega), if_neg hall]
      clear hall
      go_enter Tryd.func13, Tryd.ntmps13
      go_wp2_with fail
      refine HAR.out.mono ?_
      rintro e w1 ⟨rfl, hb1⟩
      have HB1 := Lib.hid hb1
      rw [E.out]
      clear hb1
      go_wp2
      go_ret2
      exact ⟨none, 0, 0, [], 12, rfl, HEN.out, Row.nil _ _ _, HB1.out⟩
  · have z1 : (32 : Int) < (n : Int) := by omega
    have HEN : Hid (encode (des xs) = ([], 11)) := by
      show encode (des xs) = _
      unfold encode
      rw [if_pos (by rw [HDL.out]; omega)]
    go_enter Tryd.func13, Tryd.ntmps13
    go_wp2
    go_ret2
    exact ⟨none, 0, 0, [], 11, rfl, HEN.out, Row.nil _ _ _, Below.refl _ _⟩
end Go.Proofs.YtfeihdmjcppbaaaDoor
