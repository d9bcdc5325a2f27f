/-
  What the document's Encode answers. No condition but that texts are bytes that fit.
-/
import Derived.Test.YtfeihdmjcppbaaaDoorE2
import Derived.Test.YtfeihdmjcppbaaaDoorE3
import Derived.Test.YtfeihdmjcppbaaaDoorQ2
namespace Go.Proofs.YtfeihdmjcppbaaaDoor
open Go.RowKit
set_option linter.unusedVariables false
set_option linter.unusedSimpArgs false
set_option maxRecDepth 100000

theorem encode_11 {l : List De} (h : 32 < l.length) : encode l = ([], 11) := by unfold encode; rw [if_pos h]
theorem encode_12 {l : List De} (h : ¬ 32 < l.length) (h2 : ¬ ∀ d ∈ l, Right d) : encode l = ([], 12) := by unfold encode; rw [if_neg h, if_neg h2]
theorem encode_35 {l : List De} (h : ¬ 32 < l.length) (h2 : ∀ d ∈ l, Right d) (h3 : tw [] l = true) : encode l = ([], 35) := by unfold encode; rw [if_neg h, if_pos h2, h3]; rfl
theorem encode_ok {l : List De} (h : ¬ 32 < l.length) (h2 : ∀ d ∈ l, Right d) (h3 : tw [] l = false) : encode l = (encs l, 0) := by unfold encode; rw [if_neg h, if_pos h2, h3]; rfl
set_option maxHeartbeats 4000000 in
theorem REncode_any (A : Option Addr) (n cap : Nat) (xs : List Dx) (w : World) (hd : DL w A n xs) (hf : ∀ ad, A = some ad → ∃ g, ad = ⟨g, 0, none⟩) (hn : n ≤ 100000) (hnc : n ≤ cap) (hcm : cap ≤ 9223372036854775807) :
    Calls Tryd.prog 14 #[.slice A n cap] w fun e w' => ∃ A2 n2 c2 l, ∃ er : Nat, e = .returned (.tuple #[.slice A2 n2 c2, .int .i64 (er : Int)]) ∧ encode (des xs) = (l, er) ∧ Row w' w.heap.size 5 A2 n2 c2 (cn .u8 l) ∧ Below w.heap.size w w' := by
  obtain ⟨d1, hu1, hd1⟩ := uR
  have HD := Lib.hid hd
  have HF := Lib.hid hf
  have hdl : (des xs).length = n := by rw [des, List.length_map, hd.len]
  have HDL := Lib.hid hdl
  clear hd hf hdl
  by_cases h32 : n ≤ 32
  · have z1 : ¬ (32 : Int) < (n : Int) := by omega
    have H32 : Hid (¬ 32 < (des xs).length) := by show ¬ _; rw [HDL.out]; omega
    go_enter Tryd.func14, Tryd.ntmps14
    go_wp2_with fail
    go_loopw [4] (fun o wr => ∃ i : Nat, i ≤ n ∧ o = .int .i64 (i : Int) ∧ Hid (∀ (j : Nat) d, j < i → (des xs)[j]? = some d → Right d) ∧ Hid (Below w.heap.size w wr)) (fun o _ => n - (intOf o).toNat)
    case atStart => exact ⟨0, Nat.zero_le _, rfl, fun j d h => absurd h (Nat.not_lt_zero j), Below.refl _ _⟩
    case round =>
      obtain ⟨i, hi, rfl, HR, HB⟩ := hrel
      by_cases hin : i < n
      · have hin2 : (i : Int) < (n : Int) := by omega
        obtain ⟨ad, y, hA, had, hy, hym, hAt, hok⟩ := (HD.out.below HB.out).get hin
        subst hA
        have HAT := Lib.hid hAt
        have HY := Lib.hid (des_get hy)
        have HRR := Lib.hid (RRight_any y hok.hds hok.name wr)
        obtain ⟨bb, hbb⟩ : ∃ bb, decide (Right y.d) = bb := ⟨_, rfl⟩
        rw [hbb] at HRR
        have HBB := Lib.hid hbb
        clear hAt hy hym hok had hbb
        go_wp2_with ((with_reducible refine at_dst (some 19) ?_); refine wpList_loadAt (op := ⟨some 19, _, _, _, _, _⟩) rfl 28 (.tmp 18) rfl (ad.add (i * 11)) rfl y.cells d1 HAT.out hu1 hd1 iR ?_)
        refine HRR.out.mono ?_
        rintro e w2 ⟨rfl, hb2⟩
        have HB2 := Lib.hid (below_then HB.out hb2)
        clear hb2
        cases bb
        · have HE : Hid (encode (des xs) = ([], 12)) := encode_12 H32.out (fun h => of_decide_eq_false HBB.out (h _ (List.mem_of_getElem? HY.out)))
          go_wp2
          go_ret2
          exact ⟨none, 0, 0, [], 12, rfl, HE.out, Row.nil _ _ _, HB2.out⟩
        · go_wp2
          go_roundw
          case rel =>
            refine ⟨i + 1, by omega, by go_num, fun j d hj hd => ?_, HB2⟩
            by_cases e : j = i
            · subst e
              rw [HY.out] at hd
              injection hd with hd
              rw [← hd]; exact of_decide_eq_true HBB.out
            · exact HR.out j d (by omega) hd
          case measure => simp [intOf]; omega
      · have hin0 : i = n := by omega
        have HALL : Hid (∀ d ∈ des xs, Right d) := fun d hd => by
          obtain ⟨j, hj⟩ := List.mem_iff_getElem?.1 hd
          exact HR.out j d (by have := (List.getElem?_eq_some_iff.1 hj).1; rw [HDL.out] at this; omega) hj
        have hge : ¬ (i : Int) < (n : Int) := by omega
        have HB0 := HB
        clear HR HB hin0
        go_wp2_with fail
        go_loopw [5, 6] (fun a o wr => ∃ i : Nat, i ≤ n ∧ o = .int .i64 (i : Int) ∧ Hid (tw [] ((des xs).take i) = false) ∧ ∃ A2 k c2, a = .slice A2 k c2 ∧ Hid (Acc w wr [] A2 k c2 (encs ((des xs).take i)))) (fun _ o _ => n - (intOf o).toNat)
        case atStart => exact ⟨0, Nat.zero_le _, rfl, rfl, none, 0, 0, rfl, Row.nil _ _ _, HB0.out, fun b hb => by cases hb⟩
        case round =>
          clear hge hin hi
          obtain ⟨i, hi, rfl, HT, A2, k, c2, rfl, HA⟩ := hrel
          clear HB0
          by_cases hin : i < n
          · have hin2 : (i : Int) < (n : Int) := by omega
            have hic : (i : Int) ≤ (cap : Int) := by omega
            obtain ⟨ad, y, hA, had, hy, hym, hAt, hok⟩ := (HD.out.below HA.out.below).get hin
            obtain ⟨g, rfl⟩ := HF.out ad hA
            have hDL := (HD.out.below HA.out.below).take i (by omega)
            have hbd : Below wr.heap.size wr wr.drew := below_drew1 (Below.refl _ _)
            have HL := Lib.hid (rtwice_any y A i cap (xs.take i) wr.drew hok.name (hDL.below hbd) HF.out (by omega))
            have hRi := HALL.out y.d (List.mem_of_getElem? (des_get hy))
            subst hA
            have e9 : ((⟨g, 0, none⟩ : Addr).add (i * 11)) = ⟨g, i * 11, none⟩ := by rw [addr_add, Nat.zero_add]
            rw [e9] at hAt
            clear e9
            have t0 : wr.cell? ⟨g, i * 11, none⟩ = some (.int .i64 y.d.kind) := by have := hAt 0 _ rfl; rw [addr_add] at this; simpa using this
            have t1 : wr.cell? ⟨g, i * 11 + 1, none⟩ = some (.int .i64 y.d.alg) := by have := hAt 1 _ rfl; rw [addr_add] at this; simpa using this
            have t2 : wr.cell? ⟨g, i * 11 + 2, none⟩ = some (.int .i64 y.d.size) := by have := hAt 2 _ rfl; rw [addr_add] at this; simpa using this
            have t3 : wr.cell? ⟨g, i * 11 + 3, none⟩ = some (.int .i64 y.d.block) := by have := hAt 3 _ rfl; rw [addr_add] at this; simpa using this
            have t4 : wr.cell? ⟨g, i * 11 + 4, none⟩ = some (.int .i64 y.d.off) := by have := hAt 4 _ rfl; rw [addr_add] at this; simpa using this
            have t5 : wr.cell? ⟨g, i * 11 + 5, none⟩ = some (.int .i64 y.d.loc) := by have := hAt 5 _ rfl; rw [addr_add] at this; simpa using this
            have t6 : wr.cell? ⟨g, i * 11 + 6, none⟩ = some (.string (str y.d.name)) := by have := hAt 6 _ rfl; rw [addr_add] at this; simpa using this
            have t7 : wr.cell? ⟨g, i * 11 + 7, none⟩ = some (.slice y.s1.A y.s1.n y.s1.cap) := by have := hAt 7 (.slice y.s1.A y.s1.n y.s1.cap) rfl; rw [addr_add] at this; simpa using this
            have t8 : wr.cell? ⟨g, i * 11 + 8, none⟩ = some (.slice y.s2.A y.s2.n y.s2.cap) := by have := hAt 8 (.slice y.s2.A y.s2.n y.s2.cap) rfl; rw [addr_add] at this; simpa using this
            have t9 : wr.cell? ⟨g, i * 11 + 9, none⟩ = some (.slice y.s3.A y.s3.n y.s3.cap) := by have := hAt 9 (.slice y.s3.A y.s3.n y.s3.cap) rfl; rw [addr_add] at this; simpa using this
            have t10 : wr.cell? ⟨g, i * 11 + 10, none⟩ = some (.slice y.s4.A y.s4.n y.s4.cap) := by have := hAt 10 (.slice y.s4.A y.s4.n y.s4.cap) rfl; rw [addr_add] at this; simpa using this
            have HAT := Lib.hid hAt
            have HY := Lib.hid (des_get hy)
            have HOK := Lib.hid hok
            have HRI := Lib.hid hRi
            have HAD := Lib.hid had
            have HBD := Lib.hid hbd
            clear hAt hy hym hok had hDL hbd hRi
            go_wp2_with fail
            go_region_law (first | (go_simp; go_at_call 30; refine HL.out.mono ?_; rintro e w2 ⟨rfl, hb2⟩))
            all_goals
              clear t0 t1 t2 t3 t4 t5 t6 t7 t8 t9 t10
              have hb3 : Below wr.heap.size wr w2 := HBD.out.trans (hb2.mono HBD.out.size)
              have hsn := tw_snoc ((des xs).take i) y.d
              rw [← take_snoc' HY.out, HT.out, Bool.false_or] at hsn
              have HSN := Lib.hid hsn
              have HA2 := Lib.hid (HA.out.next hb3)
              have HAT2 := Lib.hid (HAT.out.below hb3 HAD.out)
              have HOK2 := Lib.hid (HOK.out.below hb3)
              clear hb2 hb3 hsn HL
              obtain ⟨bb, hbb⟩ : ∃ bb, dup (des (xs.take i)) y.d = bb := ⟨_, rfl⟩
              rw [hbb]
              rw [des_take] at hbb
              rw [hbb] at HSN
              clear hbb
              cases bb
              · have HRB := Lib.hid (rbytes_any y w2 HOK2.out HRI.out)
                go_wp2_with ((with_reducible refine at_dst (some 40) ?_); refine wpList_loadAt (op := ⟨some 40, _, _, _, _, _⟩) rfl 28 (.tmp 39) rfl ⟨g, i * 11, none⟩ rfl y.cells d1 HAT2.out hu1 hd1 iR ?_)
                refine HRB.out.mono ?_
                rintro e w3 ⟨A3, n3, c3, rfl, hr3, hb3⟩
                have hn3 : n3 ≤ 2000 := by
                  have h1 := hr3.length
                  rw [cn_length, enc_length, body_length] at h1
                  have := HRI.out.tlen_le
                  omega
                have hkl : k ≤ 60000 := by
                  have h1 := HA2.out.row.length
                  rw [cn_length] at h1
                  have h2 := encs_le (l := (des xs).take i) (fun d hd => HALL.out d (List.mem_of_mem_take hd))
                  have h3 : ((des xs).take i).length ≤ 32 := by rw [List.length_take]; omega
                  omega
                have HA3 := Lib.hid (HA2.out.next hb3)
                have HR3 := Lib.hid hr3
                have HAPP : Hid (∀ {ops : Array Oper} {rest : List Oper} {o : Oper} {a : Act} {Q : Exit → Act → World → Prop} (hgd : o.guard = none) (s y' : Operand) (ho : o.op = .call { callee := .builtin .append, args := #[s, y'], argTypes := #[25, 25] }) (hs : a.eval s = .slice A2 k c2) (hy : a.eval y' = .slice A3 n3 c3)
                    (hk : ∀ A' c' w', Hid (Acc w w' [] A' (k + n3) c' (encs ((des xs).take i) ++ enc y.d)) → Hid (Touch (bl A2) w3 w') → wpList Tryd.prog ops Q rest (a.put o.dst (.slice A' (k + n3) c')) w'), wpList Tryd.prog ops Q (o :: rest) a w3) :=
                  fun hgd s y' ho hs hy hk => wpList_acc hgd s y' ho HA3.out hs hy HR3.out.rd (fun e => HR3.out.none0 e) (by omega) (k + n3) rfl (fun g hg => by cases hg) hk
                have HTK : Hid (encs ((des xs).take (i + 1)) = encs ((des xs).take i) ++ enc y.d) := by
                  show _ = _
                  rw [take_snoc' HY.out, encs_snoc]
                clear hr3 hb3
                go_wp2_with ((with_reducible refine at_dst (some 42) ?_); refine HAPP.out (o := ⟨some 42, _, _, _, _, _⟩) rfl (.tmp 36) (.tmp 41) rfl rfl rfl ?_; intro A5 c5 w5 HA5 HT5)
                go_roundw
                case rel =>
                  refine ⟨i + 1, by omega, by go_num, HSN, _, _, _, rfl, ?_⟩
                  rw [HTK.out]
                  exact HA5
                case measure => simp [intOf]; omega
              · have HE : Hid (encode (des xs) = ([], 35)) := encode_35 H32.out HALL.out (tw_take HSN.out)
                go_wp2
                go_ret2
                exact ⟨none, 0, 0, [], 35, rfl, HE.out, Row.nil _ _ _, HA2.out.below⟩
          · obtain rfl : i = n := by omega
            have hall2 : (des xs).take i = des xs := List.take_of_length_le (by rw [HDL.out]; exact Nat.le_refl _)
            have HE : Hid (encode (des xs) = (encs (des xs), 0)) := encode_ok H32.out HALL.out (by have := HT.out; rw [hall2] at this; exact this)
            have HA5 : Hid (Acc w wr [] A2 k c2 (encs (des xs))) := by have := HA.out; rw [hall2] at this; exact this
            clear hall2
            go_wp2
            go_ret2
            exact ⟨A2, k, c2, encs (des xs), 0, rfl, HE.out, HA5.out.row, HA5.out.below⟩
  · have z1 : (32 : Int) < (n : Int) := by omega
    have HE : Hid (encode (des xs) = ([], 11)) := encode_11 (by rw [HDL.out]; omega)
    clear h32
    go_enter Tryd.func14, Tryd.ntmps14
    go_wp2
    go_ret2
    exact ⟨none, 0, 0, [], 11, rfl, HE.out, Row.nil _ _ _, Below.refl _ _⟩
end Go.Proofs.YtfeihdmjcppbaaaDoor
