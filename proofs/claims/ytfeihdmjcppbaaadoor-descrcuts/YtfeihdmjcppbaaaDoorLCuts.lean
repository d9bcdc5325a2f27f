/-
  DescrCuts returns true for every list of descriptors and every place: its walk.
-/
import Derived.Test.YtfeihdmjcppbaaaDoorLSizes
import Derived.Test.YtfeihdmjcppbaaaDoorS3
namespace Go.Proofs.YtfeihdmjcppbaaaDoor
open Go.RowKit
set_option linter.unusedVariables false
set_option linter.unusedSimpArgs false
set_option maxRecDepth 100000

/-- The first descriptor's bytes, cut short. -/
theorem step_cut {seen : List De} {d : De} (h : Right d) (r : List Nat) {n : Nat} (hn : n < (enc d).length) : step seen ((enc d ++ r).take n) = .error 10 := by
  have b := h.bds
  have bk := b.kind
  have hb := h.tlen_le
  have hl := body_length d
  have hel := enc_length d
  have e : enc d ++ r = be 8 d.kind.toNat ++ (be 8 (body d).length ++ (body d ++ r)) := by simp [enc]
  have hlen : ((enc d ++ r).take n).length = n := by rw [List.length_take, List.length_append]; omega
  unfold step
  by_cases h1 : n < 16
  · rw [if_pos (by omega)]
  · have s0 : sl ((enc d ++ r).take n) 0 8 = be 8 d.kind.toNat := by
      rw [sl, List.drop_zero, List.take_take, Nat.min_eq_left (by omega), ← sl_zero, e]
      exact sl_append (p := []) rfl (be_length _ _)
    have s1 : sl ((enc d ++ r).take n) 8 8 = be 8 (body d).length := by
      have h2 : sl (enc d ++ r) 8 8 = be 8 (body d).length := by rw [e]; exact sl_append (be_length _ _) (be_length _ _)
      rw [← h2, sl, sl, List.drop_take, List.take_take, Nat.min_eq_left (by omega)]
    have n0 : num (sl ((enc d ++ r).take n) 0 8) = d.kind.toNat := by rw [s0]; exact num_be 8 _ (by omega)
    have n1 : num (sl ((enc d ++ r).take n) 8 8) = (body d).length := by rw [s1]; exact num_be 8 _ (by omega)
    rw [n0, n1, if_neg (by omega), if_neg (by omega), if_pos (by omega)]
theorem pgo_cut : ∀ (l seen : List De) (f n : Nat), (∀ d ∈ l, Right d) → tw seen l = false → l.length ≤ f → n < (encs l).length → (∀ k, k < l.length → (encs (l.take k)).length ≠ n) → pgo f seen ((encs l).take n) = ([], 10)
  | [], seen, f, n, _, _, _, hn, _ => by simp [encs] at hn
  | d :: l, seen, f, n, hr, ht, hf, hn, hk => by
    obtain ⟨f, rfl⟩ : ∃ k, f = k + 1 := ⟨f - 1, by simp at hf; omega⟩
    simp only [tw, Bool.or_eq_false_iff] at ht
    have e : encs (d :: l) = enc d ++ encs l := rfl
    have hn0 : n ≠ 0 := fun h0 => hk 0 (by simp) (by simp [encs, h0])
    rw [e] at hn ⊢
    have hlen : ((enc d ++ encs l).take n).length = n := by rw [List.length_take]; omega
    rw [pgo, if_neg (by omega)]
    by_cases h1 : n < (enc d).length
    · rw [step_cut (hr d (by simp)) _ h1]
    · obtain ⟨m, rfl⟩ : ∃ m, n = (enc d).length + m := ⟨n - (enc d).length, by omega⟩
      have htk : (enc d ++ encs l).take ((enc d).length + m) = enc d ++ (encs l).take m := by rw [List.take_length_add_append]
      have hd : (enc d ++ (encs l).take m).drop (16 + (body d).length) = (encs l).take m := by rw [← enc_length d]; simp
      rw [htk, step_enc (hr d (by simp)) ht.1]
      simp only []
      rw [hd]
      refine pgo_cut l (seen ++ [d]) f m (fun x hx => hr x (by simp [hx])) ht.2 (by simpa using hf) (by rw [List.length_append] at hn; omega) (fun k hk1 hk2 => ?_)
      refine hk (k + 1) (by simpa using hk1) ?_
      rw [List.take_succ_cons]
      show (enc d ++ encs (l.take k)).length = _
      rw [List.length_append, hk2]
theorem tw_pre {l : List De} (k : Nat) (h : tw [] l = false) : tw [] (l.take k) = false := by
  cases hq : tw [] (l.take k)
  · rfl
  · rw [tw_take hq] at h; cases h
theorem encs_take (l : List De) (k : Nat) : (encs l).take (encs (l.take k)).length = encs (l.take k) := by
  have h : encs l = encs (l.take k) ++ encs (l.drop k) := by rw [← encs_append, List.take_append_drop]
  rw [h, List.take_left]
theorem parse_pre {l : List De} (hr : ∀ d ∈ l, Right d) (ht : tw [] l = false) (hf : l.length ≤ 32) (k : Nat) : parse ((encs l).take (encs (l.take k)).length) = (l.take k, 0) := by
  rw [encs_take]
  exact parse_encs (fun d hd => hr d (List.mem_of_mem_take hd)) (tw_pre k ht) (by rw [List.length_take]; omega)
theorem parse_cut {l : List De} (hr : ∀ d ∈ l, Right d) (ht : tw [] l = false) (hf : l.length ≤ 32) {n : Nat} (hn : n < (encs l).length) (hk : ∀ k, k < l.length → (encs (l.take k)).length ≠ n) : parse ((encs l).take n) = ([], 10) := pgo_cut l [] 32 n hr ht hf hn hk
theorem encode_pre {l : List De} (hr : ∀ d ∈ l, Right d) (ht : tw [] l = false) (hf : l.length ≤ 32) (k : Nat) : encode (l.take k) = (encs (l.take k), 0) := by
  unfold encode
  rw [if_neg (by rw [List.length_take]; omega), if_pos (fun d hd => hr d (List.mem_of_mem_take hd)), tw_pre k ht]
  simp
theorem Bs.take {w : World} {A : Option Addr} {n cap : Nat} {l : List Nat} (h : Bs w A n cap l) (m : Nat) (hm : m ≤ n) : Bs w A m cap (l.take m) :=
  ⟨h.rd.take m hm, h.fit.take m, Nat.le_trans hm h.le, h.max, h.nil⟩
set_option maxHeartbeats 4000000 in
theorem cuts_walk (A : Option Addr) (n cap : Nat) (xs : List Dx) (z : Int) (W : World) (g : Dsc W A n cap xs) (hz : I64 z) : Calls Tryd.prog 5 #[.slice A n cap, .int .i64 z] W fun e w' => e = .returned (.bool true) ∧ Below W.heap.size W w' := by
  have HG := Lib.hid g
  have HZ := Lib.hid hz
  clear g hz
  go_enter Tryd.func5, Tryd.ntmps5
  go_wp2_with fail
  refine (anchor_any W).mono ?_
  rintro e w1 ⟨rfl, hb1⟩
  have B1 := Lib.hid hb1
  clear hb1
  have HS := Lib.hid (Small_any A n cap xs w1 (HG.out.dl.below B1.out) HG.out.le HG.out.max)
  go_wp2_with fail
  refine HS.out.mono ?_
  rintro e w2 ⟨b, rfl, hsm, hb2⟩
  have B2 := Lib.hid (B1.out.trans (hb2.mono B1.out.size))
  cases b
  · clear hsm hb2
    go_wp2
    go_ret
    exact ⟨rfl, B2.out⟩
  · obtain ⟨hsmall, hn40⟩ := hsm rfl
    have HSM := Lib.hid hsmall
    have HEN := Lib.hid (Encode_any A n cap xs w2 (HG.out.dl.below B2.out) (by omega) HG.out.le HG.out.max (names_le (W := W) hsmall))
    clear hsm hb2 hsmall
    by_cases hz0 : z < 0
    · go_wp2
      go_ret
      exact ⟨rfl, B2.out⟩
    · obtain ⟨a, ha⟩ : ∃ a : Nat, z = (a : Int) := ⟨z.toNat, by omega⟩
      subst ha
      clear hz0
      have hz1 : ¬ (a : Int) < 0 := by omega
      go_wp2_with fail
      refine HEN.out.mono ?_
      rintro e w3 ⟨A3, n3, c3, l, er, rfl, hen, hrow, hb3⟩
      have B3 := Lib.hid (B2.out.trans (hb3.mono B2.out.size))
      have hl3 := hrow.length
      rw [cn_length] at hl3
      clear hz1
      rcases encode_cases hen with ⟨her, hl⟩ | ⟨her, hl, hright, htw, h32⟩
      · subst hl
        obtain rfl : n3 = 0 := hl3.symm
        have e0 : ((er : Int) != 0) = true := by simp; omega
        clear her hen hrow hb3 hl3
        go_wp2
        go_ret
        exact ⟨rfl, B3.out⟩
      · subst her
        by_cases hn0 : n3 = 0
        · subst hn0
          clear hen hrow hb3 hl3 hright htw h32 hl
          go_wp2
          go_ret
          exact ⟨rfl, B3.out⟩
        · have hfit : Fit 256 l := by rw [hl]; exact encs_fit (fun d hd => by
            obtain ⟨x, hx, rfl⟩ := List.mem_map.1 hd
            exact (HG.out.dl.ok x hx).fits)
          have hle3 : n3 ≤ 60000 := by
            have h1 := encs_le hright
            rw [← hl, hl3] at h1
            omega
          obtain ⟨q, hq⟩ : ∃ q, a % n3 = q := ⟨_, rfl⟩
          have hqn : q < n3 := by rw [← hq]; exact Nat.mod_lt _ (by omega)
          have e0 : ((n3 : Int) == 0) = false := beq_eq_false_iff_ne.2 (by omega)
          have hrem : ((a : Int)).tmod (n3 : Int) = (q : Int) := by rw [Int.tmod_eq_emod_of_nonneg (by omega), ← hq]; omega
          have hcle := hrow.le
          have hq0 : (0 : Int) ≤ (q : Int) := by omega
          have hqc : (q : Int) ≤ (c3 : Int) := by omega
          have wq : IntKind.i64.wrap (q : Int) = (q : Int) := by rw [IntKind.wrap_i64]; omega
          have n30 : (n3 : Int) ≠ 0 := by omega
          have HPA := Lib.hid (Parse_any A3 q c3 (l.take q) w3 ((hrow.bs hfit).take q (by omega)) (by omega))
          have HR := Lib.hid hright
          have HTW := Lib.hid htw
          have HL := Lib.hid hl
          have HLEN : Hid ((des xs).length ≤ 32 ∧ (des xs).length = n ∧ q < (encs (des xs)).length) := ⟨h32, by rw [des, List.length_map, HG.out.dl.len], by rw [← hl, hl3]; exact hqn⟩
          clear hen hrow hb3 hl3 hright htw h32 hl hfit hcle hq hn0 HEN
          go_wp2_with fail
          refine HPA.out.mono ?_
          rintro e w5 ⟨Am, nm, cm, ys, er5, rfl, hpa, hpl, hnw, hb5⟩
          have B5 : Hid (Below W.heap.size W w5) := B3.out.trans (hb5.mono B3.out.size)
          rw [HL.out] at hpa
          have HPR := Lib.hid hpa
          have HM5 : Hid (DL w5 Am nm ys) := hpl.dl
          clear hpa hpl hnw hb5 HPA hrem e0 n30 wq hq0 hqc
          go_wp2_with fail
          go_loopw [47] (fun si wr => ∃ k : Nat, si = .int .i64 (k : Int) ∧ k ≤ n ∧ Hid (∀ j, j < k → (encs ((des xs).take j)).length ≠ q) ∧ Hid (DL wr Am nm ys) ∧ Hid (Below W.heap.size W wr)) (fun i _ => n - (intOf i).toNat)
          case atStart => exact ⟨0, rfl, Nat.zero_le _, fun j h => absurd h (Nat.not_lt_zero j), HM5, B5⟩
          case round =>
            obtain ⟨k, rfl, hk, HK, HM, HBk⟩ := hrel
            clear HM5 B5
            by_cases hlt : k < n
            · have zlt : (k : Int) < (n : Int) := by omega
              have hnc := HG.out.le
              have hcm := HG.out.max
              have zcap : (k : Int) ≤ (cap : Int) := by omega
              have hdk := (HG.out.dl.below HBk.out).take k (by omega)
              have HE6 := Lib.hid (Encode_any A k cap (xs.take k) wr hdk (by omega) (by omega) hcm (fun x hx => names_le (W := W) HSM.out x (List.mem_of_mem_take hx)))
              rw [des_take, encode_pre HR.out HTW.out HLEN.out.1 k] at HE6
              have HDK := Lib.hid hdk
              clear hdk hnc hcm
              go_wp2_with fail
              refine HE6.out.mono ?_
              rintro e w7 ⟨A7, n7, c7, l7, er7, rfl, hen7, hrow7, hb7⟩
              simp only [Prod.mk.injEq] at hen7
              obtain ⟨rfl, rfl⟩ := hen7
              have h7 := hrow7.length
              rw [cn_length] at h7
              have B7 := Lib.hid (below_then HBk.out hb7)
              have HM7 := Lib.hid (HM.out.below hb7)
              have HDK7 := Lib.hid (HDK.out.below hb7)
              have H7 := Lib.hid h7
              clear hrow7 hb7 h7
              by_cases hqq : n7 = q
              · have hp := parse_pre HR.out HTW.out HLEN.out.1 k
                rw [H7.out, hqq, HPR.out] at hp
                simp only [Prod.mk.injEq] at hp
                obtain ⟨hys, rfl⟩ := hp
                have e7 : ((n7 : Int) == (q : Int)) = true := beq_iff_eq.2 (by omega)
                have HSD := Lib.hid (SameD_any Am nm cm ys A k cap (xs.take k) w7 HM7.out HDK7.out (by
                  have h1 := congrArg List.length hys
                  rw [des, List.length_map, HM7.out.len, List.length_take] at h1
                  omega))
                rw [decide_eq_true (by rw [des_take]; exact hys)] at HSD
                clear hys hqq
                go_wp2_with fail
                refine HSD.out.mono ?_
                rintro e w8 ⟨rfl, hb8⟩
                have B8 := Lib.hid (below_then B7.out hb8)
                clear hb8
                go_wp2
                go_ret
                exact ⟨rfl, B8.out⟩
              · have e7 : ((n7 : Int) == (q : Int)) = false := beq_eq_false_iff_ne.2 (by omega)
                have HQQ := Lib.hid hqq
                clear hqq
                go_wp2
                go_roundw
                case rel =>
                  refine ⟨k + 1, by go_num, by omega, fun j hj => ?_, HM7, B7⟩
                  by_cases hjk : j = k
                  · subst hjk
                    rw [H7.out]; exact HQQ.out
                  · exact HK.out j (by omega)
                case measure => simp [intOf]; omega
            · have hkn : k = n := by omega
              have hp := parse_cut HR.out HTW.out HLEN.out.1 HLEN.out.2.2 (fun j hj => HK.out j (by rw [HLEN.out.2.1] at hj; omega))
              rw [HPR.out] at hp
              simp only [Prod.mk.injEq] at hp
              obtain ⟨hys, rfl⟩ := hp
              have hnm : nm = 0 := by
                have h1 := congrArg List.length hys
                rw [des, List.length_map, HM.out.len] at h1
                exact h1
              subst hnm
              have zge : ¬ (k : Int) < (n : Int) := by omega
              clear hys hkn hlt HM HPR
              go_wp2
              go_ret
              exact ⟨rfl, HBk.out⟩
end Go.Proofs.YtfeihdmjcppbaaaDoor
