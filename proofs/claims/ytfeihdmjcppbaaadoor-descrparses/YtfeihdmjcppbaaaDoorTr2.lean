/-
  What strings.Trim answers at the letters. No condition but that letters are bytes.
-/
import Derived.Test.YtfeihdmjcppbaaaDoorTr
namespace Go.Proofs.YtfeihdmjcppbaaaDoor
open Go.RowKit
set_option linter.unusedVariables false
set_option linter.unusedSimpArgs false
set_option maxRecDepth 100000

theorem str_abc : str abc = ⟨#[97, 98, 99, 100, 101, 102, 103, 104, 105, 106, 107, 108, 109, 110, 111, 112, 113, 114, 115, 116, 117, 118, 119, 120, 121, 122, 48, 49, 50, 51, 52, 53, 54, 55, 56, 57, 95]⟩ := by rfl
theorem str_empty {l : List Nat} (h : l ≠ []) : ((str l).toList == ([] : List UInt8)) = false := by
  rw [str_toList]
  cases l with
  | nil => exact absurd rfl h
  | cons a r => rfl
set_option maxHeartbeats 1000000 in
theorem Trim_any (l : List Nat) (hf : Fit 256 l) (h0 : l ≠ []) (hl : l.length ≤ 1000) (w : World) : Calls Tryd.prog 52 #[.string (str l), .string (str abc)] w fun e w' => ∃ m, e = .returned (.string (str m)) ∧ (m = [] ↔ l.all letter = true) ∧ Below w.heap.size w w' := by
  have hz := zeroSet
  have e0 := str_empty h0
  have eA := str_empty (l := abc) (by decide)
  have sA : (str abc).size = 37 := rfl
  have HF := Lib.hid hf
  have HM := Lib.hid (makeASCII_any abc (by unfold Fit; decide) (by decide) w)
  obtain ⟨T, hT⟩ : ∃ T, str l = T := ⟨_, rfl⟩
  have HT := Lib.hid hT
  obtain ⟨C, hC⟩ : ∃ C, str abc = C := ⟨_, rfl⟩
  rw [hT] at e0 ⊢
  rw [hC] at eA sA HM ⊢
  clear hT hC hf
  generalize hmz : (marks []).toArray = mz at hz
  go_enter Tryd.func52, Tryd.ntmps52
  go_wp2_with fail
  refine HM.out.mono ?_
  rintro e w1 ⟨rfl, hb1⟩
  have HB1 := Lib.hid hb1
  have HZB : Hid (Blk (w1.alloc (.cells mz 90)) w1.heap.size 90 (marks []) ∧ Below w.heap.size w (w1.alloc (.cells mz 90))) := by
    rw [← hmz]
    exact ⟨Blk.new _ _ _, hb1.alloc hb1.size _⟩
  clear hb1 hmz
  obtain ⟨G, hG⟩ : ∃ G, w1.heap.size = G := ⟨_, rfl⟩
  rw [hG] at HZB
  have hGle : Hid (w.heap.size ≤ G) := by show _ ≤ _; rw [← hG]; exact HB1.out.size
  go_wp2_with ((with_reducible refine at_dst none ?_); refine wpList_storeBlk (op := ⟨none, _, _, _, _, _⟩) rfl 90 (.tmp 5) (.tmp 32) rfl (g := G) (t := 90) (old := marks []) (cs := marks abc) rfl rfl HZB.out.1 rfl (by rw [marks_length]; exact infoSet) (marks_one abc) ?_; intro w2 hB2 ht2)
  have HW2 : Hid (Below w.heap.size w w2) := HZB.out.2.trans (ht2.below (fun x hx => by rw [List.mem_singleton.1 hx]; exact hGle.out) HZB.out.2.size)
  have HR := trimR_any G abc l HF.out hl w2 hB2.out
  rw [HT.out] at HR
  refine HR.mono ?_
  rintro e w3 ⟨k, hk, rfl, h1, h2, rfl⟩
  have H1 := Lib.hid h1
  have H2 := Lib.hid h2
  clear h1 h2 HR ht2
  have HL := Lib.hid (trimL_any G abc (l.take k) (HF.out.take k) (by rw [List.length_take]; omega) w2 hB2.out)
  obtain ⟨T2, hT2⟩ : ∃ T, str (l.take k) = T := ⟨_, rfl⟩
  rw [hT2] at HL ⊢
  clear hT2
  go_wp2_with fail
  refine HL.out.mono ?_
  rintro e w3 ⟨j, hj, rfl, h3, h4, rfl⟩
  have H3 := Lib.hid h3
  have H4 := Lib.hid h4
  clear h3 h4
  obtain ⟨T3, hT3⟩ : ∃ T, str ((l.take k).drop j) = T := ⟨_, rfl⟩
  have HT3 := Lib.hid hT3
  rw [hT3]
  clear hT3
  go_wp2
  go_ret
  refine ⟨(l.take k).drop j, by rw [HT3.out]; rfl, ?_, HW2.out⟩
  rw [List.length_take] at hj
  have hlet : ∀ (i c : Nat), l[i]? = some c → abc.contains c = letter c := fun i c h => abc_letter c (HF.out c (List.mem_of_getElem? h))
  constructor
  · intro hm
    have hjk : k ≤ j := by
      have := congrArg List.length hm
      simp only [List.length_drop, List.length_take, List.length_nil] at this
      omega
    rw [List.all_eq_true]
    intro c hc
    obtain ⟨i, hi, rfl⟩ := List.getElem_of_mem hc
    have hg := List.getElem?_eq_getElem hi
    rw [← hlet i _ hg]
    rcases Nat.lt_or_ge i k with hik | hik
    · exact H3.out i _ (by omega) (by rw [List.getElem?_take, if_pos hik]; exact hg)
    · exact H1.out i _ hik hg
  · intro hall
    rw [List.all_eq_true] at hall
    rcases Nat.lt_or_ge j k with hjk | hjk
    · exfalso
      have hjl : j < l.length := by omega
      have hg := List.getElem?_eq_getElem hjl
      have := H4.out l[j] (by rw [List.getElem?_take, if_pos hjk]; exact hg)
      rw [hlet j _ hg, hall _ (List.getElem_mem hjl)] at this
      cases this
    · rw [List.drop_eq_nil_of_le (by rw [List.length_take]; omega)]
set_option maxHeartbeats 1000000 in
theorem isName_any (l : List Nat) (hf : Fit 256 l) (w : World) : Calls Tryd.prog 38 #[.string (str l)] w fun e w' => e = .returned (.bool (decide (Named l))) ∧ Below w.heap.size w w' := by
  have hsz := str_size l
  have HF := Lib.hid hf
  have eN : decide (Named l) = decide (1 ≤ l.length ∧ l.length ≤ 24 ∧ l.all letter = true) := decide_eq_decide.2 (by unfold Named; exact Iff.rfl)
  rw [eN]
  clear eN hf
  have HTR : Hid (1 ≤ l.length → l.length ≤ 24 → Calls Tryd.prog 52 #[.string (str l), .string (str abc)] w fun e w' => ∃ m, e = .returned (.string (str m)) ∧ (m = [] ↔ l.all letter = true) ∧ Below w.heap.size w w') := fun h1 h2 => Trim_any l HF.out (fun e => by rw [e] at h1; simp at h1) (by omega) w
  rw [str_abc] at HTR
  obtain ⟨n, hn⟩ : ∃ n, l.length = n := ⟨_, rfl⟩
  rw [hn] at hsz HTR ⊢
  clear hn
  obtain ⟨T, hT⟩ : ∃ T, str l = T := ⟨_, rfl⟩
  rw [hT] at hsz HTR ⊢
  clear hT
  by_cases h1 : 1 ≤ n
  · have z1 : (1 : Int) ≤ (n : Int) := by omega
    by_cases h2 : n ≤ 24
    · have z2 : (n : Int) ≤ 24 := by omega
      have HC := Lib.hid (HTR.out h1 h2)
      go_enter Tryd.func38, Tryd.ntmps38
      go_wp2_with fail
      refine HC.out.mono ?_
      rintro e w2 ⟨m, rfl, hm, hb2⟩
      have HB := Lib.hid hb2
      have HMM := Lib.hid hm
      clear hb2 hm HC HTR
      by_cases hall : l.all letter = true
      · have hme := HMM.out.2 hall
        have e1 : ((str m).toList == ([] : List UInt8)) = true := by rw [hme, str_toList]; rfl
        have E := Lib.hid (decide_eq_true (p := 1 ≤ n ∧ n ≤ 24 ∧ l.all letter = true) ⟨h1, h2, hall⟩)
        clear hme
        go_wp2
        go_ret
        exact ⟨by rw [E.out]; first | rfl | simp [*], HB.out⟩
      · have hme : m ≠ [] := fun e => hall (HMM.out.1 e)
        have e1 := str_empty hme
        have E := Lib.hid (decide_eq_false (p := 1 ≤ n ∧ n ≤ 24 ∧ l.all letter = true) (fun h => hall h.2.2))
        clear hme
        go_wp2
        go_ret
        exact ⟨by rw [E.out]; first | rfl | simp [*], HB.out⟩
    · have z2 : ¬ (n : Int) ≤ 24 := by omega
      rw [decide_eq_false (fun h => h2 h.2.1)]
      clear HTR
      go_enter Tryd.func38, Tryd.ntmps38
      go_wp2
      go_ret
      exact ⟨by first | rfl | simp [*], Below.refl _ _⟩
  · have z1 : ¬ (1 : Int) ≤ (n : Int) := by omega
    rw [decide_eq_false (fun h => h1 h.1)]
    clear HTR
    go_enter Tryd.func38, Tryd.ntmps38
    go_wp2
    go_ret
    exact ⟨by first | rfl | simp [*], Below.refl _ _⟩
end Go.Proofs.YtfeihdmjcppbaaaDoor
