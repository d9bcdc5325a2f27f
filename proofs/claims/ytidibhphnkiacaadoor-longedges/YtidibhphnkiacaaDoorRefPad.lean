/-
  What the document's own padded answers: a text with what follows it (texts of fewer than 100000 bytes).
-/
import Derived.Test.YtidibhphnkiacaaDoorApp
namespace Go.Proofs.YtidibhphnkiacaaDoor
open Go.RowKit
set_option linter.unusedVariables false

/-- The text when k noughts stand behind the mark; when k bytes of the length do. -/
def padZ (l : List UInt8) (k : Nat) : List UInt8 := l ++ 128 :: List.replicate k 0
def padL (l : List UInt8) (k : Nat) : List UInt8 := padZ l (noughts l.length + 8) ++ (be64 (8 * l.length)).take k
theorem padZ_snoc (l : List UInt8) (k : Nat) : padZ l k ++ [0] = padZ l (k + 1) := by
  simp [padZ, List.replicate_succ', List.append_assoc]
theorem padL_all (l : List UInt8) : padL l 8 = padded l := by
  unfold padL padZ padded padOf
  rw [List.take_of_length_le (by rw [be64_length]; omega), ← List.replicate_append_replicate]
  simp
theorem be64_get (n i : Nat) (h : i < 8) : (be64 n)[i]? = some (UInt8.ofNat (n / 2 ^ (8 * (7 - i)))) := by
  simp [be64, h]
theorem padL_snoc (l : List UInt8) (k : Nat) (hk : k < 8) : padL l k ++ [UInt8.ofNat (8 * l.length / 2 ^ (8 * (7 - k)))] = padL l (k + 1) := by
  unfold padL
  rw [List.append_assoc, List.take_add_one, be64_get _ _ hk]
  rfl
theorem padZ_length (l : List UInt8) (k : Nat) : (padZ l k).length = l.length + 1 + k := by simp [padZ]; omega
theorem ub_len (n k : Nat) : ((n : Int) * 8 / 2 ^ k) % 256 = ub (UInt8.ofNat (8 * n / 2 ^ k)) := by
  have := ub_nat (8 * n) k
  rw [← this, show ((8 * n : Nat) : Int) = (n : Int) * 8 by omega]

theorem noughts_more (n k : Nat) (h : k < noughts n) : ((n + 1 + k : Nat) : Int) % 128 ≠ 112 := by unfold noughts at h; omega
theorem noughts_done (n k : Nat) (h : k = noughts n) : ((n + 1 + k : Nat) : Int) % 128 = 112 := by unfold noughts at h; omega

set_option maxHeartbeats 1000000 in
theorem padded_any (A : Option Addr) (n cap : Nat) (l : List UInt8) (w : World) (hs : Seg w A n l) (hA : A = none → cap = 0) (hn : n < 100000) :
    Calls Tryd.prog 15 #[.slice A n cap] w fun e w' => ∃ A' N cap', e = .returned (.slice A' N cap') ∧ Row w' w.heap.size 5 A' N cap' (cb (padded l)) ∧ Below w.heap.size w w' := by
  obtain ⟨i0, hi0, hz0, hz1, hz2⟩ := info_parts byteInfo
  have HI := Lib.hid hi0
  have HZ0 := Lib.hid hz0
  have HZ1 := Lib.hid hz1
  have HZ2 := Lib.hid hz2
  have HS := Lib.hid hs
  have HA := Lib.hid hA
  clear hs hi0 hz0 hz1 hz2 hA
  have hsrc : (A = none ∧ cap = 0) ∨ ∃ ad, A = some ad ∧ ∀ j u, (cb l)[j]? = some u → (w.alloc (.cells #[] 5)).cell? (ad.add j) = some u := by
    rcases A with _ | ad
    · exact .inl ⟨rfl, HA.out rfl⟩
    · refine .inr ⟨ad, rfl, fun j u hu => ?_⟩
      have hj := (List.getElem?_eq_some_iff.1 hu).1
      rw [cb_length, HS.out.1] at hj
      obtain ⟨ad', e, hlt, hc⟩ := HS.out.2 (by omega)
      injection e with e
      subst e
      rw [World.cell?_alloc_lt _ _ _ (by rw [block_add]; exact hlt)]
      exact hc j u hu
  have hm0 : A = none → n = 0 := by
    intro e
    rcases Nat.eq_zero_or_pos n with h0 | h0
    · exact h0
    · obtain ⟨ad, e', _⟩ := HS.out.2 h0
      rw [e] at e'
      cases e'
  have hlen : (cb l).length = n := by rw [cb_length]; exact HS.out.1
  have HSRC := Lib.hid hsrc
  have HM0 := Lib.hid hm0
  have HLEN := Lib.hid hlen
  have R0 : Row (w.alloc (.cells #[] 5)) w.heap.size 5 (some ⟨w.heap.size, 0, none⟩) 0 0 [] := Row.lit w 5 [] w.heap.size (Nat.le_refl _) (by simp)
  have HR0 := Lib.hid R0
  have b0 : Below w.heap.size w (w.alloc (.cells #[] 5)) := (Below.refl _ _).alloc (Nat.le_refl _) _
  have HB0 := Lib.hid b0
  obtain ⟨N1, hN1⟩ : ∃ N1, n + 1 = N1 := ⟨_, rfl⟩
  have HN1 := Lib.hid hN1
  have bn1 : N1 ≤ 100000 := by omega
  have bn2 : 1 ≤ N1 := by omega
  clear hsrc hm0 hlen R0 b0 hN1
  go_enter Tryd.func15, Tryd.ntmps15
  go_wp2_with (first
    | ((with_reducible refine at_dst (some 9) ?_); refine wpList_app (o := ⟨some 9, _, _, _, _, _⟩) rfl (.tmp 7) (.tmp 8) 24 5 rfl Tryd.underlying24 HI.out HZ0.out HZ1.out HZ2.out rfl (by omega) HB0.out (by simp) rfl HR0.out rfl HLEN.out HSRC.out (cb_one l) HM0.out (by omega) n (Nat.zero_add n) ?_; intro A1 cap1 w1 hr1 hb1 hB1)
    | ((with_reducible refine at_dst (some 12) ?_); refine wpList_appByte (o := ⟨some 12, _, _, _, _, _⟩) rfl (.tmp 10) (.tmp 11) rfl hb1 hB1 (l := l) 128 128 rfl rfl hr1.out rfl (by omega) N1 HN1.out ?_; intro A2 cap2 w2 hr2 hb2 hB2))
  have hq := noughts_lt n
  obtain ⟨q, hqe⟩ : ∃ q, q = noughts n := ⟨_, rfl⟩
  rw [← hqe] at hq
  have HQ := Lib.hid hqe
  have R2 : Row w2 w.heap.size 5 A2 N1 cap2 (cb (padZ l 0)) := hr2.out
  have HR2 := Lib.hid R2
  clear hqe R2 hr2 hr1 hb1 hB1 HR0 HB0 HSRC HM0 HLEN
  go_loopw [3] (fun v wr => ∃ (k : Nat) (A3 : Option Addr) (M cap3 : Nat), k ≤ q ∧ M = N1 + k ∧ v = .slice A3 M cap3 ∧ Row wr w.heap.size 5 A3 M cap3 (cb (padZ l k)) ∧ Below w.heap.size w wr ∧ w.heap.size ≤ wr.heap.size) (fun v _ => N1 + 128 - lenOfV v)
  case atStart => exact ⟨0, A2, N1, cap2, by omega, rfl, rfl, HR2.out, hb2, hB2⟩
  case round =>
    obtain ⟨k, A3, M, cap3, hk, hM, rfl, hr3, hb3, hB3⟩ := hrel
    have HR3 := Lib.hid hr3
    have HM := Lib.hid hM
    have bm : M ≤ 200000 := by omega
    by_cases hkq : k < q
    · have hd : (((M : Int) % 128) != 112) = true := by
        have := noughts_more n k (by rw [← HQ.out]; exact hkq)
        rw [show n + 1 + k = M by have := HN1.out; omega] at this
        simpa using this
      obtain ⟨M2, hM2⟩ : ∃ M2, M + 1 = M2 := ⟨_, rfl⟩
      have HM2 := Lib.hid hM2
      clear hr3 hM hM2
      go_wp2_with (first
        | ((with_reducible refine at_dst (some 19) ?_); refine wpList_appByte (o := ⟨some 19, _, _, _, _, _⟩) rfl (.tmp 17) (.tmp 18) rfl hb3 hB3 (l := padZ l k) 0 0 rfl rfl HR3.out rfl (by omega) M2 HM2.out ?_; intro A4 cap4 w4 hr4 hb4 hB4))
      go_roundw
      case rel =>
        refine ⟨k + 1, A4, M2, cap4, by omega, by have := HM.out; have := HM2.out; omega, rfl, ?_, hb4, hB4⟩
        rw [← padZ_snoc]; exact hr4.out
      case measure => have := HM.out; have := HM2.out; simp [lenOfV]; omega
    · have hd : (((M : Int) % 128) != 112) = false := by
        have := noughts_done n k (by rw [← HQ.out]; omega)
        rw [show n + 1 + k = M by have := HN1.out; omega] at this
        simpa using this
      have R5 : Row wr w.heap.size 5 A3 M cap3 (cb (padZ l (noughts l.length + 0))) := by
        have := HR3.out
        rw [show k = noughts l.length by rw [HS.out.1, ← HQ.out]; omega] at this
        exact this
      have HR5 := Lib.hid R5
      clear hr3 hM R5
      go_wp2
      rename World => w5
      go_loopw [4, 3] (fun i v wr => ∃ (j : Nat) (A6 : Option Addr) (M6 cap6 : Nat), j ≤ 8 ∧ M6 = M + j ∧ i = .int .i64 (j : Int) ∧ v = .slice A6 M6 cap6 ∧ Row wr w.heap.size 5 A6 M6 cap6 (cb (padZ l (noughts l.length + j))) ∧ Below w.heap.size w wr ∧ w.heap.size ≤ wr.heap.size) (fun i _ _ => 8 - (intOf i).toNat)
      case atStart => exact ⟨0, A3, M, cap3, by omega, rfl, rfl, rfl, HR5.out, hb3, hB3⟩
      case round =>
       obtain ⟨j0, A3, M3, cap3, hj0, hM3, rfl, rfl, hr30, hb3, hB3⟩ := hrel
       have HR30 := Lib.hid hr30
       have HM3 := Lib.hid hM3
       have bm3 : M3 ≤ 210000 := by omega
       clear hr30 hM3
       by_cases hj08 : j0 < 8
       · obtain ⟨M7, hM7⟩ : ∃ M7, M3 + 1 = M7 := ⟨_, rfl⟩
         have HM7 := Lib.hid hM7
         clear hM7 HR5 HR3
         go_wp2_with (first
           | ((with_reducible refine at_dst (some 26) ?_); refine wpList_appByte (o := ⟨some 26, _, _, _, _, _⟩) rfl (.tmp 24) (.tmp 25) rfl hb3 hB3 (l := padZ l (noughts l.length + j0)) 0 0 rfl rfl HR30.out rfl (by omega) M7 HM7.out ?_; intro A4 cap4 w4 hr4 hb4 hB4))
         go_roundw
         case rel =>
           refine ⟨j0 + 1, A4, M7, cap4, by omega, by have := HM3.out; have := HM7.out; omega, by go_num, rfl, ?_, hb4, hB4⟩
           rw [← Nat.add_assoc, ← padZ_snoc]; exact hr4.out
         case measure => simp [intOf]; omega
       · have R6 : Row wr w.heap.size 5 A3 M3 cap3 (cb (padL l 0)) := by
           have := HR30.out
           rw [show j0 = 8 by omega] at this
           unfold padL
           rw [List.take_zero, List.append_nil]
           exact this
         have HR5 := Lib.hid R6
         clear R6
         go_wp2
         rename World => w6
         go_loopw [6, 3] (fun i v wr => ∃ (j : Nat) (A6 : Option Addr) (M6 cap6 : Nat), j ≤ 8 ∧ M6 + j = M3 + 8 ∧ i = .int .i64 ((j : Int) - 1) ∧ v = .slice A6 M6 cap6 ∧ Row wr w.heap.size 5 A6 M6 cap6 (cb (padL l (8 - j))) ∧ Below w.heap.size w wr ∧ w.heap.size ≤ wr.heap.size) (fun i _ _ => (intOf i + 1).toNat)
         case atStart => exact ⟨8, A3, M3, cap3, by omega, by omega, rfl, rfl, HR5.out, hb3, hB3⟩
         case round =>
           obtain ⟨j, A6, M6, cap6, hj, hM6, hi, rfl, hr6, hb6, hB6⟩ := hrel
           have HR6 := Lib.hid hr6
           have HM6 := Lib.hid hM6
           have bm6 : M6 ≤ 300000 := by omega
           clear hr6 hM6
           rcases j with _ | j
           · subst hi
             go_wp2
             go_ret
             refine ⟨A6, M6, cap6, rfl, ?_, hb6⟩
             have := HR6.out
             rw [show 8 - 0 = 8 from rfl, padL_all] at this
             exact this
           · have ej : ((j + 1 : Nat) : Int) - 1 = (j : Int) := by omega
             rw [ej] at hi
             subst hi
             clear ej
             obtain ⟨M7, hM7⟩ : ∃ M7, M6 + 1 = M7 := ⟨_, rfl⟩
             have HM7 := Lib.hid hM7
             clear hM7
             have hy : (n : Int) * 8 / 2 ^ (8 * j) % 256 = ub (UInt8.ofNat (8 * l.length / 2 ^ (8 * (7 - (8 - (j + 1)))))) := by
               rw [show 7 - (8 - (j + 1)) = j by omega, HS.out.1]
               exact ub_len n (8 * j)
             have HY := Lib.hid hy
             clear hy
             go_wp2_with (first
               | ((with_reducible refine at_dst (some 42) ?_); refine wpList_appByte (o := ⟨some 42, _, _, _, _, _⟩) rfl (.tmp 35) (.tmp 41) rfl hb6 hB6 (l := padL l (8 - (j + 1))) _ _ HY.out rfl HR6.out rfl (by omega) M7 HM7.out ?_; intro A8 cap8 w8 hr8 hb8 hB8))
             go_roundw
             case rel =>
               refine ⟨j, A8, M7, cap8, by omega, by have := HM6.out; have := HM7.out; omega, rfl, rfl, ?_, hb8, hB8⟩
               rw [show 8 - j = 8 - (j + 1) + 1 by omega, ← padL_snoc l _ (by omega)]
               exact hr8.out
             case measure => simp [intOf]
end Go.Proofs.YtidibhphnkiacaaDoor
