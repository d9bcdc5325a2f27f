/-
  What the statements' own bytes answers: a tail's bytes. No condition but that the tail is right.
-/
import Derived.Test.YthepbadecpnepaaAp
namespace Go.Proofs.Ythepbadecpnepaa
open Go.RowKit
set_option linter.unusedVariables false
set_option linter.unusedSimpArgs false
set_option maxRecDepth 100000

/-- An answer: bytes in a row of its own. -/
def GivesRow (w : World) (N : Nat) (l : List Nat) (e : Ending) (w' : World) : Prop := ∃ A c, e = .returned (.slice A N c) ∧ Row w' w.heap.size 5 A N c (cn .u8 l) ∧ Below w.heap.size w w'
/-- What is known of the row under way. -/
def Und (W w : World) (A : Option Addr) (i k c : Nat) (l : List Nat) : Prop := Below W.heap.size W w ∧ (i = 0 ∧ k = c ∧ Rd .u8 w A k l ∨ Row w W.heap.size 5 A k c (cn .u8 l))
theorem Und.next {W w w' : World} {A : Option Addr} {i k c : Nat} {l : List Nat} (h : Und W w A i k c l) (hb : Below w.heap.size w w') : Und W w' A i k c l :=
  ⟨h.1.trans (hb.mono h.1.size), h.2.elim (fun ⟨a, b, d⟩ => .inl ⟨a, b, d.below hb⟩) (fun r => .inr (r.below hb))⟩
/-- A number more. -/
theorem wpList_und {ops : Array Oper} {rest : List Oper} {o : Oper} {a : Act} {w W : World} {Q : Exit → Act → World → Prop} (hgd : o.guard = none) (s x : Operand) (ho : o.op = .call { callee := .builtin .append, args := #[s, x], argTypes := #[25, 25] })
    {A : Option Addr} {i k c : Nat} {l : List Nat} (h : Und W w A i k c l) (hk0 : 0 < k) (hk : k ≤ 100) (hs : a.eval s = .slice A k c) {g : Nat} {l2 : List Nat} (hx : a.eval x = .slice (some ⟨g, 0, none⟩) 8 8) (hg : Blk w g 5 (cn .u8 l2)) (hl : l2.length = 8) (N : Nat) (hN : k + 8 = N)
    (hq : ∀ A' c' w', Hid (Und W w' A' (i + 1) N c' (l ++ l2)) → wpList Try.prog ops Q rest (a.put o.dst (.slice A' N c')) w') : wpList Try.prog ops Q (o :: rest) a w := by
  obtain ⟨hb, h | h⟩ := h
  · obtain ⟨rfl, rfl, hr⟩ := h
    exact wpList_full hgd s x ho hr hk0 hs hx (hg.rd 8 hl) (by omega) (by omega) N hN hb (fun c' w' hR hb' _ => hq _ c' w' ⟨hb', .inr hR.out⟩)
  · obtain ⟨i0, hi, hz0, hz1, hz2⟩ := info_parts byteInfo
    exact wpList_app hgd s x 25 5 ho Try.underlying25 hi hz0 hz1 hz2 rfl (by omega) hb hb.size hs h hx (news := cn .u8 l2) (by rw [cn_length, hl]) (.inr ⟨_, rfl, fun j u hu => by rw [addr_add, Nat.zero_add, hg.cell]; exact hu⟩) (cn_one .u8 l2) (fun e => by cases e) (by omega) N hN (fun A' c' w' hR hb' _ => hq A' c' w' ⟨hb', .inr (by have := hR.out; rw [cn_append]; exact this)⟩)
/-- A number of three. -/
theorem run_index3 (a b c : Nat) (j y : Nat) (hj : j < 3) (hy : nsel a b c j = y) (w : World) : (Instr.index 67 (.agg #[.int .i64 (a : Int), .int .i64 (b : Int), .int .i64 (c : Int)]) (.int .i64 (j : Int))).run Try.prog w = .ok (.int .i64 (y : Int)) w := by
  subst hy
  obtain ⟨i, hi, hz0, hz1, hz2⟩ := info_parts intInfo
  have hag : (isAgg 3).run Try.prog w = .ok false w := by
    unfold isAgg
    rw [Sem.run_bind, run_underlying Try.underlying3 w]
    rfl
  rcases (by omega : j = 0 ∨ j = 1 ∨ j = 2) with rfl | rfl | rfl <;>
    simp [Instr.index, asIntOf, run_underlying Try.underlying67, sizeOf, typeInfo, hi, hz1, Go.part, hag, nsel]
set_option maxHeartbeats 4000000 in
theorem lbytes_any (a b c : Nat) (w : World) (h : TOk a b c) : Calls Try.prog 14 #[TV a b c] w (GivesRow w 64 (tbytes a b c)) := by
  have hb := tbox a b c w
  have hk := Blk.new w 23 (tcells a b c)
  have HNS : Hid (∀ i, nsel a b c i ≤ 9223372036854775807) := fun i => by
    unfold TOk at h
    unfold nsel
    split <;> omega
  clear h
  obtain ⟨W0, hW0⟩ : ∃ W0, w.alloc (.cells #[.int .i64 (a : Int), .int .i64 (b : Int), .int .i64 (c : Int)] 23) = W0 := ⟨_, rfl⟩
  have hk2 : Blk W0 w.heap.size 23 (tcells a b c) := by rw [← hW0]; exact hk
  rw [hW0] at hb
  have kc := fun (w : World) (C : Array Value) (n c : Nat) => Lib.run_convert_bytes_const (P := Try.prog) w 25 5 C n c Try.underlying25 Try.underlying5
  have hb0 : Below W0.heap.size W0 (W0.alloc (.cells #[.int .u8 65, .int .u8 86, .int .u8 66, .int .u8 102, .int .u8 0, .int .u8 0, .int .u8 0, .int .u8 1] 5 (8, 9))) := (Below.refl _ _).alloc (Nat.le_refl _) _
  have hr0 : Rd .u8 (W0.alloc (.cells #[.int .u8 65, .int .u8 86, .int .u8 66, .int .u8 102, .int .u8 0, .int .u8 0, .int .u8 0, .int .u8 1] 5 (8, 9))) (some ⟨W0.heap.size, 0, none⟩) 8 thead := rd_alloc13 W0 thead (8, 9) _ rfl 8 rfl
  obtain ⟨W, hW⟩ : ∃ W, W0.alloc (.cells #[.int .u8 65, .int .u8 86, .int .u8 66, .int .u8 102, .int .u8 0, .int .u8 0, .int .u8 0, .int .u8 1] 5 (8, 9)) = W := ⟨_, rfl⟩
  rw [hW] at hb0 hr0
  have H0 : Hid (Below w.heap.size w W ∧ Rd .u8 W (some ⟨W0.heap.size, 0, none⟩) 8 thead ∧ Blk W w.heap.size 23 (tcells a b c)) := ⟨hb.trans (hb0.mono hb.size), hr0, hk2.below hb0 hk2.lt⟩
  have n0 : W.cell? ⟨w.heap.size, 0, none⟩ = some (.int .i64 (a : Nat)) := H0.out.2.2.cell 0
  have n1 : W.cell? ⟨w.heap.size, 1, none⟩ = some (.int .i64 (b : Nat)) := H0.out.2.2.cell 1
  have n2 : W.cell? ⟨w.heap.size, 2, none⟩ = some (.int .i64 (c : Nat)) := H0.out.2.2.cell 2
  clear hk hk2 hb hb0 hr0
  go_enter Try.func14, Try.ntmps14
  (try rw [hW0])
  go_wp2_with fail
  clear kc
  (try rw [hW])
  go_loopw [3, 15] (fun v q wr => ∃ i : Nat, i ≤ 3 ∧ q = .int .i64 (i : Int) ∧ ∃ A k cap, v = .slice A k cap ∧ k ≤ 32 ∧ Hid (k = 8 + 8 * i) ∧ Hid (Und w wr A i k cap (eTo a b c i))) (fun _ q _ => 3 - (intOf q).toNat)
  case atStart => exact ⟨0, by omega, rfl, _, 8, 8, rfl, by omega, rfl, H0.out.1, .inl ⟨rfl, rfl, H0.out.2.1⟩⟩
  case round =>
    obtain ⟨i, hi, rfl, A, k, cap, rfl, hk32, HK, HU⟩ := hrel
    by_cases hin : i < 3
    · have hin2 : (i : Int) < 3 := by omega
      have HTO : Hid (eTo a b c (i + 1) = eTo a b c i ++ be 8 (nsel a b c i)) := rfl
      obtain ⟨v, hv⟩ : ∃ v, nsel a b c i = v := ⟨_, rfl⟩
      have hv4 := HNS.out i
      rw [hv] at hv4 HTO
      have HPN := Lib.hid (Number_any v 8 wr (v : Int) 8 rfl rfl (by omega) (by omega) hv4)
      have HKS : Hid (0 < k) := by show 0 < k; rw [HK.out]; omega
      have HX := fun w => run_index3 a b c i v hin hv w
      rcases (by omega : i = 0 ∨ i = 1 ∨ i = 2) with rfl | rfl | rfl
      · obtain rfl : a = v := hv
        clear hv4
        have hx : ∀ w, (Instr.index 67 (.agg #[.int .i64 (a : Int), .int .i64 (b : Int), .int .i64 (c : Int)]) (.int .i64 0)).run Try.prog w = .ok (.int .i64 (a : Int)) w := HX
        clear HX
        go_wp2_with fail
        clear hx
        refine HPN.out.mono ?_
        rintro e w4 ⟨g, rfl, hg, hB4, hb4⟩
        have HU4 := Lib.hid (HU.out.next hb4)
        have HB4 := Lib.hid hB4
        clear hg hB4 hb4
        go_wp2_with ((with_reducible refine at_dst (some 21) ?_); refine wpList_und (o := ⟨some 21, _, _, _, _, _⟩) rfl (.tmp 18) (.tmp 20) rfl HU4.out HKS.out (by omega) rfl rfl HB4.out (be_length _ _) (k + 8) rfl ?_; intro A' c' w5 HU5)
        go_roundw
        case rel =>
          have hk := HK.out
          refine ⟨1, by omega, by go_num, _, _, _, rfl, by omega, by show _ = _; omega, ?_⟩
          rw [HTO.out]
          exact HU5.out
        case measure => simp [intOf]
      · obtain rfl : b = v := hv
        clear hv4
        have hx : ∀ w, (Instr.index 67 (.agg #[.int .i64 (a : Int), .int .i64 (b : Int), .int .i64 (c : Int)]) (.int .i64 1)).run Try.prog w = .ok (.int .i64 (b : Int)) w := HX
        clear HX
        go_wp2_with fail
        clear hx
        refine HPN.out.mono ?_
        rintro e w4 ⟨g, rfl, hg, hB4, hb4⟩
        have HU4 := Lib.hid (HU.out.next hb4)
        have HB4 := Lib.hid hB4
        clear hg hB4 hb4
        go_wp2_with ((with_reducible refine at_dst (some 21) ?_); refine wpList_und (o := ⟨some 21, _, _, _, _, _⟩) rfl (.tmp 18) (.tmp 20) rfl HU4.out HKS.out (by omega) rfl rfl HB4.out (be_length _ _) (k + 8) rfl ?_; intro A' c' w5 HU5)
        go_roundw
        case rel =>
          have hk := HK.out
          refine ⟨2, by omega, by go_num, _, _, _, rfl, by omega, by show _ = _; omega, ?_⟩
          rw [HTO.out]
          exact HU5.out
        case measure => simp [intOf]
      · obtain rfl : c = v := hv
        clear hv4
        have hx : ∀ w, (Instr.index 67 (.agg #[.int .i64 (a : Int), .int .i64 (b : Int), .int .i64 (c : Int)]) (.int .i64 2)).run Try.prog w = .ok (.int .i64 (c : Int)) w := HX
        clear HX
        go_wp2_with fail
        clear hx
        refine HPN.out.mono ?_
        rintro e w4 ⟨g, rfl, hg, hB4, hb4⟩
        have HU4 := Lib.hid (HU.out.next hb4)
        have HB4 := Lib.hid hB4
        clear hg hB4 hb4
        go_wp2_with ((with_reducible refine at_dst (some 21) ?_); refine wpList_und (o := ⟨some 21, _, _, _, _, _⟩) rfl (.tmp 18) (.tmp 20) rfl HU4.out HKS.out (by omega) rfl rfl HB4.out (be_length _ _) (k + 8) rfl ?_; intro A' c' w5 HU5)
        go_roundw
        case rel =>
          have hk := HK.out
          refine ⟨3, by omega, by go_num, _, _, _, rfl, by omega, by show _ = _; omega, ?_⟩
          rw [HTO.out]
          exact HU5.out
        case measure => simp [intOf]
    · obtain rfl : i = 3 := by omega
      obtain rfl : k = 32 := HK.out
      have hrow : Row wr w.heap.size 5 A 32 cap (cn .u8 (eTo a b c 3)) := HU.out.2.elim (fun h => by cases h.1) id
      obtain ⟨A4, c4, w4, hrun, hrow4, hb4⟩ := app_make wr w.heap.size 32 cap 32 64 A (eTo a b c 3) hrow (by omega) (by omega) HU.out.1.size
      rw [eTo_all] at hrow4
      have HF : Hid (Row w4 w.heap.size 5 A4 64 c4 (cn .u8 (tbytes a b c)) ∧ Below w.heap.size w w4) := ⟨hrow4, HU.out.1.trans hb4⟩
      have HRUN := Lib.hid hrun
      clear hrow hrun hrow4 hb4
      go_wp2_with ((with_reducible refine at_dst (some 24) ?_); refine wpList_appMake (o := ⟨some 24, _, _, _, _, _⟩) rfl (.tmp 23) (.const (.int .i64 32)) rfl rfl _ _ rfl rfl HRUN.out ?_)
      go_ret
      exact ⟨A4, c4, rfl, HF.out⟩
end Go.Proofs.Ythepbadecpnepaa
