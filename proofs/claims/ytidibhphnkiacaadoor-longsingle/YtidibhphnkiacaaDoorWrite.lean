/-
  What (*Hash).Write does: the bytes stand behind what was written; nothing of what was there turns but the sum itself.
-/
import Derived.Test.YtidibhphnkiacaaDoorNew
import Derived.WalkMore
namespace Go.Proofs.YtidibhphnkiacaaDoor
open Go.RowKit
set_option linter.unusedVariables false

/-- The slice at A of n bytes reads as l, in memory that is there. -/
def Seg (w : World) (A : Option Addr) (n : Nat) (l : List UInt8) : Prop :=
  l.length = n ∧ (0 < n → ∃ ad, A = some ad ∧ ad.block < w.heap.size ∧ ∀ j v, (cb l)[j]? = some v → w.cell? (ad.add j) = some v)
/-- It does not lie in block g. -/
def Apart (A : Option Addr) (n g : Nat) : Prop := 0 < n → ∀ ad, A = some ad → ad.block ≠ g

theorem block_add (a : Addr) (n : Nat) : (a.add n).block = a.block := by unfold Addr.add; split <;> rfl
theorem add_add (a : Addr) (i j : Nat) : (a.add i).add j = a.add (i + j) := by
  unfold Addr.add
  by_cases hi : i = 0 <;> by_cases hj : j = 0 <;> simp [hi, hj, Nat.add_assoc]
theorem addr_add (b off j : Nat) : (⟨b, off, none⟩ : Addr).add j = ⟨b, off + j, none⟩ := by unfold Addr.add; split <;> simp_all
theorem Seg.grown {w w' : World} {A : Option Addr} {n : Nat} {l : List UInt8} {g : Nat} (h : Seg w A n l) (hb : w.grownBy w' (some g)) (ha : Apart A n g) : Seg w' A n l :=
  ⟨h.1, fun hn => by
    obtain ⟨ad, e, hlt, hc⟩ := h.2 hn
    exact ⟨ad, e, Nat.lt_of_lt_of_le hlt hb.size, fun j v hv => (World.cell?_of_block (hb.block (ad.add j).block (by rw [block_add]; exact hlt) (by rw [block_add]; intro e'; injection e' with e'; exact ha hn ad e e'))).trans (hc j v hv)⟩⟩
theorem Seg.below {w w' : World} {A : Option Addr} {n : Nat} {l : List UInt8} (h : Seg w A n l) (hb : Below w.heap.size w w') : Seg w' A n l :=
  ⟨h.1, fun hn => by
    obtain ⟨ad, e, hlt, hc⟩ := h.2 hn
    exact ⟨ad, e, Nat.lt_of_lt_of_le hlt hb.size, fun j v hv => (hb.cell (p := ad.add j) (by rw [block_add]; exact hlt)).trans (hc j v hv)⟩⟩
theorem Seg.cut {w : World} {A : Option Addr} {n : Nat} {l : List UInt8} (h : Seg w A n l) (k cap : Nat) (hk : k ≤ n) (hc : n ≤ cap) : Seg w (if cap = k then A else A.map (·.add k)) (n - k) (l.drop k) := by
  refine ⟨by rw [List.length_drop, h.1], fun hm => ?_⟩
  obtain ⟨ad, rfl, hlt, hcell⟩ := h.2 (by omega)
  rw [if_neg (by omega)]
  refine ⟨ad.add k, rfl, by rw [block_add]; exact hlt, fun j v hv => ?_⟩
  rw [add_add]
  refine hcell _ v ?_
  rw [← hv]
  simp [cb, List.getElem?_drop]
theorem Apart.cut {A : Option Addr} {n g : Nat} (h : Apart A n g) (k cap : Nat) (hk : k ≤ n) (hc : n ≤ cap) : Apart (if cap = k then A else A.map (·.add k)) (n - k) g := by
  intro hn ad e
  rw [if_neg (by omega)] at e
  rcases A with _ | a
  · cases e
  · have : a.add k = ad := by injection e
    rw [← this, block_add]
    exact h (by omega) a rfl
theorem Seg.head {w : World} {A : Option Addr} {n : Nat} {l : List UInt8} (h : Seg w A n l) (k : Nat) (hk : k ≤ n) (hp : 0 < (cb (l.take k)).length) :
    ∃ ad, A = some ad ∧ ∀ j v, (cb (l.take k))[j]? = some v → w.cell? (ad.add j) = some v := by
  rw [cb_length, List.length_take, h.1] at hp
  obtain ⟨ad, e, _, hc⟩ := h.2 (by omega)
  refine ⟨ad, e, fun j v hv => hc j v ?_⟩
  have : (cb (l.take k)) = (cb l).take k := by simp [cb, List.map_take]
  rw [this] at hv
  rw [List.getElem?_take] at hv
  split at hv
  · exact hv
  · cases hv

theorem run_tail (A : Option Addr) (k cap lo : Nat) (h2 : lo ≤ k) (L : Int) (hL : L = (lo : Int)) (w : World) :
    (Instr.slice 24 (.slice A k cap) (some (.int .i64 L)) none none).run Tryd.prog w = .ok (.slice (if cap = lo then A else A.map (·.add lo)) (k - lo) (cap - lo)) w := by
  subst hL
  obtain ⟨i0, hi0, hz0, hz1, hz2⟩ := info_parts byteInfo
  simp [Instr.slice, run_underlying Tryd.underlying24, Instr.sliceBounds, run_sliceBound, sizeOf, typeInfo, hi0, hz1, h2]

/-- The block behind a copy into rest. -/
theorem splice_HB (st : S8) (rest c : List UInt8) (len : Int) (at_ : Nat) (hr : rest.length = 128) (hc : at_ + c.length ≤ 128) :
    splice (cw st.list ++ (cb rest ++ [.int .u64 len])) (8 + at_) (cb c) = cw st.list ++ (cb (over rest at_ c) ++ [.int .u64 len]) := by
  have h8 : (cw st.list).length = 8 := rfl
  unfold splice over
  rw [List.take_append, h8, List.take_of_length_le (by rw [h8]; omega), show 8 + at_ - 8 = at_ by omega, List.take_append_of_le_length (by rw [cb_length]; omega),
    List.drop_append, h8, List.drop_eq_nil_of_le (by rw [h8]; omega), List.nil_append, cb_length, show 8 + at_ + c.length - 8 = at_ + c.length by omega, List.drop_append_of_le_length (by rw [cb_length]; omega)]
  simp [cb, List.map_take, List.map_drop]

theorem run_cutRest (g at_ : Nat) (h : at_ < 128) (w : World) : (Instr.sliceAt 36 (.pointer (some ⟨g, 8, none⟩)) (some (.int .i64 (at_ : Int))) none none).run Tryd.prog w = .ok (.slice (some ⟨g, 8 + at_, none⟩) (128 - at_) (128 - at_)) w := by
  obtain ⟨i0, hi0, hz0, hz1, hz2⟩ := info_parts byteInfo
  have h1 : ¬ 128 = at_ := by omega
  have hb := run_sliceBound (P := Tryd.prog) (w := w) .i64 (at_ : Int) 128 .sliceB (by omega) (by omega)
  rw [Int.toNat_natCast] at hb
  simp [Instr.sliceAt, Instr.sureAddr, run_underlying Tryd.underlying36, Instr.sliceBounds, hb, sizeOf, typeInfo, hi0, hz1, h1, addr_add]
theorem HB.length {w : World} {g : Nat} {st : S8} {rest : List UInt8} {len : Int} (h : HB w g st rest len) : w.cell? ⟨g, 8 + rest.length, none⟩ = some (.int .u64 len) := by
  have := Blk.cell h (8 + rest.length)
  rw [this, List.getElem?_append_right (by rw [cw_length]; show 8 ≤ _; omega), List.getElem?_append_right (by rw [cw_length, cb_length]; show _ ≤ _ - 8; omega), cw_length, cb_length]
  rw [show 8 + rest.length - st.list.length - rest.length = 0 by show 8 + rest.length - 8 - rest.length = 0; omega]
  rfl
theorem HB.setLen {w : World} {g : Nat} {st : S8} {rest : List UInt8} {len : Int} (h : HB w g st rest len) (hr : rest.length = 128) (n : Int) : HB (w.setCell ⟨g, 136, none⟩ (.int .u64 n)) g st rest n := by
  have := Blk.set_ h 136 (.int .u64 n)
  rw [List.set_append_right _ _ (by rw [cw_length]; show 8 ≤ 136; omega), List.set_append_right _ _ (by rw [cw_length, cb_length, hr]; show 128 ≤ 136 - 8; omega), cw_length, cb_length, hr, show 136 - st.list.length - 128 = 0 by rw [show st.list.length = 8 from rfl], List.set_cons_zero] at this
  exact this

/-- What holds of memory at each turn: m1 is taken, l1 is left. -/
def Left (w : World) (g : Nat) (m l : List UInt8) (A1 : Option Addr) (n1 cap1 at_ : Nat) (w' : World) : Prop :=
  ∃ (m1 l1 : List UInt8) (st1 : S8) (rest1 : List UInt8), m1 ++ l1 = m ++ l ∧ m1.length % 128 = at_ ∧ Took m1 st1 rest1 ∧ HB w' g st1 rest1 ((m.length + l.length : Nat) : Int) ∧ Seg w' A1 n1 l1 ∧ Apart A1 n1 g ∧ n1 ≤ cap1 ∧ n1 ≤ 140737488355328 ∧ Tabs w' ∧ w.grownBy w' (some g)
def lenOfV : Value → Nat
  | .slice _ n _ => n
  | _ => 0
/-- The pure step at a block that is filled. -/
theorem Left.step {w w2 : World} {g : Nat} {m l m1 l1 : List UInt8} {st1 : S8} {rest1 : List UInt8} {A1 : Option Addr} {n1 cap1 k : Nat} (e : m1 ++ l1 = m ++ l) (htk : Took m1 st1 rest1) (hk : m1.length % 128 + k = 128) (hkn : k ≤ n1)
    (hHB : HB w2 g (compress st1 (over rest1 (m1.length % 128) (l1.take k))) (over rest1 (m1.length % 128) (l1.take k)) ((m.length + l.length : Nat) : Int)) (hs : Seg w2 A1 n1 l1) (ha : Apart A1 n1 g) (hc : n1 ≤ cap1) (hcap : n1 ≤ 140737488355328)
    (ht : Tabs w2) (hgr : w.grownBy w2 (some g)) : Left w g m l (if cap1 = k then A1 else A1.map (·.add k)) (n1 - k) (cap1 - k) 0 w2 := by
  have hl : (l1.take k).length = k := by rw [List.length_take, hs.1]; omega
  refine ⟨m1 ++ l1.take k, l1.drop k, _, _, ?_, ?_, htk.full (l1.take k) (by omega), hHB, hs.cut k cap1 hkn hc, ha.cut k cap1 hkn hc, by omega, by omega, ht, hgr⟩
  · rw [List.append_assoc, List.take_append_drop]; exact e
  · rw [List.length_append, hl]; omega

set_option maxHeartbeats 1000000 in
set_option maxRecDepth 100000 in
theorem Write_any (g : Nat) (m l : List UInt8) (A : Option Addr) (n cap : Nat) (w : World) (h : Sums w g m) (hs : Seg w A n l) (ha : Apart A n g) (hc : n ≤ cap) (hcap : n ≤ 140737488355328) (hm : m.length < 1099511627776) (ht : Tabs w) (hg : 1 < g) :
    Calls Tryd.prog 10 #[.pointer (some ⟨g, 0, none⟩), .slice A n cap] w fun e w' => e = .returned (.tuple #[]) ∧ Sums w' g (m ++ l) ∧ w.grownBy w' (some g) := by
  obtain ⟨st, rest, hb, htk⟩ := h
  obtain ⟨M, hM⟩ : ∃ M, M = m.length := ⟨_, rfl⟩
  have c136 := hb.length
  rw [htk.2.1, ← hM] at c136
  have f136 := Blk.frozen hb 136
  have hbnd : M < 1099511627776 := by omega
  have HM := Lib.hid hM
  have HHB := Lib.hid hb
  have HTK := Lib.hid htk
  have HSEG := Lib.hid hs
  have HAP := Lib.hid ha
  have HTB := Lib.hid ht
  clear hM hb htk hs ha ht hm
  have B0 : HB (w.setCell ⟨g, 136, none⟩ (.int .u64 ((M : Int) + n))) g st rest ((M : Int) + n) := HHB.out.setLen HTK.out.2.1 _
  have G0 : w.grownBy (w.setCell ⟨g, 136, none⟩ (.int .u64 ((M : Int) + n))) (some g) := only_setCell (World.grownBy.refl w _) (.inl rfl) _
  have S0 := HSEG.out.grown G0 HAP.out
  have T0 := HTB.out.grown G0 (by intro j hj; injection hj; omega)
  have L0 : Left w g m l A n cap (M % 128) (w.setCell ⟨g, 136, none⟩ (.int .u64 ((M : Int) + n))) := by
    refine ⟨m, l, st, rest, rfl, by rw [HM.out], HTK.out, ?_, S0, HAP.out, hc, hcap, T0, G0⟩
    rw [show ((m.length + l.length : Nat) : Int) = (M : Int) + n by rw [HM.out, HSEG.out.1]; omega]
    exact B0
  have HL0 := Lib.hid L0
  clear B0 G0 S0 T0 L0
  go_enter Tryd.func10, Tryd.ntmps10
  go_wp2
  go_loopw [1, 4] (fun v i wr => ∃ (A1 : Option Addr) (n1 cap1 at_ : Nat), at_ < 128 ∧ v = .slice A1 n1 cap1 ∧ i = .int .i64 (at_ : Int) ∧ Left w g m l A1 n1 cap1 at_ wr) (fun v _ _ => lenOfV v)
  case atStart => exact ⟨A, n, cap, M % 128, by omega, rfl, by rw [show (((M % 128 : Nat)) : Int) = (M : Int) % 128 by omega], HL0.out⟩
  case round =>
    obtain ⟨A1, n1, cap1, at_, hat, rfl, rfl, m1, l1, st1, rest1, he, hm64, htk1, hb1, hs1, ha1, hc1, hcap1, ht1, hgr1⟩ := hrel
    have hsl := run_cutRest g at_ hat
    have HE := Lib.hid he
    have HM64 := Lib.hid hm64
    have HTK1 := Lib.hid htk1
    have HB1 := Lib.hid hb1
    have HS1 := Lib.hid hs1
    have HT1 := Lib.hid ht1
    clear he hm64 htk1 hb1 hs1 ht1 HL0 c136 f136 HHB HTK HSEG HAP HTB
    by_cases hfull : 128 ≤ at_ + n1
    · obtain ⟨k0, hk0⟩ : ∃ k, k = 128 - at_ := ⟨_, rfl⟩
      obtain ⟨C, hC⟩ : ∃ C, C = cb (l1.take k0) := ⟨_, rfl⟩
      have hCl : C.length = k0 := by rw [hC, cb_length, List.length_take, HS1.out.1]; omega
      have htl := run_tail A1 n1 cap1 k0 (by omega) (k0 : Int) rfl
      obtain ⟨A2, hA2⟩ : ∃ A2, A2 = (if cap1 = k0 then A1 else A1.map (·.add k0)) := ⟨_, rfl⟩
      obtain ⟨n2, hn2⟩ : ∃ n2, n2 = n1 - k0 := ⟨_, rfl⟩
      obtain ⟨cap2, hcap2⟩ : ∃ c, c = cap1 - k0 := ⟨_, rfl⟩
      rw [← hA2, ← hn2, ← hcap2] at htl
      rw [← hk0] at hsl
      have hd : decide (128 ≤ (at_ : Int) + n1) = true := by simp; omega
      have HK0 := Lib.hid hk0
      have HC := Lib.hid hC
      have HA2 := Lib.hid hA2
      have HN2 := Lib.hid hn2
      have HCAP2 := Lib.hid hcap2
      clear hk0 hC hA2 hn2 hcap2
      go_wp2_with (first
        | ((with_reducible refine at_dst (some 33) ?_); refine wpList_copy_abs (o := ⟨some 33, _, _, _, _, _⟩) rfl (.tmp 31) (.tmp 32) 24 24 rfl 5 Tryd.underlying24 byteSize _ _ _ _ _ _ rfl rfl g (8 + at_) _ 38 HB1.out C ?d1 ?d2 ?d3 ?d4 (fun w1 hb1 hg1 => ?_)))
      case d1 => rw [hCl]; have := HK0.out; show k0 = min n1 k0; omega
      case d2 =>
        intro hp
        have hp2 : 0 < (cb (l1.take k0)).length := by rw [← HC.out, hCl]; exact hp
        rw [HC.out]
        exact HS1.out.head k0 (by have := HK0.out; omega) hp2
      case d3 => rw [hCl]; have := HK0.out; rw [List.length_append, List.length_append, cw_length, cb_length, HTK1.out.2.1]; show 8 + at_ + k0 ≤ 8 + (128 + 1); omega
      case d4 => rw [HC.out]; exact cb_one _
      have B1 : HB w1 g st1 (over rest1 at_ (l1.take k0)) ((m.length + l.length : Nat) : Int) := by
        have := hb1.out
        rw [HC.out, splice_HB st1 rest1 (l1.take k0) _ at_ HTK1.out.2.1 (by rw [List.length_take, HS1.out.1]; have := HK0.out; omega)] at this
        exact this
      have R1 : (over rest1 at_ (l1.take k0)).length = 128 := by rw [over_length _ _ _ (by rw [List.length_take, HS1.out.1, HTK1.out.2.1]; have := HK0.out; omega)]; exact HTK1.out.2.1
      have T1 := HT1.out.grown hg1 (by intro j hj; injection hj; omega)
      refine (take_any g st1 _ _ w1 B1 R1 T1 hg).mono ?_
      rintro e w2 ⟨rfl, hHB, hg2⟩
      have G2 : w.grownBy w2 (some g) := only_then (only_then hgr1 hg1 (fun j hj => .inl (by injection hj with hj; exact hj.symm))) hg2 (fun j hj => .inl (by injection hj with hj; exact hj.symm))
      have S2 := (HS1.out.grown hg1 ha1).grown hg2 ha1
      have T2 := T1.grown hg2 (by intro j hj; injection hj; omega)
      have LL : Left w g m l A2 n2 cap2 0 w2 := by
        rw [HA2.out, HN2.out, HCAP2.out]
        rw [← HM64.out] at hHB
        have hk := HK0.out
        rw [← HM64.out] at hk
        exact Left.step HE.out HTK1.out (by have := HM64.out; omega) (by have := HK0.out; omega) hHB S2 ha1 hc1 hcap1 T2 G2
      have HLL := Lib.hid LL
      clear B1 R1 T1 hHB hg2 G2 S2 T2 LL hb1 hg1
      go_wp2
      go_roundw
      case rel => exact ⟨A2, n2, cap2, 0, by omega, rfl, rfl, HLL.out⟩
      case measure => have := HN2.out; have := HK0.out; simp [lenOfV]; omega
    · obtain ⟨C, hC⟩ : ∃ C, C = cb l1 := ⟨_, rfl⟩
      have hCl : C.length = n1 := by rw [hC, cb_length, HS1.out.1]
      have hd : decide (128 ≤ (at_ : Int) + n1) = false := by simp; omega
      have HC := Lib.hid hC
      clear hC
      go_wp2_with (first
        | ((with_reducible refine at_dst (some 45) ?_); refine wpList_copy_abs (o := ⟨some 45, _, _, _, _, _⟩) rfl (.tmp 43) (.tmp 44) 24 24 rfl 5 Tryd.underlying24 byteSize _ _ _ _ _ _ rfl rfl g (8 + at_) _ 38 HB1.out C ?e1 ?e2 ?e3 ?e4 (fun w1 hb1 hg1 => ?_)))
      case e1 => rw [hCl]; show n1 = min n1 (128 - at_); omega
      case e2 =>
        intro hp
        rw [HC.out]
        obtain ⟨ad, e, _, hcl⟩ := HS1.out.2 (by omega)
        exact ⟨ad, e, hcl⟩
      case e3 => rw [hCl, List.length_append, List.length_append, cw_length, cb_length, HTK1.out.2.1]; show 8 + at_ + n1 ≤ 8 + (128 + 1); omega
      case e4 => rw [HC.out]; exact cb_one _
      go_end0
      refine ⟨rfl, ?_, only_then hgr1 hg1 (fun j hj => .inl (by injection hj with hj; exact hj.symm))⟩
      have hl1 := HS1.out.1
      have hq := HTK1.out.some l1 (by rw [HM64.out]; omega)
      have hz := hb1.out
      have e := splice_HB st1 rest1 l1 ((m.length + l.length : Nat) : Int) at_ HTK1.out.2.1 (by omega)
      rw [HC.out, e] at hz
      rw [HM64.out, HE.out] at hq
      exact ⟨st1, _, by rw [List.length_append]; exact hz, hq⟩
end Go.Proofs.YtidibhphnkiacaaDoor
