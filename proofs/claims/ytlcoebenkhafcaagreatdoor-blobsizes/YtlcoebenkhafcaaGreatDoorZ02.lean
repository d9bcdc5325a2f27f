/-
  The program's bits, bytes and orders of numbers in limbs.
-/
import Derived.Test.YtlcoebenkhafcaaGreatDoorZ01
import Derived.RangeFuncNested
import Derived.RangeFuncBound
import Derived.RangeFuncCalls
import Derived.RangeFuncLeaves
import Derived.RangeFuncBox
import Derived.Shelf.Abstract
import Derived.OwnWalkIn
import Derived.TacticsInMore
import Derived.LoopNIn
import Derived.LoopIn
namespace Go.Proofs.YtlcoebenkhafcaaGreatDoor
set_option maxRecDepth 100000
open Go.RowKit Go.Shelf
set_option linter.unusedVariables false
set_option linter.unusedSimpArgs false
attribute [local go_sem] Oper.semAt_some
abbrev Item := { p : Nat × Nat // p.1 < 256 ∧ p.2 < 4294967296 }
def itemAt (l : List Nat) (k : Nat) : Item := ⟨((l.length - 1 - k) % 256, dig l (l.length - 1 - k) % 4294967296), Nat.mod_lt _ (by omega), Nat.mod_lt _ (by omega)⟩
theorem itemAt_eq {l : List Nat} {k j x : Nat} (hx : l[j]? = some x) (hj : l.length = k + j + 1) (h1 : j < 256) (h2 : x < 4294967296) : itemAt l k = ⟨(j, x), h1, h2⟩ := by
  apply Subtype.ext
  show ((l.length - 1 - k) % 256, dig l (l.length - 1 - k) % 4294967296) = (j, x)
  rw [show l.length - 1 - k = j by omega, dig_some hx, Nat.mod_eq_of_lt h1, Nat.mod_eq_of_lt h2]
def upto (l : List Nat) (k : Nat) : List Item := (List.range k).map (itemAt l)
theorem upto_succ (l : List Nat) (k : Nat) : upto l (k + 1) = upto l k ++ [itemAt l k] := by simp [upto, List.range_succ]
theorem upto_length (l : List Nat) (k : Nat) : (upto l k).length = k := by simp [upto]
def encs (x : Item) : Array Value := #[.int .i64 (x.1.1 : Int), .int .u32 (x.1.2 : Int)]
set_option maxRecDepth 100000 in
set_option maxHeartbeats 2000000 in
theorem down1_in (n : Nat) (hn : 1 ≤ n) (L Bs n0 len cap : Nat) (A : Option Addr) (l : List Nat) (hlen : len ≤ 256) (hf : Fit 4294967296 l) (J Jx : List Item → World → Prop)
    (hY : ∀ pre x W, J pre W → pre.length < len → YieldAt Fence.wide (n - 1) Tryz.prog L (encs x) W fun e W' =>
      (e = .returned (.bool true) ∧ J (pre ++ [x]) W' ∧ Below n0 W W') ∨ (e = .returned (.bool false) ∧ Jx (pre ++ [x]) W'))
    (W : World) (hBs : W.cell? ⟨Bs, 0, none⟩ = some (.slice A len cap)) (hBn : Bs < n0) (hR : Rd .u32 W A len l) (hlt : ∀ ad, A = some ad → ad.block < n0) (h0 : J [] W) :
    CallsIn Fence.wide n Tryz.prog 188 #[.func (.yield L) #[] #[], .pointer (some ⟨Bs, 0, none⟩)] W fun e W' => (∃ v, e = .returned v) ∧
      ((∃ ys, ys = upto l len ∧ J ys W') ∨ (∃ pre, (∃ k, k ≤ len ∧ pre = upto l k) ∧ Jx pre W')) := by
  have HR := Lib.hid hR
  have HY := Lib.hid hY
  have HLT := Lib.hid hlt
  clear hR hY hlt
  refine callsIn_of_wp Tryz.func188 rfl trivial ?_ rfl
  simp only [Tryz.ntmps188, List.size_toArray, List.length_cons, List.length_nil, Nat.reduceAdd, Nat.reduceSub, Array.replicate_succ, Array.replicate_zero, List.push_toArray, List.append_toArray, List.nil_append, List.cons_append]
  gi_wp2
  gi_loopw [3] (fun i wr => ∃ k j : Nat, len = k + j ∧ i = .int .i64 ((j : Int) - 1) ∧ J (upto l k) wr ∧ Below n0 W wr)
    (fun i _ => (intOf i + 1).toNat)
  case atStart => exact ⟨0, len, by omega, rfl, h0, Below.refl _ _⟩
  case round =>
    obtain ⟨k, j, hkj, rfl, hJs, hnx⟩ := hrel
    have HKJ := Lib.hid hkj
    have hjl : j ≤ len := by omega
    clear hkj
    rcases j with _ | j
    · gi_wp2
      go_end0
      have : k = len := by have := HKJ.out; omega
      exact ⟨⟨_, rfl⟩, .inl ⟨_, by rw [this], hJs⟩⟩
    · obtain ⟨ad, x, rfl, hx, hcell⟩ := (HR.out.belowAt hnx HLT.out).get (j := j) (by omega)
      have hx1 := hf.get hx
      have hbs := (hnx.cell (p := ⟨Bs, 0, none⟩) hBn).trans hBs
      have hit := itemAt_eq hx (k := k) (by rw [HR.out.1, HKJ.out]; omega) (by omega) hx1
      have HIT := Lib.hid hit
      obtain ⟨fn, tmps, assign, body, hy, hRR⟩ := HY.out _ ⟨(j, x), by omega, hx1⟩ wr hJs (by rw [upto_length]; have := HKJ.out; omega)
      dsimp only [encs] at hy
      clear hx hit
      gi_wp2
      refine hRR.mono ?_
      rintro e W3 (⟨rfl, hJ3, hk3⟩ | ⟨rfl, hJx3⟩)
      · gi_wp2
        go_roundw
        case rel => exact ⟨k + 1, j, by have := HKJ.out; omega, by go_num, by rw [upto_succ, HIT.out]; exact hJ3, hnx.trans hk3⟩
        case measure => simp [intOf]
      · gi_wp2
        refine bodyPost_ret (results_none rfl _ _ _) rfl ?_
        exact ⟨⟨_, rfl⟩, .inr ⟨_, ⟨k + 1, by have := HKJ.out; omega, by rw [upto_succ, HIT.out]⟩, hJx3⟩⟩
theorem down_any (A : Option Addr) (len cap : Nat) (w : World) :
    Calls Tryz.prog 166 #[.slice A len cap] w fun e w' => e = .returned (.func (.func 188) #[] #[.pointer (some ⟨w.heap.size, 0, none⟩)]) ∧ w' = w.alloc (.cells #[.slice A len cap] 116) := by
  go_enter Tryz.func166, Tryz.ntmps166
  go_wp2
  go_ret
  exact ⟨rfl, rfl⟩
theorem down_stops (n : Nat) (hn : 1 ≤ n) (Bs n0 len cap : Nat) (A : Option Addr) (l : List Nat) (hlen : len ≤ 256) (hf : Fit 4294967296 l) (w : World) (hBs : Bs < w.heap.size) (hBn : Bs < n0) (hn0 : n0 ≤ w.heap.size)
    (hc : w.cell? ⟨Bs, 0, none⟩ = some (.slice A len cap)) (hR : Rd .u32 w A len l) (hlt : ∀ ad, A = some ad → ad.block < n0) :
    SeqStopsK Fence.wide n Tryz.prog 188 #[.pointer (some ⟨Bs, 0, none⟩)] encs (Below n0) (fun ys => ys = upto l len) (fun pre => ∃ k, k ≤ len ∧ pre = upto l k) len w := fun L J Jx W hW _ _ hY h0 => by
  have hc' := (hW.cell (p := ⟨Bs, 0, none⟩) hBs).trans hc
  exact down1_in n hn L Bs n0 len cap A l hlen hf J Jx hY W hc' hBn (hR.below hW) hlt h0
end Go.Proofs.YtlcoebenkhafcaaGreatDoor
namespace Go.Proofs.YtlcoebenkhafcaaGreatDoor
set_option maxRecDepth 100000
open Go.RowKit Go.Shelf
set_option linter.unusedVariables false
set_option linter.unusedSimpArgs false
attribute [local go_sem] Oper.semAt_some
theorem val_zeros (B : Nat) {l : List Nat} (h : ∀ d ∈ l, d = 0) : val B l = 0 := by
  induction l with
  | nil => rfl
  | cons d r ih => rw [val, h d (by simp), ih (fun x hx => h x (by simp [hx])), Nat.mul_zero]
theorem bits_at {l : List Nat} (hf : Fit 4294967296 l) {j x : Nat} (hx : l[j]? = some x) (hne : x ≠ 0) (hz : ∀ i y, j < i → l[i]? = some y → y = 0) : bitlen (val 4294967296 l) = 32 * j + bitlen x := by
  have e := split_at hx
  have hi := (List.getElem?_eq_some_iff.1 hx).1
  have hz2 : val 4294967296 (l.drop (j + 1)) = 0 := val_zeros _ (fun d hd => by
    obtain ⟨i, hi2⟩ := List.mem_iff_getElem?.1 hd
    rw [List.getElem?_drop] at hi2
    exact hz _ d (by omega) hi2)
  have hv : val 4294967296 l = val 4294967296 (l.take j ++ [x]) := by
    have e2 : val 4294967296 l = val 4294967296 (l.take j ++ x :: l.drop (j + 1)) := by rw [← e]
    rw [e2, val_append, val_snoc, val, hz2, Nat.mul_zero, Nat.add_zero]
  have hl : (l.take j).length = j := by simp; omega
  have := bitlen_top 32 (a := l.take j) (d := x) (hf.take j) hne
  rw [hl] at this
  rw [hv]
  exact this
theorem upto_mem {l : List Nat} {k i y : Nat} (hl : l.length ≤ 256) (hf : Fit 4294967296 l) (hy : l[i]? = some y) (hi : l.length ≤ i + k) : ∃ p ∈ upto l k, p.1 = (i, y) := by
  have h1 := (List.getElem?_eq_some_iff.1 hy).1
  refine ⟨itemAt l (l.length - 1 - i), ?_, ?_⟩
  · rw [upto, List.mem_map]
    exact ⟨_, List.mem_range.2 (by omega), rfl⟩
  · rw [itemAt_eq (k := l.length - 1 - i) hy (by omega) (by omega) (hf.get hy)]
theorem Lists.new1' (w : World) (A : Option Addr) (n cap : Nat) (g : Nat) (hg : w.heap.size = g) : Lists (w.alloc (.cells #[.slice A n cap] 116)) (some ⟨g, 0, none⟩) [(A, n, cap)] := by
  subst hg; exact Lists.new1 w A n cap
set_option maxRecDepth 100000 in
set_option maxHeartbeats 2000000 in
theorem Bits_ok (A : Option Addr) (len cap : Nat) (l : List Nat) (w : World) (h : Rd .u32 w A len l) (hf : Fit 4294967296 l) (h1 : 1 ≤ len) (h2 : len ≤ 256) :
    Calls Tryz.prog 137 #[.slice A len cap] w fun e w' => e = .returned (.int .i64 ((bitlen (val 4294967296 l) : Nat) : Int)) ∧ Below w.heap.size w w' := by
  have HR := Lib.hid h
  have hall : ([(A, len, cap)].all fun p => okW p.2.1) = true := by simp [okW, h1, h2]
  have HALL := Lib.hid hall
  have hl0 := h.1
  clear hall h
  refine (callsIn_wide (n := 5)).1 (callsIn_of_wp_marks Tryz.func137 rfl trivial ?_ rfl)
  simp only [Tryz.ntmps137, List.size_toArray, List.length_cons, List.length_nil, Nat.reduceAdd, Nat.reduceSub, Array.replicate_succ, Array.replicate_zero, List.push_toArray, List.append_toArray, List.nil_append, List.cons_append]
  refine wpIn_wide.2 ?_
  go_wp2_with fail
  refine (areNumbers_any _ 1 1 _ _ (Lists.new1' (w.alloc (.cells #[.int .i64 0] 3)) A len cap (w.heap.size + 1) (World.size_alloc _ _)) rfl (by omega)).mono ?_
  rintro e w1 ⟨rfl, rfl⟩
  rw [HALL.out]
  have F : ((w.alloc (.cells #[.int .i64 0] 3)).alloc (.cells #[.slice A len cap] 116)).heap.size = w.heap.size + 2 ∧ Boxed ((w.alloc (.cells #[.int .i64 0] 3)).alloc (.cells #[.slice A len cap] 116)) w.heap.size 3 (.int .i64 0) ∧ Below w.heap.size w ((w.alloc (.cells #[.int .i64 0] 3)).alloc (.cells #[.slice A len cap] 116)) :=
    ⟨by simp, (Boxed.new w 3 (.int .i64 0)).alloc _, ((Below.refl _ w).alloc (Nat.le_refl _) _).alloc (by simp) _⟩
  generalize ((w.alloc (.cells #[.int .i64 0] 3)).alloc (.cells #[.slice A len cap] 116)) = W1 at F ⊢
  obtain ⟨hs1, bR, hB1⟩ := F
  have HS1 := Lib.hid hs1
  clear hs1
  go_wp2_with fail
  refine (down_any A len cap W1).mono ?_
  rintro e w2 ⟨rfl, rfl⟩
  have bN := Boxed.new W1 116 (.slice A len cap)
  have hB2 : Below w.heap.size w (W1.alloc (.cells #[.slice A len cap] 116)) := hB1.alloc hB1.size _
  have hc2 := (bR.alloc (.cells #[.slice A len cap] 116)).cell
  have hf2 := (bR.alloc (.cells #[.slice A len cap] 116)).frozen
  have hR2 := HR.out.below hB2
  have hlt2 : ∀ ad, A = some ad → ad.block < W1.heap.size + 1 := fun ad e => by have := HR.out.lt (by omega) ad e; have := HS1.out; omega
  have hs2 : (W1.alloc (.cells #[.slice A len cap] 116)).heap.size = W1.heap.size + 1 := World.size_alloc _ _
  go_wp2
  refine (wpIn_wide (n := 5)).1 ?_
  refine wpIn_rangeFunc_ownG rfl (by omega) (gf := 188) (lb := #[.pointer (some ⟨W1.heap.size, 0, none⟩)]) rfl trivial (enters_of Tryz.func188 (by kernel_rfl) rfl)
    (down_stops 4 (by omega) W1.heap.size (W1.heap.size + 1) len cap A l h2 hf _ (by rw [hs2]; omega) (by omega) (by rw [hs2]; omega) bN.cell hR2 hlt2) belowK_t (belowK_b (by rw [hs2]; omega)) (Below.refl _ _) (fun _ => rfl)
    (fun pre W => ((∀ p ∈ pre, p.1.2 = 0) ∧ W.cell? ⟨w.heap.size, 0, none⟩ = some (.int .i64 0) ∧ W.frozen? ⟨w.heap.size, 0, none⟩ = false) ∧ Below w.heap.size w W)
    (fun c pre W => (c = .ret ∧ ∃ ini last, pre = ini ++ [last] ∧ (∀ p ∈ ini, p.1.2 = 0) ∧ last.1.2 ≠ 0 ∧ W.cell? ⟨w.heap.size, 0, none⟩ = some (.int .i64 ((32 * last.1.1 + bitlen last.1.2 : Nat) : Int))) ∧ Below w.heap.size w W)
    (OwnFrom.and (Own.from (fun s A B row hs hg hr => ⟨hs.1, cell_kept hs.2.1 hg hr, (frozen_kept hs.2.1 hg hr).trans hs.2.2⟩) _) (ownFrom_below (Nat.le_refl _) (by rw [hs2]; have := HS1.out; omega)))
    (fun c => OwnFrom.and (Own.from (fun s A B row hs hg hr => by obtain ⟨hc, ini, last, e1, e2, e3, e4⟩ := hs; exact ⟨hc, ini, last, e1, e2, e3, cell_kept e4 hg hr⟩) _) (ownFrom_below (Nat.le_refl _) (by rw [hs2]; have := HS1.out; omega)))
    ⟨⟨by simp, hc2, hf2⟩, hB2⟩
    (fun x => { tmps := #[.slice A len cap, undef, .pointer (some ⟨w.heap.size, 0, none⟩), .int .i64 (x.1.1 : Int), .int .u32 (x.1.2 : Int), .slice A len cap, .slice (some ⟨w.heap.size + 1, 0, none⟩) 1 1, .bool true, .bool false, .slice A len cap, .func (.func 188) #[] #[.pointer (some ⟨W1.heap.size, 0, none⟩)], .int .i64 (x.1.1 : Int), .int .u32 (x.1.2 : Int), undef, undef, undef, undef, undef, undef, undef], defers := [] }) ?assign ?body ?done ?stop
  case assign =>
    intro L x W K hK
    dsimp only [encs]
    gi_wp2
    exact hK
  case body =>
    rintro L pre ⟨⟨i, x⟩, hi, hx⟩ W ⟨⟨hp, hcr, hfr⟩, hB⟩ _
    dsimp only
    dsimp only at hi hx
    have hbl : bitlen x ≤ 32 := (bitlen_le x 32).2 hx
    rcases Nat.eq_zero_or_pos x with rfl | hx0
    · gi_wp2
      exact ⟨KeepsFrom.refl _ _, Below.refl _ _, ⟨fun p hp' => (List.mem_append.1 hp').elim (hp p) (fun e => by rw [List.mem_singleton.1 e]), hcr, hfr⟩, hB⟩
    · have hx2 : (x != 0) = true := by simp; omega
      have hx3 : ((x : Int) != 0) = true := by simp; omega
      have hne : x ≠ 0 := by omega
      gi_wp2_with (refine ⟨trivial, ?_⟩; gi_at_call 167; refine (CallsIn.inRound L (callsIn_wide.2 (Len32_any x hx W))).mono ?_; rintro e w' ⟨rfl, rfl⟩)
      have ev : (32 * (i : Int) + ((bitlen x : Nat) : Int)) = ((32 * i + bitlen x : Nat) : Int) := by omega
      exact ⟨(KeepsOthers.setCell _ _ _).from _, ⟨rfl, pre, _, rfl, hp, hne, by rw [ev]; exact World.cell?_setCell_same' _ _ _ (by rw [hcr]; rfl)⟩, hB.setCell (p := ⟨w.heap.size, 0, none⟩) (Nat.le_refl _) _⟩
  case done =>
    rintro D ys W hD rfl ⟨⟨hz, hcr, hfr⟩, hB⟩ hK
    go_wp2
    have hK' := (KeepsOthers.setCell W ⟨w.heap.size, 0, none⟩ (.int .i64 0)).same D _ hK rfl
    refine ⟨by simp, .inl ⟨_, _, rfl, run_takeDeferred hK', ?_⟩⟩
    have hc5 := cell_kept (World.cell?_setCell_same' W ⟨w.heap.size, 0, none⟩ (.int .i64 0) (by rw [hcr]; rfl)) (grownBy_putObj' _ D (.deferred none)) (fun r e => by cases e; exact ⟨_, hK', rfl⟩)
    have hv : val 4294967296 l = 0 := val_zeros _ (fun d hd => by
      obtain ⟨i, hi2⟩ := List.mem_iff_getElem?.1 hd
      obtain ⟨p, hp, e⟩ := upto_mem (k := len) (by omega) hf hi2 (by omega)
      have := hz p hp
      rw [e] at this
      exact this)
    refine ⟨.int .i64 0, ?_, by rw [hv]; rfl, (hB.setCell (p := ⟨w.heap.size, 0, none⟩) (Nat.le_refl _) _).trans (belowK_b (w := w) (Nat.le_refl _) _ D _ _ (by rw [hs2] at hD; have := HS1.out; omega) hK' rfl rfl)⟩
    simp [results, Tryz.f137, go_sem, hc5]
  case stop =>
    rintro D c pre W hD ⟨k, hk, rfl⟩ ⟨⟨rfl, ini, last, e1, e2, e3, hcr⟩, hB⟩ hK
    gi_wp2
    refine ⟨by simp, .inl ⟨_, _, rfl, run_takeDeferred hK, ?_⟩⟩
    have hc5 := cell_kept hcr (grownBy_putObj' _ D (.deferred none)) (fun r e => by cases e; exact ⟨_, hK, rfl⟩)
    obtain ⟨k', rfl⟩ : ∃ k', k = k' + 1 := by
      cases k with
      | zero => simp [upto] at e1
      | succ k' => exact ⟨k', rfl⟩
    rw [upto_succ] at e1
    obtain ⟨rfl, e5⟩ := List.append_inj' e1 rfl
    obtain rfl : itemAt l k' = last := by simpa using e5
    obtain ⟨j, hj⟩ : ∃ j, len = k' + j + 1 := ⟨len - k' - 1, by omega⟩
    obtain ⟨x, hx⟩ := get_some (l := l) (i := j) (by omega)
    have hit := itemAt_eq hx (k := k') (by omega) (by omega) (hf.get hx)
    rw [hit] at e3 hc5
    have hv := bits_at hf hx e3 (fun i y hji hy => by
      obtain ⟨p, hp, e⟩ := upto_mem (k := k') (by omega) hf hy (by omega)
      have := e2 p hp
      rw [e] at this
      exact this)
    refine ⟨.int .i64 ((32 * j + bitlen x : Nat) : Int), ?_, by rw [hv], hB.trans (belowK_b (w := w) (Nat.le_refl _) W D _ _ (by rw [hs2] at hD; have := HS1.out; omega) hK rfl rfl)⟩
    simp [results, Tryz.f137, go_sem, hc5]
end Go.Proofs.YtlcoebenkhafcaaGreatDoor
namespace Go.Proofs.YtlcoebenkhafcaaGreatDoor
set_option maxRecDepth 100000
open Go.RowKit
set_option linter.unusedVariables false
set_option linter.unusedSimpArgs false
theorem limb_byte (X i r : Nat) (hr : r < 4) : X / 4294967296 ^ i % 4294967296 / 256 ^ r % 256 = X / 256 ^ (4 * i + r) % 256 := by
  rw [pow_limb, ← Nat.div_div_eq_div_mul]
  generalize X / 4294967296 ^ i = Y
  rcases r with _ | _ | _ | _ | r
  · simp only [Nat.pow_zero, Nat.div_one]; omega
  · omega
  · omega
  · omega
  · omega
def bytesOf (size X : Nat) : List Nat := (nums 256 size X).reverse
theorem bytesOf_length (size X : Nat) : (bytesOf size X).length = size := by rw [bytesOf, List.length_reverse, nums_length]
theorem bytesOf_fit (size X : Nat) : Fit 256 (bytesOf size X) := (nums_fit (by omega) _ _).reverse
theorem bytesOf_val {size X : Nat} (h : X < 256 ^ size) : vbe (bytesOf size X) = X := by
  rw [vbe, bytesOf, List.reverse_reverse, nums_val, Nat.mod_eq_of_lt h]
theorem bytesOf_get {size X k u : Nat} (hu : size = k + u + 1) : (bytesOf size X)[k]? = some (X / 256 ^ u % 256) := by
  rw [bytesOf, List.getElem?_reverse (by rw [nums_length]; omega), nums_length, show size - 1 - k = u by omega, nums_get 256 size X u (by omega)]
theorem bytesOf_eq {size X : Nat} {bs : List Nat} (hl : bs.length = size) (hf : Fit 256 bs) (hv : vbe bs = X) : bs = bytesOf size X := by
  have e := nums_of (B := 256) (by omega) hf.reverse
  rw [List.length_reverse, hl, show val 256 bs.reverse = X from hv] at e
  rw [bytesOf, ← e, List.reverse_reverse]
theorem bits_room (X size : Nat) : bitlen X ≤ 8 * size ↔ X < 256 ^ size := by
  rw [bitlen_le, Nat.pow_mul]
set_option maxHeartbeats 4000000 in
theorem Bytes_ok (A : Option Addr) (n cap : Nat) (l : List Nat) (size : Nat) (w : World) (h : Rd .u32 w A n l) (hf : Fit 4294967296 l) (h1 : 1 ≤ n) (h2 : n ≤ 256) (hs : size ≤ 1024) (hb : val 4294967296 l < 256 ^ size) :
    Calls Tryz.prog 103 #[.slice A n cap, .int .i64 (size : Int)] w fun e w' => ∃ g, e = .returned (.tuple #[.slice (some ⟨g, 0, none⟩) size size, .int .i64 0]) ∧ w.heap.size ≤ g ∧ Blk w' g 5 (cn .u8 (bytesOf size (val 4294967296 l))) ∧ Below w.heap.size w w' := by
  have HR := Lib.hid h
  have hl0 := h.1
  have hall : ([(A, n, cap)].all fun p => okW p.2.1) = true := by simp [okW, h1, h2]
  have hb0 : Below w.heap.size w (w.alloc (.cells #[.slice A n cap] 116)) := (Below.refl _ _).alloc (Nat.le_refl _) _
  have HB0 := Lib.hid hb0
  have HALL := Lib.hid hall
  have hb2 : ((bitlen (val 4294967296 l) : Nat) : Int) ≤ 8 * size := by have := (bits_room _ _).2 hb; omega
  clear hall h hb0
  go_enter Tryz.func103, Tryz.ntmps103
  go_wp2_with fail
  refine (areNumbers_any _ 1 1 _ _ (Lists.new1 w A n cap) rfl (by omega)).mono ?_
  rintro e w1 ⟨rfl, rfl⟩
  rw [HALL.out]
  go_wp2_with fail
  refine (Bits_ok A n cap l _ (HR.out.below HB0.out) hf h1 h2).mono ?_
  rintro e w1 ⟨rfl, hb1⟩
  have B := below_then HB0.out hb1
  clear hb1 hb
  generalize hX : val 4294967296 l = X at *
  have HX := Lib.hid hX
  clear hX
  generalize bitlen X = q at *
  go_wp2_with (first
    | ((with_reducible refine at_dst (some 28) ?_); refine wpList_makeNums (o := ⟨some 28, _, _, _, _, _⟩) rfl (.tmp 27) (.tmp 27) 25 5 rfl .u8 1 Tryz.underlying25 byteInfo (by omega) _ _ rfl rfl size rfl (by omega) ?_; intro w2 hb2 hbel2 hs2))
  go_loopw [31] (fun i wr => ∃ (k : Nat), k ≤ size ∧ i = .int .i64 (k : Int) ∧ Hid (Blk wr w1.heap.size 5 (cn .u8 ((bytesOf size X).take k ++ List.replicate (size - k) 0))) ∧ Below w1.heap.size w1 wr) (fun i _ => size - (intOf i).toNat)
  case atStart => exact ⟨0, by omega, rfl, by simpa using hb2, hbel2⟩
  case round =>
    obtain ⟨k, hk, rfl, HB, hbe⟩ := hrel
    by_cases hkm : k < size
    · obtain ⟨u, hu⟩ : ∃ u, size = k + u + 1 := ⟨size - k - 1, by omega⟩
      have hget := bytesOf_get (X := X) hu
      have hnext := take_trim hget
      obtain ⟨i, hi⟩ : ∃ i, i = u / 4 := ⟨_, rfl⟩
      obtain ⟨r, hr⟩ : ∃ r, r = u % 4 := ⟨_, rfl⟩
      have hur : u = 4 * i + r := by omega
      have hr4 : r < 4 := by omega
      have hpl := placeOf_any (k : Int) (size : Int) u (by omega) (by omega) (by omega)
      rw [← hi, ← hr] at hpl
      have HPL := Lib.hid hpl
      have hlt : ((bytesOf size X).take k).length = k := by rw [List.length_take, bytesOf_length]; omega
      by_cases hin : i < n
      · have hR2 := (HR.out.below B).below hbe
        obtain ⟨ad, o, rfl, ho, hcell⟩ := hR2.get (j := i) (by omega)
        have ho1 := hf.get ho
        have ho2 := get_val (by omega) hf ho
        have hob : o / 256 ^ r % 256 = X / 256 ^ u % 256 := by rw [ho2, HX.out, limb_byte X i r hr4, hur]
        have hoc : wr.cell? ⟨w1.heap.size, k, none⟩ = some (.int .u8 ((0 : Nat) : Int)) := by
          have h3 := HB.out.cell k
          obtain ⟨p, hp⟩ : ∃ p, size - k = p + 1 := ⟨size - k - 1, by omega⟩
          have h4 := get_end ((bytesOf size X).take k) p
          rw [hlt, ← hp] at h4
          exact h3.trans (cn_get h4)
        have hof := HB.out.frozen k
        have FIN : Hid (∀ v : Int, v = ((X / 256 ^ u % 256 : Nat) : Int) → Blk (wr.setCell ⟨w1.heap.size, k, none⟩ (.int .u8 v)) w1.heap.size 5 (cn .u8 ((bytesOf size X).take (k + 1) ++ List.replicate (size - (k + 1)) 0))) := by
          intro v hv
          rw [hv, hnext]
          exact blk_next HB.out hlt hkm rfl
        have HOB := Lib.hid hob
        clear hR2 ho ho2 hob hnext hget hu hi hr hur hpl hlt
        rcases r with _ | _ | _ | _ | r
        · clear hr4
          go_wp2_with (first | (go_at_call 136; refine (HPL.out _).mono ?_; rintro e w' ⟨rfl, rfl⟩))
          go_roundw
          case rel => exact ⟨k + 1, by omega, by go_num, FIN.out _ (by have := HOB.out; simp only [Nat.pow_zero, Nat.div_one] at this; omega), hbe.setCell (Nat.le_refl _) _⟩
          case measure => simp [intOf]; omega
        · clear hr4
          go_wp2_with (first | (go_at_call 136; refine (HPL.out _).mono ?_; rintro e w' ⟨rfl, rfl⟩))
          go_roundw
          case rel => exact ⟨k + 1, by omega, by go_num, FIN.out _ (by have := HOB.out; omega), hbe.setCell (Nat.le_refl _) _⟩
          case measure => simp [intOf]; omega
        · clear hr4
          go_wp2_with (first | (go_at_call 136; refine (HPL.out _).mono ?_; rintro e w' ⟨rfl, rfl⟩))
          go_roundw
          case rel => exact ⟨k + 1, by omega, by go_num, FIN.out _ (by have := HOB.out; omega), hbe.setCell (Nat.le_refl _) _⟩
          case measure => simp [intOf]; omega
        · clear hr4
          go_wp2_with (first | (go_at_call 136; refine (HPL.out _).mono ?_; rintro e w' ⟨rfl, rfl⟩))
          go_roundw
          case rel => exact ⟨k + 1, by omega, by go_num, FIN.out _ (by have := HOB.out; omega), hbe.setCell (Nat.le_refl _) _⟩
          case measure => simp [intOf]; omega
        · omega
      · have hz : X / 256 ^ u % 256 = 0 := by
          have h3 : X < 4294967296 ^ n := by rw [← HX.out, ← hl0]; exact val_lt hf
          have h4 : 4294967296 ^ n ≤ 256 ^ u := by rw [← pow256_32]; exact Nat.pow_le_pow_right (by omega) (by omega)
          rw [Nat.div_eq_of_lt (by omega)]
        have FIN : Hid (Blk wr w1.heap.size 5 (cn .u8 ((bytesOf size X).take (k + 1) ++ List.replicate (size - (k + 1)) 0))) := by
          have h3 := HB.out
          rw [show size - k = size - (k + 1) + 1 by omega, List.replicate_succ] at h3
          show Blk _ _ _ _
          rw [hnext, hz, List.append_assoc]
          exact h3
        have hin2 : n ≤ i := by omega
        clear hz hnext hget hu hi hr hur hpl hlt hr4
        go_wp2_with (first | (go_at_call 136; refine (HPL.out _).mono ?_; rintro e w' ⟨rfl, rfl⟩))
        go_roundw
        case rel => exact ⟨k + 1, by omega, by go_num, FIN, hbe⟩
        case measure => simp [intOf]; omega
    · obtain rfl : k = size := by omega
      go_wp2
      go_ret2
      have hv := HB.out
      rw [List.take_of_length_le (by rw [bytesOf_length]; exact Nat.le_refl _), Nat.sub_self, List.replicate_zero, List.append_nil] at hv
      exact ⟨_, rfl, B.size, by rw [HX.out]; exact hv, below_then B hbe⟩
end Go.Proofs.YtlcoebenkhafcaaGreatDoor
namespace Go.Proofs.YtlcoebenkhafcaaGreatDoor
set_option maxRecDepth 100000
open Go.RowKit Go.Shelf
set_option linter.unusedVariables false
set_option linter.unusedSimpArgs false
attribute [local go_sem] Oper.semAt_some
theorem dig_high {B : Nat} {l : List Nat} {i k : Nat} (hB : 0 < B) (h : val B l < B ^ k) (hi : k ≤ i) : dig l i = 0 := by
  rcases Nat.lt_or_ge i l.length with h1 | h1
  · obtain ⟨o, ho⟩ := get_some h1
    rw [dig_some ho]
    exact high_zero ho (Nat.lt_of_lt_of_le h (Nat.pow_le_pow_right hB hi))
  · exact dig_none h1
theorem take_same {B : Nat} {a b : List Nat} (h : ∀ i, dig a i = dig b i) (k : Nat) : val B (a.take k) = val B (b.take k) := by
  induction k with
  | zero => rfl
  | succ k ih => rw [val_take_succ, val_take_succ, ih, h k]
theorem val_same {B : Nat} {a b : List Nat} (h : ∀ i, dig a i = dig b i) : val B a = val B b := by
  have := take_same (B := B) h (a.length + b.length)
  rwa [List.take_of_length_le (by omega), List.take_of_length_le (by omega)] at this
theorem ord_add (p q c : Nat) : ord (p + c) (q + c) = ord p q := by unfold ord; split <;> split <;> (try split) <;> (try split) <;> omega
theorem take_lt {B : Nat} {l : List Nat} (hf : Fit B l) (hB : 0 < B) (k : Nat) : val B (l.take k) < B ^ k :=
  Nat.lt_of_lt_of_le (val_lt (hf.take k)) (Nat.pow_le_pow_right hB (by simp; omega))
theorem ord_dig {B : Nat} {a b : List Nat} {j : Nat} (hB : 0 < B) (ha : Fit B a) (hb : Fit B b) (hne : dig a j ≠ dig b j) (h : ∀ i, j < i → dig a i = dig b i) : ord (val B a) (val B b) = ord (dig a j) (dig b j) := by
  have key : ∀ m, ord (val B (a.take (j + 1 + m))) (val B (b.take (j + 1 + m))) = ord (dig a j) (dig b j) := by
    intro m
    induction m with
    | zero =>
      rw [Nat.add_zero, val_take_succ, val_take_succ]
      have h1 := take_lt ha hB j
      have h2 := take_lt hb hB j
      generalize B ^ j = P at *
      have k2 : ∀ x y u v : Nat, x < P → y < P → u < v → x + P * u < y + P * v := by
        intro x y u v hx hy huv
        have : P * (u + 1) ≤ P * v := Nat.mul_le_mul_left _ huv
        rw [Nat.mul_add, Nat.mul_one] at this
        omega
      unfold ord
      rcases Nat.lt_or_gt_of_ne hne with h3 | h3
      · rw [if_pos (k2 _ _ _ _ h1 h2 h3), if_pos h3]
      · have := k2 _ _ _ _ h2 h1 h3
        rw [if_neg (by omega), if_pos this, if_neg (by omega), if_pos h3]
    | succ m ih =>
      rw [← Nat.add_assoc, val_take_succ, val_take_succ, h (j + 1 + m) (by omega), ord_add, ih]
  have := key (a.length + b.length)
  rwa [List.take_of_length_le (by omega), List.take_of_length_le (by omega)] at this
theorem same_bits {la lb : List Nat} (hf : Fit 4294967296 la) (hf' : Fit 4294967296 lb) (h : bitlen (val 4294967296 la) = bitlen (val 4294967296 lb)) {i : Nat} (hi : lb.length ≤ i ∨ la.length ≤ i) : dig la i = dig lb i := by
  have p32 : ∀ k, 4294967296 ^ k = 2 ^ (32 * k) := fun k => by rw [Nat.pow_mul]
  have e1 : val 4294967296 la < 4294967296 ^ lb.length := by
    rw [p32, ← bitlen_le, h, bitlen_le, ← p32]; exact val_lt hf'
  have e2 : val 4294967296 lb < 4294967296 ^ la.length := by
    rw [p32, ← bitlen_le, ← h, bitlen_le, ← p32]; exact val_lt hf
  rcases hi with hi | hi
  · rw [dig_high (by omega) e1 hi, dig_none hi]
  · rw [dig_high (by omega) e2 hi, dig_none hi]
theorem ord_bits {x y : Nat} (h : bitlen x < bitlen y) : x < y := by
  have h1 := (bitlen_le x (bitlen x)).1 (Nat.le_refl _)
  have h2 : ¬ y < 2 ^ bitlen x := fun h3 => by have := (bitlen_le y (bitlen x)).2 h3; omega
  omega
theorem Lists.new2' (w : World) (A : Option Addr) (n cap : Nat) (A' : Option Addr) (n' cap' : Nat) (g : Nat) (hg : w.heap.size = g) : Lists (w.alloc (.cells #[.slice A n cap, .slice A' n' cap'] 116)) (some ⟨g, 0, none⟩) [(A, n, cap), (A', n', cap')] := by
  subst hg; exact Lists.new2 w A n cap A' n' cap'
def W3 (w : World) (A : Option Addr) (n cap : Nat) (A' : Option Addr) (n' cap' : Nat) : World := ((w.alloc (.cells #[.slice A' n' cap'] 116)).alloc (.cells #[.int .i64 0] 3)).alloc (.cells #[.slice A n cap, .slice A' n' cap'] 116)
theorem boxed_below {w w' : World} {B : Nat} {t : TypeId} {v : Value} (h : Boxed w B t v) (hb : Below w.heap.size w w') : Boxed w' B t v := (hb.block B h.lt).trans h
theorem W3_facts (w : World) (A : Option Addr) (n cap : Nat) (A' : Option Addr) (n' cap' : Nat) : (W3 w A n cap A' n' cap').heap.size = w.heap.size + 3 ∧ Boxed (W3 w A n cap A' n' cap') w.heap.size 116 (.slice A' n' cap') ∧ Boxed (W3 w A n cap A' n' cap') (w.heap.size + 1) 3 (.int .i64 0) ∧ Below w.heap.size w (W3 w A n cap A' n' cap') := by
  refine ⟨by simp [W3], ((Boxed.new w 116 _).alloc _).alloc _, ?_, (((Below.refl _ w).alloc (Nat.le_refl _) _).alloc (by simp) _).alloc (by simp; omega) _⟩
  have := (Boxed.new (w.alloc (.cells #[.slice A' n' cap'] 116)) 3 (.int .i64 0)).alloc (.cells #[.slice A n cap, .slice A' n' cap'] 116)
  rw [World.size_alloc] at this
  exact this
set_option maxRecDepth 100000 in
set_option maxHeartbeats 1000000 in
theorem Compare_diff (A A' : Option Addr) (n cap n' cap' : Nat) (la lb : List Nat) (w : World) (h : Rd .u32 w A n la) (h' : Rd .u32 w A' n' lb) (hf : Fit 4294967296 la) (hf' : Fit 4294967296 lb) (h1 : 1 ≤ n) (h2 : n ≤ 256) (h3 : 1 ≤ n') (h4 : n' ≤ 256) (o : Int) (ho : ord (bitlen (val 4294967296 la)) (bitlen (val 4294967296 lb)) = o) (ho1 : (o != 0) = true) :
    Calls Tryz.prog 190 #[.slice A n cap, .slice A' n' cap'] w fun e w' => e = .returned (.int .i64 o) ∧ Below w.heap.size w w' := by
  have hall : ([(A, n, cap), (A', n', cap')].all fun p => okW p.2.1) = true := by simp [okW]; omega
  have HALL := Lib.hid hall
  have HR := Lib.hid h
  have HR' := Lib.hid h'
  clear hall h h'
  go_enter Tryz.func190, Tryz.ntmps190
  go_wp2_with fail
  refine (areNumbers_any _ 2 2 _ _ (Lists.new2' ((w.alloc (.cells #[.slice A' n' cap'] 116)).alloc (.cells #[.int .i64 0] 3)) A n cap A' n' cap' (w.heap.size + 1 + 1) (by simp)) rfl (by omega)).mono ?_
  rintro e w1 ⟨rfl, rfl⟩
  rw [HALL.out]
  have F := W3_facts w A n cap A' n' cap'
  rw [show ((w.alloc (.cells #[.slice A' n' cap'] 116)).alloc (.cells #[.int .i64 0] 3)).alloc (.cells #[.slice A n cap, .slice A' n' cap'] 116) = W3 w A n cap A' n' cap' from rfl]
  generalize W3 w A n cap A' n' cap' = W2 at F ⊢
  obtain ⟨hs1, bB, bR, hB1⟩ := F
  have HS1 := Lib.hid hs1
  have hcb := bB.cell
  have HBR := Lib.hid bR
  have HRA : Hid (Rd .u32 W2.drew A n la) := HR.out.below (below_drew1 hB1)
  have HRB : Hid (Rd .u32 W2.drew A' n' lb) := HR'.out.below (below_drew1 hB1)
  have hcb2 : W2.drew.cell? ⟨w.heap.size, 0, none⟩ = some (.slice A' n' cap') := hcb
  have hlt1 : w.heap.size < W2.drew.heap.size := by show w.heap.size < W2.heap.size; omega
  clear hs1 bB bR
  generalize hqa : bitlen (val 4294967296 la) = qa at *
  generalize hqb : bitlen (val 4294967296 lb) = qb at *
  have ba : ∀ W, Rd .u32 W A n la → Calls Tryz.prog 137 #[.slice A n cap] W fun e w' => e = .returned (.int .i64 (qa : Int)) ∧ Below W.heap.size W w' := fun W hW => by rw [← hqa]; exact Bits_ok A n cap la W hW hf h1 h2
  have bb : ∀ W, Rd .u32 W A' n' lb → Calls Tryz.prog 137 #[.slice A' n' cap'] W fun e w' => e = .returned (.int .i64 (qb : Int)) ∧ Below W.heap.size W w' := fun W hW => by rw [← hqb]; exact Bits_ok A' n' cap' lb W hW hf' h3 h4
  have BA := Lib.hid ba
  have BB := Lib.hid bb
  clear hqa hqb ba bb
  go_wp2
  go_region_law (first
    | (go_simp; go_at_call 137; (with_reducible refine (BA.out W2.drew HRA.out).mono ?_); rintro e w3 ⟨rfl, hb3⟩; have hc3 := (hb3.cell (p := ⟨w.heap.size, 0, none⟩) hlt1).trans hcb2)
    | (go_simp; go_at_call 137; (with_reducible refine (BB.out w3 (HRB.out.below hb3)).mono ?_); rintro e w4 ⟨rfl, hb4⟩)
    | (go_simp; go_at_call 205; refine (cmpInt_any qa qb _).mono ?_; rintro e w5 ⟨rfl, rfl⟩))
  all_goals
    have b3 : Below w.heap.size w w3 := (below_drew1 hB1).trans (hb3.mono (by show w.heap.size ≤ W2.heap.size; have := HS1.out; omega))
    have b4 : Below w.heap.size w w4 := b3.trans (hb4.mono b3.size)
    have br4 : Boxed w4 (w.heap.size + 1) 3 (.int .i64 0) := boxed_below (boxed_below (w := W2.drew) HBR.out hb3) hb4
    have hcr := br4.cell
    have hfr := br4.frozen
    clear hc3 hb3 hb4 br4
    go_wp2
    have hc5 := World.cell?_setCell_same' w4 ⟨w.heap.size + 1, 0, none⟩ (.int .i64 o) (by rw [hcr]; rfl)
    (try simp only [Exit.inBlock, Exit.then])
    refine bodyPost_ret (v := .int .i64 o) (by simp [results, Tryz.f190, go_sem, hc5]) rfl ?_
    exact ⟨rfl, b4.setCell (p := ⟨w.heap.size + 1, 0, none⟩) (by simp) _⟩
set_option maxRecDepth 100000 in
set_option maxHeartbeats 4000000 in
theorem Compare_same (A A' : Option Addr) (n cap n' cap' : Nat) (la lb : List Nat) (w : World) (h : Rd .u32 w A n la) (h' : Rd .u32 w A' n' lb) (hf : Fit 4294967296 la) (hf' : Fit 4294967296 lb) (h1 : 1 ≤ n) (h2 : n ≤ 256) (h3 : 1 ≤ n') (h4 : n' ≤ 256) (hsame : bitlen (val 4294967296 la) = bitlen (val 4294967296 lb)) :
    Calls Tryz.prog 190 #[.slice A n cap, .slice A' n' cap'] w fun e w' => e = .returned (.int .i64 (ord (val 4294967296 la) (val 4294967296 lb))) ∧ Below w.heap.size w w' := by
  have hall : ([(A, n, cap), (A', n', cap')].all fun p => okW p.2.1) = true := by simp [okW]; omega
  have HALL := Lib.hid hall
  have HR := Lib.hid h
  have HR' := Lib.hid h'
  have HSAME := Lib.hid hsame
  have hl0 := h.1
  have hl0' := h'.1
  clear hall h h' hsame
  refine (callsIn_wide (n := 5)).1 (callsIn_of_wp_marks Tryz.func190 rfl trivial ?_ rfl)
  simp only [Tryz.ntmps190, List.size_toArray, List.length_cons, List.length_nil, Nat.reduceAdd, Nat.reduceSub, Array.replicate_succ, Array.replicate_zero, List.push_toArray, List.append_toArray, List.nil_append, List.cons_append]
  refine wpIn_wide.2 ?_
  go_wp2_with fail
  refine (areNumbers_any _ 2 2 _ _ (Lists.new2' ((w.alloc (.cells #[.slice A' n' cap'] 116)).alloc (.cells #[.int .i64 0] 3)) A n cap A' n' cap' (w.heap.size + 1 + 1) (by simp)) rfl (by omega)).mono ?_
  rintro e w1 ⟨rfl, rfl⟩
  rw [HALL.out]
  have F := W3_facts w A n cap A' n' cap'
  rw [show ((w.alloc (.cells #[.slice A' n' cap'] 116)).alloc (.cells #[.int .i64 0] 3)).alloc (.cells #[.slice A n cap, .slice A' n' cap'] 116) = W3 w A n cap A' n' cap' from rfl]
  generalize W3 w A n cap A' n' cap' = W2 at F ⊢
  obtain ⟨hs1, bB, bR, hB1⟩ := F
  have HS1 := Lib.hid hs1
  have hcb := bB.cell
  have HBR := Lib.hid bR
  have HBB := Lib.hid bB
  have HRA : Hid (Rd .u32 W2.drew A n la) := HR.out.below (below_drew1 hB1)
  have HRB : Hid (Rd .u32 W2.drew A' n' lb) := HR'.out.below (below_drew1 hB1)
  have hcb2 : W2.drew.cell? ⟨w.heap.size, 0, none⟩ = some (.slice A' n' cap') := hcb
  have hlt1 : w.heap.size < W2.drew.heap.size := by show w.heap.size < W2.heap.size; omega
  clear hs1 bB bR
  obtain ⟨qa, hqa⟩ : ∃ qa, bitlen (val 4294967296 la) = qa := ⟨_, rfl⟩
  have hqb : bitlen (val 4294967296 lb) = qa := by rw [← HSAME.out, hqa]
  have ho := ord_self qa
  have ba : ∀ W, Rd .u32 W A n la → Calls Tryz.prog 137 #[.slice A n cap] W fun e w' => e = .returned (.int .i64 (qa : Int)) ∧ Below W.heap.size W w' := fun W hW => by rw [← hqa]; exact Bits_ok A n cap la W hW hf h1 h2
  have bb : ∀ W, Rd .u32 W A' n' lb → Calls Tryz.prog 137 #[.slice A' n' cap'] W fun e w' => e = .returned (.int .i64 (qa : Int)) ∧ Below W.heap.size W w' := fun W hW => by rw [← hqb]; exact Bits_ok A' n' cap' lb W hW hf' h3 h4
  have BA := Lib.hid ba
  have BB := Lib.hid bb
  clear hqa hqb ba bb
  go_wp2
  refine wp_region_noPanic ?_
  go_region_law (first
    | (go_simp; go_at_call 137; (with_reducible refine (BA.out W2.drew HRA.out).mono ?_); rintro e w3 ⟨rfl, hb3⟩; have hc3 := (hb3.cell (p := ⟨w.heap.size, 0, none⟩) hlt1).trans hcb2)
    | (go_simp; go_at_call 137; (with_reducible refine (BB.out w3 (HRB.out.below hb3)).mono ?_); rintro e w4 ⟨rfl, hb4⟩)
    | (go_simp; go_at_call 205; refine (cmpInt_any qa qa _).mono ?_; rintro e w5 ⟨rfl, rfl⟩))
  all_goals (refine NoPanic.normal ?_)
  all_goals
    have b3 : Below w.heap.size w w3 := (below_drew1 hB1).trans (hb3.mono (by show w.heap.size ≤ W2.heap.size; have := HS1.out; omega))
    have b4 : Below w.heap.size w w4 := b3.trans (hb4.mono b3.size)
    have br4 : Boxed w4 (w.heap.size + 1) 3 (.int .i64 0) := boxed_below (boxed_below (w := W2.drew) HBR.out hb3) hb4
    have bb4 : Boxed w4 w.heap.size 116 (.slice A' n' cap') := boxed_below (boxed_below (w := W2.drew) HBB.out hb3) hb4
    have hs4 : w.heap.size + 3 ≤ w4.heap.size := by have e1 := hb3.size; have e2 := hb4.size; have e3 := HS1.out; have e4 : W2.drew.heap.size = W2.heap.size := rfl; omega
    have HS4 := Lib.hid hs4
    clear hc3 hb3 hb4 hs4
    go_wp2_with fail
    refine (down_any A n cap w4).mono ?_
    rintro e w5 ⟨rfl, rfl⟩
    have bN := Boxed.new w4 116 (.slice A n cap)
    have hB5 : Below w.heap.size w (w4.alloc (.cells #[.slice A n cap] 116)) := b4.alloc b4.size _
    have br5 := br4.alloc (.cells #[.slice A n cap] 116)
    have bb5 := bb4.alloc (.cells #[.slice A n cap] 116)
    have hR5 := HR.out.below hB5
    have hlt5 : ∀ ad, A = some ad → ad.block < w4.heap.size + 1 := fun ad e => by have := HR.out.lt (by omega) ad e; have := HS4.out; omega
    have hs5 : (w4.alloc (.cells #[.slice A n cap] 116)).heap.size = w4.heap.size + 1 := World.size_alloc _ _
    go_wp2
    refine (wpIn_wide (n := 5)).1 ?_
    refine wpIn_rangeFunc_ownG rfl (by omega) (gf := 188) (lb := #[.pointer (some ⟨w4.heap.size, 0, none⟩)]) rfl trivial (enters_of Tryz.func188 (by kernel_rfl) rfl)
      (down_stops 4 (by omega) w4.heap.size (w4.heap.size + 1) n cap A la h2 hf _ (by rw [hs5]; omega) (by omega) (by rw [hs5]; omega) bN.cell hR5 hlt5) belowK_t (belowK_b (by rw [hs5]; omega)) (Below.refl _ _) (fun _ => rfl)
      (fun pre W => ((∀ p ∈ pre, p.1.1 < n' → p.1.2 = dig lb p.1.1) ∧ W.cell? ⟨w.heap.size + 1, 0, none⟩ = some (.int .i64 0) ∧ W.frozen? ⟨w.heap.size + 1, 0, none⟩ = false ∧ W.cell? ⟨w.heap.size, 0, none⟩ = some (.slice A' n' cap')) ∧ Below w.heap.size w W)
      (fun c pre W => (c = .ret ∧ ∃ ini last, pre = ini ++ [last] ∧ (∀ p ∈ ini, p.1.1 < n' → p.1.2 = dig lb p.1.1) ∧ last.1.1 < n' ∧ last.1.2 ≠ dig lb last.1.1 ∧ W.cell? ⟨w.heap.size + 1, 0, none⟩ = some (.int .i64 (ord last.1.2 (dig lb last.1.1)))) ∧ Below w.heap.size w W)
      (OwnFrom.and (Own.from (fun s A B row hs hg hr => ⟨hs.1, cell_kept hs.2.1 hg hr, (frozen_kept hs.2.1 hg hr).trans hs.2.2.1, cell_kept hs.2.2.2 hg hr⟩) _) (ownFrom_below (Nat.le_refl _) (by rw [hs5]; have := HS4.out; omega)))
      (fun c => OwnFrom.and (Own.from (fun s A B row hs hg hr => by obtain ⟨hc, ini, last, e1, e2, e3, e4, e5⟩ := hs; exact ⟨hc, ini, last, e1, e2, e3, e4, cell_kept e5 hg hr⟩) _) (ownFrom_below (Nat.le_refl _) (by rw [hs5]; have := HS4.out; omega)))
      ⟨⟨by simp, br5.cell, br5.frozen, bb5.cell⟩, hB5⟩
      (fun x => { tmps := #[.slice A n cap, .slice A' n' cap', undef, .pointer (some ⟨w.heap.size, 0, none⟩), .pointer (some ⟨w.heap.size + 1, 0, none⟩), .int .i64 0, .int .i64 (x.1.1 : Int), .int .u32 (x.1.2 : Int), .slice A n cap, .slice A' n' cap', .slice (some ⟨w.heap.size + 1 + 1, 0, none⟩) 2 2, .bool true, .bool false, .slice A n cap, .int .i64 (qa : Int), .slice A' n' cap', .int .i64 (qa : Int), .int .i64 0, .int .i64 0, .bool false, undef, .slice A n cap, .func (.func 188) #[] #[.pointer (some ⟨w4.heap.size, 0, none⟩)], .int .i64 (x.1.1 : Int), .int .u32 (x.1.2 : Int), undef, undef, undef, undef, undef, undef, undef, undef, undef, undef, undef, undef, undef, undef, undef, undef, undef, undef], defers := [] }) ?assign ?body ?done ?stop
    case assign =>
      intro L x W K hK
      dsimp only [encs]
      gi_wp2
      exact hK
    case body =>
      rintro L pre ⟨⟨i, x⟩, hi, hx⟩ W ⟨⟨hp, hcr, hfr, hcb⟩, hB⟩ _
      dsimp only
      dsimp only at hi hx
      by_cases hin : i < n'
      · have hR' := HR'.out.below hB
        obtain ⟨ad', y, rfl, hy, hcell'⟩ := hR'.get (j := i) hin
        have dy := dig_some hy
        have DY := Lib.hid dy
        have hy1 := hf'.get hy
        clear hy dy hR'
        by_cases hxy : x = y
        · subst hxy
          gi_wp2
          exact ⟨KeepsFrom.refl _ _, Below.refl _ _, ⟨fun p hp' => (List.mem_append.1 hp').elim (hp p) (fun e => by rw [List.mem_singleton.1 e]; intro _; exact DY.out.symm), hcr, hfr, hcb⟩, hB⟩
        · have hx2 : (x != y) = true := by simp [hxy]
          have hx3 : ((x : Int) != (y : Int)) = true := by simp; omega
          gi_wp2_with (refine ⟨trivial, ?_⟩; gi_at_call 206; refine (CallsIn.inRound L (callsIn_wide.2 (cmpU32_any x y W))).mono ?_; rintro e w' ⟨rfl, rfl⟩)
          exact ⟨(KeepsOthers.setCell _ _ _).from _, ⟨rfl, pre, _, rfl, hp, hin, by rw [DY.out]; exact hxy, by rw [DY.out]; exact World.cell?_setCell_same' _ _ _ (by rw [hcr]; rfl)⟩, hB.setCell (p := ⟨w.heap.size + 1, 0, none⟩) (by simp) _⟩
      · have hin2 : n' ≤ i := by omega
        gi_wp2
        exact ⟨KeepsFrom.refl _ _, Below.refl _ _, ⟨fun p hp' => (List.mem_append.1 hp').elim (hp p) (fun e => by rw [List.mem_singleton.1 e]; intro h; exact absurd h hin), hcr, hfr, hcb⟩, hB⟩
    case done =>
      rintro D ys W hD rfl ⟨⟨hz, hcr, hfr, hcb⟩, hB⟩ hK
      go_wp2
      have hK' := (KeepsOthers.setCell W ⟨w.heap.size + 1, 0, none⟩ (.int .i64 0)).same D _ hK rfl
      refine ⟨by simp, .inl ⟨_, _, rfl, run_takeDeferred hK', ?_⟩⟩
      have hc5 := cell_kept (World.cell?_setCell_same' W ⟨w.heap.size + 1, 0, none⟩ (.int .i64 0) (by rw [hcr]; rfl)) (grownBy_putObj' _ D (.deferred none)) (fun r e => by cases e; exact ⟨_, hK', rfl⟩)
      have hv : val 4294967296 la = val 4294967296 lb := val_same (fun i => by
        by_cases h5 : i < n ∧ i < n'
        · obtain ⟨x, hx⟩ := get_some (l := la) (i := i) (by omega)
          obtain ⟨p, hp, e⟩ := upto_mem (k := n) (by omega) hf hx (by omega)
          have := hz p hp
          rw [e] at this
          rw [dig_some hx]
          exact this h5.2
        · exact same_bits hf hf' HSAME.out (by omega))
      refine ⟨.int .i64 0, ?_, by rw [hv, ord_self], (hB.setCell (p := ⟨w.heap.size + 1, 0, none⟩) (by simp) _).trans (belowK_b (w := w) (Nat.le_refl _) _ D _ _ (by rw [hs5] at hD; have := HS4.out; omega) hK' rfl rfl)⟩
      simp [results, Tryz.f190, go_sem, hc5]
    case stop =>
      rintro D c pre W hD ⟨k, hk, rfl⟩ ⟨⟨rfl, ini, last, e1, e2, e3, e4, hcr⟩, hB⟩ hK
      gi_wp2
      refine ⟨by simp, .inl ⟨_, _, rfl, run_takeDeferred hK, ?_⟩⟩
      have hc5 := cell_kept hcr (grownBy_putObj' _ D (.deferred none)) (fun r e => by cases e; exact ⟨_, hK, rfl⟩)
      obtain ⟨k', rfl⟩ : ∃ k', k = k' + 1 := by
        cases k with
        | zero => simp [upto] at e1
        | succ k' => exact ⟨k', rfl⟩
      rw [upto_succ] at e1
      obtain ⟨rfl, e5⟩ := List.append_inj' e1 rfl
      obtain rfl : itemAt la k' = last := by simpa using e5
      obtain ⟨j, hj⟩ : ∃ j, n = k' + j + 1 := ⟨n - k' - 1, by omega⟩
      obtain ⟨x, hx⟩ := get_some (l := la) (i := j) (by omega)
      have hit := itemAt_eq hx (k := k') (by omega) (by omega) (hf.get hx)
      rw [hit] at e3 e4 hc5
      have hv := ord_dig (B := 4294967296) (j := j) (by omega) hf hf' (by rw [dig_some hx]; exact e4) (fun i hji => by
        by_cases h5 : i < n ∧ i < n'
        · obtain ⟨y, hy⟩ := get_some (l := la) (i := i) (by omega)
          obtain ⟨p, hp, e⟩ := upto_mem (k := k') (by omega) hf hy (by omega)
          have := e2 p hp
          rw [e] at this
          rw [dig_some hy]
          exact this h5.2
        · exact same_bits hf hf' HSAME.out (by omega))
      rw [dig_some hx] at hv
      refine ⟨.int .i64 (ord x (dig lb j)), ?_, by rw [hv], hB.trans (belowK_b (w := w) (Nat.le_refl _) W D _ _ (by rw [hs5] at hD; have := HS4.out; omega) hK rfl rfl)⟩
      simp [results, Tryz.f190, go_sem, hc5]
theorem Compare_ok (A A' : Option Addr) (n cap n' cap' : Nat) (la lb : List Nat) (w : World) (h : Rd .u32 w A n la) (h' : Rd .u32 w A' n' lb) (hf : Fit 4294967296 la) (hf' : Fit 4294967296 lb) (h1 : 1 ≤ n) (h2 : n ≤ 256) (h3 : 1 ≤ n') (h4 : n' ≤ 256) :
    Calls Tryz.prog 190 #[.slice A n cap, .slice A' n' cap'] w fun e w' => e = .returned (.int .i64 (ord (val 4294967296 la) (val 4294967296 lb))) ∧ Below w.heap.size w w' := by
  rcases Nat.lt_trichotomy (bitlen (val 4294967296 la)) (bitlen (val 4294967296 lb)) with hb | hb | hb
  · have := ord_bits hb
    rw [show ord (val 4294967296 la) (val 4294967296 lb) = -1 by rw [ord, if_pos this]]
    exact Compare_diff A A' n cap n' cap' la lb w h h' hf hf' h1 h2 h3 h4 (-1) (by rw [ord, if_pos hb]) rfl
  · exact Compare_same A A' n cap n' cap' la lb w h h' hf hf' h1 h2 h3 h4 hb
  · have := ord_bits hb
    rw [show ord (val 4294967296 la) (val 4294967296 lb) = 1 by rw [ord, if_neg (by omega), if_pos this]]
    exact Compare_diff A A' n cap n' cap' la lb w h h' hf hf' h1 h2 h3 h4 1 (by rw [ord, if_neg (by omega), if_pos hb]) rfl
end Go.Proofs.YtlcoebenkhafcaaGreatDoor
