/-
  The program's Bits: how many bits the number has.
-/
import Derived.Test.YtojpbfkdkkdpcaaDoorIter
namespace Go.Proofs.YtojpbfkdkkdpcaaDoor
set_option maxRecDepth 100000
open Go.RowKit Go.Shelf
set_option linter.unusedVariables false
set_option linter.unusedSimpArgs false
attribute [local go_sem] Oper.semAt_some

theorem val_zeros (B : Nat) {l : List Nat} (h : ∀ d ∈ l, d = 0) : val B l = 0 := by
  induction l with
  | nil => rfl
  | cons d r ih => rw [val, h d (by simp), ih (fun x hx => h x (by simp [hx])), Nat.mul_zero]
/-- A number whose limbs above one that isn't 0 are 0. -/
theorem bits_at {l : List Nat} (hf : Fit 4294967296 l) {j x : Nat} (hx : l[j]? = some x) (hne : x ≠ 0) (hz : ∀ i y, j < i → l[i]? = some y → y = 0) : bitlen (val 4294967296 l) = 32 * j + bitlen x := by
  have e := split_at hx
  have hi := (List.getElem?_eq_some_iff.1 hx).1
  have hz2 : val 4294967296 (l.drop (j + 1)) = 0 := val_zeros _ (fun d hd => by
    obtain ⟨i, hi2⟩ := List.mem_iff_getElem?.1 hd
    rw [List.getElem?_drop] at hi2
    exact hz _ d (by omega) hi2)
  have hv : val 4294967296 l = val 4294967296 (l.take j ++ [x]) := by
    have e2 : val 4294967296 l = val 4294967296 (l.take j ++ x :: l.drop (j + 1)) := by rw [← e]
    rw [e2, val_append, val_snoc, val, hz2, Nat.mul_zero, Nat.add_zero]
  have hl : (l.take j).length = j := by simp; omega
  have := bitlen_top 32 (a := l.take j) (d := x) (hf.take j) hne
  rw [hl] at this
  rw [hv]
  exact this
theorem upto_mem {l : List Nat} {k i y : Nat} (hl : l.length ≤ 256) (hf : Fit 4294967296 l) (hy : l[i]? = some y) (hi : l.length ≤ i + k) : ∃ p ∈ upto l k, p.1 = (i, y) := by
  have h1 := (List.getElem?_eq_some_iff.1 hy).1
  refine ⟨itemAt l (l.length - 1 - i), ?_, ?_⟩
  · rw [upto, List.mem_map]
    exact ⟨_, List.mem_range.2 (by omega), rfl⟩
  · rw [itemAt_eq (k := l.length - 1 - i) hy (by omega) (by omega) (hf.get hy)]

theorem Lists.new1' (w : World) (A : Option Addr) (n cap : Nat) (g : Nat) (hg : w.heap.size = g) : Lists (w.alloc (.cells #[.slice A n cap] 45)) (some ⟨g, 0, none⟩) [(A, n, cap)] := by
  subst hg; exact Lists.new1 w A n cap

theorem Bits_no (A : Option Addr) (len cap : Nat) (w : World) (h : okW len = false) : Calls Tryd.prog 53 #[.slice A len cap] w fun e w' => e = .returned (.int .i64 0) ∧ Below w.heap.size w w' := by
  have hall : ([(A, len, cap)].all fun p => okW p.2.1) = false := by simp [h]
  have HALL := Lib.hid hall
  clear hall h
  go_enter Tryd.func53, Tryd.ntmps53
  go_wp2_with fail
  refine (areNumbers_any _ 1 1 _ _ (Lists.new1' (w.alloc (.cells #[.int .i64 0] 3)) A len cap (w.heap.size + 1) (World.size_alloc _ _)) rfl (by omega)).mono ?_
  rintro e w1 ⟨rfl, rfl⟩
  rw [HALL.out]
  go_wp2
  have hc0 : ((w.alloc (.cells #[.int .i64 0] 3)).alloc (.cells #[.slice A len cap] 45)).cell? ⟨w.heap.size, 0, none⟩ = some (.int .i64 0) := ((Boxed.new w 3 (.int .i64 0)).alloc _).cell
  (try simp only [Exit.inBlock, Exit.then])
  refine bodyPost_ret (v := .int .i64 0) (by simp [results, Tryd.f53, go_sem, hc0]) rfl ?_
  exact ⟨rfl, ((Below.refl _ w).alloc (Nat.le_refl _) _).alloc (by simp) _⟩


set_option maxRecDepth 100000 in
set_option maxHeartbeats 2000000 in
theorem Bits_ok (A : Option Addr) (len cap : Nat) (l : List Nat) (w : World) (h : Rd .u32 w A len l) (hf : Fit 4294967296 l) (h1 : 1 ≤ len) (h2 : len ≤ 256) :
    Calls Tryd.prog 53 #[.slice A len cap] w fun e w' => e = .returned (.int .i64 ((bitlen (val 4294967296 l) : Nat) : Int)) ∧ Below w.heap.size w w' := by
  have HR := Lib.hid h
  have hall : ([(A, len, cap)].all fun p => okW p.2.1) = true := by simp [okW, h1, h2]
  have HALL := Lib.hid hall
  have hl0 := h.1
  clear hall h
  refine (callsIn_wide (n := 5)).1 (callsIn_of_wp_marks Tryd.func53 rfl trivial ?_ rfl)
  simp only [Tryd.ntmps53, List.size_toArray, List.length_cons, List.length_nil, Nat.reduceAdd, Nat.reduceSub, Array.replicate_succ, Array.replicate_zero, List.push_toArray, List.append_toArray, List.nil_append, List.cons_append]
  refine wpIn_wide.2 ?_
  go_wp2_with fail
  refine (areNumbers_any _ 1 1 _ _ (Lists.new1' (w.alloc (.cells #[.int .i64 0] 3)) A len cap (w.heap.size + 1) (World.size_alloc _ _)) rfl (by omega)).mono ?_
  rintro e w1 ⟨rfl, rfl⟩
  rw [HALL.out]
  have F : ((w.alloc (.cells #[.int .i64 0] 3)).alloc (.cells #[.slice A len cap] 45)).heap.size = w.heap.size + 2 ∧ Boxed ((w.alloc (.cells #[.int .i64 0] 3)).alloc (.cells #[.slice A len cap] 45)) w.heap.size 3 (.int .i64 0) ∧ Below w.heap.size w ((w.alloc (.cells #[.int .i64 0] 3)).alloc (.cells #[.slice A len cap] 45)) :=
    ⟨by simp, (Boxed.new w 3 (.int .i64 0)).alloc _, ((Below.refl _ w).alloc (Nat.le_refl _) _).alloc (by simp) _⟩
  generalize ((w.alloc (.cells #[.int .i64 0] 3)).alloc (.cells #[.slice A len cap] 45)) = W1 at F ⊢
  obtain ⟨hs1, bR, hB1⟩ := F
  have HS1 := Lib.hid hs1
  clear hs1
  go_wp2_with fail
  refine (down_any A len cap W1).mono ?_
  rintro e w2 ⟨rfl, rfl⟩
  have bN := Boxed.new W1 45 (.slice A len cap)
  have hB2 : Below w.heap.size w (W1.alloc (.cells #[.slice A len cap] 45)) := hB1.alloc hB1.size _
  have hc2 := (bR.alloc (.cells #[.slice A len cap] 45)).cell
  have hf2 := (bR.alloc (.cells #[.slice A len cap] 45)).frozen
  have hR2 := HR.out.below hB2
  have hlt2 : ∀ ad, A = some ad → ad.block < W1.heap.size + 1 := fun ad e => by have := HR.out.lt (by omega) ad e; have := HS1.out; omega
  have hs2 : (W1.alloc (.cells #[.slice A len cap] 45)).heap.size = W1.heap.size + 1 := World.size_alloc _ _
  go_wp2
  refine (wpIn_wide (n := 5)).1 ?_
  refine wpIn_rangeFunc_ownG rfl (by omega) (gf := 93) (lb := #[.pointer (some ⟨W1.heap.size, 0, none⟩)]) rfl trivial (enters_of Tryd.func93 (by kernel_rfl) rfl)
    (down_stops 4 (by omega) W1.heap.size (W1.heap.size + 1) len cap A l h2 hf _ (by rw [hs2]; omega) (by omega) (by rw [hs2]; omega) bN.cell hR2 hlt2) belowK_t (belowK_b (by rw [hs2]; omega)) (Below.refl _ _) (fun _ => rfl)
    (fun pre W => ((∀ p ∈ pre, p.1.2 = 0) ∧ W.cell? ⟨w.heap.size, 0, none⟩ = some (.int .i64 0) ∧ W.frozen? ⟨w.heap.size, 0, none⟩ = false) ∧ Below w.heap.size w W)
    (fun c pre W => (c = .ret ∧ ∃ ini last, pre = ini ++ [last] ∧ (∀ p ∈ ini, p.1.2 = 0) ∧ last.1.2 ≠ 0 ∧ W.cell? ⟨w.heap.size, 0, none⟩ = some (.int .i64 ((32 * last.1.1 + bitlen last.1.2 : Nat) : Int))) ∧ Below w.heap.size w W)
    (OwnFrom.and (Own.from (fun s A B row hs hg hr => ⟨hs.1, cell_kept hs.2.1 hg hr, (frozen_kept hs.2.1 hg hr).trans hs.2.2⟩) _) (ownFrom_below (Nat.le_refl _) (by rw [hs2]; have := HS1.out; omega)))
    (fun c => OwnFrom.and (Own.from (fun s A B row hs hg hr => by obtain ⟨hc, ini, last, e1, e2, e3, e4⟩ := hs; exact ⟨hc, ini, last, e1, e2, e3, cell_kept e4 hg hr⟩) _) (ownFrom_below (Nat.le_refl _) (by rw [hs2]; have := HS1.out; omega)))
    ⟨⟨by simp, hc2, hf2⟩, hB2⟩
    (fun x => { tmps := #[.slice A len cap, undef, .pointer (some ⟨w.heap.size, 0, none⟩), .int .i64 (x.1.1 : Int), .int .u32 (x.1.2 : Int), .slice A len cap, .slice (some ⟨w.heap.size + 1, 0, none⟩) 1 1, .bool true, .bool false, .slice A len cap, .func (.func 93) #[] #[.pointer (some ⟨W1.heap.size, 0, none⟩)], .int .i64 (x.1.1 : Int), .int .u32 (x.1.2 : Int), undef, undef, undef, undef, undef, undef, undef], defers := [] }) ?assign ?body ?done ?stop
  case assign =>
    intro L x W K hK
    dsimp only [encs]
    gi_wp2
    exact hK
  case body =>
    rintro L pre ⟨⟨i, x⟩, hi, hx⟩ W ⟨⟨hp, hcr, hfr⟩, hB⟩ _
    dsimp only
    dsimp only at hi hx
    have hbl : bitlen x ≤ 32 := (bitlen_le x 32).2 hx
    rcases Nat.eq_zero_or_pos x with rfl | hx0
    · gi_wp2
      exact ⟨KeepsFrom.refl _ _, Below.refl _ _, ⟨fun p hp' => (List.mem_append.1 hp').elim (hp p) (fun e => by rw [List.mem_singleton.1 e]), hcr, hfr⟩, hB⟩
    · have hx2 : (x != 0) = true := by simp; omega
      have hx3 : ((x : Int) != 0) = true := by simp; omega
      have hne : x ≠ 0 := by omega
      gi_wp2_with (refine ⟨trivial, ?_⟩; gi_at_call 79; refine (CallsIn.inRound L (callsIn_wide.2 (Len32_any x hx W))).mono ?_; rintro e w' ⟨rfl, rfl⟩)
      have ev : (32 * (i : Int) + ((bitlen x : Nat) : Int)) = ((32 * i + bitlen x : Nat) : Int) := by omega
      exact ⟨(KeepsOthers.setCell _ _ _).from _, ⟨rfl, pre, _, rfl, hp, hne, by rw [ev]; exact World.cell?_setCell_same' _ _ _ (by rw [hcr]; rfl)⟩, hB.setCell (p := ⟨w.heap.size, 0, none⟩) (Nat.le_refl _) _⟩
  case done =>
    rintro D ys W hD rfl ⟨⟨hz, hcr, hfr⟩, hB⟩ hK
    go_wp2
    have hK' := (KeepsOthers.setCell W ⟨w.heap.size, 0, none⟩ (.int .i64 0)).same D _ hK rfl
    refine ⟨by simp, .inl ⟨_, _, rfl, run_takeDeferred hK', ?_⟩⟩
    have hc5 := cell_kept (World.cell?_setCell_same' W ⟨w.heap.size, 0, none⟩ (.int .i64 0) (by rw [hcr]; rfl)) (grownBy_putObj' _ D (.deferred none)) (fun r e => by cases e; exact ⟨_, hK', rfl⟩)
    have hv : val 4294967296 l = 0 := val_zeros _ (fun d hd => by
      obtain ⟨i, hi2⟩ := List.mem_iff_getElem?.1 hd
      obtain ⟨p, hp, e⟩ := upto_mem (k := len) (by omega) hf hi2 (by omega)
      have := hz p hp
      rw [e] at this
      exact this)
    refine ⟨.int .i64 0, ?_, by rw [hv]; rfl, (hB.setCell (p := ⟨w.heap.size, 0, none⟩) (Nat.le_refl _) _).trans (belowK_b (w := w) (Nat.le_refl _) _ D _ _ (by rw [hs2] at hD; have := HS1.out; omega) hK' rfl rfl)⟩
    simp [results, Tryd.f53, go_sem, hc5]
  case stop =>
    rintro D c pre W hD ⟨k, hk, rfl⟩ ⟨⟨rfl, ini, last, e1, e2, e3, hcr⟩, hB⟩ hK
    gi_wp2
    refine ⟨by simp, .inl ⟨_, _, rfl, run_takeDeferred hK, ?_⟩⟩
    have hc5 := cell_kept hcr (grownBy_putObj' _ D (.deferred none)) (fun r e => by cases e; exact ⟨_, hK, rfl⟩)
    obtain ⟨k', rfl⟩ : ∃ k', k = k' + 1 := by
      cases k with
      | zero => simp [upto] at e1
      | succ k' => exact ⟨k', rfl⟩
    rw [upto_succ] at e1
    obtain ⟨rfl, e5⟩ := List.append_inj' e1 rfl
    obtain rfl : itemAt l k' = last := by simpa using e5
    obtain ⟨j, hj⟩ : ∃ j, len = k' + j + 1 := ⟨len - k' - 1, by omega⟩
    obtain ⟨x, hx⟩ := get_some (l := l) (i := j) (by omega)
    have hit := itemAt_eq hx (k := k') (by omega) (by omega) (hf.get hx)
    rw [hit] at e3 hc5
    have hv := bits_at hf hx e3 (fun i y hji hy => by
      obtain ⟨p, hp, e⟩ := upto_mem (k := k') (by omega) hf hy (by omega)
      have := e2 p hp
      rw [e] at this
      exact this)
    refine ⟨.int .i64 ((32 * j + bitlen x : Nat) : Int), ?_, by rw [hv], hB.trans (belowK_b (w := w) (Nat.le_refl _) W D _ _ (by rw [hs2] at hD; have := HS1.out; omega) hK rfl rfl)⟩
    simp [results, Tryd.f53, go_sem, hc5]
end Go.Proofs.YtojpbfkdkkdpcaaDoor
