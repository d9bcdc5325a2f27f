/-
  The program's Compare: which of two numbers is the greater.
-/
import Derived.Test.YtojpbfkdkkdpcaaDoorBits
import Derived.Test.YtojpbfkdkkdpcaaDoorProg4
namespace Go.Proofs.YtojpbfkdkkdpcaaDoor
set_option maxRecDepth 100000
open Go.RowKit Go.Shelf
set_option linter.unusedVariables false
set_option linter.unusedSimpArgs false
attribute [local go_sem] Oper.semAt_some

theorem dig_high {B : Nat} {l : List Nat} {i k : Nat} (hB : 0 < B) (h : val B l < B ^ k) (hi : k ≤ i) : dig l i = 0 := by
  rcases Nat.lt_or_ge i l.length with h1 | h1
  · obtain ⟨o, ho⟩ := get_some h1
    rw [dig_some ho]
    exact high_zero ho (Nat.lt_of_lt_of_le h (Nat.pow_le_pow_right hB hi))
  · exact dig_none h1
theorem take_same {B : Nat} {a b : List Nat} (h : ∀ i, dig a i = dig b i) (k : Nat) : val B (a.take k) = val B (b.take k) := by
  induction k with
  | zero => rfl
  | succ k ih => rw [val_take_succ, val_take_succ, ih, h k]
theorem val_same {B : Nat} {a b : List Nat} (h : ∀ i, dig a i = dig b i) : val B a = val B b := by
  have := take_same (B := B) h (a.length + b.length)
  rwa [List.take_of_length_le (by omega), List.take_of_length_le (by omega)] at this
theorem ord_add (p q c : Nat) : ord (p + c) (q + c) = ord p q := by unfold ord; split <;> split <;> (try split) <;> (try split) <;> omega
theorem take_lt {B : Nat} {l : List Nat} (hf : Fit B l) (hB : 0 < B) (k : Nat) : val B (l.take k) < B ^ k :=
  Nat.lt_of_lt_of_le (val_lt (hf.take k)) (Nat.pow_le_pow_right hB (by simp; omega))
theorem ord_dig {B : Nat} {a b : List Nat} {j : Nat} (hB : 0 < B) (ha : Fit B a) (hb : Fit B b) (hne : dig a j ≠ dig b j) (h : ∀ i, j < i → dig a i = dig b i) : ord (val B a) (val B b) = ord (dig a j) (dig b j) := by
  have key : ∀ m, ord (val B (a.take (j + 1 + m))) (val B (b.take (j + 1 + m))) = ord (dig a j) (dig b j) := by
    intro m
    induction m with
    | zero =>
      rw [Nat.add_zero, val_take_succ, val_take_succ]
      have h1 := take_lt ha hB j
      have h2 := take_lt hb hB j
      generalize B ^ j = P at *
      have k2 : ∀ x y u v : Nat, x < P → y < P → u < v → x + P * u < y + P * v := by
        intro x y u v hx hy huv
        have : P * (u + 1) ≤ P * v := Nat.mul_le_mul_left _ huv
        rw [Nat.mul_add, Nat.mul_one] at this
        omega
      unfold ord
      rcases Nat.lt_or_gt_of_ne hne with h3 | h3
      · rw [if_pos (k2 _ _ _ _ h1 h2 h3), if_pos h3]
      · have := k2 _ _ _ _ h2 h1 h3
        rw [if_neg (by omega), if_pos this, if_neg (by omega), if_pos h3]
    | succ m ih =>
      rw [← Nat.add_assoc, val_take_succ, val_take_succ, h (j + 1 + m) (by omega), ord_add, ih]
  have := key (a.length + b.length)
  rwa [List.take_of_length_le (by omega), List.take_of_length_le (by omega)] at this
/-- Numbers of as many bits have the same limbs where only one of them has some. -/
theorem same_bits {la lb : List Nat} (hf : Fit 4294967296 la) (hf' : Fit 4294967296 lb) (h : bitlen (val 4294967296 la) = bitlen (val 4294967296 lb)) {i : Nat} (hi : lb.length ≤ i ∨ la.length ≤ i) : dig la i = dig lb i := by
  have p32 : ∀ k, 4294967296 ^ k = 2 ^ (32 * k) := fun k => by rw [Nat.pow_mul]
  have e1 : val 4294967296 la < 4294967296 ^ lb.length := by
    rw [p32, ← bitlen_le, h, bitlen_le, ← p32]; exact val_lt hf'
  have e2 : val 4294967296 lb < 4294967296 ^ la.length := by
    rw [p32, ← bitlen_le, ← h, bitlen_le, ← p32]; exact val_lt hf
  rcases hi with hi | hi
  · rw [dig_high (by omega) e1 hi, dig_none hi]
  · rw [dig_high (by omega) e2 hi, dig_none hi]
theorem ord_bits {x y : Nat} (h : bitlen x < bitlen y) : x < y := by
  have h1 := (bitlen_le x (bitlen x)).1 (Nat.le_refl _)
  have h2 : ¬ y < 2 ^ bitlen x := fun h3 => by have := (bitlen_le y (bitlen x)).2 h3; omega
  omega

theorem Lists.new2' (w : World) (A : Option Addr) (n cap : Nat) (A' : Option Addr) (n' cap' : Nat) (g : Nat) (hg : w.heap.size = g) : Lists (w.alloc (.cells #[.slice A n cap, .slice A' n' cap'] 45)) (some ⟨g, 0, none⟩) [(A, n, cap), (A', n', cap')] := by
  subst hg; exact Lists.new2 w A n cap A' n' cap'
/-- The three blocks that Compare lays first. -/
def W3 (w : World) (A : Option Addr) (n cap : Nat) (A' : Option Addr) (n' cap' : Nat) : World := ((w.alloc (.cells #[.slice A' n' cap'] 45)).alloc (.cells #[.int .i64 0] 3)).alloc (.cells #[.slice A n cap, .slice A' n' cap'] 45)
theorem boxed_below {w w' : World} {B : Nat} {t : TypeId} {v : Value} (h : Boxed w B t v) (hb : Below w.heap.size w w') : Boxed w' B t v := (hb.block B h.lt).trans h
theorem W3_facts (w : World) (A : Option Addr) (n cap : Nat) (A' : Option Addr) (n' cap' : Nat) : (W3 w A n cap A' n' cap').heap.size = w.heap.size + 3 ∧ Boxed (W3 w A n cap A' n' cap') w.heap.size 45 (.slice A' n' cap') ∧ Boxed (W3 w A n cap A' n' cap') (w.heap.size + 1) 3 (.int .i64 0) ∧ Below w.heap.size w (W3 w A n cap A' n' cap') := by
  refine ⟨by simp [W3], ((Boxed.new w 45 _).alloc _).alloc _, ?_, (((Below.refl _ w).alloc (Nat.le_refl _) _).alloc (by simp) _).alloc (by simp; omega) _⟩
  have := (Boxed.new (w.alloc (.cells #[.slice A' n' cap'] 45)) 3 (.int .i64 0)).alloc (.cells #[.slice A n cap, .slice A' n' cap'] 45)
  rw [World.size_alloc] at this
  exact this

set_option maxRecDepth 100000 in
set_option maxHeartbeats 1000000 in
theorem Compare_no (A A' : Option Addr) (n cap n' cap' : Nat) (w : World) (h : (okW n && okW n') = false) :
    Calls Tryd.prog 82 #[.slice A n cap, .slice A' n' cap'] w fun e w' => e = .returned (.int .i64 0) ∧ Below w.heap.size w w' := by
  have hall : ([(A, n, cap), (A', n', cap')].all fun p => okW p.2.1) = false := by simpa using h
  have HALL := Lib.hid hall
  clear hall h
  go_enter Tryd.func82, Tryd.ntmps82
  go_wp2_with fail
  refine (areNumbers_any _ 2 2 _ _ (Lists.new2' ((w.alloc (.cells #[.slice A' n' cap'] 45)).alloc (.cells #[.int .i64 0] 3)) A n cap A' n' cap' (w.heap.size + 1 + 1) (by simp)) rfl (by omega)).mono ?_
  rintro e w1 ⟨rfl, rfl⟩
  rw [HALL.out]
  have F := W3_facts w A n cap A' n' cap'
  rw [show ((w.alloc (.cells #[.slice A' n' cap'] 45)).alloc (.cells #[.int .i64 0] 3)).alloc (.cells #[.slice A n cap, .slice A' n' cap'] 45) = W3 w A n cap A' n' cap' from rfl]
  generalize W3 w A n cap A' n' cap' = W2 at F ⊢
  obtain ⟨hs1, bB, bR, hB1⟩ := F
  have hcr := bR.cell
  have hfr := bR.frozen
  go_wp2
  have hc5 := World.cell?_setCell_same' W2 ⟨w.heap.size + 1, 0, none⟩ (.int .i64 0) (by rw [hcr]; rfl)
  (try simp only [Exit.inBlock, Exit.then])
  refine bodyPost_ret (v := .int .i64 0) (by simp [results, Tryd.f82, go_sem, hc5]) rfl ?_
  exact ⟨rfl, hB1.setCell (p := ⟨w.heap.size + 1, 0, none⟩) (by simp) _⟩

set_option maxRecDepth 100000 in
set_option maxHeartbeats 1000000 in
theorem Compare_diff (A A' : Option Addr) (n cap n' cap' : Nat) (la lb : List Nat) (w : World) (h : Rd .u32 w A n la) (h' : Rd .u32 w A' n' lb) (hf : Fit 4294967296 la) (hf' : Fit 4294967296 lb) (h1 : 1 ≤ n) (h2 : n ≤ 256) (h3 : 1 ≤ n') (h4 : n' ≤ 256) (o : Int) (ho : ord (bitlen (val 4294967296 la)) (bitlen (val 4294967296 lb)) = o) (ho1 : (o != 0) = true) :
    Calls Tryd.prog 82 #[.slice A n cap, .slice A' n' cap'] w fun e w' => e = .returned (.int .i64 o) ∧ Below w.heap.size w w' := by
  have hall : ([(A, n, cap), (A', n', cap')].all fun p => okW p.2.1) = true := by simp [okW]; omega
  have HALL := Lib.hid hall
  have HR := Lib.hid h
  have HR' := Lib.hid h'
  clear hall h h'
  go_enter Tryd.func82, Tryd.ntmps82
  go_wp2_with fail
  refine (areNumbers_any _ 2 2 _ _ (Lists.new2' ((w.alloc (.cells #[.slice A' n' cap'] 45)).alloc (.cells #[.int .i64 0] 3)) A n cap A' n' cap' (w.heap.size + 1 + 1) (by simp)) rfl (by omega)).mono ?_
  rintro e w1 ⟨rfl, rfl⟩
  rw [HALL.out]
  have F := W3_facts w A n cap A' n' cap'
  rw [show ((w.alloc (.cells #[.slice A' n' cap'] 45)).alloc (.cells #[.int .i64 0] 3)).alloc (.cells #[.slice A n cap, .slice A' n' cap'] 45) = W3 w A n cap A' n' cap' from rfl]
  generalize W3 w A n cap A' n' cap' = W2 at F ⊢
  obtain ⟨hs1, bB, bR, hB1⟩ := F
  have HS1 := Lib.hid hs1
  have hcb := bB.cell
  have HBR := Lib.hid bR
  have HRA : Hid (Rd .u32 W2.drew A n la) := HR.out.below (below_drew1 hB1)
  have HRB : Hid (Rd .u32 W2.drew A' n' lb) := HR'.out.below (below_drew1 hB1)
  have hcb2 : W2.drew.cell? ⟨w.heap.size, 0, none⟩ = some (.slice A' n' cap') := hcb
  have hlt1 : w.heap.size < W2.drew.heap.size := by show w.heap.size < W2.heap.size; omega
  clear hs1 bB bR
  generalize hqa : bitlen (val 4294967296 la) = qa at *
  generalize hqb : bitlen (val 4294967296 lb) = qb at *
  have ba : ∀ W, Rd .u32 W A n la → Calls Tryd.prog 53 #[.slice A n cap] W fun e w' => e = .returned (.int .i64 (qa : Int)) ∧ Below W.heap.size W w' := fun W hW => by rw [← hqa]; exact Bits_ok A n cap la W hW hf h1 h2
  have bb : ∀ W, Rd .u32 W A' n' lb → Calls Tryd.prog 53 #[.slice A' n' cap'] W fun e w' => e = .returned (.int .i64 (qb : Int)) ∧ Below W.heap.size W w' := fun W hW => by rw [← hqb]; exact Bits_ok A' n' cap' lb W hW hf' h3 h4
  have BA := Lib.hid ba
  have BB := Lib.hid bb
  clear hqa hqb ba bb
  go_wp2
  go_region_law (first
    | (go_simp; go_at_call 53; (with_reducible refine (BA.out W2.drew HRA.out).mono ?_); rintro e w3 ⟨rfl, hb3⟩; have hc3 := (hb3.cell (p := ⟨w.heap.size, 0, none⟩) hlt1).trans hcb2)
    | (go_simp; go_at_call 53; (with_reducible refine (BB.out w3 (HRB.out.below hb3)).mono ?_); rintro e w4 ⟨rfl, hb4⟩)
    | (go_simp; go_at_call 96; refine (cmpInt_any qa qb _).mono ?_; rintro e w5 ⟨rfl, rfl⟩))
  all_goals
    have b3 : Below w.heap.size w w3 := (below_drew1 hB1).trans (hb3.mono (by show w.heap.size ≤ W2.heap.size; have := HS1.out; omega))
    have b4 : Below w.heap.size w w4 := b3.trans (hb4.mono b3.size)
    have br4 : Boxed w4 (w.heap.size + 1) 3 (.int .i64 0) := boxed_below (boxed_below (w := W2.drew) HBR.out hb3) hb4
    have hcr := br4.cell
    have hfr := br4.frozen
    clear hc3 hb3 hb4 br4
    go_wp2
    have hc5 := World.cell?_setCell_same' w4 ⟨w.heap.size + 1, 0, none⟩ (.int .i64 o) (by rw [hcr]; rfl)
    (try simp only [Exit.inBlock, Exit.then])
    refine bodyPost_ret (v := .int .i64 o) (by simp [results, Tryd.f82, go_sem, hc5]) rfl ?_
    exact ⟨rfl, b4.setCell (p := ⟨w.heap.size + 1, 0, none⟩) (by simp) _⟩
set_option maxRecDepth 100000 in
set_option maxHeartbeats 4000000 in
theorem Compare_same (A A' : Option Addr) (n cap n' cap' : Nat) (la lb : List Nat) (w : World) (h : Rd .u32 w A n la) (h' : Rd .u32 w A' n' lb) (hf : Fit 4294967296 la) (hf' : Fit 4294967296 lb) (h1 : 1 ≤ n) (h2 : n ≤ 256) (h3 : 1 ≤ n') (h4 : n' ≤ 256) (hsame : bitlen (val 4294967296 la) = bitlen (val 4294967296 lb)) :
    Calls Tryd.prog 82 #[.slice A n cap, .slice A' n' cap'] w fun e w' => e = .returned (.int .i64 (ord (val 4294967296 la) (val 4294967296 lb))) ∧ Below w.heap.size w w' := by
  have hall : ([(A, n, cap), (A', n', cap')].all fun p => okW p.2.1) = true := by simp [okW]; omega
  have HALL := Lib.hid hall
  have HR := Lib.hid h
  have HR' := Lib.hid h'
  have HSAME := Lib.hid hsame
  have hl0 := h.1
  have hl0' := h'.1
  clear hall h h' hsame
  refine (callsIn_wide (n := 5)).1 (callsIn_of_wp_marks Tryd.func82 rfl trivial ?_ rfl)
  simp only [Tryd.ntmps82, List.size_toArray, List.length_cons, List.length_nil, Nat.reduceAdd, Nat.reduceSub, Array.replicate_succ, Array.replicate_zero, List.push_toArray, List.append_toArray, List.nil_append, List.cons_append]
  refine wpIn_wide.2 ?_
  go_wp2_with fail
  refine (areNumbers_any _ 2 2 _ _ (Lists.new2' ((w.alloc (.cells #[.slice A' n' cap'] 45)).alloc (.cells #[.int .i64 0] 3)) A n cap A' n' cap' (w.heap.size + 1 + 1) (by simp)) rfl (by omega)).mono ?_
  rintro e w1 ⟨rfl, rfl⟩
  rw [HALL.out]
  have F := W3_facts w A n cap A' n' cap'
  rw [show ((w.alloc (.cells #[.slice A' n' cap'] 45)).alloc (.cells #[.int .i64 0] 3)).alloc (.cells #[.slice A n cap, .slice A' n' cap'] 45) = W3 w A n cap A' n' cap' from rfl]
  generalize W3 w A n cap A' n' cap' = W2 at F ⊢
  obtain ⟨hs1, bB, bR, hB1⟩ := F
  have HS1 := Lib.hid hs1
  have hcb := bB.cell
  have HBR := Lib.hid bR
  have HBB := Lib.hid bB
  have HRA : Hid (Rd .u32 W2.drew A n la) := HR.out.below (below_drew1 hB1)
  have HRB : Hid (Rd .u32 W2.drew A' n' lb) := HR'.out.below (below_drew1 hB1)
  have hcb2 : W2.drew.cell? ⟨w.heap.size, 0, none⟩ = some (.slice A' n' cap') := hcb
  have hlt1 : w.heap.size < W2.drew.heap.size := by show w.heap.size < W2.heap.size; omega
  clear hs1 bB bR
  obtain ⟨qa, hqa⟩ : ∃ qa, bitlen (val 4294967296 la) = qa := ⟨_, rfl⟩
  have hqb : bitlen (val 4294967296 lb) = qa := by rw [← HSAME.out, hqa]
  have ho := ord_self qa
  have ba : ∀ W, Rd .u32 W A n la → Calls Tryd.prog 53 #[.slice A n cap] W fun e w' => e = .returned (.int .i64 (qa : Int)) ∧ Below W.heap.size W w' := fun W hW => by rw [← hqa]; exact Bits_ok A n cap la W hW hf h1 h2
  have bb : ∀ W, Rd .u32 W A' n' lb → Calls Tryd.prog 53 #[.slice A' n' cap'] W fun e w' => e = .returned (.int .i64 (qa : Int)) ∧ Below W.heap.size W w' := fun W hW => by rw [← hqb]; exact Bits_ok A' n' cap' lb W hW hf' h3 h4
  have BA := Lib.hid ba
  have BB := Lib.hid bb
  clear hqa hqb ba bb
  go_wp2
  refine wp_region_noPanic ?_
  go_region_law (first
    | (go_simp; go_at_call 53; (with_reducible refine (BA.out W2.drew HRA.out).mono ?_); rintro e w3 ⟨rfl, hb3⟩; have hc3 := (hb3.cell (p := ⟨w.heap.size, 0, none⟩) hlt1).trans hcb2)
    | (go_simp; go_at_call 53; (with_reducible refine (BB.out w3 (HRB.out.below hb3)).mono ?_); rintro e w4 ⟨rfl, hb4⟩)
    | (go_simp; go_at_call 96; refine (cmpInt_any qa qa _).mono ?_; rintro e w5 ⟨rfl, rfl⟩))
  all_goals (refine NoPanic.normal ?_)
  all_goals
    have b3 : Below w.heap.size w w3 := (below_drew1 hB1).trans (hb3.mono (by show w.heap.size ≤ W2.heap.size; have := HS1.out; omega))
    have b4 : Below w.heap.size w w4 := b3.trans (hb4.mono b3.size)
    have br4 : Boxed w4 (w.heap.size + 1) 3 (.int .i64 0) := boxed_below (boxed_below (w := W2.drew) HBR.out hb3) hb4
    have bb4 : Boxed w4 w.heap.size 45 (.slice A' n' cap') := boxed_below (boxed_below (w := W2.drew) HBB.out hb3) hb4
    have hs4 : w.heap.size + 3 ≤ w4.heap.size := by have e1 := hb3.size; have e2 := hb4.size; have e3 := HS1.out; have e4 : W2.drew.heap.size = W2.heap.size := rfl; omega
    have HS4 := Lib.hid hs4
    clear hc3 hb3 hb4 hs4
    go_wp2_with fail
    refine (down_any A n cap w4).mono ?_
    rintro e w5 ⟨rfl, rfl⟩
    have bN := Boxed.new w4 45 (.slice A n cap)
    have hB5 : Below w.heap.size w (w4.alloc (.cells #[.slice A n cap] 45)) := b4.alloc b4.size _
    have br5 := br4.alloc (.cells #[.slice A n cap] 45)
    have bb5 := bb4.alloc (.cells #[.slice A n cap] 45)
    have hR5 := HR.out.below hB5
    have hlt5 : ∀ ad, A = some ad → ad.block < w4.heap.size + 1 := fun ad e => by have := HR.out.lt (by omega) ad e; have := HS4.out; omega
    have hs5 : (w4.alloc (.cells #[.slice A n cap] 45)).heap.size = w4.heap.size + 1 := World.size_alloc _ _
    go_wp2
    refine (wpIn_wide (n := 5)).1 ?_
    refine wpIn_rangeFunc_ownG rfl (by omega) (gf := 93) (lb := #[.pointer (some ⟨w4.heap.size, 0, none⟩)]) rfl trivial (enters_of Tryd.func93 (by kernel_rfl) rfl)
      (down_stops 4 (by omega) w4.heap.size (w4.heap.size + 1) n cap A la h2 hf _ (by rw [hs5]; omega) (by omega) (by rw [hs5]; omega) bN.cell hR5 hlt5) belowK_t (belowK_b (by rw [hs5]; omega)) (Below.refl _ _) (fun _ => rfl)
      (fun pre W => ((∀ p ∈ pre, p.1.1 < n' → p.1.2 = dig lb p.1.1) ∧ W.cell? ⟨w.heap.size + 1, 0, none⟩ = some (.int .i64 0) ∧ W.frozen? ⟨w.heap.size + 1, 0, none⟩ = false ∧ W.cell? ⟨w.heap.size, 0, none⟩ = some (.slice A' n' cap')) ∧ Below w.heap.size w W)
      (fun c pre W => (c = .ret ∧ ∃ ini last, pre = ini ++ [last] ∧ (∀ p ∈ ini, p.1.1 < n' → p.1.2 = dig lb p.1.1) ∧ last.1.1 < n' ∧ last.1.2 ≠ dig lb last.1.1 ∧ W.cell? ⟨w.heap.size + 1, 0, none⟩ = some (.int .i64 (ord last.1.2 (dig lb last.1.1)))) ∧ Below w.heap.size w W)
      (OwnFrom.and (Own.from (fun s A B row hs hg hr => ⟨hs.1, cell_kept hs.2.1 hg hr, (frozen_kept hs.2.1 hg hr).trans hs.2.2.1, cell_kept hs.2.2.2 hg hr⟩) _) (ownFrom_below (Nat.le_refl _) (by rw [hs5]; have := HS4.out; omega)))
      (fun c => OwnFrom.and (Own.from (fun s A B row hs hg hr => by obtain ⟨hc, ini, last, e1, e2, e3, e4, e5⟩ := hs; exact ⟨hc, ini, last, e1, e2, e3, e4, cell_kept e5 hg hr⟩) _) (ownFrom_below (Nat.le_refl _) (by rw [hs5]; have := HS4.out; omega)))
      ⟨⟨by simp, br5.cell, br5.frozen, bb5.cell⟩, hB5⟩
      (fun x => { tmps := #[.slice A n cap, .slice A' n' cap', undef, .pointer (some ⟨w.heap.size, 0, none⟩), .pointer (some ⟨w.heap.size + 1, 0, none⟩), .int .i64 0, .int .i64 (x.1.1 : Int), .int .u32 (x.1.2 : Int), .slice A n cap, .slice A' n' cap', .slice (some ⟨w.heap.size + 1 + 1, 0, none⟩) 2 2, .bool true, .bool false, .slice A n cap, .int .i64 (qa : Int), .slice A' n' cap', .int .i64 (qa : Int), .int .i64 0, .int .i64 0, .bool false, undef, .slice A n cap, .func (.func 93) #[] #[.pointer (some ⟨w4.heap.size, 0, none⟩)], .int .i64 (x.1.1 : Int), .int .u32 (x.1.2 : Int), undef, undef, undef, undef, undef, undef, undef, undef, undef, undef, undef, undef, undef, undef, undef, undef, undef, undef], defers := [] }) ?assign ?body ?done ?stop
    case assign =>
      intro L x W K hK
      dsimp only [encs]
      gi_wp2
      exact hK
    case body =>
      rintro L pre ⟨⟨i, x⟩, hi, hx⟩ W ⟨⟨hp, hcr, hfr, hcb⟩, hB⟩ _
      dsimp only
      dsimp only at hi hx
      by_cases hin : i < n'
      · have hR' := HR'.out.below hB
        obtain ⟨ad', y, rfl, hy, hcell'⟩ := hR'.get (j := i) hin
        have dy := dig_some hy
        have DY := Lib.hid dy
        have hy1 := hf'.get hy
        clear hy dy hR'
        by_cases hxy : x = y
        · subst hxy
          gi_wp2
          exact ⟨KeepsFrom.refl _ _, Below.refl _ _, ⟨fun p hp' => (List.mem_append.1 hp').elim (hp p) (fun e => by rw [List.mem_singleton.1 e]; intro _; exact DY.out.symm), hcr, hfr, hcb⟩, hB⟩
        · have hx2 : (x != y) = true := by simp [hxy]
          have hx3 : ((x : Int) != (y : Int)) = true := by simp; omega
          gi_wp2_with (refine ⟨trivial, ?_⟩; gi_at_call 97; refine (CallsIn.inRound L (callsIn_wide.2 (cmpU32_any x y W))).mono ?_; rintro e w' ⟨rfl, rfl⟩)
          exact ⟨(KeepsOthers.setCell _ _ _).from _, ⟨rfl, pre, _, rfl, hp, hin, by rw [DY.out]; exact hxy, by rw [DY.out]; exact World.cell?_setCell_same' _ _ _ (by rw [hcr]; rfl)⟩, hB.setCell (p := ⟨w.heap.size + 1, 0, none⟩) (by simp) _⟩
      · have hin2 : n' ≤ i := by omega
        gi_wp2
        exact ⟨KeepsFrom.refl _ _, Below.refl _ _, ⟨fun p hp' => (List.mem_append.1 hp').elim (hp p) (fun e => by rw [List.mem_singleton.1 e]; intro h; exact absurd h hin), hcr, hfr, hcb⟩, hB⟩
    case done =>
      rintro D ys W hD rfl ⟨⟨hz, hcr, hfr, hcb⟩, hB⟩ hK
      go_wp2
      have hK' := (KeepsOthers.setCell W ⟨w.heap.size + 1, 0, none⟩ (.int .i64 0)).same D _ hK rfl
      refine ⟨by simp, .inl ⟨_, _, rfl, run_takeDeferred hK', ?_⟩⟩
      have hc5 := cell_kept (World.cell?_setCell_same' W ⟨w.heap.size + 1, 0, none⟩ (.int .i64 0) (by rw [hcr]; rfl)) (grownBy_putObj' _ D (.deferred none)) (fun r e => by cases e; exact ⟨_, hK', rfl⟩)
      have hv : val 4294967296 la = val 4294967296 lb := val_same (fun i => by
        by_cases h5 : i < n ∧ i < n'
        · obtain ⟨x, hx⟩ := get_some (l := la) (i := i) (by omega)
          obtain ⟨p, hp, e⟩ := upto_mem (k := n) (by omega) hf hx (by omega)
          have := hz p hp
          rw [e] at this
          rw [dig_some hx]
          exact this h5.2
        · exact same_bits hf hf' HSAME.out (by omega))
      refine ⟨.int .i64 0, ?_, by rw [hv, ord_self], (hB.setCell (p := ⟨w.heap.size + 1, 0, none⟩) (by simp) _).trans (belowK_b (w := w) (Nat.le_refl _) _ D _ _ (by rw [hs5] at hD; have := HS4.out; omega) hK' rfl rfl)⟩
      simp [results, Tryd.f82, go_sem, hc5]
    case stop =>
      rintro D c pre W hD ⟨k, hk, rfl⟩ ⟨⟨rfl, ini, last, e1, e2, e3, e4, hcr⟩, hB⟩ hK
      gi_wp2
      refine ⟨by simp, .inl ⟨_, _, rfl, run_takeDeferred hK, ?_⟩⟩
      have hc5 := cell_kept hcr (grownBy_putObj' _ D (.deferred none)) (fun r e => by cases e; exact ⟨_, hK, rfl⟩)
      obtain ⟨k', rfl⟩ : ∃ k', k = k' + 1 := by
        cases k with
        | zero => simp [upto] at e1
        | succ k' => exact ⟨k', rfl⟩
      rw [upto_succ] at e1
      obtain ⟨rfl, e5⟩ := List.append_inj' e1 rfl
      obtain rfl : itemAt la k' = last := by simpa using e5
      obtain ⟨j, hj⟩ : ∃ j, n = k' + j + 1 := ⟨n - k' - 1, by omega⟩
      obtain ⟨x, hx⟩ := get_some (l := la) (i := j) (by omega)
      have hit := itemAt_eq hx (k := k') (by omega) (by omega) (hf.get hx)
      rw [hit] at e3 e4 hc5
      have hv := ord_dig (B := 4294967296) (j := j) (by omega) hf hf' (by rw [dig_some hx]; exact e4) (fun i hji => by
        by_cases h5 : i < n ∧ i < n'
        · obtain ⟨y, hy⟩ := get_some (l := la) (i := i) (by omega)
          obtain ⟨p, hp, e⟩ := upto_mem (k := k') (by omega) hf hy (by omega)
          have := e2 p hp
          rw [e] at this
          rw [dig_some hy]
          exact this h5.2
        · exact same_bits hf hf' HSAME.out (by omega))
      rw [dig_some hx] at hv
      refine ⟨.int .i64 (ord x (dig lb j)), ?_, by rw [hv], hB.trans (belowK_b (w := w) (Nat.le_refl _) W D _ _ (by rw [hs5] at hD; have := HS4.out; omega) hK rfl rfl)⟩
      simp [results, Tryd.f82, go_sem, hc5]

theorem Compare_ok (A A' : Option Addr) (n cap n' cap' : Nat) (la lb : List Nat) (w : World) (h : Rd .u32 w A n la) (h' : Rd .u32 w A' n' lb) (hf : Fit 4294967296 la) (hf' : Fit 4294967296 lb) (h1 : 1 ≤ n) (h2 : n ≤ 256) (h3 : 1 ≤ n') (h4 : n' ≤ 256) :
    Calls Tryd.prog 82 #[.slice A n cap, .slice A' n' cap'] w fun e w' => e = .returned (.int .i64 (ord (val 4294967296 la) (val 4294967296 lb))) ∧ Below w.heap.size w w' := by
  rcases Nat.lt_trichotomy (bitlen (val 4294967296 la)) (bitlen (val 4294967296 lb)) with hb | hb | hb
  · have := ord_bits hb
    rw [show ord (val 4294967296 la) (val 4294967296 lb) = -1 by rw [ord, if_pos this]]
    exact Compare_diff A A' n cap n' cap' la lb w h h' hf hf' h1 h2 h3 h4 (-1) (by rw [ord, if_pos hb]) rfl
  · exact Compare_same A A' n cap n' cap' la lb w h h' hf hf' h1 h2 h3 h4 hb
  · have := ord_bits hb
    rw [show ord (val 4294967296 la) (val 4294967296 lb) = 1 by rw [ord, if_neg (by omega), if_pos this]]
    exact Compare_diff A A' n cap n' cap' la lb w h h' hf hf' h1 h2 h3 h4 1 (by rw [ord, if_neg (by omega), if_pos hb]) rfl
end Go.Proofs.YtojpbfkdkkdpcaaDoor
