/-
  The document's blocks of a tree: a block of the data.
-/
import Derived.Test.YtfoenafjaaidmaaDoorGv
import Derived.Test.YtfoenafjaaidmaaDoorDd
import Derived.Test.YtfoenafjaaidmaaDoorQ1
namespace Go.Proofs.YtfoenafjaaidmaaDoor
open Go.RowKit
set_option linter.unusedVariables false
set_option linter.unusedSimpArgs false
set_option maxRecDepth 100000

/-- The digest of a text, with a salt. -/
def hsh (z : Nat) (salt t : List Nat) : List Nat := sumOf z (salt ++ t)
theorem hsh_length {z D : Nat} (hz : z = 1 ∨ z = 2) (hD : sizeOfAlg z = D) (salt t : List Nat) : (hsh z salt t).length = D := by rw [hsh, sizeAlg hz, hD]
theorem hsh_fit (z : Nat) (salt t : List Nat) : Fit 256 (hsh z salt t) := sumOf_fit _ _
theorem fit_zeros (k : Nat) : Fit 256 (List.replicate k 0) := fun x hx => by rw [List.eq_of_mem_replicate hx]; omega
theorem pad_fit {B : Nat} {l : List Nat} (h : Fit 256 l) : Fit 256 (pad B l) := h.append (fit_zeros _)
theorem fit_take {l : List Nat} (h : Fit 256 l) (k : Nat) : Fit 256 (l.take k) := fun x hx => h x (List.mem_of_mem_take hx)
theorem fit_drop {l : List Nat} (h : Fit 256 l) (k : Nat) : Fit 256 (l.drop k) := fun x hx => h x (List.mem_of_mem_drop hx)
theorem kids_fit {z : Nat} {salt : List Nat} (f : Nat → List Nat) : ∀ c, Fit 256 (kids (hsh z salt) f c)
  | 0 => fun x hx => by cases hx
  | c + 1 => (kids_fit f c).append (hsh_fit _ _ _)
theorem blk_fit {z : Nat} {salt data : List Nat} (h : Fit 256 data) (B a n : Nat) : ∀ l i, Fit 256 (blk (hsh z salt) B a n data l i)
  | 0, i => pad_fit (fit_take (fit_drop h _) _)
  | l + 1, i => pad_fit (kids_fit _ _)
theorem blk_next {k : IntKind} {w U : World} {g i n d : Nat} {e : TypeId} {ys : List Nat} (h : Blk w g e (cn k (ys ++ List.replicate (n - i) 0))) (hl : ys.length = i) (hi : i < n) (hU : U.heap = w.heap) :
    Blk (U.setCell ⟨g, i, none⟩ (.int k (d : Int))) g e (cn k ((ys ++ [d]) ++ List.replicate (n - (i + 1)) 0)) := by
  have h' : Blk U g e (cn k (ys ++ List.replicate (n - i) 0)) := by unfold Blk; rw [hU]; exact h
  have := h'.set_ i (.int k (d : Int))
  rw [cn_set] at this
  have e2 : (ys ++ List.replicate (n - i) 0).set i d = (ys ++ [d]) ++ List.replicate (n - (i + 1)) 0 := by
    rw [List.set_append_right _ _ (by omega), hl, Nat.sub_self, show n - i = (n - (i + 1)) + 1 by omega, List.replicate_succ, List.set_cons_zero, List.append_assoc]
    rfl
  rwa [e2] at this
/-- An answer: a block of its own. -/
def GivesB (w : World) (B : Nat) (l : List Nat) (e : Ending) (w' : World) : Prop := ∃ g, e = .returned (.slice (some ⟨g, 0, none⟩) B B) ∧ w.heap.size ≤ g ∧ Blk w' g 5 (cn .u8 l) ∧ Below w.heap.size w w'
theorem take_pad {rest : List Nat} {B k : Nat} (h : k = B ∨ rest.length ≤ k) (h1 : k ≤ B) (h2 : k ≤ rest.length) : pad B (rest.take B) = rest.take k ++ List.replicate (B - k) 0 := by
  rcases h with rfl | h
  · rw [pad, List.length_take, Nat.min_eq_left h2]
  · obtain rfl : k = rest.length := by omega
    rw [pad, List.take_of_length_le h1, List.take_of_length_le (Nat.le_refl _)]
set_option maxHeartbeats 2000000 in
theorem RBlock_0 (z : Int) (S B D a n i : Nat) (A : Option Addr) (nA cA : Nat) (Ad : Option Addr) (cd : Nat) (salt data : List Nat) (w : World) (h : Shp S B D a n) (hd : Rd .u8 w Ad S data) (hSc : S ≤ cd) (hi : i < n) :
    Calls Tryd.prog 32 #[.int .i64 z, .slice A nA cA, .agg #[.int .i64 (S : Int), .int .i64 (B : Int), .int .i64 (D : Int)], .slice Ad S cd, .agg #[.int .i64 (i : Int), .int .i64 0]] w (GivesB w B (pad B ((data.drop (i * B)).take B))) := by
  have hb := h.b
  have hn := h.n1
  have HB1 : Hid (Below w.heap.size w ((w.alloc (.cells #[.int .i64 (S : Int), .int .i64 (B : Int), .int .i64 (D : Int)] 32)).alloc (.cells #[.int .i64 (i : Int), .int .i64 0] 46))) := ((Below.refl _ _).alloc (Nat.le_refl _) _).alloc (by simp) _
  have HBS : Hid (Blk ((w.alloc (.cells #[.int .i64 (S : Int), .int .i64 (B : Int), .int .i64 (D : Int)] 32)).alloc (.cells #[.int .i64 (i : Int), .int .i64 0] 46)) w.heap.size 32 [.int .i64 (S : Int), .int .i64 (B : Int), .int .i64 (D : Int)]) := (Blk.new w 32 [.int .i64 (S : Int), .int .i64 (B : Int), .int .i64 (D : Int)]).alloc _
  have HBP : Hid (Blk ((w.alloc (.cells #[.int .i64 (S : Int), .int .i64 (B : Int), .int .i64 (D : Int)] 32)).alloc (.cells #[.int .i64 (i : Int), .int .i64 0] 46)) (w.heap.size + 1) 46 [.int .i64 (i : Int), .int .i64 0]) := heap_alloc2_new w _ _
  obtain ⟨t, ht⟩ : ∃ t, i * B = t := ⟨_, rfl⟩
  have tz : (i : Int) * (B : Int) = (t : Int) := by rw [← ht, Int.natCast_mul]
  have tl : t ≤ S := by
    obtain ⟨k1, k2⟩ := up_spec (a := S) (b := B) (by omega)
    rw [h.low] at k2
    have : (i + 1) * B ≤ n * B := Nat.mul_le_mul_right _ hi
    rw [Nat.add_mul, Nat.one_mul] at this
    omega
  have HD := Lib.hid hd
  have hlen := hd.1
  rw [ht]
  obtain ⟨rest, hr⟩ : ∃ rest, data.drop t = rest := ⟨_, rfl⟩
  have hrl : rest.length = S - t := by rw [← hr, List.length_drop, hlen]
  rw [hr]
  have HR := Lib.hid hr
  clear h ht hr hd
  go_enter Tryd.func32, Tryd.ntmps32
  go_wp2_with (first
    | ((with_reducible refine at_dst (some 21) ?_); generalize (w.alloc (.cells #[.int .i64 (S : Int), .int .i64 (B : Int), .int .i64 (D : Int)] 32)).alloc (.cells #[.int .i64 (i : Int), .int .i64 0] 46) = W at *; refine wpList_makeNums (o := ⟨some 21, _, _, _, _, _⟩) rfl (.tmp 20) (.tmp 20) 22 5 rfl .u8 1 Tryd.underlying22 byteInfo (by omega) _ _ rfl rfl B rfl (by omega) ?_; intro w2 hB2 hbel2 hs2; have p1 : w2.cell? ⟨w.heap.size + 1, 1, none⟩ = some (.int .i64 0) := (HBP.out.below hbel2 HBP.out.lt).cell 1))
  have HB2 : Hid (Blk w2 W.heap.size 5 (cn .u8 (rest.take 0 ++ List.replicate (B - 0) 0))) := by
    have := hB2.out
    show Blk _ _ _ _
    simpa using this
  clear p1 hB2
  go_loopw [12] (fun o wr => ∃ k : Nat, k ≤ B ∧ k ≤ rest.length ∧ o = .int .i64 (k : Int) ∧ Hid (Blk wr W.heap.size 5 (cn .u8 (rest.take k ++ List.replicate (B - k) 0))) ∧ Hid (Below W.heap.size W wr)) (fun o _ => B - (intOf o).toNat)
  case atStart => exact ⟨0, Nat.zero_le _, Nat.zero_le _, rfl, HB2, hbel2⟩
  case round =>
    obtain ⟨k, hkB, hkr, rfl, HBk, HBW⟩ := hrel
    have bks := HBS.out.below HBW.out HBS.out.lt
    have bkp := HBP.out.below HBW.out HBP.out.lt
    have c1 : wr.cell? ⟨w.heap.size, 1, none⟩ = some (.int .i64 (B : Int)) := bks.cell 1
    have p0 : wr.cell? ⟨w.heap.size + 1, 0, none⟩ = some (.int .i64 (i : Int)) := bkp.cell 0
    have bel := HB1.out.trans (HBW.out.mono HB1.out.size)
    have HDr := Lib.hid (HD.out.below bel)
    have BEL := Lib.hid bel
    obtain ⟨q, hq⟩ : ∃ q, t + k = q := ⟨_, rfl⟩
    have qz : (t : Int) + (k : Int) = (q : Int) := by omega
    clear bks bkp bel
    by_cases h1 : k < B
    · by_cases h2 : q < S
      · obtain ⟨ad, x, rfl, hx, hc⟩ := HDr.out.get h2
        have z1 : (k : Int) < B := by omega
        have z2 : (q : Int) < S := by omega
        have hxr : rest[k]? = some x := by rw [← HR.out, List.getElem?_drop, hq]; exact hx
        have fz : wr.frozen? ⟨W.heap.size, k, none⟩ = false := HBk.out.frozen k
        have HTK : Hid (rest.take (k + 1) = rest.take k ++ [x]) := by
          show _ = _
          obtain ⟨hk3, rfl⟩ := List.getElem?_eq_some_iff.1 hxr
          exact List.take_succ_eq_append_getElem hk3
        have oc : ∃ v, wr.cell? ⟨W.heap.size, k, none⟩ = some v := ⟨_, (HBk.out.cell k).trans (List.getElem?_eq_getElem (by rw [cn_length, List.length_append, List.length_take, List.length_replicate]; omega))⟩
        obtain ⟨v0, oc⟩ := oc
        have HK1 : Hid (k + 1 ≤ rest.length) := by show _ ≤ _; omega
        clear hx hxr
        go_wp2
        go_roundw
        case rel =>
          refine ⟨k + 1, by omega, HK1.out, by go_num, ?_, HBW.out.setCell (Nat.le_refl _) _⟩
          show Blk _ _ _ _
          rw [HTK.out]
          exact blk_next HBk.out (by rw [List.length_take]; omega) h1 rfl
        case measure => simp [intOf]; omega
      · have z1 : (k : Int) < B := by omega
        have z2 : ¬ (q : Int) < S := by omega
        have HE := Lib.hid (take_pad (rest := rest) (B := B) (k := k) (.inr (by omega)) hkB hkr)
        go_wp2
        go_ret
        exact ⟨_, rfl, HB1.out.size, by rw [HE.out]; exact HBk.out, BEL.out⟩
    · have z1 : ¬ (k : Int) < B := by omega
      have HE := Lib.hid (take_pad (rest := rest) (B := B) (k := k) (.inl (by omega)) hkB hkr)
      go_wp2
      go_ret
      exact ⟨_, rfl, HB1.out.size, by rw [HE.out]; exact HBk.out, BEL.out⟩
end Go.Proofs.YtfoenafjaaidmaaDoor
