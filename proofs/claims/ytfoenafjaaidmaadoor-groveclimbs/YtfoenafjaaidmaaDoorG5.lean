/-
  What raise of package grove answers: the digests of a level's blocks, and noughts behind them.
-/
import Derived.Test.YtfoenafjaaidmaaDoorG4
import Derived.Test.YtfoenafjaaidmaaDoorEi
import Derived.Test.YtfoenafjaaidmaaDoorE7
namespace Go.Proofs.YtfoenafjaaidmaaDoor
open Go.RowKit Go.Shelf
set_option linter.unusedVariables false
set_option linter.unusedSimpArgs false
attribute [local go_sem] Oper.semAt_some

/-- The digests of some blocks, one behind the other. -/
def kidsL {c : Nat} (H : List Nat → List Nat) (f : Nat → List Nat) (pre : List (Num c)) : List Nat := pre.flatMap fun x => H (f x.1)
theorem kidsL_snoc {c : Nat} (H : List Nat → List Nat) (f : Nat → List Nat) (pre : List (Num c)) (x : Num c) : kidsL H f (pre ++ [x]) = kidsL H f pre ++ H (f x.1) := by
  simp [kidsL]
theorem kidsL_length {c D : Nat} {H : List Nat → List Nat} (hH : ∀ t, (H t).length = D) (f : Nat → List Nat) (pre : List (Num c)) : (kidsL H f pre).length = pre.length * D := by
  induction pre with
  | nil => simp [kidsL]
  | cons x r ih =>
    have e : kidsL H f (x :: r) = H (f x.1) ++ kidsL H f r := rfl
    rw [e, List.length_append, hH, ih, List.length_cons, Nat.add_mul, Nat.one_mul, Nat.add_comm]
theorem kidsL_upto {c : Nat} (hc : 0 < c) (H : List Nat → List Nat) (f : Nat → List Nat) : ∀ k, k ≤ c → kidsL H f (uptoN c hc k) = kids H f k
  | 0, _ => rfl
  | k + 1, h => by
    rw [uptoN_succ, kidsL_snoc, kidsL_upto hc H f k (by omega), kids]
    show _ ++ H (f (k % c)) = _
    rw [Nat.mod_eq_of_lt h]
theorem keeps_below {W W' : World} (h : Below W.heap.size W W') : KeepsOthers W W' := KeepsOthers.of_grownBy (only_of_below h none) (fun j o e => by cases e)
theorem keeps_row {W W' : World} {B : Nat} {A : Option Addr} {n cap : Nat} {xs : List Value} (hr : Row W B 5 A n cap xs) (hg : W.grownBy W' (Value.slice A n cap).ownBlock) : KeepsOthers W W' :=
  KeepsOthers.of_grownBy hg fun j o ej hj => by
    rcases hr.2 with ⟨e, _⟩ | ⟨g, cap', cur, e, _, hgb, _⟩
    · rw [e] at ej; simp [Value.ownBlock] at ej
    · rw [e] at ej
      obtain rfl : g = j := by simpa [Value.ownBlock] using ej
      rw [hgb] at hj; cases hj; rfl

/-- Bytes behind the bytes of a row. -/
theorem app_own (W : World) (h q cd D g N : Nat) (Ad : Option Addr) (l d : List Nat) (hrow : Row W h 5 Ad q cd (cn .u8 l)) (hd : Blk W g 5 (cn .u8 d)) (hdl : d.length = D) (hN : q + D = N) (hN2 : N ≤ 1000000) (hh : h ≤ W.heap.size) :
    ∃ A4 c4 w4, (Builtin.append_ #[22, 22] 22 #[.slice Ad q cd, .slice (some ⟨g, 0, none⟩) D D]).run Tryd.prog W = .ok (.slice A4 N c4) w4 ∧ Row w4 h 5 A4 N c4 (cn .u8 (l ++ d)) ∧ W.grownBy w4 (Value.slice Ad q cd).ownBlock ∧ KeepsOthers W w4 ∧ Below h W w4 := by
  subst hN
  obtain ⟨i0, hi, hz0, hz1, hz2⟩ := info_parts byteInfo
  obtain ⟨v', w4, hrun, hown, hg, hnil, hat⟩ := run_append_own_at (P := Tryd.prog) W h 22 22 5 i0 _ 1 1 Tryd.underlying22 hi hz0 hz1 hz2 rfl (by omega) _ q _ hrow ⟨g, 0, none⟩ D D (cn .u8 d) (by rw [cn_length]; omega) (fun j u hu => by
      rw [addr_add, Nat.zero_add, hd.cell]; exact hu) (cn_one _ _) (by unfold maxLen; omega) (by omega) hh
  have hform : ∃ A' cap', v' = .slice A' (q + D) cap' := by
    rcases hown.2 with ⟨rfl, h0⟩ | ⟨g, cap', cur, rfl, _⟩
    · exact ⟨none, 0, by rw [h0]⟩
    · exact ⟨_, _, rfl⟩
  obtain ⟨A4, c4, rfl⟩ := hform
  have hown4 : Row w4 h 5 A4 (q + D) c4 (cn .u8 (l ++ d)) := by
    show w4.ownsRow _ _ _ _ _ _
    rw [cn_append]
    exact hown
  exact ⟨A4, c4, w4, hrun, hown4, hg, keeps_row hrow hg, below_only (Below.refl _ _) hg hh (fun j hj => (World.ownsRow.lt hrow j hj).1)⟩

set_option maxRecDepth 100000 in
set_option maxHeartbeats 2000000 in
theorem raise_any (z D : Nat) (hz : z = 1 ∨ z = 2) (hD : sizeOfAlg z = D) (A : Option Addr) (nA cA : Nat) (salt : List Nat) (B c : Nat) (Al : Option Addr) (len cap : Nat) (L : List Nat) (f : Nat → List Nat) (w : World)
    (hs : Rd .u8 w A nA salt) (hsf : Fit 256 salt) (hsc : nA ≤ cA) (hn : nA ≤ 64) (hl : Rd .u8 w Al len L) (hlf : Fit 256 L) (hlen : c * B = len) (hl2 : len ≤ 1000000) (hcap : len ≤ cap) (hcm : cap ≤ maxLen) (hc : 0 < c) (hB : 64 ≤ B) (hB2 : B ≤ 4096)
    (hf : ∀ i, i < c → (L.drop (i * B)).take B = f i) (ht : Both w) (k m : Nat) (hk : gapn (c * D) B = k) (hm : c * D + k = m) :
    Calls Tryd.prog 44 #[.int .i64 (z : Int), .slice A nA cA, .int .i64 (B : Int), .slice Al len cap] w (GivesB w m (kids (hsh z salt) f c ++ List.replicate k 0)) := by
  have HS := Lib.hid hs
  have HL := Lib.hid hl
  have HT := Lib.hid ht
  have HF := Lib.hid hf
  have HZ := Lib.hid hz
  have HD := Lib.hid hD
  have HSF := Lib.hid hsf
  have HLF := Lib.hid hlf
  have HLEN := Lib.hid hlen
  have HK := Lib.hid hk
  have HM := Lib.hid hm
  have HCM := Lib.hid hcm
  clear hs hl ht hf hz hD hsf hlf hlen hk hm hcm
  refine (callsIn_wide (n := 5)).1 (callsIn_of_wp_marks Tryd.func44 rfl trivial ?_ rfl)
  simp only [Tryd.ntmps44, List.size_toArray, List.length_cons, List.length_nil, Nat.reduceAdd, Nat.reduceSub, Array.replicate_succ, Array.replicate_zero, List.push_toArray, List.append_toArray, List.nil_append, List.cons_append]
  refine wpIn_wide.2 ?_
  go_wp2_with fail
  have F : (((w.alloc (.cells #[.int .i64 (z : Int)] 3)).alloc (.cells #[.slice A nA cA] 22)).alloc (.cells #[.slice none 0 0] 22)).heap.size = w.heap.size + 1 + 1 + 1 ∧ Boxed (((w.alloc (.cells #[.int .i64 (z : Int)] 3)).alloc (.cells #[.slice A nA cA] 22)).alloc (.cells #[.slice none 0 0] 22)) w.heap.size 3 (.int .i64 (z : Int)) ∧ Boxed (((w.alloc (.cells #[.int .i64 (z : Int)] 3)).alloc (.cells #[.slice A nA cA] 22)).alloc (.cells #[.slice none 0 0] 22)) (w.heap.size + 1) 22 (.slice A nA cA) ∧ Boxed (((w.alloc (.cells #[.int .i64 (z : Int)] 3)).alloc (.cells #[.slice A nA cA] 22)).alloc (.cells #[.slice none 0 0] 22)) (w.heap.size + 1 + 1) 22 (.slice none 0 0) ∧ Below w.heap.size w (((w.alloc (.cells #[.int .i64 (z : Int)] 3)).alloc (.cells #[.slice A nA cA] 22)).alloc (.cells #[.slice none 0 0] 22)) := by
    have e1 : (w.alloc (.cells #[.int .i64 (z : Int)] 3)).heap.size = w.heap.size + 1 := World.size_alloc _ _
    have e2 : ((w.alloc (.cells #[.int .i64 (z : Int)] 3)).alloc (.cells #[.slice A nA cA] 22)).heap.size = w.heap.size + 1 + 1 := by rw [World.size_alloc, e1]
    have b2 := Boxed.new (w.alloc (.cells #[.int .i64 (z : Int)] 3)) 22 (.slice A nA cA)
    have b3 := Boxed.new ((w.alloc (.cells #[.int .i64 (z : Int)] 3)).alloc (.cells #[.slice A nA cA] 22)) 22 (.slice none 0 0)
    rw [e1] at b2
    rw [e2] at b3
    exact ⟨by rw [World.size_alloc, e2], ((Boxed.new w 3 (.int .i64 (z : Int))).alloc _).alloc _, b2.alloc _, b3, (((Below.refl _ w).alloc (Nat.le_refl _) _).alloc (by omega) _).alloc (by omega) _⟩
  generalize (((w.alloc (.cells #[.int .i64 (z : Int)] 3)).alloc (.cells #[.slice A nA cA] 22)).alloc (.cells #[.slice none 0 0] 22)) = W1 at F ⊢
  obtain ⟨hs1, bz, ba, bd, hb1⟩ := F
  refine (blocksOf_any Al len cap B W1).mono ?_
  rintro e w1 ⟨rfl, rfl⟩
  have F2 : ((W1.alloc (.cells #[.slice Al len cap] 22)).alloc (.cells #[.int .i64 (B : Int)] 3)).heap.size = W1.heap.size + 1 + 1 ∧ Boxed ((W1.alloc (.cells #[.slice Al len cap] 22)).alloc (.cells #[.int .i64 (B : Int)] 3)) W1.heap.size 22 (.slice Al len cap) ∧ Boxed ((W1.alloc (.cells #[.slice Al len cap] 22)).alloc (.cells #[.int .i64 (B : Int)] 3)) (W1.heap.size + 1) 3 (.int .i64 (B : Int)) ∧ Boxed ((W1.alloc (.cells #[.slice Al len cap] 22)).alloc (.cells #[.int .i64 (B : Int)] 3)) w.heap.size 3 (.int .i64 (z : Int)) ∧ Boxed ((W1.alloc (.cells #[.slice Al len cap] 22)).alloc (.cells #[.int .i64 (B : Int)] 3)) (w.heap.size + 1) 22 (.slice A nA cA) ∧ Boxed ((W1.alloc (.cells #[.slice Al len cap] 22)).alloc (.cells #[.int .i64 (B : Int)] 3)) (w.heap.size + 1 + 1) 22 (.slice none 0 0) ∧ Below w.heap.size w ((W1.alloc (.cells #[.slice Al len cap] 22)).alloc (.cells #[.int .i64 (B : Int)] 3)) := by
    have e1 : (W1.alloc (.cells #[.slice Al len cap] 22)).heap.size = W1.heap.size + 1 := World.size_alloc _ _
    have b2 := Boxed.new (W1.alloc (.cells #[.slice Al len cap] 22)) 3 (.int .i64 (B : Int))
    rw [e1] at b2
    exact ⟨by rw [World.size_alloc, e1], (Boxed.new W1 22 (.slice Al len cap)).alloc _, b2, (bz.alloc _).alloc _, (ba.alloc _).alloc _, (bd.alloc _).alloc _, (hb1.alloc hb1.size _).alloc (by have := hb1.size; omega) _⟩
  generalize ((W1.alloc (.cells #[.slice Al len cap] 22)).alloc (.cells #[.int .i64 (B : Int)] 3)) = W2 at F2 ⊢
  obtain ⟨hs2, bl, bb, bz2, ba2, bd2, hb2⟩ := F2
  have HS1 := Lib.hid hs1
  have HS2 := Lib.hid hs2
  have HB2 := Lib.hid hb2
  clear bz ba bd hb1 hs1 hs2
  obtain ⟨H, hH⟩ : ∃ H, hsh z salt = H := ⟨_, rfl⟩
  have HHl : ∀ t, (H t).length = D := fun t => by rw [← hH]; exact hsh_length HZ.out HD.out salt t
  have HHf : ∀ t, Fit 256 (H t) := fun t => by rw [← hH]; exact hsh_fit _ _ _
  have HH := Lib.hid hH
  have HHL := Lib.hid HHl
  have HHF := Lib.hid HHf
  rw [hH]
  have hDb : 1 ≤ D ∧ D ≤ 64 := by have := sizeAlg_cases HZ.out; have := HD.out; have e : sizeOfAlg z = D := HD.out; omega
  have hcb : c * D ≤ 1000000 := by
    have : c * D ≤ c * B := Nat.mul_le_mul_left _ (by omega)
    have := HLEN.out
    omega
  have hc9 : c ≤ 1000000 := by
    have : c * 1 ≤ c * D := Nat.mul_le_mul_left _ hDb.1
    omega
  clear hH HHl HHf hb2
  go_wp2
  refine (wpIn_wide (n := 5)).1 ?_
  refine wpIn_rangeFunc_ownG rfl (by omega) (gf := 70) (lb := #[.pointer (some ⟨W1.heap.size, 0, none⟩), .pointer (some ⟨W1.heap.size + 1, 0, none⟩)]) rfl trivial (enters_of Tryd.func70 (by kernel_rfl) rfl)
    (blocks_stops 4 (by omega) W1.heap.size (W1.heap.size + 1) len cap B c Al hc (by omega) HLEN.out hl2 hcap HCM.out W2 (by have := HS2.out; omega) (by have := HS2.out; omega) bl.cell bb.cell) Kc.trans (fun W l o o' _ hl ho _ => Kc.put W l o o' hl ho) (Below.refl _ _) (fun _ => rfl)
    (fun pre W => ((Boxed W w.heap.size 3 (.int .i64 (z : Int)) ∧ Boxed W (w.heap.size + 1) 22 (.slice A nA cA) ∧ Boxed W W1.heap.size 22 (.slice Al len cap) ∧ Boxed W (W1.heap.size + 1) 3 (.int .i64 (B : Int))) ∧ ∃ v, Boxed W (w.heap.size + 1 + 1) 22 v ∧ W.ownsRow w.heap.size 5 1 v (pre.length * D) (cn .u8 (kidsL H f pre)) ∧ True) ∧ Below w.heap.size w W)
    (fun _ _ _ => False)
    (OwnFrom.and (OwnFrom.and (Own.from (fun s X Y row hs hg hr => ⟨hs.1.kept hg (fun e => by obtain ⟨o, ho, hc⟩ := hr _ e.symm; rw [show X.heap[_]? = _ from hs.1] at ho; cases ho; cases hc), hs.2.1.kept hg (fun e => by obtain ⟨o, ho, hc⟩ := hr _ e.symm; rw [show X.heap[_]? = _ from hs.2.1] at ho; cases ho; cases hc), hs.2.2.1.kept hg (fun e => by obtain ⟨o, ho, hc⟩ := hr _ e.symm; rw [show X.heap[_]? = _ from hs.2.2.1] at ho; cases ho; cases hc), hs.2.2.2.kept hg (fun e => by obtain ⟨o, ho, hc⟩ := hr _ e.symm; rw [show X.heap[_]? = _ from hs.2.2.2] at ho; cases ho; cases hc)⟩) _) (Own.from (holdsRow_own w.heap.size (w.heap.size + 1 + 1) 22 5 1 (fun pre => pre.length * D) (fun pre => cn .u8 (kidsL H f pre)) (fun _ _ => True)) _)) (ownFrom_below (Nat.le_refl _) (by have := HS1.out; have := HS2.out; omega)))
    (fun _ _ _ _ _ hs _ _ => hs)
    ⟨⟨⟨bz2, ba2, bl, bb⟩, _, bd2, by simpa [kidsL, cn] using World.ownsRow_nil W2 w.heap.size 5 1, trivial⟩, HB2.out⟩
    (fun x => { tmps := #[.int .i64 (z : Int), .slice A nA cA, .int .i64 (B : Int), .slice Al len cap, .pointer (some ⟨w.heap.size, 0, none⟩), .pointer (some ⟨w.heap.size + 1, 0, none⟩), undef, undef, .slice none 0 0, .pointer (some ⟨w.heap.size + 1 + 1, 0, none⟩), .slice (Al.map (·.add (x.1 * B))) B (cap - x.1 * B), undef, undef, .slice Al len cap, .int .i64 (B : Int), .func (.func 70) #[] #[.pointer (some ⟨W1.heap.size, 0, none⟩), .pointer (some ⟨W1.heap.size + 1, 0, none⟩)], .slice (Al.map (·.add (x.1 * B))) B (cap - x.1 * B), undef, undef, undef, undef, undef, undef, undef, undef, undef, undef, undef, undef, undef], defers := [] }) ?assign ?body ?done ?stop
  case assign =>
    intro L x W K hK
    dsimp only [encB]
    gi_wp2
    exact hK
  case body =>
    rintro l pre ⟨x, hx⟩ W ⟨⟨⟨hbz, hba, hbl, hbb⟩, v, hbv, hrow, _⟩, hBW⟩ hpl
    dsimp only
    obtain ⟨q, hq⟩ : ∃ q, pre.length * D = q := ⟨_, rfl⟩
    rw [hq] at hrow
    have hqD : (pre ++ [(⟨x, hx⟩ : Num c)]).length * D = q + D := by
      rw [List.length_append, Nat.add_mul, hq]; simp
    have hqb : q + D ≤ 1000000 := by
      have : (pre.length + 1) * D ≤ c * D := Nat.mul_le_mul_right _ hpl
      rw [Nat.add_mul, Nat.one_mul, hq] at this
      omega
    obtain ⟨Ad, cd, rfl⟩ : ∃ Ad cd, v = .slice Ad q cd := by
      rcases hrow.2 with ⟨rfl, h0⟩ | ⟨g, cap', cur, rfl, _⟩
      · exact ⟨none, 0, by rw [h0]⟩
      · exact ⟨_, _, rfl⟩
    obtain ⟨t, ht⟩ : ∃ t, x * B = t := ⟨_, rfl⟩
    have htl : t + B ≤ len := by
      have : (x + 1) * B ≤ c * B := Nat.mul_le_mul_right _ hx
      rw [Nat.add_mul, Nat.one_mul, ht, HLEN.out] at this
      exact this
    have HX : Hid (∀ u, Below w.heap.size w u → Rd .u8 u (Al.map (·.add t)) B (f x)) := fun u hu => by
      have := (HL.out.below hu).mid t B cap htl hcap
      rw [if_neg (by omega), ← ht, HF.out x hx, ht] at this
      exact this
    have HXF : Hid (Fit 256 (f x)) := by
      show Fit 256 (f x)
      rw [← HF.out x hx]
      exact fit_take (fit_drop HLF.out _) _
    have hct : B ≤ cap - t := by omega
    have hrow' : Row W w.heap.size 5 Ad q cd (cn .u8 (kidsL H f pre)) := hrow
    have hdl : (H (f x)).length = D := HHL.out _
    rw [ht]
    obtain ⟨Xp, hXp⟩ : ∃ Xp, Al.map (·.add t) = Xp := ⟨_, rfl⟩
    rw [hXp]
    rw [hXp] at HX
    obtain ⟨N, hN⟩ : ∃ N, q + D = N := ⟨_, rfl⟩
    have hs1 := HS1.out
    have ne1 : w.heap.size ≠ w.heap.size + 1 + 1 := by omega
    have ne2 : w.heap.size + 1 ≠ w.heap.size + 1 + 1 := by omega
    have ne3 : W1.heap.size ≠ w.heap.size + 1 + 1 := by omega
    have ne4 : W1.heap.size + 1 ≠ w.heap.size + 1 + 1 := by omega
    clear hs1
    gi_wp2
    refine wp_region_eachI (by kernel_rfl) (by kernel_rfl) (by intro o ho c e; simp only [List.mem_cons, List.not_mem_nil, or_false] at ho; rcases ho with rfl | rfl | rfl | rfl | rfl | rfl | rfl <;> cases e)
      (fun d u u' => (∀ g, W.heap.size ≤ g → Blk u g 5 (cn .u8 (H (f x))) → Blk u' g 5 (cn .u8 (H (f x)))) ∧ (d 5 = true → ∀ A4 c4, Row u w.heap.size 5 A4 N c4 (cn .u8 (kidsL H f pre ++ H (f x))) → Row u' w.heap.size 5 A4 N c4 (cn .u8 (kidsL H f pre ++ H (f x)))) ∧ (d 6 = true → ∀ v, Boxed u (w.heap.size + 1 + 1) 22 v → u.ownsRow w.heap.size 5 1 v N (cn .u8 (kidsL H f pre ++ H (f x))) → Boxed u' (w.heap.size + 1 + 1) 22 v ∧ u'.ownsRow w.heap.size 5 1 v N (cn .u8 (kidsL H f pre ++ H (f x)))))
      (fun iX v u => match iX with
        | 0 => v = .slice Ad q cd
        | 1 => v = .int .i64 (z : Int)
        | 2 => v = .slice A nA cA
        | 3 => v = .slice Xp B (cap - t)
        | 4 => ∃ g, v = .slice (some ⟨g, 0, none⟩) D D ∧ W.heap.size ≤ g ∧ Blk u g 5 (cn .u8 (H (f x)))
        | 5 => ∃ A4 c4, v = .slice A4 N c4 ∧ Row u w.heap.size 5 A4 N c4 (cn .u8 (kidsL H f pre ++ H (f x)))
        | 6 => ∃ v, Boxed u (w.heap.size + 1 + 1) 22 v ∧ u.ownsRow w.heap.size 5 1 v N (cn .u8 (kidsL H f pre ++ H (f x)))
        | _ => True)
      (fun d u => Below w.heap.size w u ∧ KeepsOthers W u ∧ W.heap.size ≤ u.heap.size ∧ (Boxed u w.heap.size 3 (.int .i64 (z : Int)) ∧ Boxed u (w.heap.size + 1) 22 (.slice A nA cA) ∧ Boxed u W1.heap.size 22 (.slice Al len cap) ∧ Boxed u (W1.heap.size + 1) 3 (.int .i64 (B : Int))) ∧ (d 6 = false → Boxed u (w.heap.size + 1 + 1) 22 (.slice Ad q cd)) ∧ (d 5 = false → Row u w.heap.size 5 Ad q cd (cn .u8 (kidsL H f pre))))
      ?m1 ?m0 ?m2 ?m3
    case m1 =>
      intro d iX v u u' hd h hr hb
      rcases iX with _ | _ | _ | _ | _ | _ | _ | iX
      · exact h
      · exact h
      · exact h
      · exact h
      · obtain ⟨g, e, hg, hB⟩ := h; exact ⟨g, e, hg, hb.1 g hg hB⟩
      · obtain ⟨A4, c4, e, hB⟩ := h; exact ⟨A4, c4, e, hb.2.1 hd A4 c4 hB⟩
      · obtain ⟨v', h1, h2⟩ := h; exact ⟨v', hb.2.2 hd v' h1 h2⟩
      · trivial
    case m0 =>
      intro d hd
      exact ⟨below_drew1 hBW, KeepsOthers.drew W, Nat.le_refl _, ⟨hbz, hba, hbl, hbb⟩, fun _ => hbv, fun _ => Row.below hrow' (below_drew1 below_self)⟩
    case m2 =>
      intro iX o ho d a u hr hdi hsh hpd hk hpre K hK
      obtain ⟨r1, r2, r3, ⟨rb1, rb2, rb3, rb4⟩, r5, r6⟩ := hr
      have g4 : a.tmps.getD 4 undef = .pointer (some ⟨w.heap.size, 0, none⟩) := hk.slot 4 (by simp)
      have g5 : a.tmps.getD 5 undef = .pointer (some ⟨w.heap.size + 1, 0, none⟩) := hk.slot 5 (by simp)
      have g9 : a.tmps.getD 9 undef = .pointer (some ⟨w.heap.size + 1 + 1, 0, none⟩) := hk.slot 9 (by simp)
      have g10 : a.tmps.getD 10 undef = .slice Xp B (cap - t) := hk.slot 10 (by simp)
      have s65 : d 6 = true → d 5 = true := fun h => hsh 6 _ rfl h ⟨5, .data⟩ (by simp) rfl
      have s50 : d 5 = true → d 0 = true := fun h => hsh 5 _ rfl h ⟨0, .data⟩ (by simp) rfl
      have s54 : d 5 = true → d 4 = true := fun h => hsh 5 _ rfl h ⟨4, .data⟩ (by simp) rfl
      rcases iX with _ | _ | _ | _ | _ | _ | _ | iX
      · obtain rfl := Option.some.inj ho
        have d6 : d 6 = false := by
          cases h : d 6 with
          | false => rfl
          | true => rw [s50 (s65 h)] at hdi; cases hdi
        have hc := (r5 d6).cell
        have v9 : a.eval (.tmp 9) = .pointer (some ⟨w.heap.size + 1 + 1, 0, none⟩) := g9
        refine st_run (want_none rfl) (.slice Ad q cd) (w' := u) ?_ (hK _ _ rfl ⟨fun _ _ h => h, fun _ _ _ h => h, fun _ v h1 h2 => ⟨h1, h2⟩⟩ ⟨r1, r2, r3, ⟨rb1, rb2, rb3, rb4⟩, fun h => r5 h, fun h => r6 h⟩)
        simp only [execOp, v9]
        go_simp
      · obtain rfl := Option.some.inj ho
        have hc := rb1.cell
        have v9 : a.eval (.tmp 4) = .pointer (some ⟨w.heap.size, 0, none⟩) := g4
        refine st_run (want_none rfl) (.int .i64 (z : Int)) (w' := u) ?_ (hK _ _ rfl ⟨fun _ _ h => h, fun _ _ _ h => h, fun _ v h1 h2 => ⟨h1, h2⟩⟩ ⟨r1, r2, r3, ⟨rb1, rb2, rb3, rb4⟩, fun h => r5 h, fun h => r6 h⟩)
        simp only [execOp, v9]
        go_simp
      · obtain rfl := Option.some.inj ho
        have hc := rb2.cell
        have v9 : a.eval (.tmp 5) = .pointer (some ⟨w.heap.size + 1, 0, none⟩) := g5
        refine st_run (want_none rfl) (.slice A nA cA) (w' := u) ?_ (hK _ _ rfl ⟨fun _ _ h => h, fun _ _ _ h => h, fun _ v h1 h2 => ⟨h1, h2⟩⟩ ⟨r1, r2, r3, ⟨rb1, rb2, rb3, rb4⟩, fun h => r5 h, fun h => r6 h⟩)
        simp only [execOp, v9]
        go_simp
      · obtain rfl := Option.some.inj ho
        exact st_move (.tmp 10) rfl (want_none rfl) _ g10 (hK _ _ rfl ⟨fun _ _ h => h, fun _ _ _ h => h, fun _ v h1 h2 => ⟨h1, h2⟩⟩ ⟨r1, r2, r3, ⟨rb1, rb2, rb3, rb4⟩, fun h => r5 h, fun h => r6 h⟩)
      · obtain rfl := Option.some.inj ho
        have d5 : d 5 = false := by
          cases h : d 5 with
          | false => rfl
          | true => rw [s54 h] at hdi; cases hdi
        have d6 : d 6 = false := by
          cases h : d 6 with
          | false => rfl
          | true => rw [s65 h] at d5; cases d5
        have v8 : a.eval (.tmp 18) = .int .i64 (z : Int) := hpre 1 _ rfl ⟨⟨1, .data⟩, by simp, rfl, rfl⟩
        have v10 : a.eval (.tmp 19) = .slice A nA cA := hpre 2 _ rfl ⟨⟨2, .data⟩, by simp, rfl, rfl⟩
        have v11 : a.eval (.tmp 20) = .slice Xp B (cap - t) := hpre 3 _ rfl ⟨⟨3, .data⟩, by simp, rfl, rfl⟩
        have hdg := digest_any z D HZ.out HD.out A nA cA salt Xp B (cap - t) (f x) u (HS.out.below r1) HSF.out hsc hn (HX.out u r1) HXF.out hct (by omega) (HT.out.below r1)
        rw [HH.out] at hdg
        refine st_callN 31 _ _ rfl (want_none rfl) #[.int .i64 (z : Int), .slice A nA cA, .slice Xp B (cap - t)] (by simp [v8, v10, v11]) (by kernel_rfl) _ hdg (fun e u' he => ?_)
        obtain ⟨g, rfl, hg, hB, hb⟩ := he
        refine ⟨_, rfl, hK _ _ ⟨g, rfl, Nat.le_trans r3 hg, hB⟩ ⟨fun g' _ h => h.below hb h.lt, fun _ A4 c4 h => Row.below h hb, fun h => absurd (h.symm.trans d6) (by simp)⟩ ⟨r1.trans (hb.mono r1.size), r2.trans (keeps_below hb), Nat.le_trans r3 hb.size, ⟨rb1.kept (only_of_below hb none) (by simp), rb2.kept (only_of_below hb none) (by simp), rb3.kept (only_of_below hb none) (by simp), rb4.kept (only_of_below hb none) (by simp)⟩, fun _ => (r5 d6).kept (only_of_below hb none) (by simp), fun _ => Row.below (r6 d5) hb⟩⟩
      · obtain rfl := Option.some.inj ho
        have d6 : d 6 = false := by
          cases h : d 6 with
          | false => rfl
          | true => rw [s65 h] at hdi; cases hdi
        have v0 : a.eval (.tmp 17) = .slice Ad q cd := hpre 0 _ rfl ⟨⟨0, .data⟩, by simp, rfl, rfl⟩
        obtain ⟨g, e4, hg, hB⟩ : ∃ g, a.eval (.tmp 21) = .slice (some ⟨g, 0, none⟩) D D ∧ W.heap.size ≤ g ∧ Blk u g 5 (cn .u8 (H (f x))) := hpre 4 _ rfl ⟨⟨4, .data⟩, by simp, rfl, rfl⟩
        obtain ⟨A4, c4, w4, hrun, hr4, hgr, hko, hbl4⟩ := app_own u w.heap.size q cd D g N Ad (kidsL H f pre) (H (f x)) (r6 hdi) hB hdl hN (by omega) r1.size
        have hne : ∀ g', W.heap.size ≤ g' → some g' ≠ (Value.slice Ad q cd).ownBlock := fun g' hg' e => by
          have := (World.ownsRow.lt hrow' g' e.symm).2
          omega
        refine st_app (.tmp 17) (.tmp 21) _ rfl (want_none rfl) _ _ v0 e4 _ _ hrun (hK _ _ ⟨A4, c4, rfl, hr4⟩ ⟨fun g' h1 h => h.grown hgr (hne g' h1), fun h => absurd (h.symm.trans hdi) (by simp), fun h => absurd (h.symm.trans d6) (by simp)⟩ ⟨r1.trans hbl4, r2.trans hko, Nat.le_trans r3 hgr.size, ⟨rb1.kept hgr (rb1.not_row (by decide) (r6 hdi)), rb2.kept hgr (rb2.not_row (by decide) (r6 hdi)), rb3.kept hgr (rb3.not_row (by decide) (r6 hdi)), rb4.kept hgr (rb4.not_row (by decide) (r6 hdi))⟩, fun _ => (r5 d6).kept hgr ((r5 d6).not_row (by decide) (r6 hdi)), fun h => by simp [upd] at h⟩)
      · obtain rfl := Option.some.inj ho
        have d5 : d 5 = true := hpd ⟨5, .data⟩ (by simp) rfl
        obtain ⟨A4, c4, e5, hr4⟩ : ∃ A4 c4, a.eval (.tmp 22) = .slice A4 N c4 ∧ Row u w.heap.size 5 A4 N c4 (cn .u8 (kidsL H f pre ++ H (f x))) := hpre 5 _ rfl ⟨⟨5, .data⟩, by simp, rfl, rfl⟩
        have hbx := r5 hdi
        have hc := hbx.cell
        have hfz := hbx.frozen
        have v9 : a.eval (.tmp 9) = .pointer (some ⟨w.heap.size + 1 + 1, 0, none⟩) := g9
        have hset := grownBy_setCell' u (w.heap.size + 1 + 1) (.slice A4 N c4)
        have nn : ∀ k, k ≠ w.heap.size + 1 + 1 → some k ≠ some (w.heap.size + 1 + 1) := fun k h e => h (by injection e)
        refine st_skip (want_none rfl) (w' := u.setCell ⟨w.heap.size + 1 + 1, 0, none⟩ (.slice A4 N c4)) ?_ (hK undef _ ⟨_, hbx.set _, World.ownsRow.kept hr4 hset (.inr (hbx.not_row (by decide) hr4).symm)⟩ ⟨fun g' h1 h => h.far (p := ⟨w.heap.size + 1 + 1, 0, none⟩) (by have := hbv.lt; simp only; omega) _, fun _ A4' c4' h => World.ownsRow.kept h hset (.inr (hbx.not_row (by decide) h).symm), fun h => absurd (h.symm.trans hdi) (by simp)⟩ ⟨r1.setCell (p := ⟨w.heap.size + 1 + 1, 0, none⟩) (by simp only; omega) _, r2.trans (KeepsOthers.setCell _ _ _), Nat.le_trans r3 hset.size, ⟨rb1.kept hset (nn _ ne1), rb2.kept hset (nn _ ne2), rb3.kept hset (nn _ ne3), rb4.kept hset (nn _ ne4)⟩, fun h => by simp [upd] at h, fun h => by simp [upd, d5] at h⟩)
        simp only [execOp, v9, e5]
        go_simp
      · cases ho
    case m3 =>
      intro d a u hd hr hk hv
      obtain ⟨r1, r2, r3, ⟨rb1, rb2, rb3, rb4⟩, r5, r6⟩ := hr
      obtain ⟨v', h1, h2⟩ := hv 6 _ rfl
      have hfin : Hid ((∃ v, Boxed u (w.heap.size + 1 + 1) 22 v ∧ u.ownsRow w.heap.size 5 1 v ((pre ++ [(⟨x, hx⟩ : Num c)]).length * D) (cn .u8 (kidsL H f (pre ++ [(⟨x, hx⟩ : Num c)]))) ∧ True)) := ⟨v', h1, by rw [hqD, hN, kidsL_snoc]; exact h2, trivial⟩
      exact ⟨r2.from _, ⟨fun v e => by rw [hbl.cell] at e; rw [rb3.cell]; exact e, fun v e => by rw [hbb.cell] at e; rw [rb4.cell]; exact e⟩, ⟨⟨⟨rb1, rb2, rb3, rb4⟩, hfin.out⟩, r1⟩⟩
  case done =>
    rintro D' ys W hD' rfl ⟨⟨_, v, hbv, hrow, _⟩, hBW⟩ hK
    rw [uptoN_length, kidsL_upto hc H f c (Nat.le_refl _)] at hrow
    have hk1 := HK.out
    have hm1 := HM.out
    obtain ⟨q, hq⟩ : ∃ q, c * D = q := ⟨_, rfl⟩
    rw [hq] at hrow hk1 hm1
    have hqb : q ≤ 1000000 := by omega
    obtain ⟨Ad, cd, rfl⟩ : ∃ Ad cd, v = .slice Ad q cd := by
      rcases hrow.2 with ⟨rfl, h0⟩ | ⟨g, cap', cur, rfl, _⟩
      · exact ⟨none, 0, by rw [h0]⟩
      · exact ⟨_, _, rfl⟩
    have HR : Hid (Rd .u8 W Ad q (kids H f c)) := Row.rd (k := .u8) hrow
    have hcv := hbv.cell
    have HKd := Lib.hid hK
    have HBW := Lib.hid hBW
    have HK1 := Lib.hid hk1
    have HM1 := Lib.hid hm1
    have HD' := Lib.hid hD'
    clear hrow hbv hK hk1 hm1 hq hcb hD'
    go_wp2_with fail
    refine (Pad_any Ad q cd (kids H f c) B W HR.out (by omega) (by omega) (by omega) k m HK1.out HM1.out).mono ?_
    rintro e w3 ⟨g, rfl, hg, hB3, hb3⟩
    have hlt : D' < W.heap.size := (Array.getElem?_eq_some_iff.1 HKd.out).1
    have hK3 : w3.heap[D']? = some (.deferred (some [])) := (hb3.block D' hlt).trans HKd.out
    have hB4 : Blk (w3.putObj D' (.deferred none)) g 5 (cn .u8 (kids H f c ++ List.replicate k 0)) := hB3.grown (grownBy_putObj' _ D' _) (fun e => by injection e with e; omega)
    have hb4 : Below w.heap.size w (w3.putObj D' (.deferred none)) := (HBW.out.trans (hb3.mono HBW.out.size)).trans (belowK_b (w := w) (Nat.le_refl _) w3 D' _ _ (by have := HS1.out; have := HS2.out; have := HD'.out; omega) hK3 rfl rfl)
    have hgw : w.heap.size ≤ g := Nat.le_trans HBW.out.size hg
    have HK3 := Lib.hid hK3
    have HB4 := Lib.hid hB4
    have Hb4 := Lib.hid hb4
    clear hB3 hb3 hK3 hB4 hb4 hlt
    go_wp2
    refine ⟨by simp, .inl ⟨_, _, rfl, run_takeDeferred HK3.out, ?_⟩⟩
    exact ⟨_, results_tmp rfl _ _ _, g, rfl, hgw, by rw [HH.out]; exact HB4.out, Hb4.out⟩
  case stop =>
    rintro D' c' pre W _ _ h _
    exact h.elim
end Go.Proofs.YtfoenafjaaidmaaDoor
