/-
  The small functions of package blob (within, inRange, signed, encodes, aligned), span.Align and bytes.HasPrefix. No condition but that texts are bytes that fit. slices.Grow of nothing, slices.Concat, and padded of package blob: bytes behind bytes, and noughts up to a multiple of 64. No condition but that lengths are small. The numbers of a head in memory, and the head's bytes. No condition but that the numbers have room.
-/
import Derived.Test.YtlcoebenkhafcaaGreatDoorZ15
import Derived.Test.YtlcoebenkhafcaaGreatDoorZ08
import Derived.Lib.SlBytesConst
namespace Go.Proofs.YtlcoebenkhafcaaGreatDoor
open Go.RowKit
set_option linter.unusedVariables false
set_option linter.unusedSimpArgs false
set_option maxRecDepth 100000
theorem within_any (n a b : Int) (w : World) : Calls Tryz.prog 39 #[.int .i64 n, .int .i64 a, .int .i64 b] w fun e w' => e = .returned (.bool (decide (a ≤ n ∧ n ≤ b))) ∧ w = w' := by
  by_cases h1 : a ≤ n
  · by_cases h2 : n ≤ b
    · rw [decide_eq_true (show a ≤ n ∧ n ≤ b from ⟨h1, h2⟩)]
      go_enter Tryz.func39, Tryz.ntmps39
      go_wp2
      go_ret
      exact ⟨rfl, rfl⟩
    · rw [decide_eq_false (show ¬ (a ≤ n ∧ n ≤ b) from fun h => h2 h.2)]
      go_enter Tryz.func39, Tryz.ntmps39
      go_wp2
      go_ret
      exact ⟨rfl, rfl⟩
  · rw [decide_eq_false (show ¬ (a ≤ n ∧ n ≤ b) from fun h => h1 h.1)]
    go_enter Tryz.func39, Tryz.ntmps39
    go_wp2
    go_ret
    exact ⟨rfl, rfl⟩
def hcells (b : Bl) : List Value := [.int .i64 b.alg, .int .i64 b.idx, .int .i64 b.flags, .int .i64 b.loc]
theorem hcells_one (b : Bl) : ∀ v ∈ hcells b, v.oneCell' = true := by
  intro v hv
  simp only [hcells, List.mem_cons, List.not_mem_nil, or_false] at hv
  rcases hv with rfl | rfl | rfl | rfl <;> rfl
set_option maxHeartbeats 1000000 in
theorem inRange_any (b : Bl) (w : World) : Calls Tryz.prog 35 #[.agg (hcells b).toArray] w fun e w' => e = .returned (.bool (decide (Headed b))) ∧ Below w.heap.size w w' := by
  have hb1 : Below w.heap.size w (w.alloc (.cells (hcells b).toArray 23)) := (Below.refl _ _).alloc (Nat.le_refl _) _
  have hk1 : Blk (w.alloc (.cells (hcells b).toArray 23)) w.heap.size 23 (hcells b) := Blk.new _ _ _
  obtain ⟨W, hW⟩ : ∃ W, w.alloc (.cells (hcells b).toArray 23) = W := ⟨_, rfl⟩
  rw [hW] at hb1 hk1
  have c0 : W.cell? ⟨w.heap.size, 0, none⟩ = some (.int .i64 b.alg) := hk1.cell 0
  have c1 : W.cell? ⟨w.heap.size, 1, none⟩ = some (.int .i64 b.idx) := hk1.cell 1
  have c2 : W.cell? ⟨w.heap.size, 2, none⟩ = some (.int .i64 b.flags) := hk1.cell 2
  have c3 : W.cell? ⟨w.heap.size, 3, none⟩ = some (.int .i64 b.loc) := hk1.cell 3
  have HB := Lib.hid hb1
  have HH : Hid (Headed b ↔ ((0 ≤ b.alg ∧ b.alg ≤ 2) ∧ (0 ≤ b.idx ∧ b.idx ≤ 281474976710656) ∧ (0 ≤ b.flags ∧ b.flags ≤ 3) ∧ (0 ≤ b.loc ∧ b.loc ≤ 31))) := Iff.rfl
  obtain ⟨D, hD⟩ : ∃ D, decide (Headed b) = D := ⟨_, rfl⟩
  rw [hD]
  have HD := Lib.hid hD
  clear hb1 hk1 hD
  by_cases h0 : 0 ≤ b.alg ∧ b.alg ≤ 2
  · by_cases h1 : 0 ≤ b.idx ∧ b.idx ≤ 281474976710656
    · by_cases h2 : 0 ≤ b.flags ∧ b.flags ≤ 3
      · by_cases h3 : 0 ≤ b.loc ∧ b.loc ≤ 31
        · have E : Hid (D = true) := HD.out.symm.trans (decide_eq_true (HH.out.2 ⟨h0, h1, h2, h3⟩))
          have W0 : Hid (∀ w : World, Calls Tryz.prog 39 #[.int .i64 b.alg, .int .i64 0, .int .i64 2] w fun e w' => e = .returned (.bool true) ∧ w = w') := fun w => by have := within_any b.alg 0 2 w; rwa [decide_eq_true h0] at this
          have W1 : Hid (∀ w : World, Calls Tryz.prog 39 #[.int .i64 b.idx, .int .i64 0, .int .i64 281474976710656] w fun e w' => e = .returned (.bool true) ∧ w = w') := fun w => by have := within_any b.idx 0 281474976710656 w; rwa [decide_eq_true h1] at this
          have W2 : Hid (∀ w : World, Calls Tryz.prog 39 #[.int .i64 b.flags, .int .i64 0, .int .i64 3] w fun e w' => e = .returned (.bool true) ∧ w = w') := fun w => by have := within_any b.flags 0 3 w; rwa [decide_eq_true h2] at this
          have W3 : Hid (∀ w : World, Calls Tryz.prog 39 #[.int .i64 b.loc, .int .i64 0, .int .i64 31] w fun e w' => e = .returned (.bool true) ∧ w = w') := fun w => by have := within_any b.loc 0 31 w; rwa [decide_eq_true h3] at this
          clear h0 h1 h2 h3
          go_enter Tryz.func35, Tryz.ntmps35
          go_wp2_with fail
          refine (W0.out _).mono ?_
          rintro e w1 ⟨rfl, rfl⟩
          go_wp2_with fail
          refine (W1.out _).mono ?_
          rintro e w1 ⟨rfl, rfl⟩
          go_wp2_with fail
          refine (W2.out _).mono ?_
          rintro e w1 ⟨rfl, rfl⟩
          go_wp2_with fail
          refine (W3.out _).mono ?_
          rintro e w1 ⟨rfl, rfl⟩
          go_wp2
          go_ret
          exact ⟨by rw [E.out]; rfl, HB.out⟩
        · have E : Hid (D = false) := HD.out.symm.trans (decide_eq_false (fun h => h3 (HH.out.1 h).2.2.2))
          have W0 : Hid (∀ w : World, Calls Tryz.prog 39 #[.int .i64 b.alg, .int .i64 0, .int .i64 2] w fun e w' => e = .returned (.bool true) ∧ w = w') := fun w => by have := within_any b.alg 0 2 w; rwa [decide_eq_true h0] at this
          have W1 : Hid (∀ w : World, Calls Tryz.prog 39 #[.int .i64 b.idx, .int .i64 0, .int .i64 281474976710656] w fun e w' => e = .returned (.bool true) ∧ w = w') := fun w => by have := within_any b.idx 0 281474976710656 w; rwa [decide_eq_true h1] at this
          have W2 : Hid (∀ w : World, Calls Tryz.prog 39 #[.int .i64 b.flags, .int .i64 0, .int .i64 3] w fun e w' => e = .returned (.bool true) ∧ w = w') := fun w => by have := within_any b.flags 0 3 w; rwa [decide_eq_true h2] at this
          have W3 : Hid (∀ w : World, Calls Tryz.prog 39 #[.int .i64 b.loc, .int .i64 0, .int .i64 31] w fun e w' => e = .returned (.bool false) ∧ w = w') := fun w => by have := within_any b.loc 0 31 w; rwa [decide_eq_false h3] at this
          clear h0 h1 h2 h3
          go_enter Tryz.func35, Tryz.ntmps35
          go_wp2_with fail
          refine (W0.out _).mono ?_
          rintro e w1 ⟨rfl, rfl⟩
          go_wp2_with fail
          refine (W1.out _).mono ?_
          rintro e w1 ⟨rfl, rfl⟩
          go_wp2_with fail
          refine (W2.out _).mono ?_
          rintro e w1 ⟨rfl, rfl⟩
          go_wp2_with fail
          refine (W3.out _).mono ?_
          rintro e w1 ⟨rfl, rfl⟩
          go_wp2
          go_ret
          exact ⟨by rw [E.out]; rfl, HB.out⟩
      · have E : Hid (D = false) := HD.out.symm.trans (decide_eq_false (fun h => h2 (HH.out.1 h).2.2.1))
        have W0 : Hid (∀ w : World, Calls Tryz.prog 39 #[.int .i64 b.alg, .int .i64 0, .int .i64 2] w fun e w' => e = .returned (.bool true) ∧ w = w') := fun w => by have := within_any b.alg 0 2 w; rwa [decide_eq_true h0] at this
        have W1 : Hid (∀ w : World, Calls Tryz.prog 39 #[.int .i64 b.idx, .int .i64 0, .int .i64 281474976710656] w fun e w' => e = .returned (.bool true) ∧ w = w') := fun w => by have := within_any b.idx 0 281474976710656 w; rwa [decide_eq_true h1] at this
        have W2 : Hid (∀ w : World, Calls Tryz.prog 39 #[.int .i64 b.flags, .int .i64 0, .int .i64 3] w fun e w' => e = .returned (.bool false) ∧ w = w') := fun w => by have := within_any b.flags 0 3 w; rwa [decide_eq_false h2] at this
        clear h0 h1 h2
        go_enter Tryz.func35, Tryz.ntmps35
        go_wp2_with fail
        refine (W0.out _).mono ?_
        rintro e w1 ⟨rfl, rfl⟩
        go_wp2_with fail
        refine (W1.out _).mono ?_
        rintro e w1 ⟨rfl, rfl⟩
        go_wp2_with fail
        refine (W2.out _).mono ?_
        rintro e w1 ⟨rfl, rfl⟩
        go_wp2
        go_ret
        exact ⟨by rw [E.out]; rfl, HB.out⟩
    · have E : Hid (D = false) := HD.out.symm.trans (decide_eq_false (fun h => h1 (HH.out.1 h).2.1))
      have W0 : Hid (∀ w : World, Calls Tryz.prog 39 #[.int .i64 b.alg, .int .i64 0, .int .i64 2] w fun e w' => e = .returned (.bool true) ∧ w = w') := fun w => by have := within_any b.alg 0 2 w; rwa [decide_eq_true h0] at this
      have W1 : Hid (∀ w : World, Calls Tryz.prog 39 #[.int .i64 b.idx, .int .i64 0, .int .i64 281474976710656] w fun e w' => e = .returned (.bool false) ∧ w = w') := fun w => by have := within_any b.idx 0 281474976710656 w; rwa [decide_eq_false h1] at this
      clear h0 h1
      go_enter Tryz.func35, Tryz.ntmps35
      go_wp2_with fail
      refine (W0.out _).mono ?_
      rintro e w1 ⟨rfl, rfl⟩
      go_wp2_with fail
      refine (W1.out _).mono ?_
      rintro e w1 ⟨rfl, rfl⟩
      go_wp2
      go_ret
      exact ⟨by rw [E.out]; rfl, HB.out⟩
  · have E : Hid (D = false) := HD.out.symm.trans (decide_eq_false (fun h => h0 (HH.out.1 h).1))
    have W0 : Hid (∀ w : World, Calls Tryz.prog 39 #[.int .i64 b.alg, .int .i64 0, .int .i64 2] w fun e w' => e = .returned (.bool false) ∧ w = w') := fun w => by have := within_any b.alg 0 2 w; rwa [decide_eq_false h0] at this
    clear h0
    go_enter Tryz.func35, Tryz.ntmps35
    go_wp2_with fail
    refine (W0.out _).mono ?_
    rintro e w1 ⟨rfl, rfl⟩
    go_wp2
    go_ret
    exact ⟨by rw [E.out]; rfl, HB.out⟩
theorem signed_any (b : Bl) (w : World) : Calls Tryz.prog 37 #[.agg (hcells b).toArray] w fun e w' => e = .returned (.bool (b.alg != 0)) ∧ Below w.heap.size w w' := by
  have hb1 : Below w.heap.size w (w.alloc (.cells (hcells b).toArray 23)) := (Below.refl _ _).alloc (Nat.le_refl _) _
  have hk1 : Blk (w.alloc (.cells (hcells b).toArray 23)) w.heap.size 23 (hcells b) := Blk.new _ _ _
  obtain ⟨W, hW⟩ : ∃ W, w.alloc (.cells (hcells b).toArray 23) = W := ⟨_, rfl⟩
  rw [hW] at hb1 hk1
  have c0 : W.cell? ⟨w.heap.size, 0, none⟩ = some (.int .i64 b.alg) := hk1.cell 0
  go_enter Tryz.func37, Tryz.ntmps37
  go_wp2
  go_ret
  exact ⟨rfl, hb1⟩
theorem encodes_any (A : Option Addr) (n cap : Nat) (xs : List Dx) (w : World) (hd : DL w A n xs) (hn : n ≤ 100000) (hnc : n ≤ cap) (hcm : cap ≤ 9223372036854775807) (hnm : ∀ x ∈ xs, x.d.name.length ≤ 100000) :
    Calls Tryz.prog 36 #[.slice A n cap] w fun e w' => e = .returned (.bool (decide (Listed (des xs)))) ∧ Below w.heap.size w w' := by
  have HE := Lib.hid (Encode_any A n cap xs w hd hn hnc hcm hnm)
  have HI := Lib.hid (listed_iff (des xs))
  obtain ⟨D, hD⟩ : ∃ D, decide (Listed (des xs)) = D := ⟨_, rfl⟩
  rw [hD]
  have HD := Lib.hid hD
  clear hd hnm hD
  go_enter Tryz.func36, Tryz.ntmps36
  go_wp2_with fail
  refine HE.out.mono ?_
  rintro e w1 ⟨A2, n2, c2, l, er, rfl, her, hr, hb1⟩
  have HB := Lib.hid hb1
  by_cases h0 : er = 0
  · subst h0
    have E : Hid (D = true) := HD.out.symm.trans (decide_eq_true (HI.out.2 (by rw [her])))
    clear her hr hb1
    go_wp2
    go_ret
    exact ⟨by rw [E.out]; rfl, HB.out⟩
  · have E : Hid (D = false) := HD.out.symm.trans (decide_eq_false (fun h => h0 (by have := HI.out.1 h; rw [her] at this; exact this)))
    have e0 : ((er : Int) == 0) = false := beq_eq_false_iff_ne.2 (by omega)
    clear her hr hb1
    go_wp2
    go_ret
    exact ⟨by rw [E.out]; rfl, HB.out⟩
theorem gapn_up (n : Nat) : n + gapn n 64 = up64 n := by unfold gapn up64; omega
theorem gap_big (n to : Nat) (w : World) (h0 : n ≤ 4611686018427387904) (h1 : 1 ≤ to) (h2 : to ≤ 65536) : Calls Tryz.prog 147 #[.int .i64 (n : Int), .int .i64 (to : Int)] w fun e w' => e = .returned (.int .i64 (gapn n to : Nat)) ∧ w = w' := by
  obtain ⟨q, hq⟩ : ∃ q, n % to = q := ⟨_, rfl⟩
  have hqz : (n : Int).tmod (to : Int) = (q : Int) := by rw [Int.tmod_eq_emod_of_nonneg (by omega), ← hq]; rfl
  have hql : q < to := by rw [← hq]; exact Nat.mod_lt _ (by omega)
  have hto : ¬ (to : Int) = 0 := by omega
  unfold gapn
  rw [hq]
  clear hq
  by_cases h : q = 0
  · subst h
    rw [Nat.sub_zero, Nat.mod_self]
    have e0 : ((0 : Nat) : Int) = 0 := rfl
    rw [e0] at hqz
    go_enter Tryz.func147, Tryz.ntmps147
    go_wp2
    go_ret
    exact ⟨rfl, rfl⟩
  · have e1 : ((q : Int) == 0) = false := beq_eq_false_iff_ne.2 (by omega)
    obtain ⟨r, hr⟩ : ∃ r, (to - q) % to = r := ⟨_, rfl⟩
    have hrz : (to : Int) - (q : Int) = (r : Int) := by rw [← hr, Nat.mod_eq_of_lt (by omega)]; omega
    rw [hr]
    clear hr
    go_enter Tryz.func147, Tryz.ntmps147
    go_wp2
    go_ret
    exact ⟨rfl, rfl⟩
theorem aligned_any (n : Nat) (z : Int) (hz : z = n) (w : World) (hn : n ≤ 1125899906842624) : Calls Tryz.prog 80 #[.int .i64 z] w fun e w' => e = .returned (.int .i64 (up64 n : Nat)) ∧ w = w' := by
  subst hz
  have HG := fun w => Lib.hid (gap_big n 64 w (by omega) (by omega) (by omega))
  have HT := fun w => Lib.hid (toRight_yes 64 w (by omega) (by omega))
  obtain ⟨g, hg⟩ : ∃ g, gapn n 64 = g := ⟨_, rfl⟩
  have hu := gapn_up n
  have hu2 : up64 n ≤ 1125899906842700 := by unfold up64; omega
  rw [hg] at hu
  have hgi : (n : Int) + (g : Int) = ((up64 n : Nat) : Int) := by omega
  obtain ⟨U, hU⟩ : ∃ U, up64 n = U := ⟨_, rfl⟩
  rw [hU] at hgi hu2 ⊢
  have HGE := Lib.hid hg
  have z1 : ¬ (n : Int) < 0 := by omega
  have z2 : ¬ (4611686018427387904 : Int) < (n : Int) := by omega
  have z3 : ¬ (4611686018427387904 : Int) < (U : Int) := by omega
  clear hu hU hg
  have HA : Hid (∀ w, Calls Tryz.prog 123 #[.int .i64 (n : Int), .int .i64 64] w fun e w' => e = .returned (.tuple #[.int .i64 (U : Int), .int .i64 0]) ∧ w = w') := fun w => by
    go_enter Tryz.func123, Tryz.ntmps123
    go_wp2_with fail
    refine (HT _).out.mono ?_
    rintro e w1 ⟨rfl, rfl⟩
    go_wp2_with fail
    refine (HG _).out.mono ?_
    rintro e w1 ⟨rfl, rfl⟩
    rw [HGE.out]
    go_wp2
    go_ret2
    exact ⟨rfl, rfl⟩
  go_enter Tryz.func80, Tryz.ntmps80
  go_wp2_with fail
  refine (HA.out _).mono ?_
  rintro e w1 ⟨rfl, rfl⟩
  go_wp2
  go_ret
  exact ⟨rfl, rfl⟩
end Go.Proofs.YtlcoebenkhafcaaGreatDoor
namespace Go.Proofs.YtlcoebenkhafcaaGreatDoor
open Go.RowKit
set_option linter.unusedVariables false
set_option linter.unusedSimpArgs false
set_option maxRecDepth 100000
theorem zeros_cells (k : Nat) : Builtin.zeroCells #[Value.int .u8 0] k = (cn .u8 (List.replicate k 0)).toArray := by
  apply Array.ext'
  simp only [Builtin.zeroCells, cn]
  simp
  apply List.ext_getElem
  · simp
  · intro i h1 h2
    simp [Nat.mod_one]
theorem run_make13 (w : World) (A : Option Addr) (n cap k : Nat) (hk : n + k ≤ 1000000) (S : ByteArray) (hS : S = str (List.replicate k 0)) :
    (Builtin.append_ #[25, 3] 25 #[.slice A n cap, .int .i64 (k : Int)]).run Tryz.prog w = (Builtin.append_ #[25, 9] 25 #[.slice A n cap, .string S]).run Tryz.prog w := by
  have hfit : Fit 256 (List.replicate k 0) := fun x hx => by rw [List.eq_of_mem_replicate hx]; omega
  have hcs : Lib.strCells S = cn .u8 (List.replicate k 0) := by rw [hS, strCells_str hfit]
  have hsz : S.size = k := by rw [← Lib.strCells_length, hcs, cn_length, List.length_replicate]
  obtain ⟨i0, hi, hz0, hz1, hz2⟩ := info_parts byteInfo
  have hf : ∀ u : World, (Builtin.firstCells 1 k (.string S)).run Tryz.prog u = .ok (Builtin.zeroCells #[Value.int .u8 0] k) u := fun u => by
    have := Lib.run_firstCells_string (P := Tryz.prog) u 1 S
    rw [hsz, hcs, ← zeros_cells] at this
    exact this
  have hw : IntKind.i64.wrap (k : Int) = k := by rw [IntKind.wrap_i64]; omega
  have h1 : ¬ ((k : Int) < 0) := by omega
  have h2 : ¬ ((281474976710656 : Int) < k) := by omega
  have h3 : ¬ ((9223372036854775807 : Int) < (n : Int) + k) := by omega
  have e0 : k = 0 → Builtin.zeroCells #[Value.int .u8 0] k = #[] := by rintro rfl; rw [zeros_cells]; rfl
  by_cases hr : n + k ≤ cap
  · by_cases h0 : k = 0
    · subst h0
      have hff := hf w
      rw [e0 rfl] at hff
      have hw0 : IntKind.i64.wrap 0 = 0 := rfl
      have hr' : n ≤ cap := by omega
      simp [hw0, hr', Builtin.append_, run_underlying Tryz.underlying25, run_underlying Tryz.underlying9, run_underlying Tryz.underlying3, sizeOf, typeInfo, hi, hz1, hz2, hz0, Builtin.lenOf, asInt, asIntOf, hw, hsz, hr, hff]
    · simp [Builtin.append_, run_underlying Tryz.underlying25, run_underlying Tryz.underlying9, run_underlying Tryz.underlying3, sizeOf, typeInfo, hi, hz1, hz2, hz0, Builtin.lenOf, asInt, asIntOf, hw, hsz, hr, hf, h1, h2, h0, zeroValue, Value.cells]
  · have h4 : ¬ (281474976710656 < Builtin.nextslicecap (n + k) cap) := by
      have := growslice_fits (need := n + k) (old := cap) (bytes := 1) (by omega) (by omega)
      omega
    by_cases h0 : k = 0
    · subst h0
      have hff := fun u => hf u
      simp only [e0 rfl] at hff
      have hw0 : IntKind.i64.wrap 0 = 0 := rfl
      have hr' : ¬ n ≤ cap := by omega
      have h4' : ¬ (281474976710656 < Builtin.nextslicecap n cap) := h4
      have h3' : ¬ ((9223372036854775807 : Int) < (n : Int)) := by omega
      simp [hw0, hr', h4', h3', Builtin.append_, run_underlying Tryz.underlying25, run_underlying Tryz.underlying9, run_underlying Tryz.underlying3, sizeOf, typeInfo, hi, hz1, hz2, hz0, Builtin.lenOf, asInt, asIntOf, hw, hsz, hr, hff, h3, h4]
    · simp [Builtin.append_, run_underlying Tryz.underlying25, run_underlying Tryz.underlying9, run_underlying Tryz.underlying3, sizeOf, typeInfo, hi, hz1, hz2, hz0, Builtin.lenOf, asInt, asIntOf, hw, hsz, hr, hf, h1, h2, h0, h3, h4, zeroValue, Value.cells]
theorem app_make (W : World) (h q cd k N : Nat) (Ad : Option Addr) (l : List Nat) (hrow : Row W h 5 Ad q cd (cn .u8 l)) (hN : q + k = N) (hN2 : N ≤ 1000000) (hh : h ≤ W.heap.size) :
    ∃ A4 c4 w4, (Builtin.append_ #[25, 3] 25 #[.slice Ad q cd, .int .i64 (k : Int)]).run Tryz.prog W = .ok (.slice A4 N c4) w4 ∧ Row w4 h 5 A4 N c4 (cn .u8 (l ++ List.replicate k 0)) ∧ Below h W w4 := by
  subst hN
  have hfit : Fit 256 (List.replicate k 0) := fun x hx => by rw [List.eq_of_mem_replicate hx]; omega
  have hcs : Lib.strCells (str (List.replicate k 0)) = cn .u8 (List.replicate k 0) := strCells_str hfit
  have hsz : (str (List.replicate k 0)).size = k := by rw [← Lib.strCells_length, hcs, cn_length, List.length_replicate]
  obtain ⟨i0, hi, hz0, hz1, hz2⟩ := info_parts byteInfo
  obtain ⟨v', w', hrun, hown, hg, _⟩ := Lib.run_append_own_string (P := Tryz.prog) W h 25 9 25 5 i0 Tryz.underlying25 Tryz.underlying9 hi hz0 hz1 hz2 _ q _ hrow (str (List.replicate k 0)) (by unfold maxLen; omega) (by omega) hh
  rw [hcs, hsz] at hown
  have hform : ∃ A' cap', v' = .slice A' (q + k) cap' := by
    rcases hown.2 with ⟨rfl, h0⟩ | ⟨g, cap', cur, rfl, _⟩
    · exact ⟨none, 0, by rw [h0]⟩
    · exact ⟨_, _, rfl⟩
  obtain ⟨A', cap', rfl⟩ := hform
  refine ⟨A', cap', w', (run_make13 W Ad q cd k hN2 _ rfl).trans hrun, ?_, below_only (Below.refl _ _) hg hh (fun j hj => (World.ownsRow.lt hrow j hj).1)⟩
  show World.ownsRow _ _ _ _ _ _ _
  rw [cn_append]
  exact hown
theorem wpList_appMake {ops : Array Oper} {rest : List Oper} {o : Oper} {a : Act} {w : World} {Q : Exit → Act → World → Prop} (hgd : o.guard = none) (s x : Operand) (ho : o.op = .call { callee := .builtin .append, args := #[s, x], argTypes := #[25, 3] }) (hty : o.type = 25)
    (v u : Value) (hs : a.eval s = v) (hx : a.eval x = u) {v' : Value} {w' : World} (hr : (Builtin.append_ #[25, 3] 25 #[v, u]).run Tryz.prog w = .ok v' w') (h : wpList Tryz.prog ops Q rest (a.put o.dst v') w') : wpList Tryz.prog ops Q (o :: rest) a w := by
  refine wpList_plain hgd fun K hK => ?_
  unfold Oper.wp
  simp [execOp, ho, hty, resolve, invoke, builtin, hs, hx, hr, Result.andThen]
  exact hK _ _ h
theorem Row.first0 {w : World} {B : Nat} {A : Option Addr} {n cap : Nat} {xs : List Value} (h : Row w B 5 A n cap xs) : Row w B 5 A 0 cap [] := by
  rcases h.2 with ⟨hv, h0⟩ | ⟨g, cap', cur, hv, h1, h2, h3, h4, h5, h6⟩
  · injection hv with e1 e2 e3
    subst e1 e3
    exact Row.nil _ _ _
  · injection hv with e1 e2 e3
    subst e1 e3
    exact ⟨rfl, .inr ⟨g, _, cur, rfl, h1, h2, Nat.zero_le _, h4, h5, by simp⟩⟩
theorem Row.capnil {w : World} {B : Nat} {A : Option Addr} {n cap : Nat} {xs : List Value} (h : Row w B 5 A n cap xs) (e : A = none) : cap = 0 := by
  rcases h.2 with ⟨e2, _⟩ | ⟨g, cap', cur, e2, _⟩
  · injection e2
  · rw [e] at e2; injection e2 with e3; cases e3
theorem Row.bs {w : World} {B : Nat} {A : Option Addr} {n cap : Nat} {l : List Nat} (h : Row w B 5 A n cap (cn .u8 l)) (hf : Fit 256 l) : Bs w A n cap l :=
  ⟨h.rd, hf, h.le.1, by have := h.le.2; unfold maxLen at this; omega, h.capnil⟩
theorem Blk.bs {w : World} {g n : Nat} {l : List Nat} (h : Blk w g 5 (cn .u8 l)) (hf : Fit 256 l) (hl : l.length = n) (hn : n ≤ 1000000) : Bs w (some ⟨g, 0, none⟩) n n l :=
  ⟨h.rd n hl, hf, Nat.le_refl _, by omega, fun e => by cases e⟩
set_option maxHeartbeats 1000000 in
theorem Grow_nil (k : Nat) (w : World) (hk : k ≤ 900000) : Calls Tryz.prog 117 #[.slice none 0 0, .int .i64 (k : Int)] w fun e w' => ∃ A c, e = .returned (.slice A 0 c) ∧ Row w' w.heap.size 5 A 0 c [] ∧ Below w.heap.size w w' := by
  by_cases h0 : k = 0
  · subst h0
    go_enter Tryz.func117, Tryz.ntmps117
    go_wp2
    go_ret
    exact ⟨none, 0, rfl, Row.nil _ _ _, Below.refl _ _⟩
  · have z2 : (0 : Int) < (k : Int) := by omega
    obtain ⟨A4, c4, w4, hrun, hrow, hb⟩ := app_make w w.heap.size 0 0 k k none [] (Row.nil _ _ _) (by omega) (by omega) (Nat.le_refl _)
    have HR := Lib.hid hrow.first0
    have HB := Lib.hid hb
    have HRUN := Lib.hid hrun
    clear hrow hb hrun
    go_enter Tryz.func117, Tryz.ntmps117
    go_wp2_with ((with_reducible refine at_dst (some 22) ?_); refine wpList_appMake (o := ⟨some 22, _, _, _, _, _⟩) rfl (.tmp 20) (.tmp 21) rfl rfl _ _ rfl rfl HRUN.out ?_)
    go_ret
    exact ⟨A4, c4, rfl, HR.out, HB.out⟩
set_option maxHeartbeats 2000000 in
theorem Concat_any (b n cap : Nat) (ps : List Bt) (w : World) (hP : PartsR w (some ⟨b, 0, none⟩) n ps) (hnil : ∀ p ∈ ps, p.A = none → p.cap = 0) (hn : n ≤ 100) (hcap : n ≤ cap) (hcm : cap ≤ 1000) (T : Nat) (hT : (flat ps).length = T) (hTm : T ≤ 900000) :
    Calls Tryz.prog 74 #[.slice (some ⟨b, 0, none⟩) n cap] w fun e w' => ∃ A' c', e = .returned (.slice A' T c') ∧ Row w' w.heap.size 5 A' T c' (cn .u8 (flat ps)) ∧ Below w.heap.size w w' := by
  have HP := Lib.hid hP
  have HN := Lib.hid hnil
  have HTT := Lib.hid hT
  obtain ⟨i0, hi0, hz0, hz1, hz2⟩ := info_parts byteInfo
  have HI0 := Lib.hid (And.intro hi0 (And.intro hz0 (And.intro hz1 hz2)))
  clear hP hT hnil hi0 hz0 hz1 hz2
  go_enter Tryz.func74, Tryz.ntmps74
  go_wp2
  go_loopw [3, 11] (fun a o wr => ∃ i : Nat, i ≤ n ∧ o = .int .i64 (i : Int) ∧ a = .int .i64 ((flat (ps.take i)).length : Int) ∧ w = wr) (fun _ o _ => n - (intOf o).toNat)
  case atStart => exact ⟨0, by omega, rfl, rfl, rfl⟩
  case round =>
    obtain ⟨i, hi, rfl, rfl, rfl⟩ := hrel
    by_cases hin : i < n
    · obtain ⟨p, hpi⟩ : ∃ p, ps[i]? = some p := ⟨_, List.getElem?_eq_getElem (by rw [HP.out.1]; exact hin)⟩
      obtain ⟨ad, hA, had, hcell⟩ := HP.out.2.1 (by omega)
      injection hA with hA
      subst hA
      have hc := hcell i p hpi
      rw [addr_add, Nat.zero_add] at hc
      have hpm := HP.out.2.2 p (List.mem_of_getElem? hpi)
      have hlen := hpm.1.1
      have e1 := flat_snoc ps i p hpi
      have e2 := flat_take_le ps (i + 1)
      rw [HTT.out] at e2
      have e3 := congrArg List.length e1
      rw [List.length_append, hlen] at e3
      obtain ⟨m, hm⟩ : ∃ m, (flat (ps.take i)).length = m := ⟨_, rfl⟩
      obtain ⟨k, hk⟩ : ∃ k, (flat (ps.take (i + 1))).length = k := ⟨_, rfl⟩
      rw [hm, hk] at e3
      rw [hk] at e2
      rw [hm]
      have hb : ¬ ((m : Int) + (p.n : Int) < 0) := by omega
      have hkk : ((flat (ps.take (i + 1))).length : Int) = (m : Int) + (p.n : Int) := by rw [hk]; omega
      have HKK := Lib.hid hkk
      have hmb : m + p.n ≤ 900000 := by omega
      clear hcell hpm hlen e1 e2 e3 hm hk hkk hpi
      go_wp2
      go_roundw
      case rel => exact ⟨i + 1, by omega, by go_num, by rw [HKK.out], trivial⟩
      case measure => simp [intOf]; omega
    · obtain rfl : i = n := by omega
      have hall : (flat (ps.take i)).length = T := by rw [List.take_of_length_le (by rw [HP.out.1]; omega)]; exact HTT.out
      rw [hall]
      have HG := Lib.hid (Grow_nil T w hTm)
      clear hall
      go_wp2_with fail
      refine HG.out.mono ?_
      rintro e w1 ⟨A1, c1, rfl, hr1, hb1⟩
      have H1 : Hid (Below w.heap.size w w1 ∧ Row w1 w.heap.size 5 A1 0 c1 []) := ⟨hb1, hr1⟩
      clear hr1 hb1
      go_wp2
      go_loopw [6, 27] (fun a o wr => ∃ j : Nat, j ≤ i ∧ o = .int .i64 (j : Int) ∧ ∃ A2 k c2, a = .slice A2 k c2 ∧ Hid (Below w.heap.size w wr ∧ Row wr w.heap.size 5 A2 k c2 (cn .u8 (flat (ps.take j))))) (fun _ o _ => i - (intOf o).toNat)
      case atStart => exact ⟨0, by omega, rfl, A1, 0, c1, rfl, H1.out⟩
      case round =>
        obtain ⟨j, hj, rfl, A2, k, c2, rfl, HS⟩ := hrel
        by_cases hjn : j < i
        · obtain ⟨p, hpi⟩ : ∃ p, ps[j]? = some p := ⟨_, List.getElem?_eq_getElem (by rw [HP.out.1]; exact hjn)⟩
          have hPx := HP.out.below HS.out.1
          obtain ⟨ad, hA, had, hcell⟩ := hPx.2.1 (by omega)
          injection hA with hA
          subst hA
          have hc := hcell j p hpi
          rw [addr_add, Nat.zero_add] at hc
          have hpm := hPx.2.2 p (List.mem_of_getElem? hpi)
          have HPN := Lib.hid (HN.out p (List.mem_of_getElem? hpi))
          have hlen := hpm.1.1
          have e1 := flat_snoc ps j p hpi
          have e2 := flat_take_le ps (j + 1)
          rw [HTT.out] at e2
          have e3 := congrArg List.length e1
          rw [List.length_append, hlen] at e3
          have e4 := HS.out.2.length
          rw [cn_length] at e4
          have hmb : k + p.n ≤ 900000 := by omega
          have HPM := Lib.hid hpm
          have HE1 := Lib.hid e1
          have HAPP : Hid (∀ {ops : Array Oper} {rest : List Oper} {o : Oper} {a : Act} {Q : Exit → Act → World → Prop} (hgd : o.guard = none) (s y : Operand) (ho : o.op = .call { callee := .builtin .append, args := #[s, y], argTypes := #[25, 25] }) (hs : a.eval s = .slice A2 k c2) (hy : a.eval y = .slice p.A p.n p.cap)
              (hk : ∀ A' c' w', Hid (Row w' w.heap.size 5 A' (k + p.n) c' (cn .u8 (flat (ps.take j)) ++ cn .u8 p.l)) → Below w.heap.size w w' → w.heap.size ≤ w'.heap.size → wpList Tryz.prog ops Q rest (a.put o.dst (.slice A' (k + p.n) c')) w'), wpList Tryz.prog ops Q (o :: rest) a wr) :=
            fun hgd s y ho hs hy hk => wpList_app hgd s y 25 5 ho Tryz.underlying25 HI0.out.1 HI0.out.2.1 HI0.out.2.2.1 HI0.out.2.2.2 rfl (by omega) HS.out.1 HS.out.1.size hs HS.out.2 hy (by rw [cn_length]; exact HPM.out.1.1) (HPM.out.1.srcs p.cap HPN.out) (cn_one _ _) (fun e => by have h1 := HPN.out e; have h2 := HPM.out.2.2; omega) (by omega) (k + p.n) rfl hk
          clear hPx hcell hpm hlen e1 e2 e3 e4 hpi
          go_wp2_with ((with_reducible refine at_dst (some 33) ?_); refine HAPP.out (o := ⟨some 33, _, _, _, _, _⟩) rfl (.tmp 31) (.tmp 32) rfl rfl rfl ?_; intro A5 c5 w5 hrow5 hbe5 hB5)
          go_roundw
          case rel =>
            refine ⟨j + 1, by omega, by go_num, _, _, _, rfl, hbe5, ?_⟩
            rw [HE1.out, cn_append]
            exact hrow5.out
          case measure => simp [intOf]; omega
        · obtain rfl : j = i := by omega
          have hall : flat (ps.take j) = flat ps := by rw [List.take_of_length_le (by rw [HP.out.1]; exact Nat.le_refl _)]
          have HR2 := HS.out.2
          rw [hall] at HR2
          have hk : k = T := by have := HR2.length; rw [cn_length, HTT.out] at this; exact this.symm
          subst hk
          have HR3 := Lib.hid HR2
          clear HR2 hall
          go_wp2
          go_ret
          exact ⟨A2, c2, rfl, HR3.out, HS.out.1⟩
theorem two_parts (p0 p1 : Bt) (w : World) (h0 : Rd .u8 w p0.A p0.n p0.l ∧ Fit 256 p0.l ∧ p0.n ≤ p0.cap) (h1 : Rd .u8 w p1.A p1.n p1.l ∧ Fit 256 p1.l ∧ p1.n ≤ p1.cap) :
    PartsR (w.alloc (.cells #[.slice p0.A p0.n p0.cap, .slice p1.A p1.n p1.cap] 25)) (some ⟨w.heap.size, 0, none⟩) 2 [p0, p1] := by
  have hb1 : Below w.heap.size w (w.alloc (.cells #[.slice p0.A p0.n p0.cap, .slice p1.A p1.n p1.cap] 25)) := (Below.refl _ _).alloc (Nat.le_refl _) _
  have hbl : Blk (w.alloc (.cells #[.slice p0.A p0.n p0.cap, .slice p1.A p1.n p1.cap] 25)) w.heap.size 25 [.slice p0.A p0.n p0.cap, .slice p1.A p1.n p1.cap] := Blk.new w _ _
  refine ⟨rfl, fun _ => ⟨_, rfl, hbl.lt, fun j p hj => ?_⟩, fun p hp => ?_⟩
  · rw [addr_add, Nat.zero_add, hbl.cell]
    rcases j with _ | _ | j
    · injection hj with hj; rw [← hj]; rfl
    · injection hj with hj; rw [← hj]; rfl
    · simp at hj
  · simp only [List.mem_cons, List.not_mem_nil, or_false] at hp
    rcases hp with rfl | rfl
    · exact ⟨h0.1.below hb1, h0.2⟩
    · exact ⟨h1.1.below hb1, h1.2⟩
theorem three_parts (p0 p1 p2 : Bt) (w : World) (h0 : Rd .u8 w p0.A p0.n p0.l ∧ Fit 256 p0.l ∧ p0.n ≤ p0.cap) (h1 : Rd .u8 w p1.A p1.n p1.l ∧ Fit 256 p1.l ∧ p1.n ≤ p1.cap) (h2 : Rd .u8 w p2.A p2.n p2.l ∧ Fit 256 p2.l ∧ p2.n ≤ p2.cap) :
    PartsR (w.alloc (.cells #[.slice p0.A p0.n p0.cap, .slice p1.A p1.n p1.cap, .slice p2.A p2.n p2.cap] 25)) (some ⟨w.heap.size, 0, none⟩) 3 [p0, p1, p2] := by
  have hb1 : Below w.heap.size w (w.alloc (.cells #[.slice p0.A p0.n p0.cap, .slice p1.A p1.n p1.cap, .slice p2.A p2.n p2.cap] 25)) := (Below.refl _ _).alloc (Nat.le_refl _) _
  have hbl : Blk (w.alloc (.cells #[.slice p0.A p0.n p0.cap, .slice p1.A p1.n p1.cap, .slice p2.A p2.n p2.cap] 25)) w.heap.size 25 [.slice p0.A p0.n p0.cap, .slice p1.A p1.n p1.cap, .slice p2.A p2.n p2.cap] := Blk.new w _ _
  refine ⟨rfl, fun _ => ⟨_, rfl, hbl.lt, fun j p hj => ?_⟩, fun p hp => ?_⟩
  · rw [addr_add, Nat.zero_add, hbl.cell]
    rcases j with _ | _ | _ | j
    · injection hj with hj; rw [← hj]; rfl
    · injection hj with hj; rw [← hj]; rfl
    · injection hj with hj; rw [← hj]; rfl
    · simp at hj
  · simp only [List.mem_cons, List.not_mem_nil, or_false] at hp
    rcases hp with rfl | rfl | rfl
    · exact ⟨h0.1.below hb1, h0.2⟩
    · exact ⟨h1.1.below hb1, h1.2⟩
    · exact ⟨h2.1.below hb1, h2.2⟩
theorem Bs.part3 {w : World} {A : Option Addr} {n cap : Nat} {l : List Nat} (h : Bs w A n cap l) : Rd .u8 w A n l ∧ Fit 256 l ∧ n ≤ cap := ⟨h.rd, h.fit, h.le⟩
set_option maxHeartbeats 1000000 in
theorem padded_any (A0 : Option Addr) (n0 c0 : Nat) (l0 : List Nat) (A1 : Option Addr) (n1 c1 : Nat) (l1 : List Nat) (w : World) (h0 : Bs w A0 n0 c0 l0) (h1 : Bs w A1 n1 c1 l1) (hn : n0 + n1 ≤ 800000) (m : Nat) (hm : up64 (n0 + n1) = m) :
    Calls Tryz.prog 66 #[.slice A0 n0 c0, .slice A1 n1 c1] w fun e w' => ∃ g, e = .returned (.slice (some ⟨g, 0, none⟩) m m) ∧ w.heap.size ≤ g ∧ Blk w' g 5 (cn .u8 (pad (l0 ++ l1))) ∧ Below w.heap.size w w' := by
  have hl0 := h0.rd.1
  have hl1 := h1.rd.1
  have hb1 : Below w.heap.size w (w.alloc (.cells #[.slice A0 n0 c0, .slice A1 n1 c1] 25)) := (Below.refl _ _).alloc (Nat.le_refl _) _
  have hpp := two_parts ⟨A0, n0, c0, l0⟩ ⟨A1, n1, c1, l1⟩ w h0.part3 h1.part3
  obtain ⟨W, hW⟩ : ∃ W, w.alloc (.cells #[.slice A0 n0 c0, .slice A1 n1 c1] 25) = W := ⟨_, rfl⟩
  rw [hW] at hb1 hpp
  have hfl : flat [⟨A0, n0, c0, l0⟩, ⟨A1, n1, c1, l1⟩] = l0 ++ l1 := by simp [flat]
  have HC := Lib.hid (Concat_any w.heap.size 2 2 _ W hpp (by
    intro p hp
    simp only [List.mem_cons, List.not_mem_nil, or_false] at hp
    rcases hp with rfl | rfl
    · exact h0.nil
    · exact h1.nil) (by omega) (by omega) (by omega) (n0 + n1) (by rw [hfl, List.length_append]; omega) (by omega))
  rw [hfl] at HC
  have HB := Lib.hid hb1
  have HL : Hid ((l0 ++ l1).length = n0 + n1) := by show _ = _; rw [List.length_append]; omega
  have HM := Lib.hid hm
  clear hpp hfl hb1 hl0 hl1 h0 h1 hm
  go_enter Tryz.func66, Tryz.ntmps66
  go_wp2_with fail
  refine HC.out.mono ?_
  rintro e w1 ⟨A2, c2, rfl, hr1, hb1⟩
  have H1 : Hid (Below w.heap.size w w1) := HB.out.trans (hb1.mono HB.out.size)
  have HP := Lib.hid (Pad_any A2 (n0 + n1) c2 (l0 ++ l1) 64 w1 hr1.rd (by omega) (by omega) (by omega) (gapn (n0 + n1) 64) m rfl (by rw [gapn_up]; exact HM.out))
  clear hr1 hb1
  go_wp2_with fail
  refine HP.out.mono ?_
  rintro e w2 ⟨g, rfl, hg, hB, hb2⟩
  have H2 : Hid (w.heap.size ≤ g ∧ Blk w2 g 5 (cn .u8 (pad (l0 ++ l1))) ∧ Below w.heap.size w w2) := ⟨Nat.le_trans H1.out.size hg, by unfold pad; rw [HL.out]; exact hB, H1.out.trans (hb2.mono H1.out.size)⟩
  clear hg hB hb2
  go_wp2
  go_ret
  exact ⟨g, rfl, H2.out⟩
end Go.Proofs.YtlcoebenkhafcaaGreatDoor
namespace Go.Proofs.YtlcoebenkhafcaaGreatDoor
open Go.RowKit
set_option linter.unusedVariables false
set_option linter.unusedSimpArgs false
set_option maxRecDepth 100000
def opos : Nat → Nat
  | 0 => 4
  | 1 => 5
  | 2 => 6
  | 3 => 0
  | 4 => 7
  | 5 => 8
  | 6 => 9
  | 7 => 10
  | 8 => 1
  | 9 => 2
  | _ => 3
def osz : Nat → Nat
  | 0 => 4
  | 3 => 4
  | 9 => 4
  | 10 => 4
  | _ => 8
def ooff : Nat → Nat
  | 0 => 4
  | i + 1 => ooff i + osz i
def osel (o : Ol) : Nat → Nat
  | 0 => o.ver
  | 1 => o.auth
  | 2 => o.aux
  | 3 => o.alg
  | 4 => o.hash
  | 5 => o.sig
  | 6 => o.key
  | 7 => o.list
  | 8 => o.idx
  | 9 => o.flags
  | _ => o.loc
def ocells (o : Ol) : List Value := [.int .i64 (o.alg : Nat), .int .i64 (o.idx : Nat), .int .i64 (o.flags : Nat), .int .i64 (o.loc : Nat), .int .i64 (o.ver : Nat), .int .i64 (o.auth : Nat), .int .i64 (o.aux : Nat), .int .i64 (o.hash : Nat), .int .i64 (o.sig : Nat), .int .i64 (o.key : Nat), .int .i64 (o.list : Nat)]
theorem ocells_len (o : Ol) : (ocells o).length = 11 := rfl
theorem ocells_one (o : Ol) : ∀ v ∈ ocells o, v.oneCell' = true := by
  intro v hv
  simp only [ocells, List.mem_cons, List.not_mem_nil, or_false] at hv
  rcases hv with rfl | rfl | rfl | rfl | rfl | rfl | rfl | rfl | rfl | rfl | rfl <;> rfl
theorem i11 {i : Nat} (h : i < 11) : i = 0 ∨ i = 1 ∨ i = 2 ∨ i = 3 ∨ i = 4 ∨ i = 5 ∨ i = 6 ∨ i = 7 ∨ i = 8 ∨ i = 9 ∨ i = 10 := by omega
theorem ocells_sel (o : Ol) {i : Nat} (h : i < 11) : (ocells o)[opos i]? = some (.int .i64 (osel o i : Nat)) := by
  rcases i11 h with rfl | rfl | rfl | rfl | rfl | rfl | rfl | rfl | rfl | rfl | rfl <;> rfl
def onumCells (g : Nat) : List Value := [.pointer (some ⟨g, 4, none⟩), .int .i64 4, .pointer (some ⟨g, 5, none⟩), .int .i64 8, .pointer (some ⟨g, 6, none⟩), .int .i64 8, .pointer (some ⟨g, 0, none⟩), .int .i64 4, .pointer (some ⟨g, 7, none⟩), .int .i64 8, .pointer (some ⟨g, 8, none⟩), .int .i64 8, .pointer (some ⟨g, 9, none⟩), .int .i64 8, .pointer (some ⟨g, 10, none⟩), .int .i64 8, .pointer (some ⟨g, 1, none⟩), .int .i64 8, .pointer (some ⟨g, 2, none⟩), .int .i64 4, .pointer (some ⟨g, 3, none⟩), .int .i64 4]
theorem onum_get (g : Nat) {i : Nat} (h : i < 11) : (onumCells g)[i * 2]? = some (.pointer (some ⟨g, opos i, none⟩)) ∧ (onumCells g)[i * 2 + 1]? = some (.int .i64 (osz i : Nat)) := by
  rcases i11 h with rfl | rfl | rfl | rfl | rfl | rfl | rfl | rfl | rfl | rfl | rfl <;> exact ⟨rfl, rfl⟩
theorem osz_bd (i : Nat) : 1 ≤ osz i ∧ osz i ≤ 8 := by unfold osz; split <;> omega
theorem opos_lt (i : Nat) : opos i < 11 := by unfold opos; split <;> omega
theorem ooff_le {i : Nat} (h : i ≤ 11) : ooff i ≤ 76 := by
  rcases (by omega : i < 11 ∨ i = 11) with h | rfl
  · rcases i11 h with rfl | rfl | rfl | rfl | rfl | rfl | rfl | rfl | rfl | rfl | rfl <;> decide
  · decide
set_option maxHeartbeats 4000000 in
theorem onumbers_any (g : Nat) (w : World) : Calls Tryz.prog 78 #[.pointer (some ⟨g, 0, none⟩)] w fun e w' => ∃ b, e = .returned (.slice (some ⟨b, 0, none⟩) 11 11) ∧ w.heap.size ≤ b ∧ Blk w' b 98 (onumCells g) ∧ Below w.heap.size w w' := by
  go_enter Tryz.func78, Tryz.ntmps78
  go_wp2
  go_still_tail 48, (by kernel_rfl)
  change wpList _ _ _ _ _ w.drew
  go_wp2
  go_ret
  refine ⟨w.heap.size, rfl, Nat.le_refl _, ?_, ?_⟩
  · exact Blk.new w.drew _ (onumCells g)
  · exact (below_drew1 (Below.refl _ _)).alloc (Nat.le_refl _) _
def oTo (o : Ol) : Nat → List Nat
  | 0 => magicL
  | i + 1 => oTo o i ++ be (osz i) (osel o i)
theorem oTo_length (o : Ol) : ∀ i, (oTo o i).length = ooff i
  | 0 => rfl
  | i + 1 => by rw [oTo, List.length_append, oTo_length o i, be_length, ooff]
theorem oTo_fit (o : Ol) : ∀ i, Fit 256 (oTo o i)
  | 0 => by unfold Fit oTo magicL; decide
  | i + 1 => (oTo_fit o i).append (be_fit _ _)
theorem oTo_all (o : Ol) : oTo o 11 ++ List.replicate 52 0 = obytes o := by
  simp [oTo, obytes, osegs, osz, osel]
theorem osel_room {o : Ol} (h : o.Room) (hi : o.auth ≤ 9223372036854775807 ∧ o.aux ≤ 9223372036854775807 ∧ o.hash ≤ 9223372036854775807 ∧ o.sig ≤ 9223372036854775807 ∧ o.key ≤ 9223372036854775807 ∧ o.list ≤ 9223372036854775807 ∧ o.idx ≤ 9223372036854775807) {i : Nat} (hin : i < 11) : osel o i < 256 ^ osz i ∧ osel o i ≤ 9223372036854775807 := by
  obtain ⟨h1, h2, h3, h4, h5, h6, h7, h8, h9, h10, h11⟩ := h
  rcases i11 hin with rfl | rfl | rfl | rfl | rfl | rfl | rfl | rfl | rfl | rfl | rfl <;> simp only [osel, osz] <;> omega
theorem rd_alloc13 (w : World) (l : List Nat) (fr : Nat × Nat) (cs : Array Value) (hcs : cs = (cn .u8 l).toArray) (n : Nat) (hn : l.length = n) : Rd .u8 (w.alloc (.cells cs 5 fr)) (some ⟨w.heap.size, 0, none⟩) n l := by
  subst hcs
  refine ⟨hn, fun _ => ⟨_, rfl, by simp, fun j x hj => ?_⟩⟩
  rw [addr_add, Nat.zero_add, cell_of_row _ _ _ _ _ _ (heap_alloc_new w _), List.getElem?_toArray]
  exact cn_get hj
set_option maxHeartbeats 4000000 in
theorem obytes_any (g : Nat) (o : Ol) (w : World) (hB : Blk w g 65 (ocells o)) (hr : o.Room) (hi : o.auth ≤ 9223372036854775807 ∧ o.aux ≤ 9223372036854775807 ∧ o.hash ≤ 9223372036854775807 ∧ o.sig ≤ 9223372036854775807 ∧ o.key ≤ 9223372036854775807 ∧ o.list ≤ 9223372036854775807 ∧ o.idx ≤ 9223372036854775807) :
    Calls Tryz.prog 73 #[.pointer (some ⟨g, 0, none⟩)] w fun e w' => ∃ g2, e = .returned (.slice (some ⟨g2, 0, none⟩) 128 128) ∧ w.heap.size ≤ g2 ∧ Blk w' g2 5 (cn .u8 (obytes o)) ∧ Below w.heap.size w w' := by
  have HOS : Hid (∀ i, i < 11 → osel o i < 256 ^ osz i ∧ osel o i ≤ 9223372036854775807) := fun i h => osel_room hr hi h
  have kc := fun (w : World) (C : Array Value) (n c : Nat) => Lib.run_convert_bytes_const (P := Tryz.prog) w 25 5 C n c Tryz.underlying25 Tryz.underlying5
  have hb0 : Below w.heap.size w (w.alloc (.cells #[.int .u8 65, .int .u8 86, .int .u8 66, .int .u8 48] 5 (4, 5))) := (Below.refl _ _).alloc (Nat.le_refl _) _
  have hr0 : Rd .u8 (w.alloc (.cells #[.int .u8 65, .int .u8 86, .int .u8 66, .int .u8 48] 5 (4, 5))) (some ⟨w.heap.size, 0, none⟩) 4 magicL := rd_alloc13 w magicL (4, 5) _ rfl 4 rfl
  obtain ⟨W, hW⟩ : ∃ W, w.alloc (.cells #[.int .u8 65, .int .u8 86, .int .u8 66, .int .u8 48] 5 (4, 5)) = W := ⟨_, rfl⟩
  rw [hW] at hb0 hr0
  have H0 : Hid (Below w.heap.size w W ∧ Rd .u8 W (some ⟨w.heap.size, 0, none⟩) 4 magicL ∧ Blk W g 65 (ocells o)) := ⟨hb0, hr0, hB.below hb0 hB.lt⟩
  have HGL : Hid (g < w.heap.size) := hB.lt
  clear hb0 hr0 hB hr hi
  go_enter Tryz.func73, Tryz.ntmps73
  go_wp2_with fail
  clear kc
  (try rw [hW])
  refine (onumbers_any g W).mono ?_
  rintro e w1 ⟨b, rfl, hb, hN, hb1⟩
  have I0 : Hid (Below w.heap.size w w1 ∧ Rd .u8 w1 (some ⟨w.heap.size, 0, none⟩) 4 magicL ∧ Blk w1 g 65 (ocells o) ∧ Blk w1 b 98 (onumCells g)) := ⟨H0.out.1.trans (hb1.mono H0.out.1.size), H0.out.2.1.below hb1, H0.out.2.2.below hb1 H0.out.2.2.lt, hN⟩
  clear hb hN hb1
  go_wp2
  go_loopw [3, 11] (fun a q wr => ∃ i : Nat, i ≤ 11 ∧ q = .int .i64 (i : Int) ∧ ∃ A k cap, a = .slice A k cap ∧ k ≤ 76 ∧ Hid (Below w1.heap.size w1 wr ∧ Rd .u8 wr A k (oTo o i))) (fun _ q _ => 11 - (intOf q).toNat)
  case atStart => exact ⟨0, by omega, rfl, _, 4, 4, rfl, by omega, Below.refl _ _, I0.out.2.1⟩
  case round =>
    obtain ⟨i, hi, rfl, A, k, cap, rfl, hk76, HR⟩ := hrel
    have hnum := I0.out.2.2.2.below HR.out.1 I0.out.2.2.2.lt
    have hbox := I0.out.2.2.1.below HR.out.1 I0.out.2.2.1.lt
    by_cases hin : i < 11
    · have hin2 : (i : Int) < 11 := by omega
      have g0 : wr.cell? ⟨b, i * 2, none⟩ = some (.pointer (some ⟨g, opos i, none⟩)) := (hnum.cell _).trans (onum_get _ hin).1
      have g1 : wr.cell? ⟨b, i * 2 + 1, none⟩ = some (.int .i64 (osz i : Nat)) := (hnum.cell _).trans (onum_get _ hin).2
      have g2 : wr.cell? ⟨g, opos i, none⟩ = some (.int .i64 (osel o i : Nat)) := (hbox.cell _).trans (ocells_sel o hin)
      obtain ⟨hv3, hv4⟩ := HOS.out i hin
      obtain ⟨hv5, hv6⟩ := osz_bd i
      have hlt : g < wr.heap.size := hbox.lt
      have HTO : Hid (oTo o (i + 1) = oTo o i ++ be (osz i) (osel o i)) := rfl
      obtain ⟨P, hP⟩ : ∃ P, opos i = P := ⟨_, rfl⟩
      obtain ⟨s, hs⟩ : ∃ s, osz i = s := ⟨_, rfl⟩
      obtain ⟨v, hv⟩ : ∃ v, osel o i = v := ⟨_, rfl⟩
      rw [hs] at g1 hv3 hv5 hv6 HTO
      rw [hv] at g2 hv3 hv4 HTO
      rw [hP] at g0 g2
      clear hP hs hv
      have hzb : Below wr.heap.size wr (wr.alloc (.cells #[.pointer (some ⟨g, P, none⟩), .int .i64 (s : Nat)] 98)) := (Below.refl _ _).alloc (Nat.le_refl _) _
      have hzk : Blk (wr.alloc (.cells #[.pointer (some ⟨g, P, none⟩), .int .i64 (s : Nat)] 98)) wr.heap.size 98 [.pointer (some ⟨g, P, none⟩), .int .i64 (s : Nat)] := Blk.new _ _ _
      obtain ⟨wz, hwz⟩ : ∃ wz, wr.alloc (.cells #[.pointer (some ⟨g, P, none⟩), .int .i64 (s : Nat)] 98) = wz := ⟨_, rfl⟩
      rw [hwz] at hzb hzk
      have q0 : wz.cell? ⟨wr.heap.size, 0, none⟩ = some (.pointer (some ⟨g, P, none⟩)) := hzk.cell 0
      have q1 : wz.cell? ⟨wr.heap.size, 1, none⟩ = some (.int .i64 (s : Nat)) := hzk.cell 1
      have q2 : wz.cell? ⟨g, P, none⟩ = some (.int .i64 (v : Nat)) := (hzb.cell (p := ⟨g, P, none⟩) hlt).trans g2
      have hrdz : Rd .u8 wz.drew A k (oTo o i) := (HR.out.2.below hzb).drewN 1
      have HPUT := Lib.hid (Put_n A k cap (oTo o i) s v _ _ rfl rfl hv5 hv6 hv3 hv4 wz.drew hrdz (oTo_fit _ _) (by omega) (k + s) rfl)
      have HZ : Hid (Below wr.heap.size wr wz.drew) := below_drew1 hzb
      have HKL : Hid ((oTo o i).length = k) := HR.out.2.1
      have HLE : Hid (ooff (i + 1) ≤ 76) := ooff_le (by omega)
      clear hzb hzk hrdz hnum hbox hv3 hv4 hv5 hv6
      go_wp2
      go_region_law (first | (go_simp; go_at_call 101; refine HPUT.out.mono ?_; rintro e w2 ⟨rfl, hB2, hb2⟩))
      all_goals
        have HB2 := Lib.hid hB2
        have Hb2 := Lib.hid hb2
        clear hB2 hb2
        go_wp2
        go_roundw
        case rel =>
          have hle : k + s ≤ 76 := by
            have h1 := HLE.out
            have h2 := congrArg List.length HTO.out
            rw [oTo_length, List.length_append, HKL.out, be_length] at h2
            omega
          refine ⟨i + 1, by omega, by go_num, _, _, _, rfl, hle, ?_, ?_⟩
          · exact (HR.out.1.trans (HZ.out.mono HR.out.1.size)).trans (Hb2.out.mono (Nat.le_trans HR.out.1.size HZ.out.size))
          · rw [HTO.out]
            exact HB2.out.rd _ (by rw [List.length_append, be_length, HKL.out])
        case measure => simp [intOf]; omega
    · obtain rfl : i = 11 := by omega
      have hk : k = 76 := by have := HR.out.2.1; rw [oTo_length] at this; exact this.symm
      subst hk
      have HP := Lib.hid (Pad_any A 76 cap (oTo o 11) 128 wr HR.out.2 (by omega) (by omega) (by omega) 52 128 rfl rfl)
      have HBW : Hid (Below w.heap.size w wr) := I0.out.1.trans (HR.out.1.mono I0.out.1.size)
      clear hnum hbox
      go_wp2_with fail
      refine HP.out.mono ?_
      rintro e w3 ⟨g2, rfl, hg2, hB2, hb2⟩
      rw [oTo_all] at hB2
      have HF : Hid (w.heap.size ≤ g2 ∧ Blk w3 g2 5 (cn .u8 (obytes o)) ∧ Below w.heap.size w w3) := ⟨Nat.le_trans HBW.out.size hg2, hB2, HBW.out.trans (hb2.mono HBW.out.size)⟩
      clear hg2 hB2 hb2
      go_wp2
      go_ret
      exact ⟨g2, rfl, HF.out⟩
end Go.Proofs.YtlcoebenkhafcaaGreatDoor
