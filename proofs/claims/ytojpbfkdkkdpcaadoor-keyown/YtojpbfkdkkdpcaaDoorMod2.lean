/-
  The document's Mod: the digits of the rest.
-/
import Derived.Test.YtojpbfkdkkdpcaaDoorMod
namespace Go.Proofs.YtojpbfkdkkdpcaaDoor
set_option maxRecDepth 100000
open Go.RowKit
set_option linter.unusedVariables false
set_option linter.unusedSimpArgs false

/-- The eight slices in the block gs: those laid so far, and nils. -/
def Laid (gl : List Nat) (N : Nat) : List Value := (gl.map fun (g : Nat) => Value.slice (some ⟨g, 0, none⟩) N N) ++ List.replicate (8 - gl.length) (Value.slice none 0 0)
theorem Laid.get {gl : List Nat} {N j g : Nat} (h : gl[j]? = some g) : (Laid gl N)[j]? = some (.slice (some ⟨g, 0, none⟩) N N) := by
  have hi := (List.getElem?_eq_some_iff.1 h).1
  rw [Laid, List.getElem?_append_left (by simpa using hi), List.getElem?_map, h]; rfl
theorem Laid.next (gl : List Nat) (N : Nat) (h : gl.length < 8) : (Laid gl N)[gl.length]? = some (.slice none 0 0) := by
  obtain ⟨p, hp⟩ : ∃ p, 8 - gl.length = p + 1 := ⟨8 - gl.length - 1, by omega⟩
  rw [Laid, List.getElem?_append_right (by simp), List.length_map, Nat.sub_self, hp, List.replicate_succ]
  rfl
theorem Laid.set (gl : List Nat) (N g : Nat) (h : gl.length < 8) : (Laid gl N).set gl.length (.slice (some ⟨g, 0, none⟩) N N) = Laid (gl ++ [g]) N := by
  obtain ⟨p, hp⟩ : ∃ p, 8 - gl.length = p + 1 := ⟨8 - gl.length - 1, by omega⟩
  rw [Laid, Laid, List.set_append, if_neg (by simp), List.length_map, Nat.sub_self, hp, List.replicate_succ, List.set_cons_zero]
  simp
  omega
/-- All that lies behind the first loop. -/
structure Lies (w wr : World) (gr gs N M k : Nat) (gl : List Nat) : Prop where
  len : gl.length = k
  arr : Blk wr gs 84 (Laid gl N)
  each : ∀ (j g : Nat), gl[j]? = some g → Blk wr g 3 (cn .i64 (nums 256 N (M * 2 ^ j))) ∧ gs < g
  bel : Below w.heap.size w wr

theorem only_then {a w w2 : World} {g : Nat} {row : Option Nat} (h : a.grownBy w (some g)) (k : w.grownBy w2 row) (hr : ∀ j, row = some j → j = g) : a.grownBy w2 (some g) :=
  ⟨k.os.trans h.os, k.tape.trans h.tape, k.output.trans h.output, Nat.le_trans h.size k.size, fun i hi hne =>
    (k.block i (Nat.lt_of_lt_of_le hi h.size) (fun e => hne (by rw [hr i e.symm]))).trans (h.block i hi hne)⟩
theorem Laid.zero (N : Nat) : Laid [] N = List.replicate 8 (Value.slice none 0 0) := rfl
/-- The digits moved up by one place. -/
def moved (R : List Nat) (N j : Nat) : List Nat := R.take (j + 1) ++ (R.drop j).take (N - 1 - j)
theorem moved_length {R : List Nat} {N j : Nat} (h : R.length = N) (hj : j < N) : (moved R N j).length = N := by simp [moved]; omega
theorem moved_start {R : List Nat} {N : Nat} (h : R.length = N) (hN : 0 < N) : moved R N (N - 1) = R := by
  rw [moved, show N - 1 - (N - 1) = 0 by omega, List.take_zero, List.append_nil, List.take_of_length_le (by omega)]
theorem moved_get {R : List Nat} {N j y : Nat} (hy : R[j]? = some y) : (moved R N (j + 1))[j]? = some y := by
  have hi := (List.getElem?_eq_some_iff.1 hy).1
  rw [moved, List.getElem?_append_left (by simp; omega), List.getElem?_take, if_pos (by omega), hy]
theorem moved_step {R : List Nat} {N j y : Nat} (h : R.length = N) (hy : R[j]? = some y) (hj : j + 1 < N) : (moved R N (j + 1)).set (j + 1) y = moved R N j := by
  have hi := (List.getElem?_eq_some_iff.1 hy).1
  have e := (List.getElem?_eq_some_iff.1 hy).2
  have hl : (R.take (j + 1 + 1)).length = j + 1 + 1 := by simp; omega
  rw [moved, moved, List.set_append, if_pos (by omega), List.drop_eq_getElem_cons (l := R) (i := j) hi, e, show N - 1 - j = (N - 1 - (j + 1)) + 1 by omega, List.take_succ_cons]
  obtain ⟨z, hz⟩ := get_some (l := R) (i := j + 1) (by omega)
  rw [take_trim hz, List.set_append, if_neg (by simp; omega)]
  have hl2 : (R.take (j + 1)).length = j + 1 := by simp; omega
  rw [hl2, Nat.sub_self, List.set_cons_zero, List.append_assoc]
  rfl
theorem moved_end {R : List Nat} {N x : Nat} (h : R.length = N) (hN : 0 < N) : (moved R N 0).set 0 x = x :: R.take (N - 1) := by
  obtain ⟨y, hy⟩ := get_some (l := R) (i := 0) (by omega)
  rw [moved, take_trim hy, List.take_zero, List.nil_append, List.drop_zero, Nat.sub_zero]
  rfl
theorem moved_val {R : List Nat} {N x : Nat} (h : R.length = N) (hN : 0 < N) (hv : val 256 R < 256 ^ (N - 1)) : val 256 (x :: R.take (N - 1)) = x + 256 * val 256 R := by
  have e : val 256 (R.take (N - 1)) = val 256 R := by
    have h1 := val_take_succ 256 R (N - 1)
    rw [show N - 1 + 1 = N by omega, List.take_of_length_le (by omega)] at h1
    rcases Nat.eq_zero_or_pos (dig R (N - 1)) with h2 | h2
    · rw [h2, Nat.mul_zero] at h1; omega
    · have : 256 ^ (N - 1) * 1 ≤ 256 ^ (N - 1) * dig R (N - 1) := Nat.mul_le_mul_left _ h2
      omega
  rw [val, e]
/-- One digit more, and its rest. -/
theorem rest_step {x r M D : Nat} (hr : r = D % M) : (x + 256 * r) % M = (x + 256 * D) % M := by
  rw [hr, Nat.add_mod, Nat.mul_mod, Nat.mod_mod, ← Nat.mul_mod, ← Nat.add_mod]

set_option maxHeartbeats 4000000 in
theorem Mod_any (A A' : Option Addr) (na capa nm capm : Nat) (la lm : List Nat) (w : World) (h : Rd .i64 w A na la) (h' : Rd .i64 w A' nm lm) (hf : Fit 256 la) (hf' : Fit 256 lm) (hna : na ≤ 5000) (hnm : nm ≤ 5000) (hM : 0 < val 256 lm) :
    Calls Tryd.prog 39 #[.slice A na capa, .slice A' nm capm] w (GivesDigs w (val 256 la % val 256 lm)) := by
  have HR := Lib.hid h
  have HR' := Lib.hid h'
  have HM := Lib.hid hM
  obtain ⟨N, hN⟩ : ∃ N, N = nm + 2 := ⟨_, rfl⟩
  have HN := Lib.hid hN
  have hN2 : (nm : Int) + 2 = N := by omega
  have HN2 := Lib.hid hN2
  obtain ⟨P, hP⟩ : ∃ P, N = P + 1 := ⟨N - 1, by omega⟩
  have HP := Lib.hid hP
  have hP2 : (N : Int) - 1 = P := by omega
  have hNb : N ≤ 10000 := by omega
  have hN0 : 2 ≤ N := by omega
  have hshift : ∀ k, k < 8 → val 256 lm * 2 ^ k < 256 ^ N := fun k hk => by
    have h1 := val_lt hf'
    rw [h'.1] at h1
    have h2 : 2 ^ k ≤ 2 ^ 7 := Nat.pow_le_pow_right (by omega) (by omega)
    have h3 : val 256 lm * 2 ^ k ≤ 256 ^ nm * 2 ^ 7 := Nat.mul_le_mul (by omega) h2
    have h4 : 256 ^ N = 256 ^ nm * 65536 := by rw [hN, Nat.pow_add]
    have h5 : 0 < 256 ^ nm := Nat.pow_pos (by omega)
    omega
  have HSH := Lib.hid hshift
  clear h h' hM hN hshift hP
  go_enter Tryd.func39, Tryd.ntmps39
  go_wp2_with (first
    | ((with_reducible refine at_dst (some 16) ?_); refine wpList_makeNums (o := ⟨some 16, _, _, _, _, _⟩) rfl (.tmp 15) (.tmp 15) 59 3 rfl .i64 8 Tryd.underlying59 intInfo (by omega) _ _ rfl rfl N (by first | rfl | exact HN2.out) (by omega) ?_; intro w1 hb1 hbel1 hs1))
  have L0 : Lies w (w1.alloc (.cells #[.slice none 0 0, .slice none 0 0, .slice none 0 0, .slice none 0 0, .slice none 0 0, .slice none 0 0, .slice none 0 0, .slice none 0 0] 84)) w.heap.size w1.heap.size N (val 256 lm) 0 [] :=
    ⟨rfl, heap_alloc_new _ _, fun j g hj => by simp at hj, hbel1.alloc (Nat.le_of_lt hs1) _⟩
  have R0 : Blk (w1.alloc (.cells #[.slice none 0 0, .slice none 0 0, .slice none 0 0, .slice none 0 0, .slice none 0 0, .slice none 0 0, .slice none 0 0, .slice none 0 0] 84)) w.heap.size 3 (cn .i64 (List.replicate N 0)) := hb1.out.alloc _
  have HL0 := Lib.hid L0
  have HR0 := Lib.hid R0
  clear L0 R0
  go_loopw [8] (fun i wr => ∃ (k : Nat) (gl : List Nat), k ≤ 8 ∧ i = .int .i64 (k : Int) ∧ Hid (Lies w wr w.heap.size w1.heap.size N (val 256 lm) k gl) ∧ Hid (Blk wr w.heap.size 3 (cn .i64 (List.replicate N 0)))) (fun i _ => 8 - (intOf i).toNat)
  case atStart => exact ⟨0, [], by omega, rfl, HL0, HR0⟩
  case round =>
    obtain ⟨k, gl, hk, rfl, HL, HRR⟩ := hrel
    by_cases hk8 : k < 8
    · go_wp2_with fail
      refine (Shifted_any A' nm capm lm k (2 ^ k) rfl hk8 N wr (HR'.out.below HL.out.bel) hf' hNb (by have := HN.out; omega) (HSH.out k hk8)).mono ?_
      rintro e w2 ⟨rfl, hb2, hbel2⟩
      have hlt := HL.out.arr.lt
      have arr2 : Blk w2 w1.heap.size 84 (Laid gl N) := HL.out.arr.below hbel2 hlt
      have hnx := Laid.next gl N (by rw [HL.out.len]; exact hk8)
      rw [HL.out.len] at hnx
      have hoc : w2.cell? ⟨w1.heap.size, k, none⟩ = some (.slice none 0 0) := (arr2.cell k).trans hnx
      have hof := arr2.frozen k
      have ARR2 := Lib.hid arr2
      have HB2 := Lib.hid hb2
      have HLT := Lib.hid hlt
      clear arr2 hb2 hlt hnx
      go_wp2
      go_roundw
      case rel =>
        refine ⟨k + 1, gl ++ [wr.heap.size], by omega, by go_num, ⟨by simp [HL.out.len], ?_, fun j g hj => ?_, ?_⟩, ?_⟩
        · have := ARR2.out.set_ k (.slice (some ⟨wr.heap.size, 0, none⟩) N N)
          rw [← Laid.set gl N wr.heap.size (by rw [HL.out.len]; exact hk8), HL.out.len]
          exact this
        · rcases Nat.lt_or_ge j gl.length with hj2 | hj2
          · rw [List.getElem?_append_left hj2] at hj
            obtain ⟨e1, e2⟩ := HL.out.each j g hj
            exact ⟨(e1.below hbel2 e1.lt).far (by show g ≠ w1.heap.size; omega) _, e2⟩
          · rw [List.getElem?_append_right hj2] at hj
            have hj3 : j = gl.length := by
              rcases Nat.eq_zero_or_pos (j - gl.length) with h0 | h0
              · omega
              · rw [List.getElem?_eq_none (by simp; omega)] at hj; cases hj
            rw [hj3, Nat.sub_self] at hj
            simp at hj
            subst hj
            rw [hj3, HL.out.len]
            exact ⟨HB2.out.far (by show wr.heap.size ≠ w1.heap.size; have := HLT.out; omega) _, HLT.out⟩
        · have b2 : Below w.heap.size w w2 := HL.out.bel.trans (hbel2.mono HL.out.bel.size)
          exact b2.setCell (p := ⟨w1.heap.size, k, none⟩) (Nat.le_of_lt hs1) _
        · exact (HRR.out.below hbel2 HRR.out.lt).far (by show w.heap.size ≠ w1.heap.size; omega) _
      case measure => simp [intOf]; omega
    · obtain rfl : k = 8 := by omega
      rw [show ((8 : Nat) : Int) = 8 from rfl]
      obtain ⟨w4, hw4⟩ : ∃ w4, w4 = wr := ⟨_, rfl⟩
      have HL4 := HL
      have HR4 := HRR
      rw [← hw4] at HL4 HR4 ⊢
      clear hw4 HL HRR HL0 HR0
      have hroom : ∀ v, v < val 256 lm * 256 → v < 256 ^ N := fun v hv => by
        have h1 := val_lt hf'
        rw [HR'.out.1] at h1
        have h4 : 256 ^ N = 256 ^ nm * 65536 := by rw [HN.out, Nat.pow_add]
        omega
      have HRM := Lib.hid hroom
      have hMlt : val 256 lm < 256 ^ (N - 1) := by
        have h1 := val_lt hf'
        rw [HR'.out.1] at h1
        have h4 : 256 ^ (N - 1) = 256 ^ nm * 256 := by rw [HN.out, show nm + 2 - 1 = nm + 1 by omega, Nat.pow_succ]
        omega
      have HML := Lib.hid hMlt
      clear hroom hMlt
      go_wp2
      go_loopw [9] (fun ii wr => ∃ (i : Nat) (R : List Nat), i ≤ na ∧ ii = .int .i64 ((i : Int) - 1) ∧ Hid (R = nums 256 N (val 256 (la.drop i) % val 256 lm)) ∧ Hid (Blk wr w.heap.size 3 (cn .i64 R)) ∧ w4.grownBy wr (some w.heap.size)) (fun ii _ => (intOf ii + 1).toNat)
      case atStart =>
        refine ⟨na, List.replicate N 0, Nat.le_refl _, rfl, ?_, HR4, World.grownBy.refl _ _⟩
        show _ = _
        rw [List.drop_eq_nil_of_le (by rw [HR.out.1]; exact Nat.le_refl _)]
        have := nums_of (B := 256) (by omega) (Fit.replicate 256 N 0 (by omega))
        rw [List.length_replicate, val_replicate] at this
        rw [this]
        simp [val]
      case round =>
        obtain ⟨i, R, hi, rfl, HRV, HB, hgr⟩ := hrel
        rcases i with _ | i
        · go_wp2_with fail
          have hr := HB.out.rd N (by rw [HRV.out, nums_length])
          refine (Trim_any _ _ _ _ _ hr (by omega) (Nat.le_refl _) (by unfold maxLen; omega)).mono ?_
          rintro e w5 ⟨⟨j, hj, rfl, ht⟩, rfl⟩
          go_wp2
          go_ret
          have b4 : Below w.heap.size w wr := below_only HL4.out.bel hgr HL4.out.bel.size (fun j hj => by injection hj with hj; omega)
          refine ⟨_, _, _, rfl, ?_, hj, by unfold maxLen; omega, b4⟩
          have := hr.take j hj
          rw [ht, HRV.out, trim_digs (nums_fit (by omega) _ _), nums_val, List.drop_zero, Nat.mod_eq_of_lt (HRM.out _ (by have := Nat.mod_lt (val 256 la) HM.out; omega))] at this
          exact this
        · rw [show (((i + 1 : Nat)) : Int) - 1 = (i : Int) by omega]
          obtain ⟨x, hx⟩ := get_some (l := la) (i := i) (by rw [HR.out.1]; omega)
          have hx1 := hf.get hx
          have hRl : R.length = N := by rw [HRV.out, nums_length]
          have hRv : val 256 R = val 256 (la.drop (i + 1)) % val 256 lm := by
            rw [HRV.out, nums_val, Nat.mod_eq_of_lt (HRM.out _ (by have := Nat.mod_lt (val 256 (la.drop (i + 1))) HM.out; omega))]
          have hRf : Fit 256 R := by rw [HRV.out]; exact nums_fit (by omega) _ _
          have HX := Lib.hid hx
          have HRL := Lib.hid hRl
          have HRv := Lib.hid hRv
          have HRF := Lib.hid hRf
          clear hx hRl hRv hRf
          go_wp2
          rename World => w5
          go_loopw [10] (fun jj wr => ∃ j : Nat, j < N ∧ jj = .int .i64 (j : Int) ∧ Hid (Blk wr w.heap.size 3 (cn .i64 (moved R N j))) ∧ w4.grownBy wr (some w.heap.size)) (fun jj _ => (intOf jj).toNat)
          case atStart =>
            refine ⟨P, by have := HP.out; omega, by go_num, ?_, hgr⟩
            have e := moved_start HRL.out (by omega)
            rw [HP.out, Nat.add_sub_cancel, ← HP.out] at e
            rw [e]
            exact HB
          case round =>
            obtain ⟨j, hj, rfl, HBj, hgj⟩ := hrel
            rcases j with _ | j
            · rw [show ((0 : Nat) : Int) = 0 from rfl]
              have hA := (HR.out.below HL4.out.bel).grown hgj (fun ad e => by have := HR.out.lt (by omega) ad e; omega)
              obtain ⟨ad, x', rfl, hx', hcell⟩ := hA.get (j := i) (by omega)
              obtain rfl : x' = x := by have := HX.out; rw [this] at hx'; injection hx' with e; exact e.symm
              obtain ⟨o0, ho0⟩ := get_some (l := moved R N 0) (i := 0) (by rw [moved_length HRL.out (by omega)]; omega)
              have hoc := (HBj.out.cell 0).trans (cn_get ho0)
              have hof := HBj.out.frozen 0
              have hfin : Fit 256 (x' :: R.take (N - 1)) := fun d hd => by
                rcases List.mem_cons.1 hd with rfl | hd
                · exact hx1
                · exact HRF.out.take _ d hd
              have hval := moved_val (x := x') HRL.out (by omega) (by rw [HRv.out]; have := Nat.mod_lt (val 256 (la.drop (i + 1))) HM.out; have := HML.out; omega)
              have hlist := nums_of (B := 256) (by omega) hfin
              rw [List.length_cons, List.length_take, HRL.out, show min (N - 1) N + 1 = N by omega, hval] at hlist
              have HLI := Lib.hid hlist
              have hend := moved_end (x := x') HRL.out (by omega)
              have HEN := Lib.hid hend
              clear hA hx' ho0 hfin hval hlist hend
              go_wp2
              rename World => w6
              go_loopw [11] (fun kk wr => ∃ (k v : Nat), k ≤ 8 ∧ kk = .int .i64 ((k : Int) - 1) ∧ Hid (v < val 256 lm * 2 ^ k ∧ v % val 256 lm = (x' + 256 * val 256 R) % val 256 lm) ∧ Hid (Blk wr w.heap.size 3 (cn .i64 (nums 256 N v))) ∧ w4.grownBy wr (some w.heap.size)) (fun kk _ => (intOf kk + 1).toNat)
              case atStart =>
                refine ⟨8, x' + 256 * val 256 R, Nat.le_refl _, by go_num, ⟨?_, rfl⟩, ?_, only_setCell hgj (.inl rfl) _⟩
                · have h1 : val 256 R < val 256 lm := by rw [HRv.out]; exact Nat.mod_lt _ HM.out
                  rw [show (2 : Nat) ^ 8 = 256 from rfl]
                  omega
                · have := HBj.out.set_ 0 (.int .i64 (x' : Int))
                  rw [cn_set, HEN.out, HLI.out] at this
                  exact this
              case round =>
                obtain ⟨k, v, hk, rfl, HV, HBk, hgk⟩ := hrel
                rcases k with _ | k
                · go_wp2
                  go_roundw
                  case rel =>
                    refine ⟨i, nums 256 N v, by omega, by go_num, ?_, HBk, hgk⟩
                    show _ = _
                    have h1 := HV.out.1
                    have h2 := HV.out.2
                    rw [Nat.pow_zero, Nat.mul_one] at h1
                    rw [Nat.mod_eq_of_lt h1, rest_step HRv.out] at h2
                    have h3 : val 256 (la.drop i) = x' + 256 * val 256 (la.drop (i + 1)) := by
                      have hil := (List.getElem?_eq_some_iff.1 HX.out).1
                      rw [List.drop_eq_getElem_cons hil, (List.getElem?_eq_some_iff.1 HX.out).2, val]
                    rw [h3, ← h2]
                  case measure => simp [intOf]
                · obtain ⟨gk, hgk2⟩ : ∃ gk, gl[k]? = some gk := ⟨_, List.getElem?_eq_getElem (by rw [HL4.out.len]; omega)⟩
                  obtain ⟨hbk4, hgs⟩ := HL4.out.each k gk hgk2
                  have hgne : gk ≠ w.heap.size := by omega
                  have arrk : Blk wr w1.heap.size 84 (Laid gl N) := HL4.out.arr.grown hgk (by intro e; injection e with e; omega)
                  have hbkr : Blk wr gk 3 (cn .i64 (nums 256 N (val 256 lm * 2 ^ k))) := hbk4.grown hgk (by intro e; injection e with e; omega)
                  have hload := (arrk.cell k).trans (Laid.get hgk2)
                  have vlt : v < 256 ^ N := HRM.out v (by
                    have h1 := HV.out.1
                    have h2 : 2 ^ (k + 1) ≤ 256 := by
                      have := Nat.pow_le_pow_right (by omega : 0 < 2) (by omega : k + 1 ≤ 8)
                      simpa using this
                    have h3 : val 256 lm * 2 ^ (k + 1) ≤ val 256 lm * 256 := Nat.mul_le_mul_left _ h2
                    omega)
                  have qlt := HSH.out k (by omega)
                  have ev : val 256 (nums 256 N v) = v := by rw [nums_val, Nat.mod_eq_of_lt vlt]
                  have eq : val 256 (nums 256 N (val 256 lm * 2 ^ k)) = val 256 lm * 2 ^ k := by rw [nums_val, Nat.mod_eq_of_lt qlt]
                  have HBKR := Lib.hid hbkr
                  have HEV := Lib.hid ev
                  have HEQ := Lib.hid eq
                  have HARR := Lib.hid arrk
                  clear hgk2 hbk4 hgs arrk hbkr vlt qlt ev eq
                  go_wp2_with fail
                  refine (Least_any _ _ N N N _ _ wr (HBk.out.rd N (nums_length _ _ _)) (HBKR.out.rd N (nums_length _ _ _)) (nums_fit (by omega) _ _) (nums_fit (by omega) _ _) (by omega)).mono ?_
                  rintro e w7 ⟨rfl, hh7, hb7⟩
                  rw [HEV.out, HEQ.out]
                  have hg7 : w4.grownBy w7 (some w.heap.size) := only_then hgk (only_of_below hb7 none) (by simp)
                  have HB7 : Hid (Blk w7 w.heap.size 3 (cn .i64 (nums 256 N v))) := by show Blk _ _ _ _; unfold Blk; rw [hh7]; exact HBk.out
                  have HK7 : Hid (Blk w7 gk 3 (cn .i64 (nums 256 N (val 256 lm * 2 ^ k)))) := by show Blk _ _ _ _; unfold Blk; rw [hh7]; exact HBKR.out
                  have hload7 : w7.cell? ⟨w1.heap.size, k, none⟩ = some (.slice (some ⟨gk, 0, none⟩) N N) := by
                    have := hb7.cell (p := ⟨w1.heap.size, k, none⟩) HARR.out.lt
                    rw [this]; exact hload
                  clear hload hh7 hb7 HBKR HBk HARR
                  by_cases hle : val 256 lm * 2 ^ k ≤ v
                  · have hd : decide (val 256 lm * 2 ^ k ≤ v) = true := decide_eq_true hle
                    have HLE := Lib.hid hle
                    rw [hd]
                    clear hd hle
                    go_wp2_with fail
                    refine (Take_any w.heap.size N N (some ⟨gk, 0, none⟩) N _ _ w7 HB7.out (nums_length _ _ _) (nums_fit (by omega) _ _) (HK7.out.rd N (nums_length _ _ _)) (nums_fit (by omega) _ _) (fun ad e => by injection e with e; rw [← e]; exact hgne) hNb (by rw [HEV.out, HEQ.out]; exact HLE.out)).mono ?_
                    rintro e w8 ⟨rfl, hb8, hg8⟩
                    rw [HEV.out, HEQ.out] at hb8
                    have hg48 : w4.grownBy w8 (some w.heap.size) := only_then hg7 hg8 (fun j hj => by injection hj with hj; exact hj.symm)
                    have HB8 := Lib.hid hb8
                    clear hb8 hg8 hg7 HB7 HK7 hload7
                    go_wp2
                    go_roundw
                    case rel =>
                      refine ⟨k, v - val 256 lm * 2 ^ k, by omega, by go_num, ⟨?_, ?_⟩, HB8, hg48⟩
                      · have h1 := HV.out.1
                        have h2 := HLE.out
                        rw [Nat.pow_succ, ← Nat.mul_assoc] at h1
                        show v - val 256 lm * 2 ^ k < val 256 lm * 2 ^ k
                        omega
                      · rw [← HV.out.2]
                        have h2 := HLE.out
                        have h3 : v = (v - val 256 lm * 2 ^ k) + val 256 lm * 2 ^ k := by omega
                        conv => rhs; rw [h3]
                        rw [Nat.add_mul_mod_self_left]
                    case measure => simp [intOf]
                  · have hd : decide (val 256 lm * 2 ^ k ≤ v) = false := decide_eq_false hle
                    have HLE := Lib.hid hle
                    rw [hd]
                    clear hd hle hload7
                    go_wp2
                    go_roundw
                    case rel => exact ⟨k, v, by omega, by go_num, ⟨by have := HLE.out; omega, HV.out.2⟩, HB7, hg7⟩
                    case measure => simp [intOf]
            · obtain ⟨y, hy⟩ := get_some (l := R) (i := j) (by rw [HRL.out]; omega)
              have hc1 := (HBj.out.cell j).trans (cn_get (moved_get hy))
              obtain ⟨o1, ho1⟩ := get_some (l := moved R N (j + 1)) (i := j + 1) (by rw [moved_length HRL.out hj]; exact hj)
              have hoc := (HBj.out.cell (j + 1)).trans (cn_get ho1)
              have hof := HBj.out.frozen (j + 1)
              have hst := moved_step HRL.out hy hj
              have HST := Lib.hid hst
              clear hy ho1 hst
              go_wp2
              go_roundw
              case rel =>
                refine ⟨j, by omega, by go_num, ?_, only_setCell hgj (.inl rfl) _⟩
                have := HBj.out.set_ (j + 1) (.int .i64 (y : Int))
                rw [cn_set, HST.out] at this
                exact this
              case measure => simp [intOf]
end Go.Proofs.YtojpbfkdkkdpcaaDoor
