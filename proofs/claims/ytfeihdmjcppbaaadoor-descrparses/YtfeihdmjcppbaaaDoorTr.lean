/-
  What strings.Trim answers at the letters, and isName. No condition but that letters are bytes.
-/
import Derived.Test.YtfeihdmjcppbaaaDoorR1
import Derived.Laws.ResultCell
namespace Go.Proofs.YtfeihdmjcppbaaaDoor
open Go.RowKit
set_option linter.unusedVariables false
set_option linter.unusedSimpArgs false
set_option maxRecDepth 100000

theorem touch_setRow (w : World) (g : Nat) (cs : Array Value) : Touch [g] w (w.setRow g cs) := ⟨rfl, rfl, rfl, by simp [World.setRow], fun k _ hk => setRow_other w g k cs (by simpa using hk)⟩
section
variable {P : Program} {ops : Array Oper} {rest : List Oper} {op : Oper} {a : Act} {w : World} {Q : Exit → Act → World → Prop}
/-- A whole value into a block that is known. -/
theorem wpList_storeBlk (hgd : op.guard = none) (ty : TypeId) (x y : Operand) (ho : op.op = .store ty x y) {g : Nat} {t : TypeId} {old cs : List Value} (hx : a.eval x = .pointer (some ⟨g, 0, none⟩)) (hy : a.eval y = .agg cs.toArray) (hB : Blk w g t old)
    (hs : old.length = cs.length) (hi : (P.info? ty).map (·.size) = some cs.length) (h1 : ∀ v ∈ cs, v.oneCell' = true)
    (h : ∀ w', Hid (Blk w' g t cs) → Touch [g] w w' → wpList P ops Q rest (a.put op.dst undef) w') : wpList P ops Q (op :: rest) a w :=
  wpList_plain hgd fun _ hK => by
    unfold Oper.wp execOp
    have e := run_storeVar_row (P := P) w g t ty old.toArray cs.toArray hB (by simpa using hi) (by simpa using hs) (Array.all_eq_true_iff_forall_mem.2 (fun v hv => h1 v (by simpa using hv)))
    simp only [ho, hx, hy, Instr.storeAt, Instr.sureAddr, Sem.run_bind, Sem.run_pure, Result.andThen_ok, e]
    exact hK _ _ (h _ (setRow_heap w g _ _ t (0, 0) hB) (touch_setRow w g _))
end

/-- Which bytes are marked. -/
def marks (l : List Nat) : List Value := (List.range 256).map fun c => Value.bool (l.contains c)
theorem marks_length (l : List Nat) : (marks l).length = 256 := by simp [marks]
theorem marks_one (l : List Nat) : ∀ v ∈ marks l, v.oneCell' = true := by intro v hv; obtain ⟨c, _, rfl⟩ := List.mem_map.1 hv; rfl
theorem marks_get (l : List Nat) (c : Nat) (hc : c < 256) : (marks l)[c]? = some (.bool (l.contains c)) := by simp [marks, hc]
theorem marks_set (l : List Nat) (c : Nat) (hc : c < 256) : (marks l).set c (.bool true) = marks (l ++ [c]) := by
  apply List.ext_getElem?
  intro i
  by_cases hi : i < 256
  · rw [marks_get _ i hi, List.getElem?_set]
    by_cases e : c = i
    · subst e
      simp [marks_length, hc]
    · rw [if_neg e, marks_get _ i hi]
      simp [Ne.symm e]
  · rw [List.getElem?_eq_none (by rw [List.length_set, marks_length]; omega), List.getElem?_eq_none (by rw [marks_length]; omega)]
def abc : List Nat := [97, 98, 99, 100, 101, 102, 103, 104, 105, 106, 107, 108, 109, 110, 111, 112, 113, 114, 115, 116, 117, 118, 119, 120, 121, 122, 48, 49, 50, 51, 52, 53, 54, 55, 56, 57, 95]
theorem abc_letter : ∀ c, c < 256 → abc.contains c = letter c := by decide +kernel
theorem infoSet : (Tryd.prog.info? 90).map (·.size) = some 256 := by kernel_rfl
theorem zeroSet (w : World) : (zeroValue 90).run Tryd.prog w = .ok (.agg (marks []).toArray) w := by kernel_rfl
theorem uSet : ∃ d, Tryd.prog.underlying 90 = some d ∧ d.isRow = true := ⟨_, Tryd.underlying90, rfl⟩

/-- Strings as the walk meets them. -/
theorem str_index (l : List Nat) (i c : Nat) (hf : Fit 256 l) (h : l[i]? = some c) (z : Int) (hz : z = i) (W : World) : (Instr.index 9 (.string (str l)) (.int .i64 z)).run Tryd.prog W = .ok (.int .u8 (c : Int)) W := by
  subst hz
  have hi := (List.getElem?_eq_some_iff.1 h).1
  have hs : i < (str l).size := by rw [str_size]; exact hi
  rw [run_index_string W 9 (str l) .i64 i Tryd.underlying9, dif_pos ⟨by omega, by omega⟩]
  have e : (str l)[((i : Int)).toNat]'(by omega) = UInt8.ofNat c := by
    have h1 : (str l).toList[i]? = some (UInt8.ofNat c) := by rw [str_toList, List.getElem?_map, h]; rfl
    have h2 : (str l).toList[i]? = some ((str l)[i]'hs) := by
      rw [ByteArray.toList_eq]
      have : i < (str l).data.toList.length := by simpa using hs
      rw [List.getElem?_eq_getElem this]
      rfl
    rw [h2] at h1
    simpa using h1
  have hc := hf c (List.mem_of_getElem? h)
  rw [e]
  have : (UInt8.ofNat c).toNat = c := by simp; omega
  rw [this]
theorem str_cut (l : List Nat) (i j : Nat) (hij : i ≤ j) (hj : j ≤ l.length) : (str l).extract i j = str ((l.drop i).take (j - i)) := by
  have e : ∀ m : List Nat, str m = ⟨(m.map UInt8.ofNat).toArray⟩ := fun m => by
    show ByteArray.mk ((m.map fun (x : Nat) => (x : Int)).map fun n => UInt8.ofNat n.toNat).toArray = _
    simp [Function.comp_def]
  rw [e, e]
  apply ByteArray.ext
  rw [ByteArray.data_extract]
  apply Array.ext'
  simp [List.map_take, List.map_drop, List.take_drop]
theorem str_to (l : List Nat) (j : Nat) (hj : j ≤ l.length) (z : Int) (hz : z = j) (W : World) : (Instr.slice 9 (.string (str l)) none (some (.int .i64 z)) none).run Tryd.prog W = .ok (.string (str (l.take j))) W := by
  subst hz
  have hs := str_size l
  rw [run_slice_string_to_if W 9 (str l) .i64 j Tryd.underlying9, if_pos ⟨by omega, by omega⟩, Int.toNat_natCast, str_cut l 0 j (by omega) hj]
  simp
theorem str_from (l : List Nat) (i : Nat) (hi : i ≤ l.length) (z : Int) (hz : z = i) (W : World) : (Instr.slice 9 (.string (str l)) (some (.int .i64 z)) none none).run Tryd.prog W = .ok (.string (str (l.drop i))) W := by
  subst hz
  have hs := str_size l
  rw [run_slice_string_from_if W 9 (str l) .i64 i Tryd.underlying9, if_pos ⟨by omega, by omega⟩, Int.toNat_natCast, hs, str_cut l i l.length hi (Nat.le_refl _)]
  rw [List.take_of_length_le (by simp)]

theorem contains_any (g : Nat) (l : List Nat) (c : Nat) (hc : c < 256) (w : World) (hB : Blk w g 90 (marks l)) : Calls Tryd.prog 70 #[.pointer (some ⟨g, 0, none⟩), .int .u8 (c : Int)] w fun e w' => e = .returned (.bool (l.contains c)) ∧ w = w' := by
  have hcell : w.cell? ⟨g, c, none⟩ = some (.bool (l.contains c)) := (hB.cell c).trans (marks_get l c hc)
  generalize l.contains c = b at hcell ⊢
  have hc2 : (c : Int) < 256 := by omega
  have hc3 : (0 : Int) ≤ (c : Int) := by omega
  go_enter Tryd.func70, Tryd.ntmps70
  go_wp2
  go_ret
  exact ⟨rfl, rfl⟩
theorem trimR_any (g : Nat) (cs l : List Nat) (hf : Fit 256 l) (hl : l.length ≤ 1000) (w : World) (hB : Blk w g 90 (marks cs)) : Calls Tryd.prog 64 #[.string (str l), .pointer (some ⟨g, 0, none⟩)] w fun e w' => ∃ k, k ≤ l.length ∧ e = .returned (.string (str (l.take k))) ∧ (∀ j c, k ≤ j → l[j]? = some c → cs.contains c = true) ∧ (∀ c, 0 < k → l[k - 1]? = some c → cs.contains c = false) ∧ w = w' := by
  have HB := Lib.hid hB
  have HF := Lib.hid hf
  clear hB hf
  go_enter Tryd.func64, Tryd.ntmps64
  go_wp2
  go_loopw [0] (fun o wr => ∃ k : Nat, k ≤ l.length ∧ o = .string (str (l.take k)) ∧ (∀ j c, k ≤ j → l[j]? = some c → cs.contains c = true) ∧ w = wr) (fun o _ => match o with | .string s => s.size | _ => 0)
  case atStart => exact ⟨l.length, Nat.le_refl _, by rw [List.take_length], fun j c hj h => by (have := (List.getElem?_eq_some_iff.1 h).1; omega), rfl⟩
  case round =>
    obtain ⟨k, hk, rfl, hall, rfl⟩ := hrel
    have HA := Lib.hid hall
    clear hall
    have hsz : (str (l.take k)).size = k := by rw [str_size, List.length_take]; omega
    rcases k with _ | m
    · obtain ⟨T, hT⟩ : ∃ T, str (l.take 0) = T := ⟨_, rfl⟩
      have HT := Lib.hid hT
      rw [hT] at hsz ⊢
      clear hT
      go_wp2
      go_ret
      exact ⟨0, by omega, by rw [HT.out]; rfl, HA.out, fun c h => absurd h (by omega), rfl⟩
    · obtain ⟨c, hc⟩ : ∃ c, l[m]? = some c := ⟨_, List.getElem?_eq_getElem (by omega)⟩
      have hcf := HF.out c (List.mem_of_getElem? hc)
      obtain ⟨K, hK⟩ : ∃ K, m + 1 = K := ⟨_, rfl⟩
      have hKz : (K : Int) - 1 = (m : Int) := by omega
      have hK0 : (0 : Int) < (K : Int) := by omega
      have hix := fun W => str_index (l.take (m + 1)) m c (HF.out.take _) (by rw [List.getElem?_take, if_pos (by omega)]; exact hc) (m : Int) rfl W
      have hsl := fun W => str_to (l.take (m + 1)) m (by rw [List.length_take]; omega) (m : Int) rfl W
      rw [List.take_take, Nat.min_eq_left (by omega)] at hsl
      obtain ⟨T, hT⟩ : ∃ T, str (l.take (m + 1)) = T := ⟨_, rfl⟩
      obtain ⟨T2, hT2⟩ : ∃ T, str (l.take m) = T := ⟨_, rfl⟩
      have hs2 : T2.size = m := by rw [← hT2, str_size, List.length_take]; omega
      have HS2 := Lib.hid hs2
      have HT := Lib.hid hT
      have HT2 := Lib.hid hT2
      have HC := Lib.hid hc
      have HKK := Lib.hid hK
      rw [hT] at hsz hix hsl ⊢
      rw [hT2] at hsl
      rw [hK] at hsz
      have HSZ := Lib.hid hsz
      clear hT hT2 hc hs2 hK
      obtain ⟨b, hb⟩ : ∃ b, cs.contains c = b := ⟨_, rfl⟩
      have HBB := Lib.hid hb
      clear hb
      have HCA := Lib.hid (contains_any g cs c hcf w HB.out)
      go_wp2_with fail
      refine HCA.out.mono ?_
      rintro e w1 ⟨rfl, rfl⟩
      rw [HBB.out]
      cases b
      · go_wp2
        go_ret
        exact ⟨K, by have := HKK.out; omega, by rw [← HT.out, HKK.out]; rfl, by rw [← HKK.out]; exact HA.out, fun c' h0 h => by rw [← HKK.out, Nat.add_sub_cancel, HC.out] at h; injection h with h; rw [← h]; exact HBB.out, rfl⟩
      · go_wp2
        go_roundw
        case rel =>
          refine ⟨m, by omega, by rw [HT2.out], fun j c' hj h => ?_, trivial⟩
          by_cases e : j = m
          · subst e
            rw [HC.out] at h
            injection h with h
            rw [← h]; exact HBB.out
          · exact HA.out j c' (by omega) h
        case measure =>
          show T2.size < T.size
          rw [HS2.out, HSZ.out]
          have := HKK.out
          omega
theorem trimL_any (g : Nat) (cs l : List Nat) (hf : Fit 256 l) (hl : l.length ≤ 1000) (w : World) (hB : Blk w g 90 (marks cs)) : Calls Tryd.prog 63 #[.string (str l), .pointer (some ⟨g, 0, none⟩)] w fun e w' => ∃ k, k ≤ l.length ∧ e = .returned (.string (str (l.drop k))) ∧ (∀ j c, j < k → l[j]? = some c → cs.contains c = true) ∧ (∀ c, l[k]? = some c → cs.contains c = false) ∧ w = w' := by
  have HB := Lib.hid hB
  have HF := Lib.hid hf
  clear hB hf
  go_enter Tryd.func63, Tryd.ntmps63
  go_wp2
  go_loopw [0] (fun o wr => ∃ k : Nat, k ≤ l.length ∧ o = .string (str (l.drop k)) ∧ (∀ j c, j < k → l[j]? = some c → cs.contains c = true) ∧ w = wr) (fun o _ => match o with | .string s => s.size | _ => 0)
  case atStart => exact ⟨0, Nat.zero_le _, by rw [List.drop_zero], fun j c hj h => absurd hj (Nat.not_lt_zero _), rfl⟩
  case round =>
    obtain ⟨k, hk, rfl, hall, rfl⟩ := hrel
    have HA := Lib.hid hall
    clear hall
    have hsz : (str (l.drop k)).size = l.length - k := by rw [str_size, List.length_drop]
    by_cases hkl : k = l.length
    · subst hkl
      rw [Nat.sub_self] at hsz
      obtain ⟨T, hT⟩ : ∃ T, str (l.drop l.length) = T := ⟨_, rfl⟩
      have HT := Lib.hid hT
      rw [hT] at hsz ⊢
      clear hT
      go_wp2
      go_ret
      exact ⟨l.length, Nat.le_refl _, by rw [HT.out]; rfl, HA.out, fun c h => by (have := (List.getElem?_eq_some_iff.1 h).1; omega), rfl⟩
    · obtain ⟨c, hc⟩ : ∃ c, l[k]? = some c := ⟨_, List.getElem?_eq_getElem (by omega)⟩
      have hcf := HF.out c (List.mem_of_getElem? hc)
      obtain ⟨K, hK⟩ : ∃ K, l.length - k = K := ⟨_, rfl⟩
      have hK0 : (0 : Int) < (K : Int) := by omega
      have hix := fun W => str_index (l.drop k) 0 c (HF.out.drop _) (by rw [List.getElem?_drop, Nat.add_zero]; exact hc) 0 rfl W
      have hsl := fun W => str_from (l.drop k) 1 (by rw [List.length_drop]; omega) 1 rfl W
      rw [List.drop_drop] at hsl
      obtain ⟨T, hT⟩ : ∃ T, str (l.drop k) = T := ⟨_, rfl⟩
      obtain ⟨T2, hT2⟩ : ∃ T, str (l.drop (k + 1)) = T := ⟨_, rfl⟩
      have hs2 : T2.size = K - 1 := by rw [← hT2, str_size, List.length_drop]; omega
      have HS2 := Lib.hid hs2
      have HT := Lib.hid hT
      have HT2 := Lib.hid hT2
      have HC := Lib.hid hc
      have HKK := Lib.hid hK
      rw [hT] at hsz hix hsl ⊢
      rw [hT2] at hsl
      rw [hK] at hsz
      have HSZ := Lib.hid hsz
      clear hT hT2 hc hs2 hK
      obtain ⟨b, hb⟩ : ∃ b, cs.contains c = b := ⟨_, rfl⟩
      have HBB := Lib.hid hb
      clear hb
      have HCA := Lib.hid (contains_any g cs c hcf w HB.out)
      go_wp2_with fail
      refine HCA.out.mono ?_
      rintro e w1 ⟨rfl, rfl⟩
      rw [HBB.out]
      cases b
      · go_wp2
        go_ret
        exact ⟨k, by omega, by rw [← HT.out]; rfl, HA.out, fun c' h => by rw [HC.out] at h; injection h with h; rw [← h]; exact HBB.out, rfl⟩
      · go_wp2
        go_roundw
        case rel =>
          refine ⟨k + 1, by omega, by rw [HT2.out], fun j c' hj h => ?_, trivial⟩
          by_cases e : j = k
          · subst e
            rw [HC.out] at h
            injection h with h
            rw [← h]; exact HBB.out
          · exact HA.out j c' (by omega) h
        case measure =>
          show T2.size < T.size
          rw [HS2.out, HSZ.out]
          omega
/-- A function that answers a whole value and a bool. -/
theorem ret_cell_tmp {P : Program} {fn : Func} {p u : Tmp} {ty : TypeId} {R : Ending → World → Prop} {a : Act} {w : World} {ad : Addr} {cs : List Value} {d : TypeDesc} (h : fn.results = #[.cell p ty, .tmp u]) (hp : a.tmps.getD p undef = .pointer (some ad)) (hc : At w ad cs)
    (hu : P.underlying ty = some d) (hd : d.isRow = true) (hi : (P.info? ty).map (·.size) = some cs.length) (hdf : a.defers = []) (hR : R (.returned (.tuple #[.agg cs.toArray, a.tmps.getD u undef])) w) : bodyPost P fn R .ret a w := by
  refine bodyPost_ret (v := .tuple #[.agg cs.toArray, a.tmps.getD u undef]) ?_ hdf hR
  rw [results_cell_tmp h, hp]
  have := run_loadVar_at (P := P) (w := w) ad ty cs d hc hu hd hi
  simp [asAddr, Result.andThen, this]
set_option maxHeartbeats 1000000 in
theorem makeASCII_any (l : List Nat) (hf : Fit 128 l) (hl : l.length ≤ 100) (w : World) : Calls Tryd.prog 62 #[.string (str l)] w fun e w' => e = .returned (.tuple #[.agg (marks l).toArray, .bool true]) ∧ Below w.heap.size w w' := by
  have hz := zeroSet
  have hsz := str_size l
  have HF := Lib.hid hf
  obtain ⟨n, hn⟩ : ∃ n, l.length = n := ⟨_, rfl⟩
  rw [hn] at hsz hl
  have HN := Lib.hid hn
  obtain ⟨T, hT⟩ : ∃ T, str l = T := ⟨_, rfl⟩
  have HIX : Hid (∀ (i c : Nat), l[i]? = some c → ∀ W, (Instr.index 9 (.string T) (.int .i64 (i : Int))).run Tryd.prog W = .ok (.int .u8 (c : Int)) W) := fun i c h W => by rw [← hT]; exact str_index l i c (fun d hd => by have := hf d hd; omega) h i rfl W
  rw [hT] at hsz ⊢
  clear hf hn hT
  have hb0 : Below w.heap.size w (w.alloc (.cells (marks []).toArray 90)) := (Below.refl _ _).alloc (Nat.le_refl _) _
  have HB0 : Hid (Below w.heap.size w (w.alloc (.cells (marks []).toArray 90)) ∧ Blk (w.alloc (.cells (marks []).toArray 90)) w.heap.size 90 (marks [])) := ⟨hb0, Blk.new w _ _⟩
  generalize hm0 : (marks []).toArray = m0 at hz HB0
  clear hb0
  go_enter Tryd.func62, Tryd.ntmps62
  go_wp2
  generalize w.alloc (.cells m0 90) = w1 at HB0 ⊢
  go_loopw [4] (fun o wr => ∃ i : Nat, i ≤ n ∧ o = .int .i64 (i : Int) ∧ Hid (Below w.heap.size w wr ∧ Blk wr w.heap.size 90 (marks (l.take i)))) (fun o _ => n - (intOf o).toNat)
  case atStart => exact ⟨0, Nat.zero_le _, rfl, by rw [List.take_zero]; exact HB0⟩
  case round =>
    obtain ⟨i, hi, rfl, HB⟩ := hrel
    by_cases hin : i < n
    · obtain ⟨c, hc⟩ : ∃ c, l[i]? = some c := ⟨_, List.getElem?_eq_getElem (by rw [HN.out]; exact hin)⟩
      have hc1 := HF.out c (List.mem_of_getElem? hc)
      have hix := HIX.out i c hc
      have hcb : ¬ (128 : Int) ≤ (c : Int) := by omega
      have hcc : wr.cell? ⟨w.heap.size, c, none⟩ = some (.bool ((l.take i).contains c)) := (HB.out.2.cell c).trans (marks_get _ c (by omega))
      have hcf : wr.frozen? ⟨w.heap.size, c, none⟩ = false := HB.out.2.frozen c
      have hc2 : (c : Int) < 256 := by omega
      have hin2 : (i : Int) < (n : Int) := by omega
      have HNX : Hid (Blk (wr.setCell ⟨w.heap.size, c, none⟩ (.bool true)) w.heap.size 90 (marks (l.take (i + 1)))) := by
        have := HB.out.2.set_ c (.bool true)
        rw [marks_set _ c (by omega)] at this
        have e : l.take (i + 1) = l.take i ++ [c] := by
          obtain ⟨hi', rfl⟩ := List.getElem?_eq_some_iff.1 hc
          rw [List.take_succ_eq_append_getElem hi']
        rw [e]
        exact this
      have HC := Lib.hid hc
      clear hc
      go_wp2
      go_roundw
      case rel => exact ⟨i + 1, by omega, by go_num, HB.out.1.setCell (Nat.le_refl _) _, HNX.out⟩
      case measure => simp [intOf]; omega
    · obtain rfl : i = n := by omega
      have hall : l.take i = l := by rw [List.take_of_length_le (by rw [HN.out]; exact Nat.le_refl _)]
      rw [hall] at HB
      have hAt := HB.out.2.at
      obtain ⟨d0, hu0, hd0⟩ := uSet
      go_wp2_with (first
        | ((with_reducible refine at_dst (some 20) ?_); refine wpList_loadAt (op := ⟨some 20, _, _, _, _, _⟩) rfl 90 (.tmp 2) rfl ⟨w.heap.size, 0, none⟩ rfl (marks l) d0 hAt hu0 hd0 (by rw [marks_length]; exact infoSet) ?_)
        | ((with_reducible refine at_dst none ?_); refine wpList_storeBlk (op := ⟨none, _, _, _, _, _⟩) rfl 90 (.tmp 2) (.tmp 20) rfl (g := w.heap.size) (t := 90) (old := marks l) (cs := marks l) rfl rfl HB.out.2 rfl (by rw [marks_length]; exact infoSet) (marks_one l) ?_; intro w' hB' ht'))
      refine ret_cell_tmp rfl rfl hB'.out.at hu0 hd0 (by rw [marks_length]; exact infoSet) rfl ⟨rfl, HB.out.1.trans (ht'.below (by simp) HB.out.1.size)⟩
end Go.Proofs.YtfeihdmjcppbaaaDoor
