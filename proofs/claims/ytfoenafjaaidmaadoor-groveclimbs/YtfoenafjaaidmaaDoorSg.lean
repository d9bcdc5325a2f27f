/-
  What Within, Cut and Pad of package span answer.
-/
import Derived.Test.YtfoenafjaaidmaaDoorGq
namespace Go.Proofs.YtfoenafjaaidmaaDoor
open Go.RowKit
set_option linter.unusedVariables false
set_option linter.unusedSimpArgs false
set_option maxRecDepth 100000

theorem byteSz1 : (Tryd.prog.info? 5).map (·.size) = some 1 := by kernel_rfl
theorem madeB (k : Nat) : madeCells (Value.int .u8 0).cells k = (cn .u8 (List.replicate k 0)).toArray := by
  apply Array.ext
  · simp [size_madeCells, cn]
  · intro i h1 h2
    simp [madeCells, cn, Value.cells, Nat.mod_one]
set_option maxHeartbeats 1000000 in
theorem longer_any (A : Option Addr) (n cap : Nat) (l : List Nat) (more : Nat) (w : World) (h : Rd .u8 w A n l) (m : Nat) (hm : n + more = m) (hm2 : m ≤ 50000000) :
    Calls Tryd.prog 56 #[.slice A n cap, .int .i64 (more : Int)] w (GivesB w m (l ++ List.replicate more 0)) := by
  have HR := Lib.hid h
  have hn2 : n ≤ m := by omega
  have hmz : (n : Int) + (more : Int) = (m : Int) := by omega
  have HM := Lib.hid hm
  have hlen := h.1
  obtain ⟨i0, hi, hz0, hz1, hz2⟩ := info_parts byteInfo
  have hmk : ∀ w : World, (Instr.makeSlice 22 (.int .i64 (m : Int)) (.int .i64 (m : Int))).run Tryd.prog w = .ok (.slice (some ⟨w.heap.size, 0, none⟩) m m) (w.alloc (.cells (cn .u8 (List.replicate m 0)).toArray 5)) := by
    intro w
    have := run_make (P := Tryd.prog) w 22 5 i0 _ Tryd.underlying22 hi hz0 .i64 .i64 (m : Int) (m : Int) (by omega) (by omega) (by rw [hz2]; omega) (by omega)
    rw [hz1, Nat.mul_one, Int.toNat_natCast, madeB] at this
    exact this
  clear hi hz0 hz1 hz2 h hm
  go_enter Tryd.func56, Tryd.ntmps56
  go_wp2_with (with_reducible refine wpList_copy_splice (o := ⟨some 13, _, _, _, _, _⟩) rfl (.tmp 11) (.tmp 12) 22 22 rfl 5 Tryd.underlying22 byteSz1 _ _ _ _ _ _ rfl rfl w.heap.size 0 (cn .u8 (List.replicate m 0)) 5 (heap_alloc_new _ _) (cn .u8 l) ?c1 ?c2 ?c3 ?c4 w.heap.size w ((Below.refl _ _).alloc (Nat.le_refl _) _) (Nat.le_refl _) ?c5)
  case c1 => rw [cn_length, hlen]; exact (Nat.min_eq_left hn2).symm
  case c2 =>
    intro hp
    rw [cn_length, hlen] at hp
    obtain ⟨ad, e, hlt, hc⟩ := HR.out.2 hp
    refine ⟨ad, e, fun j v hj => ?_⟩
    have hjl := (List.getElem?_eq_some_iff.1 hj).1
    rw [cn_length] at hjl
    obtain ⟨x, hx⟩ := get_some hjl
    rw [cn_get hx] at hj
    injection hj with hj
    rw [World.cell?_alloc_lt _ _ _ (by rw [block_add]; exact hlt), hc j x hx, hj]
  case c3 => rw [cn_length, cn_length, List.length_replicate, hlen]; omega
  case c4 => exact cn_one _ _
  case c5 =>
    intro w' hg hb
    go_wp2
    go_ret
    refine ⟨_, rfl, Nat.le_refl _, ?_, hb⟩
    show w'.heap[w.heap.size]? = _
    rw [hg.out]
    have e : splice (cn .u8 (List.replicate m 0)) 0 (cn .u8 l) = cn .u8 (l ++ List.replicate more 0) := by
      have := HM.out
      simp only [splice, List.take_zero, List.nil_append, cn_length, cn_append, Nat.zero_add]
      congr 1
      simp only [cn, ← List.map_drop, List.drop_replicate, hlen]
      congr 2
      omega
    rw [e]
/-- Does a stretch lie within? -/
theorem Within_any (off len tot : Nat) (w : World) (h1 : len ≤ 1000) (h2 : tot ≤ 50000000) (o : Int) (ho : o = off) (ho2 : o ≤ 9223372036854775807) : Calls Tryd.prog 55 #[.int .i64 o, .int .i64 (len : Int), .int .i64 (tot : Int)] w fun e w' => e = .returned (.bool (decide (off + len ≤ tot))) ∧ w = w' := by
  subst ho
  have e : decide ((off : Int) ≤ (tot : Int) - (len : Int)) = decide (off + len ≤ tot) := decide_eq_decide.2 (by omega)
  have E := Lib.hid e
  clear e
  go_enter Tryd.func55, Tryd.ntmps55
  go_wp2
  go_ret
  exact ⟨by rw [← E.out]; rfl, rfl⟩
theorem Within_neg (off : Int) (len tot : Nat) (w : World) (h1 : off < 0) : Calls Tryd.prog 55 #[.int .i64 off, .int .i64 (len : Int), .int .i64 (tot : Int)] w fun e w' => e = .returned (.bool false) ∧ w = w' := by
  go_enter Tryd.func55, Tryd.ntmps55
  go_wp2
  go_ret
  exact ⟨rfl, rfl⟩
theorem toRight_yes (to : Nat) (w : World) (h1 : 1 ≤ to) (h2 : to ≤ 65536) : Calls Tryd.prog 57 #[.int .i64 (to : Int)] w fun e w' => e = .returned (.bool true) ∧ w = w' := by
  have z1 : (1 : Int) ≤ (to : Int) := by omega
  have z2 : (to : Int) ≤ 65536 := by omega
  go_enter Tryd.func57, Tryd.ntmps57
  go_wp2
  go_ret
  exact ⟨rfl, rfl⟩
theorem gap_any (n to : Nat) (w : World) (h0 : n ≤ 50000000) (h1 : 1 ≤ to) (h2 : to ≤ 65536) : Calls Tryd.prog 58 #[.int .i64 (n : Int), .int .i64 (to : Int)] w fun e w' => e = .returned (.int .i64 (gapn n to : Nat)) ∧ w = w' := by
  obtain ⟨q, hq⟩ : ∃ q, n % to = q := ⟨_, rfl⟩
  have hqz : (n : Int).tmod (to : Int) = (q : Int) := by rw [Int.tmod_eq_emod_of_nonneg (by omega), ← hq]; rfl
  have hql : q < to := by rw [← hq]; exact Nat.mod_lt _ (by omega)
  have hto : ¬ (to : Int) = 0 := by omega
  unfold gapn
  rw [hq]
  clear hq
  by_cases h : q = 0
  · subst h
    rw [Nat.sub_zero, Nat.mod_self]
    have e0 : ((0 : Nat) : Int) = 0 := rfl
    rw [e0] at hqz
    go_enter Tryd.func58, Tryd.ntmps58
    go_wp2
    go_ret
    exact ⟨rfl, rfl⟩
  · have e1 : ((q : Int) == 0) = false := beq_eq_false_iff_ne.2 (by omega)
    obtain ⟨r, hr⟩ : ∃ r, (to - q) % to = r := ⟨_, rfl⟩
    have hrz : (to : Int) - (q : Int) = (r : Int) := by rw [← hr, Nat.mod_eq_of_lt (by omega)]; omega
    rw [hr]
    clear hr
    go_enter Tryd.func58, Tryd.ntmps58
    go_wp2
    go_ret
    exact ⟨rfl, rfl⟩
/-- An answer: a block of its own, and no error. -/
def GivesBT (w : World) (B : Nat) (l : List Nat) (e : Ending) (w' : World) : Prop := ∃ g, e = .returned (.tuple #[.slice (some ⟨g, 0, none⟩) B B, .int .i64 0]) ∧ w.heap.size ≤ g ∧ Blk w' g 5 (cn .u8 l) ∧ Below w.heap.size w w'
set_option maxHeartbeats 1000000 in
theorem Pad_any (A : Option Addr) (n cap : Nat) (l : List Nat) (to : Nat) (w : World) (h : Rd .u8 w A n l) (hn : n ≤ 1000000) (h1 : 1 ≤ to) (h2 : to ≤ 65536) (k m : Nat) (hk : gapn n to = k) (hm : n + k = m) :
    Calls Tryd.prog 43 #[.slice A n cap, .int .i64 (to : Int)] w (GivesBT w m (l ++ List.replicate k 0)) := by
  have HR := Lib.hid h
  have hkl : k < to := by rw [← hk]; exact gapn_lt h1
  have HK := Lib.hid hk
  have HM := Lib.hid hm
  clear h hk hm
  go_enter Tryd.func43, Tryd.ntmps43
  go_wp2_with fail
  refine (toRight_yes to w h1 h2).mono ?_
  rintro e w1 ⟨rfl, rfl⟩
  go_wp2_with fail
  refine (gap_any n to w (by omega) h1 h2).mono ?_
  rintro e w1 ⟨rfl, rfl⟩
  rw [HK.out]
  go_wp2_with fail
  refine (longer_any A n cap l k w HR.out m HM.out (by have := HM.out; omega)).mono ?_
  rintro e w1 ⟨g, rfl, hg, hB, hb⟩
  have HB := Lib.hid hB
  clear hB
  go_wp2
  go_ret2
  exact ⟨g, rfl, hg, HB.out, hb⟩
set_option maxHeartbeats 1000000 in
theorem Cut_ok (A : Option Addr) (n cap : Nat) (l : List Nat) (off m : Nat) (w : World) (h : Rd .u8 w A n l) (hn : n ≤ 50000000) (hm : m ≤ 1000) (hc : n ≤ cap) (hcm : cap ≤ maxLen) (hw : off + m ≤ n) :
    Calls Tryd.prog 42 #[.slice A n cap, .int .i64 (off : Int), .int .i64 (m : Int)] w (GivesBT w m ((l.drop off).take m)) := by
  unfold maxLen at hcm
  have HSL := Lib.hid (h.mid off m cap hw hc)
  have hsl := run_mid8 A n cap off (off + m) (by omega) (by omega) off (off + m) rfl (by omega)
  generalize (if cap = off then A else A.map (·.add off)) = B at hsl HSL
  rw [Nat.add_sub_cancel_left] at hsl
  have e1 : decide (off + m ≤ n) = true := decide_eq_true hw
  have e0 := fun l : List Nat => List.append_nil l
  clear h
  go_enter Tryd.func42, Tryd.ntmps42
  go_wp2_with fail
  refine (Within_any off m n w (by omega) (by omega) off rfl (by omega)).mono ?_
  rintro e w1 ⟨rfl, rfl⟩
  rw [e1]
  go_wp2_with fail
  refine (longer_any B m _ _ 0 w HSL.out m rfl (by omega)).mono ?_
  rintro e w1 ⟨g, rfl, hg, hB, hb⟩
  rw [List.replicate_zero, e0] at hB
  have HB := Lib.hid hB
  clear hB
  go_wp2
  go_ret2
  exact ⟨g, rfl, hg, HB.out, hb⟩
theorem Cut_end (A : Option Addr) (n cap : Nat) (off : Int) (m : Nat) (w : World) (hn : n ≤ 50000000) (hm : m ≤ 1000) (ho : off ≤ 9223372036854775807) (h : ∀ k : Nat, off = k → n < k + m) :
    Calls Tryd.prog 42 #[.slice A n cap, .int .i64 off, .int .i64 (m : Int)] w fun e w' => e = .returned (.tuple #[.slice none 0 0, .int .i64 10]) ∧ w = w' := by
  by_cases hneg : off < 0
  · go_enter Tryd.func42, Tryd.ntmps42
    go_wp2_with fail
    refine (Within_neg off m n w hneg).mono ?_
    rintro e w1 ⟨rfl, rfl⟩
    go_wp2
    go_ret2
    exact ⟨rfl, rfl⟩
  · obtain ⟨k, rfl⟩ : ∃ k : Nat, off = k := ⟨off.toNat, by omega⟩
    have e1 : decide (k + m ≤ n) = false := decide_eq_false (by have := h k rfl; omega)
    clear h
    go_enter Tryd.func42, Tryd.ntmps42
    go_wp2_with fail
    refine (Within_any k m n w (by omega) (by omega) k rfl (by omega)).mono ?_
    rintro e w1 ⟨rfl, rfl⟩
    rw [e1]
    go_wp2
    go_ret2
    exact ⟨rfl, rfl⟩
end Go.Proofs.YtfoenafjaaidmaaDoor
