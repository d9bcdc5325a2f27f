/-
  What span.Put, Get, Cut and Pad answer, over lists of numbers. No condition but that bytes are there and lengths small. What body and bytes answer of a right descriptor. No condition but that the texts are bytes that fit. What bytes, like, ContainsFunc, allRight and anyTwice answer. No condition but that the texts are bytes that fit.
-/
import Derived.Test.YtlcoebenkhafcaaGreatDoorZ13
import Derived.Test.YtlcoebenkhafcaaGreatDoorZ03
namespace Go.Proofs.YtlcoebenkhafcaaGreatDoor
open Go.RowKit
set_option linter.unusedVariables false
set_option linter.unusedSimpArgs false
set_option maxRecDepth 100000
theorem gapn_lt {n to : Nat} (h : 1 ≤ to) : gapn n to < to := Nat.mod_lt _ h
theorem byteSz1 : (Tryz.prog.info? 5).map (·.size) = some 1 := by kernel_rfl
theorem madeB (k : Nat) : madeCells (Value.int .u8 0).cells k = (cn .u8 (List.replicate k 0)).toArray := by
  apply Array.ext
  · simp [size_madeCells, cn]
  · intro i h1 h2
    simp [madeCells, cn, Value.cells, Nat.mod_one]
def GivesB (w : World) (B : Nat) (l : List Nat) (e : Ending) (w' : World) : Prop := ∃ g, e = .returned (.slice (some ⟨g, 0, none⟩) B B) ∧ w.heap.size ≤ g ∧ Blk w' g 5 (cn .u8 l) ∧ Below w.heap.size w w'
def GivesBT (w : World) (B : Nat) (l : List Nat) (e : Ending) (w' : World) : Prop := ∃ g, e = .returned (.tuple #[.slice (some ⟨g, 0, none⟩) B B, .int .i64 0]) ∧ w.heap.size ≤ g ∧ Blk w' g 5 (cn .u8 l) ∧ Below w.heap.size w w'
set_option maxHeartbeats 1000000 in
theorem longer_any (A : Option Addr) (n cap : Nat) (l : List Nat) (more : Nat) (w : World) (h : Rd .u8 w A n l) (m : Nat) (hm : n + more = m) (hm2 : m ≤ 50000000) :
    Calls Tryz.prog 126 #[.slice A n cap, .int .i64 (more : Int)] w (GivesB w m (l ++ List.replicate more 0)) := by
  have HR := Lib.hid h
  have hn2 : n ≤ m := by omega
  have hmz : (n : Int) + (more : Int) = (m : Int) := by omega
  have HM := Lib.hid hm
  have hlen := h.1
  obtain ⟨i0, hi, hz0, hz1, hz2⟩ := info_parts byteInfo
  have hmk : ∀ w : World, (Instr.makeSlice 25 (.int .i64 (m : Int)) (.int .i64 (m : Int))).run Tryz.prog w = .ok (.slice (some ⟨w.heap.size, 0, none⟩) m m) (w.alloc (.cells (cn .u8 (List.replicate m 0)).toArray 5)) := by
    intro w
    have := run_make (P := Tryz.prog) w 25 5 i0 _ Tryz.underlying25 hi hz0 .i64 .i64 (m : Int) (m : Int) (by omega) (by omega) (by rw [hz2]; omega) (by omega)
    rw [hz1, Nat.mul_one, Int.toNat_natCast, madeB] at this
    exact this
  clear hi hz0 hz1 hz2 h hm
  go_enter Tryz.func126, Tryz.ntmps126
  go_wp2_with (with_reducible refine wpList_copy_splice (o := ⟨some 13, _, _, _, _, _⟩) rfl (.tmp 11) (.tmp 12) 25 25 rfl 5 Tryz.underlying25 byteSz1 _ _ _ _ _ _ rfl rfl w.heap.size 0 (cn .u8 (List.replicate m 0)) 5 (heap_alloc_new _ _) (cn .u8 l) ?c1 ?c2 ?c3 ?c4 w.heap.size w ((Below.refl _ _).alloc (Nat.le_refl _) _) (Nat.le_refl _) ?c5)
  case c1 => rw [cn_length, hlen]; exact (Nat.min_eq_left hn2).symm
  case c2 =>
    intro hp
    rw [cn_length, hlen] at hp
    obtain ⟨ad, e, hlt, hc⟩ := HR.out.2 hp
    refine ⟨ad, e, fun j v hj => ?_⟩
    have hjl := (List.getElem?_eq_some_iff.1 hj).1
    rw [cn_length] at hjl
    obtain ⟨x, hx⟩ := get_some hjl
    rw [cn_get hx] at hj
    injection hj with hj
    rw [World.cell?_alloc_lt _ _ _ (by rw [block_add]; exact hlt), hc j x hx, hj]
  case c3 => rw [cn_length, cn_length, List.length_replicate, hlen]; omega
  case c4 => exact cn_one _ _
  case c5 =>
    intro w' hg hb
    go_wp2
    go_ret
    refine ⟨_, rfl, Nat.le_refl _, ?_, hb⟩
    show w'.heap[w.heap.size]? = _
    rw [hg.out]
    have e : splice (cn .u8 (List.replicate m 0)) 0 (cn .u8 l) = cn .u8 (l ++ List.replicate more 0) := by
      have := HM.out
      simp only [splice, List.take_zero, List.nil_append, cn_length, cn_append, Nat.zero_add]
      congr 1
      simp only [cn, ← List.map_drop, List.drop_replicate, hlen]
      congr 2
      omega
    rw [e]
theorem Within_yes (off m tot : Nat) (w : World) (h : off + m ≤ tot) (ht : tot ≤ 9223372036854775807) : Calls Tryz.prog 122 #[.int .i64 (off : Int), .int .i64 (m : Int), .int .i64 (tot : Int)] w fun e w' => e = .returned (.bool true) ∧ w = w' := by
  have z : (off : Int) ≤ (tot : Int) - (m : Int) := by omega
  go_enter Tryz.func122, Tryz.ntmps122
  go_wp2
  go_ret
  exact ⟨rfl, rfl⟩
def LiesQ (off len : Int) (tot : Nat) : Prop := 0 ≤ off ∧ 0 ≤ len ∧ off + len ≤ tot
theorem Within_no (off len : Int) (tot : Nat) (w : World) (h : ¬ LiesQ off len tot) (h1 : off ≤ 9223372036854775807) (h2 : len ≤ 9223372036854775807) (ht : tot ≤ 9223372036854775807) : Calls Tryz.prog 122 #[.int .i64 off, .int .i64 len, .int .i64 (tot : Int)] w fun e w' => e = .returned (.bool false) ∧ w = w' := by
  unfold LiesQ at h
  by_cases h3 : off < 0
  · go_enter Tryz.func122, Tryz.ntmps122
    go_wp2
    go_ret
    exact ⟨rfl, rfl⟩
  · by_cases h4 : len < 0
    · go_enter Tryz.func122, Tryz.ntmps122
      go_wp2
      go_ret
      exact ⟨rfl, rfl⟩
    · have h5 : ¬ off ≤ (tot : Int) - len := by omega
      have h6 : 0 ≤ len := by omega
      go_enter Tryz.func122, Tryz.ntmps122
      go_wp2
      go_ret
      exact ⟨rfl, rfl⟩
set_option maxHeartbeats 1000000 in
theorem Cut_ok (A : Option Addr) (n cap : Nat) (l : List Nat) (off m : Nat) (w : World) (h : Rd .u8 w A n l) (hn : n ≤ 50000000) (hc : n ≤ cap) (hcm : cap ≤ 9223372036854775807) (hw : off + m ≤ n) :
    Calls Tryz.prog 82 #[.slice A n cap, .int .i64 (off : Int), .int .i64 (m : Int)] w (GivesBT w m ((l.drop off).take m)) := by
  have HSL := Lib.hid (h.mid off m cap hw hc)
  have hsl := run_mid8 A n cap off (off + m) (by omega) (by omega) off (off + m) rfl (by omega)
  generalize (if cap = off then A else A.map (·.add off)) = B at hsl HSL
  rw [Nat.add_sub_cancel_left] at hsl
  have e0 := fun l : List Nat => List.append_nil l
  clear h
  go_enter Tryz.func82, Tryz.ntmps82
  go_wp2_with fail
  refine (Within_yes off m n w hw (by omega)).mono ?_
  rintro e w1 ⟨rfl, rfl⟩
  go_wp2_with fail
  refine (longer_any B m _ _ 0 w HSL.out m rfl (by omega)).mono ?_
  rintro e w1 ⟨g, rfl, hg, hB, hb⟩
  rw [List.replicate_zero, e0] at hB
  have HB := Lib.hid hB
  clear hB
  go_wp2
  go_ret2
  exact ⟨g, rfl, hg, HB.out, hb⟩
theorem toRight_yes (to : Nat) (w : World) (h1 : 1 ≤ to) (h2 : to ≤ 65536) : Calls Tryz.prog 146 #[.int .i64 (to : Int)] w fun e w' => e = .returned (.bool true) ∧ w = w' := by
  have z1 : (1 : Int) ≤ (to : Int) := by omega
  have z2 : (to : Int) ≤ 65536 := by omega
  go_enter Tryz.func146, Tryz.ntmps146
  go_wp2
  go_ret
  exact ⟨rfl, rfl⟩
theorem gap_any (n to : Nat) (w : World) (h0 : n ≤ 50000000) (h1 : 1 ≤ to) (h2 : to ≤ 65536) : Calls Tryz.prog 147 #[.int .i64 (n : Int), .int .i64 (to : Int)] w fun e w' => e = .returned (.int .i64 (gapn n to : Nat)) ∧ w = w' := by
  obtain ⟨q, hq⟩ : ∃ q, n % to = q := ⟨_, rfl⟩
  have hqz : (n : Int).tmod (to : Int) = (q : Int) := by rw [Int.tmod_eq_emod_of_nonneg (by omega), ← hq]; rfl
  have hql : q < to := by rw [← hq]; exact Nat.mod_lt _ (by omega)
  have hto : ¬ (to : Int) = 0 := by omega
  unfold gapn
  rw [hq]
  clear hq
  by_cases h : q = 0
  · subst h
    rw [Nat.sub_zero, Nat.mod_self]
    have e0 : ((0 : Nat) : Int) = 0 := rfl
    rw [e0] at hqz
    go_enter Tryz.func147, Tryz.ntmps147
    go_wp2
    go_ret
    exact ⟨rfl, rfl⟩
  · have e1 : ((q : Int) == 0) = false := beq_eq_false_iff_ne.2 (by omega)
    obtain ⟨r, hr⟩ : ∃ r, (to - q) % to = r := ⟨_, rfl⟩
    have hrz : (to : Int) - (q : Int) = (r : Int) := by rw [← hr, Nat.mod_eq_of_lt (by omega)]; omega
    rw [hr]
    clear hr
    go_enter Tryz.func147, Tryz.ntmps147
    go_wp2
    go_ret
    exact ⟨rfl, rfl⟩
set_option maxHeartbeats 1000000 in
theorem Pad_any (A : Option Addr) (n cap : Nat) (l : List Nat) (to : Nat) (w : World) (h : Rd .u8 w A n l) (hn : n ≤ 1000000) (h1 : 1 ≤ to) (h2 : to ≤ 65536) (k m : Nat) (hk : gapn n to = k) (hm : n + k = m) :
    Calls Tryz.prog 108 #[.slice A n cap, .int .i64 (to : Int)] w (GivesBT w m (l ++ List.replicate k 0)) := by
  have HR := Lib.hid h
  have hkl : k < to := by rw [← hk]; exact gapn_lt h1
  have HK := Lib.hid hk
  have HM := Lib.hid hm
  clear h hk hm
  go_enter Tryz.func108, Tryz.ntmps108
  go_wp2_with fail
  refine (toRight_yes to w h1 h2).mono ?_
  rintro e w1 ⟨rfl, rfl⟩
  go_wp2_with fail
  refine (gap_any n to w (by omega) h1 h2).mono ?_
  rintro e w1 ⟨rfl, rfl⟩
  rw [HK.out]
  go_wp2_with fail
  refine (longer_any A n cap l k w HR.out m HM.out (by have := HM.out; omega)).mono ?_
  rintro e w1 ⟨g, rfl, hg, hB, hb⟩
  have HB := Lib.hid hB
  clear hB
  go_wp2
  go_ret2
  exact ⟨g, rfl, hg, HB.out, hb⟩
theorem be_ints : ∀ (s x : Nat), Go.Proofs.YtlcoebenkhafcaaGreatDoorSp.be s (x : Int) = ints (be s x)
  | 0, x => rfl
  | s + 1, x => by
    have ih := be_ints s (x / 256)
    have e : Go.Proofs.YtlcoebenkhafcaaGreatDoorSp.be (s + 1) (x : Int) = Go.Proofs.YtlcoebenkhafcaaGreatDoorSp.be s ((x / 256 : Nat) : Int) ++ [((x % 256 : Nat) : Int)] := by
      simp only [Go.Proofs.YtlcoebenkhafcaaGreatDoorSp.be, List.range_succ, List.map_append, List.map_cons, List.map_nil]
      congr 1
      · apply List.map_congr_left
        intro j hj
        have hj := List.mem_range.1 hj
        obtain ⟨k, hk⟩ : ∃ k, s - 1 - j = k := ⟨_, rfl⟩
        have hk2 : s + 1 - 1 - j = k + 1 := by omega
        rw [hk, hk2, show 8 * (k + 1) = 8 + 8 * k by omega, Int.pow_add, ← Int.ediv_ediv_of_nonneg (by decide)]
        congr 1
      · simp
    rw [e, ih, be]
    simp [ints]
theorem num_ints (l : List Nat) : Go.Proofs.YtlcoebenkhafcaaGreatDoorSp.num (ints l) = ((num l : Nat) : Int) := by
  have key : ∀ (l : List Nat) (a : Nat), (ints l).foldl (fun n x => n * 256 + x) (a : Int) = ((l.foldl (fun n x => n * 256 + x) a : Nat) : Int) := by
    intro l
    induction l with
    | nil => intro a; simp [ints]
    | cons x l ih =>
      intro a
      have e : ints (x :: l) = (x : Int) :: ints l := rfl
      rw [e, List.foldl_cons, List.foldl_cons, show (a : Int) * 256 + (x : Int) = ((a * 256 + x : Nat) : Int) by omega, ih]
  exact key l 0
theorem shr_zero {s x : Nat} (h1 : 1 ≤ s) (h2 : s ≤ 8) (hx : x < 256 ^ s) : ((x : Int) / 2 ^ (8 * (s : Int)).toNat != 0) = false := by
  have e : (8 * (s : Int)).toNat = 8 * s := by omega
  have e2 : (2 : Int) ^ (8 * s) = ((256 ^ s : Nat) : Int) := by rw [show (256 : Nat) = 2 ^ 8 from rfl, ← Nat.pow_mul, Int.natCast_pow]; rfl
  rw [e, e2, ← Int.natCast_ediv, Nat.div_eq_of_lt hx]
  rfl
theorem Put_n (A : Option Addr) (k cap : Nat) (l : List Nat) (s x : Nat) (z y : Int) (hz : z = s) (hy : y = x) (h1 : 1 ≤ s) (h2 : s ≤ 8) (hx : x < 256 ^ s) (hx2 : x ≤ 9223372036854775807) (w : World) (h : Rd .u8 w A k l) (hf : Fit 256 l) (hk : k ≤ 90000) (m : Nat) (hm : m = k + s) :
    Calls Tryz.prog 101 #[.slice A k cap, .int .i64 z, .int .i64 y] w fun e w' => e = .returned (.tuple #[.slice (some ⟨w.heap.size, 0, none⟩) m m, .int .i64 0]) ∧ Blk w' w.heap.size 5 (cn .u8 (l ++ be s x)) ∧ Below w.heap.size w w' := by
  subst hz hy
  refine (Go.Proofs.YtlcoebenkhafcaaGreatDoorSp.Put_ok A k cap (ints l) s x w (h.seg hf) hk (by omega) (by omega) (by omega) (by omega) (shr_zero h1 h2 hx) m (by omega)).mono ?_
  rintro e w' ⟨he, hl, ho, hb⟩
  refine ⟨he, own_blk (l := l ++ be s x) ?_, hb⟩
  have e1 : ints l ++ Go.Proofs.YtlcoebenkhafcaaGreatDoorSp.be ((s : Int)).toNat (x : Int) = ints (l ++ be s x) := by
    rw [Int.toNat_natCast, be_ints]; simp [ints]
  rw [e1] at ho
  exact ho
theorem ints_sl (l : List Nat) (o s : Nat) : ((ints l).drop ((o : Int)).toNat).take ((s : Int)).toNat = ints (sl l o s) := by
  rw [Int.toNat_natCast, Int.toNat_natCast]
  simp [ints, sl, List.map_take, List.map_drop]
theorem Get_ok (A : Option Addr) (n cap : Nat) (l : List Nat) (o s : Nat) (z y : Int) (hz : z = o) (hy : y = s) (h1 : 1 ≤ s) (h2 : s ≤ 8) (w : World) (h : Rd .u8 w A n l) (hf : Fit 256 l) (hn : n ≤ 100000) (hc : n ≤ cap) (hm : cap ≤ 9223372036854775807) (hw : o + s ≤ n) (hb : num (sl l o s) ≤ 9223372036854775807) :
    Calls Tryz.prog 79 #[.slice A n cap, .int .i64 z, .int .i64 y] w fun e w' => e = .returned (.tuple #[.int .i64 ((num (sl l o s) : Nat) : Int), .int .i64 0]) ∧ w = w' := by
  subst hz hy
  have := Go.Proofs.YtlcoebenkhafcaaGreatDoorSp.Get_num A n cap (ints l) o s w (h.seg hf) hn hc (by unfold maxLen; omega) (by omega) (by omega) ⟨by omega, by omega, by omega, by omega⟩
  rw [ints_sl, num_ints] at this
  have e2 : Go.Proofs.YtlcoebenkhafcaaGreatDoorSp.getEnd ((num (sl l o s) : Nat) : Int) = .tuple #[.int .i64 ((num (sl l o s) : Nat) : Int), .int .i64 0] := by
    unfold Go.Proofs.YtlcoebenkhafcaaGreatDoorSp.getEnd
    rw [if_neg (by omega)]
  rw [e2] at this
  exact this
theorem Get_big (A : Option Addr) (n cap : Nat) (l : List Nat) (o s : Nat) (z y : Int) (hz : z = o) (hy : y = s) (h1 : 1 ≤ s) (h2 : s ≤ 8) (w : World) (h : Rd .u8 w A n l) (hf : Fit 256 l) (hn : n ≤ 100000) (hc : n ≤ cap) (hm : cap ≤ 9223372036854775807) (hw : o + s ≤ n) (hb : ¬ num (sl l o s) ≤ 9223372036854775807) :
    Calls Tryz.prog 79 #[.slice A n cap, .int .i64 z, .int .i64 y] w fun e w' => e = .returned (.tuple #[.int .i64 0, .int .i64 11]) ∧ w = w' := by
  subst hz hy
  have := Go.Proofs.YtlcoebenkhafcaaGreatDoorSp.Get_num A n cap (ints l) o s w (h.seg hf) hn hc (by unfold maxLen; omega) (by omega) (by omega) ⟨by omega, by omega, by omega, by omega⟩
  rw [ints_sl, num_ints] at this
  have e2 : Go.Proofs.YtlcoebenkhafcaaGreatDoorSp.getEnd ((num (sl l o s) : Nat) : Int) = .tuple #[.int .i64 0, .int .i64 11] := by
    unfold Go.Proofs.YtlcoebenkhafcaaGreatDoorSp.getEnd
    rw [if_pos (by omega)]
  rw [e2] at this
  exact this
theorem Get_out (A : Option Addr) (n cap : Nat) (o s : Nat) (z y : Int) (hz : z = o) (hy : y = s) (h1 : 1 ≤ s) (h2 : s ≤ 8) (w : World) (hn : n ≤ 100000) (ho : o ≤ 9223372036854775807) (hw : ¬ o + s ≤ n) :
    Calls Tryz.prog 79 #[.slice A n cap, .int .i64 z, .int .i64 y] w fun e w' => e = .returned (.tuple #[.int .i64 0, .int .i64 10]) ∧ w = w' := by
  subst hz hy
  exact Go.Proofs.YtlcoebenkhafcaaGreatDoorSp.Get_end A n cap o s w (by omega) (by omega) hn (by omega) (fun h => hw (by have := h.2.2.2; omega))
theorem Cut_no (A : Option Addr) (n cap : Nat) (o : Nat) (m : Nat) (z y : Int) (hz : z = o) (hy : y = m) (w : World) (hn : n ≤ 100000) (ho : o ≤ 9223372036854775807) (hm : m ≤ 9223372036854775807) (hw : ¬ o + m ≤ n) :
    Calls Tryz.prog 82 #[.slice A n cap, .int .i64 z, .int .i64 y] w fun e w' => e = .returned (.tuple #[.slice none 0 0, .int .i64 10]) ∧ w = w' := by
  subst hz hy
  go_enter Tryz.func82, Tryz.ntmps82
  go_wp2_with fail
  refine (Within_no o m n w (by unfold LiesQ; omega) (by omega) (by omega) (by omega)).mono ?_
  rintro e w1 ⟨rfl, rfl⟩
  go_wp2
  go_ret2
  exact ⟨rfl, rfl⟩
end Go.Proofs.YtlcoebenkhafcaaGreatDoor
namespace Go.Proofs.YtlcoebenkhafcaaGreatDoor
open Go.RowKit
set_option linter.unusedVariables false
set_option linter.unusedSimpArgs false
set_option maxRecDepth 100000
theorem Rd.srcs {k : IntKind} {w : World} {A : Option Addr} {n : Nat} {l : List Nat} (h : Rd k w A n l) (c : Nat) (hc : A = none → c = 0) : A = none ∧ c = 0 ∨ ∃ ad, A = some ad ∧ ∀ j u, (cn k l)[j]? = some u → w.cell? (ad.add j) = some u := by
  cases A with
  | none => exact .inl ⟨rfl, hc rfl⟩
  | some ad =>
    refine .inr ⟨ad, rfl, fun j u hu => ?_⟩
    have hj := (List.getElem?_eq_some_iff.1 hu).1
    rw [cn_length] at hj
    obtain ⟨x, hx⟩ := get_some hj
    rw [cn_get hx] at hu
    injection hu with hu
    obtain ⟨ad', e, _, hcell⟩ := h.2 (by rw [← h.1]; omega)
    injection e with e
    rw [← hu, e]; exact hcell j x hx
def numsTo (d : De) : Nat → List Nat
  | 0 => []
  | i + 1 => numsTo d i ++ be (szi i) (nv d i).toNat
theorem numsTo_all (d : De) : numsTo d 5 = dnums d := by simp [numsTo, dnums, nv, szi]
theorem numsTo_le (d : De) {i : Nat} (h : i ≤ 5) : (numsTo d i).length ≤ 28 := by
  rcases (by omega : i = 0 ∨ i = 1 ∨ i = 2 ∨ i = 3 ∨ i = 4 ∨ i = 5) with rfl | rfl | rfl | rfl | rfl | rfl <;> simp [numsTo, szi, be_length]
theorem numsTo_fit (d : De) : ∀ i, Fit 256 (numsTo d i)
  | 0 => Fit.nil _
  | i + 1 => (numsTo_fit d i).append (be_fit _ _)
theorem nv_bds {d : De} (h : Bds d) {i : Nat} (hi : i < 5) : ∃ v : Nat, nv d i = (v : Int) ∧ (nv d i).toNat = v ∧ v < 256 ^ szi i ∧ v ≤ 9223372036854775807 ∧ 1 ≤ szi i ∧ szi i ≤ 8 := by
  have a0 := h.alg
  have a1 := h.size
  have a2 := h.block
  have a3 := h.off
  have a4 := h.loc
  refine ⟨(nv d i).toNat, ?_⟩
  rcases (by omega : i = 0 ∨ i = 1 ∨ i = 2 ∨ i = 3 ∨ i = 4) with rfl | rfl | rfl | rfl | rfl <;> simp only [nv, szi] <;> refine ⟨by omega, trivial, by omega, by omega, by omega, by omega⟩
def lensTo (ps : List Bt) : Nat → List Nat
  | 0 => []
  | i + 1 => lensTo ps i ++ be 4 ((ps.map (·.l.length)).getD i 0)
theorem lensTo_all {x : Dx} {ps : List Bt} (h : PartsOf x ps) : lensTo ps 5 = lens x.d := by
  simp only [lensTo, h.lens, lens]
  simp
theorem lensTo_length (ps : List Bt) : ∀ i, (lensTo ps i).length = 4 * i
  | 0 => rfl
  | i + 1 => by rw [lensTo, List.length_append, lensTo_length ps i, be_length]; omega
theorem lensTo_fit (ps : List Bt) : ∀ i, Fit 256 (lensTo ps i)
  | 0 => Fit.nil _
  | i + 1 => (lensTo_fit ps i).append (be_fit _ _)
theorem part_le {x : Dx} {ps : List Bt} (h : PartsOf x ps) (hb : Bds x.d) {i : Nat} {p : Bt} (hp : ps[i]? = some p) : p.l.length ≤ 1032 ∧ (ps.map (·.l.length)).getD i 0 = p.l.length := by
  have e := h.get hp
  refine ⟨?_, by simp [List.getD, hp]⟩
  have b0 := hb.name
  have b1 := hb.salt
  have b2 := hb.digest
  have b3 := hb.key
  have b4 := hb.value
  rcases i with _ | _ | _ | _ | _ | i <;> simp at e <;> rw [← e] <;> omega
set_option maxHeartbeats 4000000 in
theorem body_any (x : Dx) (w : World) (hx : DxOk w x) (hr : Right x.d) : Calls Tryz.prog 112 #[x.val] w fun e w' => ∃ g M, e = .returned (.slice (some ⟨g, 0, none⟩) M M) ∧ (body x.d).length = M ∧ w.heap.size ≤ g ∧ Blk w' g 5 (cn .u8 (body x.d)) ∧ Below w.heap.size w w' := by
  obtain ⟨d0, hu0, hd0⟩ := uD
  have HBD := Lib.hid hr.bds
  have HTL := Lib.hid hr.tlen_le
  have hnl : x.d.name.length ≤ 100000 := by have := hr.bds.name; omega
  have HNL := Lib.hid hnl
  obtain ⟨i0, hi0, hz0, hz1, hz2⟩ := info_parts byteInfo
  have HI0 := Lib.hid (And.intro hi0 (And.intro hz0 (And.intro hz1 hz2)))
  clear hi0 hz0 hz1 hz2 hr hnl
  unfold Dx.val
  obtain ⟨W, hW⟩ : ∃ W, w.alloc (.cells x.cells.toArray 71) = W := ⟨_, rfl⟩
  have X := Lib.hid (Bx.new hW)
  have HX := Lib.hid hx
  clear hx
  go_enter Tryz.func112, Tryz.ntmps112
  go_wp2_with fail
  refine (numbers_any w.heap.size W).mono ?_
  rintro e w1 ⟨b, rfl, hb, hB, hb1⟩
  have I0 : Hid (Bx w w.heap.size 71 x w1 ∧ Blk w1 b 173 (numCells w.heap.size) ∧ w.heap.size < b ∧ b < w1.heap.size) := ⟨X.out.next hb1, hB, Nat.lt_of_lt_of_le X.out.lt hb, hB.lt⟩
  obtain ⟨B, hBB⟩ : ∃ B, w1.heap.size = B := ⟨_, rfl⟩
  have HBB := Lib.hid hBB
  clear hB hb hb1 hBB
  go_wp2
  go_loopw [3, 10] (fun a o wr => ∃ i : Nat, i ≤ 5 ∧ o = .int .i64 (i : Int) ∧ ∃ A k cap, a = .slice A k cap ∧ Hid (Below B w1 wr ∧ Row wr B 5 A k cap (cn .u8 (numsTo x.d i)) ∧ B ≤ wr.heap.size)) (fun _ o _ => 5 - (intOf o).toNat)
  case atStart => exact ⟨0, by omega, rfl, none, 0, 0, rfl, by rw [← HBB.out]; exact ⟨Below.refl _ _, Row.nil _ _ _, Nat.le_refl _⟩⟩
  case round =>
    obtain ⟨i, hi, rfl, A, k, cap, rfl, HR⟩ := hrel
    have hnum := I0.out.2.1.below (B := B) HR.out.1 (by rw [← HBB.out]; exact I0.out.2.2.2)
    have hbox := I0.out.1.blk.below (B := B) HR.out.1 (by rw [← HBB.out]; exact I0.out.1.lt)
    have hk28 : k ≤ 28 := by have h1 := HR.out.2.1.length; rw [cn_length] at h1; have h2 := numsTo_le x.d hi; omega
    by_cases hin : i < 5
    · have hin2 : (i : Int) < 5 := by omega
      have g0 : wr.cell? ⟨b, i * 2, none⟩ = some (.pointer (some ⟨w.heap.size, i + 1, none⟩)) := (hnum.cell _).trans (num_get _ hin).1
      have g1 : wr.cell? ⟨b, i * 2 + 1, none⟩ = some (.int .i64 (szi i : Nat)) := (hnum.cell _).trans (num_get _ hin).2
      have g2 : wr.cell? ⟨w.heap.size, i + 1, none⟩ = some (.int .i64 (nv x.d i)) := (hbox.cell _).trans (cells_nv x hin)
      obtain ⟨v, hv1, hv2, hv3, hv4, hv5, hv6⟩ := nv_bds HBD.out hin
      rw [hv1] at g2
      have hlt : w.heap.size < wr.heap.size := hbox.lt
      have hzb : Below wr.heap.size wr (wr.alloc (.cells #[.pointer (some ⟨w.heap.size, i + 1, none⟩), .int .i64 (szi i : Nat)] 173)) := (Below.refl _ _).alloc (Nat.le_refl _) _
      have hzk : Blk (wr.alloc (.cells #[.pointer (some ⟨w.heap.size, i + 1, none⟩), .int .i64 (szi i : Nat)] 173)) wr.heap.size 173 [.pointer (some ⟨w.heap.size, i + 1, none⟩), .int .i64 (szi i : Nat)] := Blk.new _ _ _
      obtain ⟨wz, hwz⟩ : ∃ wz, wr.alloc (.cells #[.pointer (some ⟨w.heap.size, i + 1, none⟩), .int .i64 (szi i : Nat)] 173) = wz := ⟨_, rfl⟩
      rw [hwz] at hzb hzk
      have q0 : wz.cell? ⟨wr.heap.size, 0, none⟩ = some (.pointer (some ⟨w.heap.size, i + 1, none⟩)) := hzk.cell 0
      have q1 : wz.cell? ⟨wr.heap.size, 1, none⟩ = some (.int .i64 (szi i : Nat)) := hzk.cell 1
      have q2 : wz.cell? ⟨w.heap.size, i + 1, none⟩ = some (.int .i64 (v : Int)) := (hzb.cell (p := ⟨w.heap.size, i + 1, none⟩) hlt).trans g2
      have hrow := HR.out.2.1
      have hrdz : Rd .u8 wz.drew A k (numsTo x.d i) := (hrow.rd.below hzb).drewN 1
      have HPUT := Lib.hid (Put_n A k cap (numsTo x.d i) (szi i) v _ _ rfl rfl hv5 hv6 hv3 hv4 wz.drew hrdz (numsTo_fit _ _) (by omega) (k + szi i) rfl)
      have HZ : Hid (Below wr.heap.size wr wz.drew ∧ numsTo x.d (i + 1) = numsTo x.d i ++ be (szi i) v) := ⟨below_drew1 hzb, by rw [numsTo, hv2]⟩
      have HSZ : Hid (1 ≤ szi i ∧ szi i ≤ 8) := ⟨hv5, hv6⟩
      have HKL : Hid ((numsTo x.d i).length = k) := by have := hrow.length; rwa [cn_length] at this
      clear hzb hzk hrow hrdz hnum hbox hv1 hv2 hv3 hv4 hv5 hv6
      go_wp2
      go_region_law (first | (go_simp; go_at_call 101; refine HPUT.out.mono ?_; rintro e w2 ⟨rfl, hB2, hb2⟩))
      all_goals
        have HB2 := Lib.hid hB2
        have Hb2 := Lib.hid hb2
        clear hB2 hb2
        go_wp2
        go_roundw
        case rel =>
          have h1 : B ≤ wz.drew.heap.size := Nat.le_trans HR.out.2.2 HZ.out.1.size
          refine ⟨i + 1, by omega, by go_num, _, _, _, rfl, ?_, ?_, ?_⟩
          · exact (HR.out.1.trans (HZ.out.1.mono HR.out.2.2)).trans (Hb2.out.mono h1)
          · rw [HZ.out.2]
            exact Blk.row HB2.out h1 _ (by rw [List.length_append, be_length, HKL.out]) (by have := HSZ.out; omega)
          · exact Nat.le_trans h1 Hb2.out.size
        case measure => simp [intOf]; omega
    · obtain rfl : i = 5 := by omega
      have hxr := HX.out.below (I0.out.1.below.trans ((by rw [← HBB.out] at HR; exact HR.out.1 : Below w1.heap.size w1 wr).mono I0.out.1.below.size))
      have HXR := Lib.hid hxr
      have HBOX : Hid (Bx w w.heap.size 71 x wr) := I0.out.1.next (by rw [HBB.out]; exact HR.out.1)
      have hkk : Hid (k = 28) := by have h1 := HR.out.2.1.length; rw [cn_length, numsTo_all, dnums_length] at h1; exact h1.symm
      have HRW : Hid (Row wr B 5 A k cap (cn .u8 (dnums x.d)) ∧ B ≤ wr.heap.size) := by
        have := HR.out.2
        rw [numsTo_all] at this
        exact this
      clear hxr hnum hbox HR
      go_wp2_with ((with_reducible refine at_dst (some 26) ?_); refine wpList_loadAt (op := ⟨some 26, _, _, _, _, _⟩) rfl 71 (.tmp 1) rfl ⟨w.heap.size, 0, none⟩ rfl x.cells d0 HBOX.out.blk.at hu0 hd0 iD ?_)
      refine (lists_any x wr HXR.out HNL.out).mono ?_
      rintro e w2 ⟨b2, ps, rfl, hb2, hP, hPR, hbe⟩
      have I2 : Hid (Bx w w.heap.size 71 x w2 ∧ PartsOf x ps ∧ PartsR w2 (some ⟨b2, 0, none⟩) 5 ps ∧ Row w2 B 5 A k cap (cn .u8 (dnums x.d)) ∧ B ≤ w2.heap.size) := ⟨HBOX.out.next hbe, hP, hPR, HRW.out.1.below hbe, Nat.le_trans HRW.out.2 hbe.size⟩
      clear hb2 hP hPR hbe
      go_wp2
      go_loopw [3, 29] (fun a o wr => ∃ j : Nat, j ≤ 5 ∧ o = .int .i64 (j : Int) ∧ ∃ A k cap, a = .slice A k cap ∧ k = 28 + 4 * j ∧ Hid (Below w2.heap.size w2 wr ∧ Row wr B 5 A k cap (cn .u8 (dnums x.d ++ lensTo ps j)))) (fun _ o _ => 5 - (intOf o).toNat)
      case atStart => exact ⟨0, by omega, rfl, A, k, cap, rfl, by have := hkk.out; omega, Below.refl _ _, by rw [lensTo, List.append_nil]; exact I2.out.2.2.2.1⟩
      case round =>
        obtain ⟨j, hj, rfl, A1, k1, cap1, rfl, hk1, HRx⟩ := hrel
        have hPx := I2.out.2.2.1.below HRx.out.1
        have HPX := Lib.hid hPx
        by_cases hjn : j < 5
        · have hjn2 : (j : Int) < 5 := by omega
          obtain ⟨p, hp⟩ : ∃ p, ps[j]? = some p := ⟨_, List.getElem?_eq_getElem (by rw [I2.out.2.1.len]; exact hjn)⟩
          obtain ⟨ad, hA, had, hcell⟩ := hPx.2.1 (by omega)
          injection hA with hA
          subst hA
          have hc := hcell j p hp
          rw [addr_add, Nat.zero_add] at hc
          have hl := (hPx.2.2 p (List.mem_of_getElem? hp)).1.1
          obtain ⟨hle, hgd⟩ := part_le I2.out.2.1 HBD.out hp
          have HPUT := Lib.hid (Put_n A1 k1 cap1 (dnums x.d ++ lensTo ps j) 4 p.n 4 _ rfl rfl (by omega) (by omega) (by omega) (by omega) wr HRx.out.2.rd ((dnums_fit _).append (lensTo_fit _ _)) (by omega) (k1 + 4) rfl)
          have HLN : Hid (lensTo ps (j + 1) = lensTo ps j ++ be 4 p.n) := by show _ = _; rw [lensTo, hgd, hl]
          have HKB : Hid (B ≤ wr.heap.size ∧ k1 ≤ 100) := ⟨Nat.le_trans I2.out.2.2.2.2 HRx.out.1.size, by omega⟩
          have HK1 := Lib.hid hk1
          clear hPx hcell hp hl hle hgd hk1
          go_wp2_with fail
          refine HPUT.out.mono ?_
          rintro e w3 ⟨rfl, hB3, hb3⟩
          have HB3 := Lib.hid hB3
          have Hb3 := Lib.hid hb3
          clear hB3 hb3
          go_wp2
          go_roundw
          case rel =>
            refine ⟨j + 1, by omega, by go_num, _, _, _, rfl, by have := HK1.out; omega, HRx.out.1.trans (Hb3.out.mono HRx.out.1.size), ?_⟩
            rw [HLN.out, ← List.append_assoc]
            exact Blk.row HB3.out HKB.out.1 _ (by rw [List.length_append, List.length_append, dnums_length, lensTo_length, be_length]; have := HK1.out; omega) (by have := HKB.out; omega)
          case measure => simp [intOf]; omega
        · obtain rfl : j = 5 := by omega
          have hxx := I2.out.1.next HRx.out.1
          have HXX := Lib.hid (HX.out.below hxx.below)
          have HBX := Lib.hid hxx
          have HR5 : Hid (Row wr B 5 A1 k1 cap1 (cn .u8 (dnums x.d ++ lens x.d)) ∧ B ≤ wr.heap.size) := by
            have := HRx.out.2
            rw [lensTo_all I2.out.2.1] at this
            exact ⟨this, Nat.le_trans I2.out.2.2.2.2 HRx.out.1.size⟩
          obtain rfl : k1 = 48 := by omega
          clear hk1
          clear hxx hPx HRx HPX
          go_wp2_with ((with_reducible refine at_dst (some 42) ?_); refine wpList_loadAt (op := ⟨some 42, _, _, _, _, _⟩) rfl 71 (.tmp 1) rfl ⟨w.heap.size, 0, none⟩ rfl x.cells d0 HBX.out.blk.at hu0 hd0 iD ?_)
          refine (lists_any x wr HXX.out HNL.out).mono ?_
          rintro e w3 ⟨b3, ps3, rfl, hb3, hP3, hPR3, hbe3⟩
          have hT : (flat ps3).length = tlen x.d := by rw [hP3.flat, texts_length]
          have hff : flat ps3 = texts x.d := hP3.flat
          have I3 : Hid (Bx w w.heap.size 71 x w3 ∧ Row w3 B 5 A1 48 cap1 (cn .u8 (dnums x.d ++ lens x.d)) ∧ B ≤ w3.heap.size) := ⟨HBX.out.next hbe3, HR5.out.1.below hbe3, Nat.le_trans HR5.out.2 hbe3.size⟩
          obtain ⟨T, hTT⟩ : ∃ T, tlen x.d = T := ⟨_, rfl⟩
          have HTT := Lib.hid hTT
          have hT2 : T ≤ 1440 := by rw [← hTT]; exact HTL.out
          have HJ := Lib.hid (Join_any b3 5 5 ps3 w3 hPR3 (by omega) (by omega) (by omega) (by omega) T (by rw [hT, hTT]) (by omega))
          have HFF := Lib.hid hff
          clear hb3 hP3 hPR3 hbe3 hT hTT hff
          go_wp2_with fail
          refine HJ.out.mono ?_
          rintro e w4 ⟨g4, rfl, hg4, hrd4, hbe4⟩
          rw [HFF.out] at hrd4
          have I4 : Hid (Bx w w.heap.size 71 x w4 ∧ Row w4 B 5 A1 48 cap1 (cn .u8 (dnums x.d ++ lens x.d)) ∧ B ≤ w4.heap.size ∧ Rd .u8 w4 (some ⟨g4, 0, none⟩) T (texts x.d) ∧ w.heap.size < B) := ⟨I3.out.1.next hbe4, I3.out.2.1.below hbe4, Nat.le_trans I3.out.2.2 hbe4.size, hrd4, by rw [← HBB.out]; exact I0.out.1.lt⟩
          clear hg4 hrd4 hbe4 HJ
          have HAPP : Hid (∀ {ops : Array Oper} {rest : List Oper} {o : Oper} {a : Act} {Q : Exit → Act → World → Prop} (hgd : o.guard = none) (s y : Operand) (ho : o.op = .call { callee := .builtin .append, args := #[s, y], argTypes := #[25, 25] }) (hs : a.eval s = .slice A1 48 cap1) (hy : a.eval y = .slice (some ⟨g4, 0, none⟩) T T)
              (hk : ∀ A' c' w', Hid (Row w' B 5 A' (48 + T) c' (cn .u8 (dnums x.d ++ lens x.d) ++ cn .u8 (texts x.d))) → Below B w4 w' → B ≤ w'.heap.size → wpList Tryz.prog ops Q rest (a.put o.dst (.slice A' (48 + T) c')) w'), wpList Tryz.prog ops Q (o :: rest) a w4) :=
            fun hgd s y ho hs hy hk => wpList_app hgd s y 25 5 ho Tryz.underlying25 HI0.out.1 HI0.out.2.1 HI0.out.2.2.1 HI0.out.2.2.2 rfl (by omega) (Below.refl B w4) I4.out.2.2.1 hs I4.out.2.1 hy (by rw [cn_length, I4.out.2.2.2.1.1]) (I4.out.2.2.2.1.srcs T (fun e => by cases e)) (cn_one _ _) (fun e => by cases e) (by omega) (48 + T) rfl hk
          go_wp2_with ((with_reducible refine at_dst (some 45) ?_); refine HAPP.out (o := ⟨some 45, _, _, _, _, _⟩) rfl (.tmp 41) (.tmp 44) rfl rfl rfl ?_; intro A5 c5 w5 hrow5 hbe5 hB5)
          have hraw : cn .u8 (dnums x.d ++ lens x.d) ++ cn .u8 (texts x.d) = cn .u8 (raw x.d) := by rw [← cn_append, raw, List.append_assoc]
          have HRW5 : Hid (Row w5 B 5 A5 (48 + T) c5 (cn .u8 (raw x.d)) ∧ Below B w4 w5 ∧ B ≤ w5.heap.size) := by
            have := hrow5.out
            rw [hraw] at this
            exact ⟨this, hbe5, hB5⟩
          have hM : 48 + T + gapn (48 + T) 8 ≤ 2000 := by have := gapn_lt (n := 48 + T) (to := 8) (by omega); omega
          have HPAD := Lib.hid (Pad_any A5 (48 + T) c5 (raw x.d) 8 w5 HRW5.out.1.rd (by omega) (by omega) (by omega) (gapn (48 + T) 8) (48 + T + gapn (48 + T) 8) rfl rfl)
          clear hraw hrow5 hbe5 hB5 hM
          go_wp2_with fail
          refine HPAD.out.mono ?_
          rintro e w6 ⟨g6, rfl, hg6, hB6, hbe6⟩
          have I6 : Hid (Below w.heap.size w w6 ∧ w.heap.size ≤ g6 ∧ Blk w6 g6 5 (cn .u8 (body x.d)) ∧ (body x.d).length = 48 + T + gapn (48 + T) 8) := by
            have hrl : (raw x.d).length = 48 + T := by rw [raw_length, HTT.out]
            have hlt := I4.out.2.2.2.2
            have h45 : Below w.heap.size w w5 := I4.out.1.below.trans (HRW5.out.2.1.mono (by omega))
            refine ⟨h45.trans (hbe6.mono h45.size), by have := HRW5.out.2.2; omega, ?_, ?_⟩
            · rw [body, hrl]; exact hB6
            · rw [body, List.length_append, hrl, List.length_replicate]
          clear hg6 hB6 hbe6 HPAD
          go_wp2
          go_ret
          exact ⟨g6, _, rfl, I6.out.2.2.2, I6.out.2.1, I6.out.2.2.1, I6.out.1⟩
end Go.Proofs.YtlcoebenkhafcaaGreatDoor
namespace Go.Proofs.YtlcoebenkhafcaaGreatDoor
open Go.RowKit
set_option linter.unusedVariables false
set_option linter.unusedSimpArgs false
set_option maxRecDepth 100000
set_option maxHeartbeats 4000000 in
theorem bytes_any (x : Dx) (w : World) (hx : DxOk w x) (hr : Right x.d) : Calls Tryz.prog 70 #[x.val] w fun e w' => ∃ A n cap, e = .returned (.slice A n cap) ∧ Row w' w.heap.size 5 A n cap (cn .u8 (enc x.d)) ∧ Below w.heap.size w w' := by
  obtain ⟨d0, hu0, hd0⟩ := uD
  have HR := Lib.hid hr
  have hk := hr.bds.kind
  obtain ⟨i0, hi0, hz0, hz1, hz2⟩ := info_parts byteInfo
  have HI0 := Lib.hid (And.intro hi0 (And.intro hz0 (And.intro hz1 hz2)))
  obtain ⟨kd, hkd⟩ : ∃ kd : Nat, x.d.kind = (kd : Int) := ⟨x.d.kind.toNat, by omega⟩
  have hkt : x.d.kind.toNat = kd := by omega
  have HKT := Lib.hid hkt
  have hk5 : kd < 5 := by omega
  have hbl := body_length x.d
  have htl := hr.tlen_le
  have HBL : Hid ((body x.d).length ≤ 1500) := by show _ ≤ _; omega
  clear hi0 hz0 hz1 hz2 hr hk hkt hbl htl
  unfold Dx.val
  obtain ⟨W, hW⟩ : ∃ W, w.alloc (.cells x.cells.toArray 71) = W := ⟨_, rfl⟩
  have X := Lib.hid (Bx.new hW)
  have HX := Lib.hid hx
  clear hx
  go_enter Tryz.func70, Tryz.ntmps70
  go_wp2_with ((with_reducible refine at_dst (some 6) ?_); refine wpList_loadAt (op := ⟨some 6, _, _, _, _, _⟩) rfl 71 (.tmp 1) rfl ⟨w.heap.size, 0, none⟩ rfl x.cells d0 X.out.blk.at hu0 hd0 iD ?_)
  refine (body_any x W (HX.out.below X.out.below) HR.out).mono ?_
  rintro e w1 ⟨g1, M, rfl, hM, hg1, hB1, hb1⟩
  have X1 := Lib.hid (X.out.next hb1)
  have c0 : w1.cell? ⟨w.heap.size, 0, none⟩ = some (.int .i64 x.d.kind) := X1.out.blk.cell 0
  rw [hkd] at c0
  have HM := Lib.hid hM
  have HB1 := Lib.hid hB1
  have hM2 : M ≤ 1500 := by rw [← hM]; exact HBL.out
  have G1 : Hid (w.heap.size ≤ g1) := Nat.le_trans X.out.below.size hg1
  have HP1 := Lib.hid (Put_n none 0 0 [] 8 kd 8 _ rfl rfl (by omega) (by omega) (by omega) (by omega) w1 (Rd.nil _ _ _) (Fit.nil _) (by omega) 8 rfl)
  clear hM hB1 hb1 hg1
  go_wp2_with fail
  refine HP1.out.mono ?_
  rintro e w2 ⟨rfl, hB2, hb2⟩
  rw [List.nil_append] at hB2
  have X2 := Lib.hid (X1.out.next hb2)
  have HB12 := Lib.hid (HB1.out.below hb2 HB1.out.lt)
  have HP2 := Lib.hid (Put_n (some ⟨w1.heap.size, 0, none⟩) 8 8 (be 8 kd) 8 M 8 _ rfl rfl (by omega) (by omega) (by omega) (by omega) w2 (hB2.rd 8 (be_length _ _)) (be_fit _ _) (by omega) 16 rfl)
  clear hB2 hb2
  go_wp2_with fail
  refine HP2.out.mono ?_
  rintro e w3 ⟨rfl, hB3, hb3⟩
  have X3 := Lib.hid (X2.out.next hb3)
  have HB13 := Lib.hid (HB12.out.below hb3 HB12.out.lt)
  have hw2 : w.heap.size ≤ w2.heap.size := X2.out.below.size
  have HRow := Lib.hid (hB3.row hw2 16 (by rw [List.length_append, be_length, be_length]) (by omega))
  have HRD := Lib.hid (HB13.out.rd M HM.out)
  clear hB3 hb3 hw2
  have HAPP : Hid (∀ {ops : Array Oper} {rest : List Oper} {o : Oper} {a : Act} {Q : Exit → Act → World → Prop} (hgd : o.guard = none) (s y : Operand) (ho : o.op = .call { callee := .builtin .append, args := #[s, y], argTypes := #[25, 25] }) (hs : a.eval s = .slice (some ⟨w2.heap.size, 0, none⟩) 16 16) (hy : a.eval y = .slice (some ⟨g1, 0, none⟩) M M)
      (hk : ∀ A' c' w', Hid (Row w' w.heap.size 5 A' (16 + M) c' (cn .u8 (be 8 kd ++ be 8 M) ++ cn .u8 (body x.d))) → Below w.heap.size w3 w' → w.heap.size ≤ w'.heap.size → wpList Tryz.prog ops Q rest (a.put o.dst (.slice A' (16 + M) c')) w'), wpList Tryz.prog ops Q (o :: rest) a w3) :=
    fun hgd s y ho hs hy hk => wpList_app hgd s y 25 5 ho Tryz.underlying25 HI0.out.1 HI0.out.2.1 HI0.out.2.2.1 HI0.out.2.2.2 rfl (by omega) (Below.refl _ w3) X3.out.below.size hs HRow.out hy (by rw [cn_length, HM.out]) (HRD.out.srcs M (fun e => by cases e)) (cn_one _ _) (fun e => by cases e) (by omega) (16 + M) rfl hk
  go_wp2_with ((with_reducible refine at_dst (some 23) ?_); refine HAPP.out (o := ⟨some 23, _, _, _, _, _⟩) rfl (.tmp 21) (.tmp 22) rfl rfl rfl ?_; intro A5 c5 w5 hrow5 hbe5 hB5)
  go_ret
  refine ⟨A5, 16 + M, c5, rfl, ?_, X3.out.below.trans hbe5⟩
  have e : cn .u8 (be 8 kd ++ be 8 M) ++ cn .u8 (body x.d) = cn .u8 (enc x.d) := by rw [← cn_append, enc, HKT.out, HM.out, List.append_assoc]
  rw [← e]
  exact hrow5.out
theorem like_any (x y : Dx) (w : World) (hx : Fit 256 x.d.name) (hy : Fit 256 y.d.name) : Calls Tryz.prog 111 #[x.val, y.val] w fun e w' => e = .returned (.bool (decide (LikeD x.d y.d))) ∧ Below w.heap.size w w' := by
  have eS : decide (LikeD x.d y.d) = decide (x.d.kind ≠ 3 ∧ x.d.kind = y.d.kind ∧ x.d.name = y.d.name) := decide_eq_decide.2 (by unfold LikeD; exact Iff.rfl)
  rw [eS]
  clear eS
  unfold Dx.val
  obtain ⟨W, hW⟩ : ∃ W, w.alloc (.cells x.cells.toArray 71) = W := ⟨_, rfl⟩
  have X := Lib.hid (Bx.new hW)
  have hb2 : Below W.heap.size W (W.alloc (.cells y.cells.toArray 71)) := (Below.refl _ _).alloc (Nat.le_refl _) _
  obtain ⟨W2, hW2⟩ : ∃ W2, W.alloc (.cells y.cells.toArray 71) = W2 := ⟨_, rfl⟩
  have Y := Lib.hid (Bx.new hW2)
  rw [hW2] at hb2
  have X2 := Lib.hid (X.out.next hb2)
  have c0 : W2.cell? ⟨w.heap.size, 0, none⟩ = some (.int .i64 x.d.kind) := X2.out.blk.cell 0
  have c6 : W2.cell? ⟨w.heap.size, 6, none⟩ = some (.string (str x.d.name)) := X2.out.blk.cell 6
  have d0 : W2.cell? ⟨W.heap.size, 0, none⟩ = some (.int .i64 y.d.kind) := Y.out.blk.cell 0
  have d6 : W2.cell? ⟨W.heap.size, 6, none⟩ = some (.string (str y.d.name)) := Y.out.blk.cell 6
  have hss := str_same hx hy
  have HSS := Lib.hid hss
  clear hss hb2 hx hy
  generalize x.d.kind = kx at c0 ⊢
  generalize y.d.kind = ky at d0 ⊢
  by_cases h0 : kx = 3
  · have e0 : (kx != 3) = false := by simp [h0]
    have E := Lib.hid (decide_eq_false (p := kx ≠ 3 ∧ kx = ky ∧ x.d.name = y.d.name) (fun h => h.1 h0))
    clear h0
    go_enter Tryz.func111, Tryz.ntmps111
    go_wp2
    go_ret
    exact ⟨by rw [E.out]; first | rfl | simp [*], X2.out.below⟩
  · have e0 : (kx != 3) = true := by simp [h0]
    by_cases h1 : kx = ky
    · have e1 : (kx == ky) = true := by simp [h1]
      have HH1 := Lib.hid h1
      by_cases h2 : x.d.name = y.d.name
      · have e2 : ((str x.d.name).toList == (str y.d.name).toList) = true := by rw [HSS.out]; exact decide_eq_true h2
        have E := Lib.hid (decide_eq_true (p := kx ≠ 3 ∧ kx = ky ∧ x.d.name = y.d.name) ⟨h0, h1, h2⟩)
        clear h0 h1 h2
        go_enter Tryz.func111, Tryz.ntmps111
        go_wp2
        go_ret
        exact ⟨by rw [E.out]; first | rfl | simp [*], X2.out.below⟩
      · have e2 : ((str x.d.name).toList == (str y.d.name).toList) = false := by rw [HSS.out]; exact decide_eq_false h2
        have E := Lib.hid (decide_eq_false (p := kx ≠ 3 ∧ kx = ky ∧ x.d.name = y.d.name) (fun h => h2 h.2.2))
        clear h0 h1 h2
        go_enter Tryz.func111, Tryz.ntmps111
        go_wp2
        go_ret
        exact ⟨by rw [E.out]; first | rfl | simp [*], X2.out.below⟩
    · have e1 : (kx == ky) = false := by simp [h1]
      have E := Lib.hid (decide_eq_false (p := kx ≠ 3 ∧ kx = ky ∧ x.d.name = y.d.name) (fun h => h1 h.2.1))
      clear h0 h1
      go_enter Tryz.func111, Tryz.ntmps111
      go_wp2
      go_ret
      exact ⟨by rw [E.out]; first | rfl | simp [*], X2.out.below⟩
end Go.Proofs.YtlcoebenkhafcaaGreatDoor
