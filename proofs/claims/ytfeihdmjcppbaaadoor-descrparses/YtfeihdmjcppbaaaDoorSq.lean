/-
  What span.Put, Get, Cut and Pad answer, over lists of numbers. No condition but that bytes are there and lengths small.
-/
import Derived.Test.YtfeihdmjcppbaaaDoorSp
namespace Go.Proofs.YtfeihdmjcppbaaaDoor
open Go.RowKit
set_option linter.unusedVariables false
set_option linter.unusedSimpArgs false
set_option maxRecDepth 100000

theorem gapn_lt {n to : Nat} (h : 1 ≤ to) : gapn n to < to := Nat.mod_lt _ h
theorem byteSz1 : (Tryd.prog.info? 5).map (·.size) = some 1 := by kernel_rfl
theorem madeB (k : Nat) : madeCells (Value.int .u8 0).cells k = (cn .u8 (List.replicate k 0)).toArray := by
  apply Array.ext
  · simp [size_madeCells, cn]
  · intro i h1 h2
    simp [madeCells, cn, Value.cells, Nat.mod_one]
theorem run_mid8 (A : Option Addr) (k cap lo hi : Nat) (h1 : lo ≤ hi) (h2 : hi ≤ cap) (L H : Int) (hL : L = (lo : Int)) (hH : H = (hi : Int)) (w : World) :
    (Instr.slice 25 (.slice A k cap) (some (.int .i64 L)) (some (.int .i64 H)) none).run Tryd.prog w = .ok (.slice (if cap = lo then A else A.map (·.add lo)) (hi - lo) (cap - lo)) w := by
  subst hL hH
  obtain ⟨i0, hi0, hz0, hz1, hz2⟩ := info_parts byteInfo
  simp [Instr.slice, run_underlying Tryd.underlying25, Instr.sliceBounds, run_sliceBound, sizeOf, typeInfo, hi0, hz1, h1, h2]
theorem Rd.mid {q : IntKind} {w : World} {A : Option Addr} {n : Nat} {l : List Nat} (h : Rd q w A n l) (k m cap : Nat) (hk : k + m ≤ n) (hc : n ≤ cap) : Rd q w (if cap = k then A else A.map (·.add k)) m ((l.drop k).take m) :=
  (h.drop k cap (by omega) hc).take m (by omega)
/-- An answer: a block of its own. -/
def GivesB (w : World) (B : Nat) (l : List Nat) (e : Ending) (w' : World) : Prop := ∃ g, e = .returned (.slice (some ⟨g, 0, none⟩) B B) ∧ w.heap.size ≤ g ∧ Blk w' g 5 (cn .u8 l) ∧ Below w.heap.size w w'
/-- .. and no error. -/
def GivesBT (w : World) (B : Nat) (l : List Nat) (e : Ending) (w' : World) : Prop := ∃ g, e = .returned (.tuple #[.slice (some ⟨g, 0, none⟩) B B, .int .i64 0]) ∧ w.heap.size ≤ g ∧ Blk w' g 5 (cn .u8 l) ∧ Below w.heap.size w w'
set_option maxHeartbeats 1000000 in
theorem longer_any (A : Option Addr) (n cap : Nat) (l : List Nat) (more : Nat) (w : World) (h : Rd .u8 w A n l) (m : Nat) (hm : n + more = m) (hm2 : m ≤ 50000000) :
    Calls Tryd.prog 58 #[.slice A n cap, .int .i64 (more : Int)] w (GivesB w m (l ++ List.replicate more 0)) := by
  have HR := Lib.hid h
  have hn2 : n ≤ m := by omega
  have hmz : (n : Int) + (more : Int) = (m : Int) := by omega
  have HM := Lib.hid hm
  have hlen := h.1
  obtain ⟨i0, hi, hz0, hz1, hz2⟩ := info_parts byteInfo
  have hmk : ∀ w : World, (Instr.makeSlice 25 (.int .i64 (m : Int)) (.int .i64 (m : Int))).run Tryd.prog w = .ok (.slice (some ⟨w.heap.size, 0, none⟩) m m) (w.alloc (.cells (cn .u8 (List.replicate m 0)).toArray 5)) := by
    intro w
    have := run_make (P := Tryd.prog) w 25 5 i0 _ Tryd.underlying25 hi hz0 .i64 .i64 (m : Int) (m : Int) (by omega) (by omega) (by rw [hz2]; omega) (by omega)
    rw [hz1, Nat.mul_one, Int.toNat_natCast, madeB] at this
    exact this
  clear hi hz0 hz1 hz2 h hm
  go_enter Tryd.func58, Tryd.ntmps58
  go_wp2_with (with_reducible refine wpList_copy_splice (o := ⟨some 13, _, _, _, _, _⟩) rfl (.tmp 11) (.tmp 12) 25 25 rfl 5 Tryd.underlying25 byteSz1 _ _ _ _ _ _ rfl rfl w.heap.size 0 (cn .u8 (List.replicate m 0)) 5 (heap_alloc_new _ _) (cn .u8 l) ?c1 ?c2 ?c3 ?c4 w.heap.size w ((Below.refl _ _).alloc (Nat.le_refl _) _) (Nat.le_refl _) ?c5)
  case c1 => rw [cn_length, hlen]; exact (Nat.min_eq_left hn2).symm
  case c2 =>
    intro hp
    rw [cn_length, hlen] at hp
    obtain ⟨ad, e, hlt, hc⟩ := HR.out.2 hp
    refine ⟨ad, e, fun j v hj => ?_⟩
    have hjl := (List.getElem?_eq_some_iff.1 hj).1
    rw [cn_length] at hjl
    obtain ⟨x, hx⟩ := get_some hjl
    rw [cn_get hx] at hj
    injection hj with hj
    rw [World.cell?_alloc_lt _ _ _ (by rw [block_add]; exact hlt), hc j x hx, hj]
  case c3 => rw [cn_length, cn_length, List.length_replicate, hlen]; omega
  case c4 => exact cn_one _ _
  case c5 =>
    intro w' hg hb
    go_wp2
    go_ret
    refine ⟨_, rfl, Nat.le_refl _, ?_, hb⟩
    show w'.heap[w.heap.size]? = _
    rw [hg.out]
    have e : splice (cn .u8 (List.replicate m 0)) 0 (cn .u8 l) = cn .u8 (l ++ List.replicate more 0) := by
      have := HM.out
      simp only [splice, List.take_zero, List.nil_append, cn_length, cn_append, Nat.zero_add]
      congr 1
      simp only [cn, ← List.map_drop, List.drop_replicate, hlen]
      congr 2
      omega
    rw [e]
/-- Does a stretch lie within? -/
theorem Within_yes (off m tot : Nat) (w : World) (h : off + m ≤ tot) (ht : tot ≤ 9223372036854775807) : Calls Tryd.prog 59 #[.int .i64 (off : Int), .int .i64 (m : Int), .int .i64 (tot : Int)] w fun e w' => e = .returned (.bool true) ∧ w = w' := by
  have z : (off : Int) ≤ (tot : Int) - (m : Int) := by omega
  go_enter Tryd.func59, Tryd.ntmps59
  go_wp2
  go_ret
  exact ⟨rfl, rfl⟩
/-- A stretch lies within so many bytes. -/
def Lies (off len : Int) (tot : Nat) : Prop := 0 ≤ off ∧ 0 ≤ len ∧ off + len ≤ tot
theorem Within_no (off len : Int) (tot : Nat) (w : World) (h : ¬ Lies off len tot) (h1 : off ≤ 9223372036854775807) (h2 : len ≤ 9223372036854775807) (ht : tot ≤ 9223372036854775807) : Calls Tryd.prog 59 #[.int .i64 off, .int .i64 len, .int .i64 (tot : Int)] w fun e w' => e = .returned (.bool false) ∧ w = w' := by
  unfold Lies at h
  by_cases h3 : off < 0
  · go_enter Tryd.func59, Tryd.ntmps59
    go_wp2
    go_ret
    exact ⟨rfl, rfl⟩
  · by_cases h4 : len < 0
    · go_enter Tryd.func59, Tryd.ntmps59
      go_wp2
      go_ret
      exact ⟨rfl, rfl⟩
    · have h5 : ¬ off ≤ (tot : Int) - len := by omega
      have h6 : 0 ≤ len := by omega
      go_enter Tryd.func59, Tryd.ntmps59
      go_wp2
      go_ret
      exact ⟨rfl, rfl⟩
set_option maxHeartbeats 1000000 in
theorem Cut_ok (A : Option Addr) (n cap : Nat) (l : List Nat) (off m : Nat) (w : World) (h : Rd .u8 w A n l) (hn : n ≤ 50000000) (hc : n ≤ cap) (hcm : cap ≤ 9223372036854775807) (hw : off + m ≤ n) :
    Calls Tryd.prog 48 #[.slice A n cap, .int .i64 (off : Int), .int .i64 (m : Int)] w (GivesBT w m ((l.drop off).take m)) := by
  have HSL := Lib.hid (h.mid off m cap hw hc)
  have hsl := run_mid8 A n cap off (off + m) (by omega) (by omega) off (off + m) rfl (by omega)
  generalize (if cap = off then A else A.map (·.add off)) = B at hsl HSL
  rw [Nat.add_sub_cancel_left] at hsl
  have e0 := fun l : List Nat => List.append_nil l
  clear h
  go_enter Tryd.func48, Tryd.ntmps48
  go_wp2_with fail
  refine (Within_yes off m n w hw (by omega)).mono ?_
  rintro e w1 ⟨rfl, rfl⟩
  go_wp2_with fail
  refine (longer_any B m _ _ 0 w HSL.out m rfl (by omega)).mono ?_
  rintro e w1 ⟨g, rfl, hg, hB, hb⟩
  rw [List.replicate_zero, e0] at hB
  have HB := Lib.hid hB
  clear hB
  go_wp2
  go_ret2
  exact ⟨g, rfl, hg, HB.out, hb⟩

theorem toRight_yes (to : Nat) (w : World) (h1 : 1 ≤ to) (h2 : to ≤ 65536) : Calls Tryd.prog 68 #[.int .i64 (to : Int)] w fun e w' => e = .returned (.bool true) ∧ w = w' := by
  have z1 : (1 : Int) ≤ (to : Int) := by omega
  have z2 : (to : Int) ≤ 65536 := by omega
  go_enter Tryd.func68, Tryd.ntmps68
  go_wp2
  go_ret
  exact ⟨rfl, rfl⟩
theorem gap_any (n to : Nat) (w : World) (h0 : n ≤ 50000000) (h1 : 1 ≤ to) (h2 : to ≤ 65536) : Calls Tryd.prog 69 #[.int .i64 (n : Int), .int .i64 (to : Int)] w fun e w' => e = .returned (.int .i64 (gapn n to : Nat)) ∧ w = w' := by
  obtain ⟨q, hq⟩ : ∃ q, n % to = q := ⟨_, rfl⟩
  have hqz : (n : Int).tmod (to : Int) = (q : Int) := by rw [Int.tmod_eq_emod_of_nonneg (by omega), ← hq]; rfl
  have hql : q < to := by rw [← hq]; exact Nat.mod_lt _ (by omega)
  have hto : ¬ (to : Int) = 0 := by omega
  unfold gapn
  rw [hq]
  clear hq
  by_cases h : q = 0
  · subst h
    rw [Nat.sub_zero, Nat.mod_self]
    have e0 : ((0 : Nat) : Int) = 0 := rfl
    rw [e0] at hqz
    go_enter Tryd.func69, Tryd.ntmps69
    go_wp2
    go_ret
    exact ⟨rfl, rfl⟩
  · have e1 : ((q : Int) == 0) = false := beq_eq_false_iff_ne.2 (by omega)
    obtain ⟨r, hr⟩ : ∃ r, (to - q) % to = r := ⟨_, rfl⟩
    have hrz : (to : Int) - (q : Int) = (r : Int) := by rw [← hr, Nat.mod_eq_of_lt (by omega)]; omega
    rw [hr]
    clear hr
    go_enter Tryd.func69, Tryd.ntmps69
    go_wp2
    go_ret
    exact ⟨rfl, rfl⟩
set_option maxHeartbeats 1000000 in
theorem Pad_any (A : Option Addr) (n cap : Nat) (l : List Nat) (to : Nat) (w : World) (h : Rd .u8 w A n l) (hn : n ≤ 1000000) (h1 : 1 ≤ to) (h2 : to ≤ 65536) (k m : Nat) (hk : gapn n to = k) (hm : n + k = m) :
    Calls Tryd.prog 56 #[.slice A n cap, .int .i64 (to : Int)] w (GivesBT w m (l ++ List.replicate k 0)) := by
  have HR := Lib.hid h
  have hkl : k < to := by rw [← hk]; exact gapn_lt h1
  have HK := Lib.hid hk
  have HM := Lib.hid hm
  clear h hk hm
  go_enter Tryd.func56, Tryd.ntmps56
  go_wp2_with fail
  refine (toRight_yes to w h1 h2).mono ?_
  rintro e w1 ⟨rfl, rfl⟩
  go_wp2_with fail
  refine (gap_any n to w (by omega) h1 h2).mono ?_
  rintro e w1 ⟨rfl, rfl⟩
  rw [HK.out]
  go_wp2_with fail
  refine (longer_any A n cap l k w HR.out m HM.out (by have := HM.out; omega)).mono ?_
  rintro e w1 ⟨g, rfl, hg, hB, hb⟩
  have HB := Lib.hid hB
  clear hB
  go_wp2
  go_ret2
  exact ⟨g, rfl, hg, HB.out, hb⟩

def ints (l : List Nat) : List Int := l.map fun (x : Nat) => (x : Int)
theorem ints_bytes {l : List Nat} (h : Fit 256 l) : Go.Proofs.YtfeihdmjcppbaaaDoorSp.AreBytes (ints l) := by
  intro x hx
  obtain ⟨y, hy, rfl⟩ := List.mem_map.1 hx
  have := h y hy
  omega
theorem Rd.seg {w : World} {A : Option Addr} {n : Nat} {l : List Nat} (h : Rd .u8 w A n l) (hf : Fit 256 l) : Go.Proofs.YtfeihdmjcppbaaaDoorSp.Seg w A n (ints l) :=
  ⟨by simp [ints, h.1], ints_bytes hf, fun hn => by
    obtain ⟨ad, e, hlt, hc⟩ := h.2 hn
    refine ⟨ad, e, hlt, fun j hj => ?_⟩
    obtain ⟨x, hx⟩ := get_some (l := l) (i := j) (by rw [h.1]; exact hj)
    rw [hc j x hx]
    simp [ints, List.getD, hx]⟩
theorem own_blk {w : World} {g : Nat} {l : List Nat} (h : Go.Proofs.YtfeihdmjcppbaaaDoorSp.Own w g (ints l)) : Blk w g 5 (cn .u8 l) := by
  have := h.2
  have e : Go.Proofs.YtfeihdmjcppbaaaDoorSp.cellsOfBytes (ints l) = cn .u8 l := by simp [Go.Proofs.YtfeihdmjcppbaaaDoorSp.cellsOfBytes, ints, cn, Function.comp_def]
  rw [e] at this
  exact this
theorem be_ints : ∀ (s x : Nat), Go.Proofs.YtfeihdmjcppbaaaDoorSp.be s (x : Int) = ints (be s x)
  | 0, x => rfl
  | s + 1, x => by
    have ih := be_ints s (x / 256)
    have e : Go.Proofs.YtfeihdmjcppbaaaDoorSp.be (s + 1) (x : Int) = Go.Proofs.YtfeihdmjcppbaaaDoorSp.be s ((x / 256 : Nat) : Int) ++ [((x % 256 : Nat) : Int)] := by
      simp only [Go.Proofs.YtfeihdmjcppbaaaDoorSp.be, List.range_succ, List.map_append, List.map_cons, List.map_nil]
      congr 1
      · apply List.map_congr_left
        intro j hj
        have hj := List.mem_range.1 hj
        obtain ⟨k, hk⟩ : ∃ k, s - 1 - j = k := ⟨_, rfl⟩
        have hk2 : s + 1 - 1 - j = k + 1 := by omega
        rw [hk, hk2, show 8 * (k + 1) = 8 + 8 * k by omega, Int.pow_add, ← Int.ediv_ediv_of_nonneg (by decide)]
        congr 1
      · simp
    rw [e, ih, be]
    simp [ints]
theorem num_ints (l : List Nat) : Go.Proofs.YtfeihdmjcppbaaaDoorSp.num (ints l) = ((num l : Nat) : Int) := by
  have key : ∀ (l : List Nat) (a : Nat), (ints l).foldl (fun n x => n * 256 + x) (a : Int) = ((l.foldl (fun n x => n * 256 + x) a : Nat) : Int) := by
    intro l
    induction l with
    | nil => intro a; simp [ints]
    | cons x l ih =>
      intro a
      have e : ints (x :: l) = (x : Int) :: ints l := rfl
      rw [e, List.foldl_cons, List.foldl_cons, show (a : Int) * 256 + (x : Int) = ((a * 256 + x : Nat) : Int) by omega, ih]
  exact key l 0
theorem shr_zero {s x : Nat} (h1 : 1 ≤ s) (h2 : s ≤ 8) (hx : x < 256 ^ s) : ((x : Int) / 2 ^ (8 * (s : Int)).toNat != 0) = false := by
  have e : (8 * (s : Int)).toNat = 8 * s := by omega
  have e2 : (2 : Int) ^ (8 * s) = ((256 ^ s : Nat) : Int) := by rw [show (256 : Nat) = 2 ^ 8 from rfl, ← Nat.pow_mul, Int.natCast_pow]; rfl
  rw [e, e2, ← Int.natCast_ediv, Nat.div_eq_of_lt hx]
  rfl
/-- A number put behind bytes. -/
theorem Put_n (A : Option Addr) (k cap : Nat) (l : List Nat) (s x : Nat) (z y : Int) (hz : z = s) (hy : y = x) (h1 : 1 ≤ s) (h2 : s ≤ 8) (hx : x < 256 ^ s) (hx2 : x ≤ 9223372036854775807) (w : World) (h : Rd .u8 w A k l) (hf : Fit 256 l) (hk : k ≤ 90000) (m : Nat) (hm : m = k + s) :
    Calls Tryd.prog 45 #[.slice A k cap, .int .i64 z, .int .i64 y] w fun e w' => e = .returned (.tuple #[.slice (some ⟨w.heap.size, 0, none⟩) m m, .int .i64 0]) ∧ Blk w' w.heap.size 5 (cn .u8 (l ++ be s x)) ∧ Below w.heap.size w w' := by
  subst hz hy
  refine (Go.Proofs.YtfeihdmjcppbaaaDoorSp.Put_ok A k cap (ints l) s x w (h.seg hf) hk (by omega) (by omega) (by omega) (by omega) (shr_zero h1 h2 hx) m (by omega)).mono ?_
  rintro e w' ⟨he, hl, ho, hb⟩
  refine ⟨he, own_blk (l := l ++ be s x) ?_, hb⟩
  have e1 : ints l ++ Go.Proofs.YtfeihdmjcppbaaaDoorSp.be ((s : Int)).toNat (x : Int) = ints (l ++ be s x) := by
    rw [Int.toNat_natCast, be_ints]; simp [ints]
  rw [e1] at ho
  exact ho
theorem ints_sl (l : List Nat) (o s : Nat) : ((ints l).drop ((o : Int)).toNat).take ((s : Int)).toNat = ints (sl l o s) := by
  rw [Int.toNat_natCast, Int.toNat_natCast]
  simp [ints, sl, List.map_take, List.map_drop]
/-- A number got, if it lies within and is no greater than an int. -/
theorem Get_ok (A : Option Addr) (n cap : Nat) (l : List Nat) (o s : Nat) (z y : Int) (hz : z = o) (hy : y = s) (h1 : 1 ≤ s) (h2 : s ≤ 8) (w : World) (h : Rd .u8 w A n l) (hf : Fit 256 l) (hn : n ≤ 100000) (hc : n ≤ cap) (hm : cap ≤ 9223372036854775807) (hw : o + s ≤ n) (hb : num (sl l o s) ≤ 9223372036854775807) :
    Calls Tryd.prog 47 #[.slice A n cap, .int .i64 z, .int .i64 y] w fun e w' => e = .returned (.tuple #[.int .i64 ((num (sl l o s) : Nat) : Int), .int .i64 0]) ∧ w = w' := by
  subst hz hy
  have := Go.Proofs.YtfeihdmjcppbaaaDoorSp.Get_num A n cap (ints l) o s w (h.seg hf) hn hc (by unfold maxLen; omega) (by omega) (by omega) ⟨by omega, by omega, by omega, by omega⟩
  rw [ints_sl, num_ints] at this
  have e2 : Go.Proofs.YtfeihdmjcppbaaaDoorSp.getEnd ((num (sl l o s) : Nat) : Int) = .tuple #[.int .i64 ((num (sl l o s) : Nat) : Int), .int .i64 0] := by
    unfold Go.Proofs.YtfeihdmjcppbaaaDoorSp.getEnd
    rw [if_neg (by omega)]
  rw [e2] at this
  exact this
theorem Get_big (A : Option Addr) (n cap : Nat) (l : List Nat) (o s : Nat) (z y : Int) (hz : z = o) (hy : y = s) (h1 : 1 ≤ s) (h2 : s ≤ 8) (w : World) (h : Rd .u8 w A n l) (hf : Fit 256 l) (hn : n ≤ 100000) (hc : n ≤ cap) (hm : cap ≤ 9223372036854775807) (hw : o + s ≤ n) (hb : ¬ num (sl l o s) ≤ 9223372036854775807) :
    Calls Tryd.prog 47 #[.slice A n cap, .int .i64 z, .int .i64 y] w fun e w' => e = .returned (.tuple #[.int .i64 0, .int .i64 11]) ∧ w = w' := by
  subst hz hy
  have := Go.Proofs.YtfeihdmjcppbaaaDoorSp.Get_num A n cap (ints l) o s w (h.seg hf) hn hc (by unfold maxLen; omega) (by omega) (by omega) ⟨by omega, by omega, by omega, by omega⟩
  rw [ints_sl, num_ints] at this
  have e2 : Go.Proofs.YtfeihdmjcppbaaaDoorSp.getEnd ((num (sl l o s) : Nat) : Int) = .tuple #[.int .i64 0, .int .i64 11] := by
    unfold Go.Proofs.YtfeihdmjcppbaaaDoorSp.getEnd
    rw [if_pos (by omega)]
  rw [e2] at this
  exact this
theorem Get_out (A : Option Addr) (n cap : Nat) (o s : Nat) (z y : Int) (hz : z = o) (hy : y = s) (h1 : 1 ≤ s) (h2 : s ≤ 8) (w : World) (hn : n ≤ 100000) (ho : o ≤ 9223372036854775807) (hw : ¬ o + s ≤ n) :
    Calls Tryd.prog 47 #[.slice A n cap, .int .i64 z, .int .i64 y] w fun e w' => e = .returned (.tuple #[.int .i64 0, .int .i64 10]) ∧ w = w' := by
  subst hz hy
  exact Go.Proofs.YtfeihdmjcppbaaaDoorSp.Get_end A n cap o s w (by omega) (by omega) hn (by omega) (fun h => hw (by have := h.2.2.2; omega))
theorem Cut_no (A : Option Addr) (n cap : Nat) (o : Nat) (m : Nat) (z y : Int) (hz : z = o) (hy : y = m) (w : World) (hn : n ≤ 100000) (ho : o ≤ 9223372036854775807) (hm : m ≤ 9223372036854775807) (hw : ¬ o + m ≤ n) :
    Calls Tryd.prog 48 #[.slice A n cap, .int .i64 z, .int .i64 y] w fun e w' => e = .returned (.tuple #[.slice none 0 0, .int .i64 10]) ∧ w = w' := by
  subst hz hy
  go_enter Tryd.func48, Tryd.ntmps48
  go_wp2_with fail
  refine (Within_no o m n w (by unfold Lies; omega) (by omega) (by omega) (by omega)).mono ?_
  rintro e w1 ⟨rfl, rfl⟩
  go_wp2
  go_ret2
  exact ⟨rfl, rfl⟩
end Go.Proofs.YtfeihdmjcppbaaaDoor
