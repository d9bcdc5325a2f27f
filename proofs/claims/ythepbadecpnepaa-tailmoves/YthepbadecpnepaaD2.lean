/-
  What the small functions of packages span and drive answer. No condition but that lengths are lengths.
-/
import Derived.Test.YthepbadecpnepaaD1
namespace Go.Proofs.Ythepbadecpnepaa
open Go.RowKit Go.MapKept
set_option linter.unusedVariables false
set_option linter.unusedSimpArgs false
set_option maxRecDepth 100000

theorem touch_setRow (w : World) (g : Nat) (cs : Array Value) : Touch [g] w (w.setRow g cs) := ⟨rfl, rfl, rfl, by simp [World.setRow], fun k _ hk => setRow_other w g k cs (by simpa using hk)⟩
/-- copy onto a block that is known whole. -/
theorem wpList_copy_touch {P : Program} {w : World} {ops : Array Oper} {rest : List Oper} {o : Oper} {a : Act} {Q : Exit → Act → World → Prop} (hgd : o.guard = none) (d s : Operand) (dT sT : TypeId)
    (ho : o.op = .call { callee := .builtin .copy, args := #[d, s], argTypes := #[dT, sT] }) (elem : TypeId) (hu : P.underlying dT = some (.slice elem)) (hsz : (P.info? elem).map (·.size) = some 1)
    (dp sp : Option Addr) (dLen dCap sLen sCap : Nat) (hd : a.eval d = .slice dp dLen dCap) (hs : a.eval s = .slice sp sLen sCap)
    (g off : Nat) (cur : List Value) (t : TypeId) (hg : Blk w g t cur) (cs : List Value) (hn : cs.length = Nat.min sLen dLen)
    (hpos : 0 < cs.length → dp = some ⟨g, off, none⟩ ∧ ∃ ad, sp = some ad ∧ ∀ j v, cs[j]? = some v → w.cell? (ad.add j) = some v)
    (hfit : off + cs.length ≤ cur.length) (h1 : ∀ v ∈ cs, v.oneCell' = true)
    (h : ∀ w', Hid (Blk w' g t (splice cur off cs)) → Touch [g] w w' → wpList P ops Q rest (a.put o.dst (goInt cs.length)) w') :
    wpList P ops Q (o :: rest) a w := by
  by_cases h0 : cs.length = 0
  · obtain rfl : cs = [] := List.eq_nil_of_length_eq_zero h0
    refine wpList_copy_nothing hgd d s dT sT ho elem hu hsz dp sp dLen dCap sLen sCap hd hs (by simpa using hn.symm) ?_
    exact h w (show Blk _ _ _ _ by simpa [splice] using hg) (Touch.refl _ _)
  · obtain ⟨rfl, ad, rfl, hsrc⟩ := hpos (by omega)
    refine wpList_copy_own hgd d s dT sT ho elem hu hsz g off dLen dCap ad sLen sCap hd hs cur.toArray t hg cs hn hsrc (by simpa using hfit) h1 ?_
    exact h _ (show Blk _ _ _ _ by unfold Blk; simpa [splice] using setRow_heap w g _ _ t _ hg) (touch_setRow _ _ _)

theorem byteSz1 : (Try.prog.info? 5).map (·.size) = some 1 := by kernel_rfl
theorem madeB (k : Nat) : madeCells (Value.int .u8 0).cells k = (cn .u8 (List.replicate k 0)).toArray := by
  apply Array.ext
  · simp [size_madeCells, cn]
  · intro i h1 h2
    simp [madeCells, cn, Value.cells, Nat.mod_one]
theorem run_mid8 (A : Option Addr) (k cap lo hi : Nat) (h1 : lo ≤ hi) (h2 : hi ≤ cap) (L H : Int) (hL : L = (lo : Int)) (hH : H = (hi : Int)) (w : World) :
    (Instr.slice 25 (.slice A k cap) (some (.int .i64 L)) (some (.int .i64 H)) none).run Try.prog w = .ok (.slice (if cap = lo then A else A.map (·.add lo)) (hi - lo) (cap - lo)) w := by
  subst hL hH
  obtain ⟨i0, hi0, hz0, hz1, hz2⟩ := info_parts byteInfo
  simp [Instr.slice, run_underlying Try.underlying25, Instr.sliceBounds, run_sliceBound, sizeOf, typeInfo, hi0, hz1, h1, h2]
theorem Rd.mid {q : IntKind} {w : World} {A : Option Addr} {n : Nat} {l : List Nat} (h : Rd q w A n l) (k m cap : Nat) (hk : k + m ≤ n) (hc : n ≤ cap) : Rd q w (if cap = k then A else A.map (·.add k)) m ((l.drop k).take m) :=
  (h.drop k cap (by omega) hc).take m (by omega)
/-- An answer: a block of its own. -/
def GivesB (w : World) (B : Nat) (l : List Nat) (e : Ending) (w' : World) : Prop := ∃ g, e = .returned (.slice (some ⟨g, 0, none⟩) B B) ∧ w.heap.size ≤ g ∧ Blk w' g 5 (cn .u8 l) ∧ Below w.heap.size w w'
/-- .. and no error. -/
def GivesBT (w : World) (B : Nat) (l : List Nat) (e : Ending) (w' : World) : Prop := ∃ g, e = .returned (.tuple #[.slice (some ⟨g, 0, none⟩) B B, .int .i64 0]) ∧ w.heap.size ≤ g ∧ Blk w' g 5 (cn .u8 l) ∧ Below w.heap.size w w'
set_option maxHeartbeats 1000000 in
theorem longer_any (A : Option Addr) (n cap : Nat) (l : List Nat) (more : Nat) (w : World) (h : Rd .u8 w A n l) (m : Nat) (hm : n + more = m) (hm2 : m ≤ 50000000) :
    Calls Try.prog 45 #[.slice A n cap, .int .i64 (more : Int)] w (GivesB w m (l ++ List.replicate more 0)) := by
  have HR := Lib.hid h
  have hn2 : n ≤ m := by omega
  have hmz : (n : Int) + (more : Int) = (m : Int) := by omega
  have HM := Lib.hid hm
  have hlen := h.1
  obtain ⟨i0, hi, hz0, hz1, hz2⟩ := info_parts byteInfo
  have hmk : ∀ w : World, (Instr.makeSlice 25 (.int .i64 (m : Int)) (.int .i64 (m : Int))).run Try.prog w = .ok (.slice (some ⟨w.heap.size, 0, none⟩) m m) (w.alloc (.cells (cn .u8 (List.replicate m 0)).toArray 5)) := by
    intro w
    have := run_make (P := Try.prog) w 25 5 i0 _ Try.underlying25 hi hz0 .i64 .i64 (m : Int) (m : Int) (by omega) (by omega) (by rw [hz2]; omega) (by omega)
    rw [hz1, Nat.mul_one, Int.toNat_natCast, madeB] at this
    exact this
  clear hi hz0 hz1 hz2 h hm
  go_enter Try.func45, Try.ntmps45
  go_wp2_with (with_reducible refine wpList_copy_splice (o := ⟨some 13, _, _, _, _, _⟩) rfl (.tmp 11) (.tmp 12) 25 25 rfl 5 Try.underlying25 byteSz1 _ _ _ _ _ _ rfl rfl w.heap.size 0 (cn .u8 (List.replicate m 0)) 5 (heap_alloc_new _ _) (cn .u8 l) ?c1 ?c2 ?c3 ?c4 w.heap.size w ((Below.refl _ _).alloc (Nat.le_refl _) _) (Nat.le_refl _) ?c5)
  case c1 => rw [cn_length, hlen]; exact (Nat.min_eq_left hn2).symm
  case c2 =>
    intro hp
    rw [cn_length, hlen] at hp
    obtain ⟨ad, e, hlt, hc⟩ := HR.out.2 hp
    refine ⟨ad, e, fun j v hj => ?_⟩
    have hjl := (List.getElem?_eq_some_iff.1 hj).1
    rw [cn_length] at hjl
    obtain ⟨x, hx⟩ := get_some hjl
    rw [cn_get hx] at hj
    injection hj with hj
    rw [World.cell?_alloc_lt _ _ _ (by rw [block_add]; exact hlt), hc j x hx, hj]
  case c3 => rw [cn_length, cn_length, List.length_replicate, hlen]; omega
  case c4 => exact cn_one _ _
  case c5 =>
    intro w' hg hb
    go_wp2
    go_ret
    refine ⟨_, rfl, Nat.le_refl _, ?_, hb⟩
    show w'.heap[w.heap.size]? = _
    rw [hg.out]
    have e : splice (cn .u8 (List.replicate m 0)) 0 (cn .u8 l) = cn .u8 (l ++ List.replicate more 0) := by
      have := HM.out
      simp only [splice, List.take_zero, List.nil_append, cn_length, cn_append, Nat.zero_add]
      congr 1
      simp only [cn, ← List.map_drop, List.drop_replicate, hlen]
      congr 2
      omega
    rw [e]
/-- Does a stretch lie within? -/
theorem Within_yes (off m tot : Nat) (w : World) (h : off + m ≤ tot) (ht : tot ≤ 9223372036854775807) : Calls Try.prog 49 #[.int .i64 (off : Int), .int .i64 (m : Int), .int .i64 (tot : Int)] w fun e w' => e = .returned (.bool true) ∧ w = w' := by
  have z : (off : Int) ≤ (tot : Int) - (m : Int) := by omega
  go_enter Try.func49, Try.ntmps49
  go_wp2
  go_ret
  exact ⟨rfl, rfl⟩
/-- A stretch lies within so many bytes. -/
def Lies (off len : Int) (tot : Nat) : Prop := 0 ≤ off ∧ 0 ≤ len ∧ off + len ≤ tot
theorem Within_no (off len : Int) (tot : Nat) (w : World) (h : ¬ Lies off len tot) (h1 : off ≤ 9223372036854775807) (h2 : len ≤ 9223372036854775807) (ht : tot ≤ 9223372036854775807) : Calls Try.prog 49 #[.int .i64 off, .int .i64 len, .int .i64 (tot : Int)] w fun e w' => e = .returned (.bool false) ∧ w = w' := by
  unfold Lies at h
  by_cases h3 : off < 0
  · go_enter Try.func49, Try.ntmps49
    go_wp2
    go_ret
    exact ⟨rfl, rfl⟩
  · by_cases h4 : len < 0
    · go_enter Try.func49, Try.ntmps49
      go_wp2
      go_ret
      exact ⟨rfl, rfl⟩
    · have h5 : ¬ off ≤ (tot : Int) - len := by omega
      have h6 : 0 ≤ len := by omega
      go_enter Try.func49, Try.ntmps49
      go_wp2
      go_ret
      exact ⟨rfl, rfl⟩
set_option maxHeartbeats 1000000 in
theorem Cut_ok (A : Option Addr) (n cap : Nat) (l : List Nat) (off m : Nat) (w : World) (h : Rd .u8 w A n l) (hn : n ≤ 50000000) (hc : n ≤ cap) (hcm : cap ≤ 9223372036854775807) (hw : off + m ≤ n) :
    Calls Try.prog 36 #[.slice A n cap, .int .i64 (off : Int), .int .i64 (m : Int)] w (GivesBT w m ((l.drop off).take m)) := by
  have HSL := Lib.hid (h.mid off m cap hw hc)
  have hsl := run_mid8 A n cap off (off + m) (by omega) (by omega) off (off + m) rfl (by omega)
  generalize (if cap = off then A else A.map (·.add off)) = B at hsl HSL
  rw [Nat.add_sub_cancel_left] at hsl
  have e0 := fun l : List Nat => List.append_nil l
  clear h
  go_enter Try.func36, Try.ntmps36
  go_wp2_with fail
  refine (Within_yes off m n w hw (by omega)).mono ?_
  rintro e w1 ⟨rfl, rfl⟩
  go_wp2_with fail
  refine (longer_any B m _ _ 0 w HSL.out m rfl (by omega)).mono ?_
  rintro e w1 ⟨g, rfl, hg, hB, hb⟩
  rw [List.replicate_zero, e0] at hB
  have HB := Lib.hid hB
  clear hB
  go_wp2
  go_ret2
  exact ⟨g, rfl, hg, HB.out, hb⟩

/-- Where a sector ends. -/
theorem sectorEnd_any (at_ : Nat) (w : World) (h : at_ ≤ 1000000000) (m : Nat) (hm : at_ / 64 * 64 + 64 = m) : Calls Try.prog 51 #[.int .i64 (at_ : Int)] w fun e w' => e = .returned (.int .i64 (m : Int)) ∧ w = w' := by
  have z : (at_ : Int) - (at_ : Int) % 64 + 64 = (m : Int) := by omega
  clear hm
  go_enter Try.func51, Try.ntmps51
  go_wp2
  go_ret
  exact ⟨rfl, rfl⟩

/-- A letter of a name. -/
def letter (r : Int) : Bool := decide (97 ≤ r ∧ r ≤ 122 ∨ 48 ≤ r ∧ r ≤ 57 ∨ r = 95)
theorem letterRight_any (r : Int) (w : World) : Calls Try.prog 56 #[.int .i32 r] w fun e w' => e = .returned (.bool (letter r)) ∧ w = w' := by
  obtain ⟨b, hb⟩ : ∃ b, letter r = b := ⟨_, rfl⟩
  have HB := Lib.hid hb
  rw [hb]
  unfold letter at HB
  clear hb
  by_cases h1 : 97 ≤ r
  · by_cases h2 : r ≤ 122
    · obtain rfl : true = b := by rw [← HB.out]; simp; omega
      go_enter Try.func56, Try.ntmps56
      go_wp2
      go_ret
      exact ⟨rfl, rfl⟩
    · have h3 : 48 ≤ r := by omega
      have h4 : ¬ r ≤ 57 := by omega
      have h5 : (r == 95) = false := by simp; omega
      obtain rfl : false = b := by rw [← HB.out]; simp; omega
      go_enter Try.func56, Try.ntmps56
      go_wp2
      go_ret
      exact ⟨rfl, rfl⟩
  · by_cases h3 : 48 ≤ r
    · by_cases h4 : r ≤ 57
      · obtain rfl : true = b := by rw [← HB.out]; simp; omega
        go_enter Try.func56, Try.ntmps56
        go_wp2
        go_ret
        exact ⟨rfl, rfl⟩
      · by_cases h5 : r = 95
        · have h6 : (r == 95) = true := by simp [h5]
          obtain rfl : true = b := by rw [← HB.out]; simp; omega
          clear h5
          go_enter Try.func56, Try.ntmps56
          go_wp2
          go_ret
          exact ⟨rfl, rfl⟩
        · have h6 : (r == 95) = false := by simp [h5]
          obtain rfl : false = b := by rw [← HB.out]; simp; omega
          clear h5
          go_enter Try.func56, Try.ntmps56
          go_wp2
          go_ret
          exact ⟨rfl, rfl⟩
    · have h6 : (r == 95) = false := by simp; omega
      obtain rfl : false = b := by rw [← HB.out]; simp; omega
      go_enter Try.func56, Try.ntmps56
      go_wp2
      go_ret
      exact ⟨rfl, rfl⟩
/-- A partition's size is right. -/
def sizeOk (z : Int) : Bool := decide (64 ≤ z ∧ z ≤ 1048576 ∧ z % 64 = 0)
theorem sizeRight_any (z : Int) (w : World) : Calls Try.prog 54 #[.int .i64 z] w fun e w' => e = .returned (.bool (sizeOk z)) ∧ w = w' := by
  obtain ⟨b, hb⟩ : ∃ b, sizeOk z = b := ⟨_, rfl⟩
  have HB := Lib.hid hb
  rw [hb]
  unfold sizeOk at HB
  clear hb
  by_cases h1 : 64 ≤ z
  · by_cases h2 : z ≤ 1048576
    · by_cases h3 : z % 64 = 0
      · have h4 : (z % 64 == 0) = true := by simp [h3]
        obtain rfl : true = b := by rw [← HB.out]; simp; omega
        clear h3
        go_enter Try.func54, Try.ntmps54
        go_wp2
        go_ret
        exact ⟨rfl, rfl⟩
      · have h4 : (z % 64 == 0) = false := by simp [h3]
        obtain rfl : false = b := by rw [← HB.out]; simp; omega
        clear h3
        go_enter Try.func54, Try.ntmps54
        go_wp2
        go_ret
        exact ⟨rfl, rfl⟩
    · obtain rfl : false = b := by rw [← HB.out]; simp; omega
      go_enter Try.func54, Try.ntmps54
      go_wp2
      go_ret
      exact ⟨rfl, rfl⟩
  · obtain rfl : false = b := by rw [← HB.out]; simp; omega
    go_enter Try.func54, Try.ntmps54
    go_wp2
    go_ret
    exact ⟨rfl, rfl⟩
end Go.Proofs.Ythepbadecpnepaa
