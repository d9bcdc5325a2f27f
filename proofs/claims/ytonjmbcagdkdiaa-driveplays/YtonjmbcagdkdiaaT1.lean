/-
  The twin as it lies in memory; where a partition of a name stands in it. No condition.
-/
import Derived.Test.YtonjmbcagdkdiaaD16
import Derived.Test.YtonjmbcagdkdiaaLTwice
namespace Go.Proofs.Ytonjmbcagdkdiaa
open Go.RowKit Go.MapKept
set_option linter.unusedVariables false
set_option linter.unusedSimpArgs false
set_option maxRecDepth 100000

/-- A partition of the twin. -/
structure TRow where
  nm : ByteArray
  l : List Nat
  sb : List Bool
  bb : Nat
  mm : Nat
deriving Inhabited
structure Tv where
  t : Nat
  rows : List TRow
  pa : Option Addr
  pc : Nat
  ba : Option Addr
  bc : Nat
  sa : Option Addr
  sc : Nat
  left : Int
  armed : Bool
  ka : Option Addr
  kc : Nat
  keep : List Bool
  off : Bool
  count : Int
  told : Int
def Tv.own (T : Tv) : List Nat := T.t :: T.rows.flatMap fun p => [p.bb, p.mm]
def Tv.cells (T : Tv) : List Value := [.slice T.pa T.rows.length T.pc, .slice T.ba T.rows.length T.bc, .slice T.sa T.rows.length T.sc, .int .i64 T.left, .bool T.armed, .slice T.ka T.keep.length T.kc, .bool T.off, .int .i64 T.count, .int .i64 T.told]
def Tv.ps (T : Tv) : List (ByteArray × Int) := T.rows.map fun p => (p.nm, (p.l.length : Int))
def TRow.bv (p : TRow) : Value := .slice (some ⟨p.bb, 0, none⟩) p.l.length p.l.length
def TRow.sv (p : TRow) : Value := .slice (some ⟨p.mm, 0, none⟩) p.sb.length p.sb.length
/-- The twin T lies in memory. -/
structure Tw (w : World) (T : Tv) : Prop where
  blk : Blk w T.t 34 T.cells
  parts : Rs w T.pa (pcells T.ps)
  tabB : Rs w T.ba (T.rows.map TRow.bv)
  tabS : Rs w T.sa (T.rows.map TRow.sv)
  bytes : ∀ p ∈ T.rows, Blk w p.bb 5 (cn .u8 p.l)
  bads : ∀ p ∈ T.rows, Blk w p.mm 4 (bcells p.sb)
  kept : Rs w T.ka (bcells T.keep)
  names : (T.rows.map (·.nm)).Nodup
  apart : T.own.Nodup
  size : ∀ p ∈ T.rows, p.l.length ≤ 1000000 ∧ p.sb.length = p.l.length / 64 ∧ p.l.length % 64 = 0
  few : T.rows.length ≤ 16
  fit : ∀ p ∈ T.rows, Fit 256 p.l
  partsOut : ∀ ad, T.pa = some ad → ad.block ∉ T.own ∧ ad.block < w.heap.size
  tabBOut : ∀ ad, T.ba = some ad → ad.block ∉ T.own ∧ ad.block < w.heap.size
  tabSOut : ∀ ad, T.sa = some ad → ad.block ∉ T.own ∧ ad.block < w.heap.size
  keptOut : 0 < T.keep.length → ∀ ad, T.ka = some ad → ad.block ∉ T.own ∧ ad.block < w.heap.size
  kcap : T.keep.length ≤ T.kc ∧ T.kc ≤ 9223372036854775807
/-- Block g is none of the twin's. -/
def Tv.far (T : Tv) (g : Nat) : Prop := g ∉ T.own ∧ (∀ ad, T.pa = some ad → ad.block ≠ g) ∧ (∀ ad, T.ba = some ad → ad.block ≠ g) ∧ (∀ ad, T.sa = some ad → ad.block ≠ g) ∧ (0 < T.keep.length → ∀ ad, T.ka = some ad → ad.block ≠ g)
theorem tw_own_t (T : Tv) : T.t ∈ T.own := by simp [Tv.own]
theorem tw_own_bb {T : Tv} {p : TRow} (h : p ∈ T.rows) : p.bb ∈ T.own := by
  simp only [Tv.own, List.mem_cons, List.mem_flatMap]
  exact .inr ⟨p, h, by simp⟩
theorem tw_own_mm {T : Tv} {p : TRow} (h : p ∈ T.rows) : p.mm ∈ T.own := by
  simp only [Tv.own, List.mem_cons, List.mem_flatMap]
  exact .inr ⟨p, h, by simp⟩
section
variable {F : List Nat} {w w' : World} {T : Tv}
theorem Tw.lt (h : Tw w T) : ∀ b ∈ T.own, b < w.heap.size := by
  intro b hb
  simp only [Tv.own, List.mem_cons, List.mem_flatMap] at hb
  rcases hb with rfl | ⟨p, hp, hb⟩
  · exact h.blk.lt
  · simp at hb
    rcases hb with rfl | rfl
    · exact (h.bytes p hp).lt
    · exact (h.bads p hp).lt
theorem Tw.touchFar (h : Tw w T) (t : Touch F w w') (hF : ∀ g ∈ F, T.far g) : Tw w' T where
  blk := h.blk.touch t (fun hb => (hF _ hb).1 (tw_own_t T))
  parts := h.parts.touch t (fun ad e hm => (hF _ hm).2.1 ad e rfl)
  tabB := h.tabB.touch t (fun ad e hm => (hF _ hm).2.2.1 ad e rfl)
  tabS := h.tabS.touch t (fun ad e hm => (hF _ hm).2.2.2.1 ad e rfl)
  bytes p hp := (h.bytes p hp).touch t (fun hb => (hF _ hb).1 (tw_own_bb hp))
  bads p hp := (h.bads p hp).touch t (fun hb => (hF _ hb).1 (tw_own_mm hp))
  kept := by
    rcases Nat.eq_zero_or_pos T.keep.length with h0 | h0
    · have e : T.keep = [] := List.eq_nil_of_length_eq_zero h0
      rw [e]
      exact fun hn => absurd hn (Nat.lt_irrefl _)
    · exact h.kept.touch t (fun ad e hm => (hF _ hm).2.2.2.2 h0 ad e rfl)
  names := h.names
  apart := h.apart
  size := h.size
  few := h.few
  fit := h.fit
  partsOut ad e := ⟨(h.partsOut ad e).1, Nat.lt_of_lt_of_le (h.partsOut ad e).2 t.size⟩
  tabBOut ad e := ⟨(h.tabBOut ad e).1, Nat.lt_of_lt_of_le (h.tabBOut ad e).2 t.size⟩
  tabSOut ad e := ⟨(h.tabSOut ad e).1, Nat.lt_of_lt_of_le (h.tabSOut ad e).2 t.size⟩
  keptOut h0 ad e := ⟨(h.keptOut h0 ad e).1, Nat.lt_of_lt_of_le (h.keptOut h0 ad e).2 t.size⟩
  kcap := h.kcap
theorem Tw.below (h : Tw w T) (hb : Below w.heap.size w w') : Tw w' T := h.touchFar (Touch.of_below [] hb) (fun g hg => by cases hg)
theorem Tw.far_new (h : Tw w T) {g : Nat} (hg : w.heap.size ≤ g) : T.far g :=
  ⟨fun hm => by have := h.lt g hm; omega, fun ad e => by have := (h.partsOut ad e).2; omega, fun ad e => by have := (h.tabBOut ad e).2; omega, fun ad e => by have := (h.tabSOut ad e).2; omega, fun h0 ad e => by have := (h.keptOut h0 ad e).2; omega⟩
end
theorem Tv.ps_length (T : Tv) : T.ps.length = T.rows.length := by simp [Tv.ps]
/-- The number of a partition of a name. -/
def PartAt (T : Tv) (s : ByteArray) (r : Int) : Prop := (r = -1 ∧ ∀ p ∈ T.rows, p.nm ≠ s) ∨ ∃ (i : Nat) (p : TRow), r = i ∧ T.rows[i]? = some p ∧ p.nm = s
set_option maxHeartbeats 1000000 in
theorem tpart_any (T : Tv) (w : World) (h : Tw w T) (s : ByteArray) :
    Calls Try.prog 25 #[.pointer (some ⟨T.t, 0, none⟩), .string s] w fun e w' => ∃ r, e = .returned (.int .i64 r) ∧ PartAt T s r ∧ Below w.heap.size w w' := by
  have HT := Lib.hid h
  have c0 := h.blk.cell 0
  rw [show T.cells[0]? = some (.slice T.pa T.rows.length T.pc) from rfl] at c0
  obtain ⟨n, hn⟩ : ∃ n, T.rows.length = n := ⟨_, rfl⟩
  have hn16 : n ≤ 16 := by rw [← hn]; exact h.few
  rw [hn] at c0
  have HN := Lib.hid hn
  clear h hn
  go_enter Try.func25, Try.ntmps25
  go_wp2
  go_loopw [12] (fun i wr => ∃ k : Nat, i = .int .i64 (k : Int) ∧ k ≤ n ∧ Hid (∀ j p, T.rows[j]? = some p → j < k → p.nm ≠ s) ∧ Hid (Below w.heap.size w wr)) (fun i _ => n - (intOf i).toNat)
  case atStart => exact ⟨0, rfl, Nat.zero_le _, (fun j p _ hj => absurd hj (Nat.not_lt_zero _)), Below.refl _ _⟩
  case round =>
    obtain ⟨k, rfl, hkn, HA, HB⟩ := hrel
    by_cases hlt : k < n
    · have zlt : (k : Int) < (n : Int) := by omega
      obtain ⟨p, hp⟩ : ∃ p, T.rows[k]? = some p := ⟨_, List.getElem?_eq_getElem (by rw [HN.out]; exact hlt)⟩
      have hp2 : T.ps[k]? = some (p.nm, (p.l.length : Int)) := by simp [Tv.ps, hp]
      obtain ⟨ad, e, c1, c2⟩ := (HT.out.parts.below HB.out).part hp2
      rw [e] at c0 ⊢
      have HP := Lib.hid hp
      have HB2 := Lib.hid (HB.out.alloc HB.out.size (.cells #[.string p.nm, .int .i64 (p.l.length : Int)] 36))
      obtain ⟨nm, hnm⟩ : ∃ nm, p.nm = nm := ⟨_, rfl⟩
      obtain ⟨z, hz⟩ : ∃ z, (p.l.length : Int) = z := ⟨_, rfl⟩
      simp only [hnm, hz] at c1 c2 HB2
      clear hp hp2 e hz
      by_cases hs : nm = s
      · have q : (nm.toList == s.toList) = true := by rw [str_eq, decide_eq_true hs]
        rw [hs] at HB2
        go_wp2
        go_ret
        exact ⟨k, rfl, .inr ⟨k, p, rfl, HP.out, hnm.trans hs⟩, HB2.out⟩
      · have q : (nm.toList == s.toList) = false := by rw [str_eq, decide_eq_false hs]
        go_wp2
        go_roundw
        case rel =>
          refine ⟨k + 1, by go_num, by omega, fun j p' hj hlt => ?_, HB2.out⟩
          by_cases e : j = k
          · subst e
            rw [HP.out] at hj
            injection hj with hj
            rw [← hj, hnm]; exact hs
          · exact HA.out j p' hj (by omega)
        case measure => simp [intOf]; omega
    · have hno : Hid (∀ p ∈ T.rows, p.nm ≠ s) := fun p hp => by
        obtain ⟨j, hj⟩ := List.mem_iff_getElem?.1 hp
        exact HA.out j p hj (by have := (List.getElem?_eq_some_iff.1 hj).1; have := HN.out; omega)
      go_wp2
      go_ret
      exact ⟨-1, rfl, .inl ⟨rfl, hno.out⟩, HB.out⟩
/-- Names stand once. -/
theorem PartAt.is {T : Tv} {s : ByteArray} {r : Int} (h : PartAt T s r) (hn : (T.rows.map (·.nm)).Nodup) {i : Nat} {p : TRow} (hi : T.rows[i]? = some p) (hs : p.nm = s) : r = i := by
  rcases h with ⟨_, h⟩ | ⟨j, q, rfl, hj, hq⟩
  · exact absurd hs (h p (List.mem_of_getElem? hi))
  · have hil := (List.getElem?_eq_some_iff.1 hi).1
    have hjl := (List.getElem?_eq_some_iff.1 hj).1
    have e1 : (T.rows.map (·.nm))[i]? = some s := by simp [hi, hs]
    have e2 : (T.rows.map (·.nm))[j]? = some s := by simp [hj, hq]
    have := (List.getElem?_inj (by simpa using hil) hn).1 (e1.trans e2.symm)
    omega
theorem PartAt.none {T : Tv} {s : ByteArray} {r : Int} (h : PartAt T s r) (hn : ∀ p ∈ T.rows, p.nm ≠ s) : r = -1 := by
  rcases h with ⟨h, _⟩ | ⟨j, q, rfl, hj, hq⟩
  · exact h
  · exact absurd hq (hn q (List.mem_of_getElem? hj))
/-- Whether a piece lies in a partition. -/
theorem tin_any (T : Tv) (w : World) (h : Tw w T) (i : Nat) (p : TRow) (hi : T.rows[i]? = some p) (off m : Int) (ho : I64 off) (hm : I64 m) (b : Bool) (hb : b = true ↔ Lies off m p.l.length) :
    Calls Try.prog 28 #[.pointer (some ⟨T.t, 0, none⟩), .int .i64 (i : Int), .int .i64 off, .int .i64 m] w fun e w' => e = .returned (.bool b) ∧ w = w' := by
  have hp := List.mem_of_getElem? hi
  have c1 := h.blk.cell 1
  rw [show T.cells[1]? = some (.slice T.ba T.rows.length T.bc) from rfl] at c1
  have hil := (List.getElem?_eq_some_iff.1 hi).1
  obtain ⟨ad, e, _, hc⟩ := h.tabB (by simp; omega)
  have c2 := hc i p.bv (by simp [hi])
  rw [e] at c1
  unfold TRow.bv at c2
  obtain ⟨n, hn⟩ : ∃ n, T.rows.length = n := ⟨_, rfl⟩
  obtain ⟨k, hk⟩ : ∃ k, p.l.length = k := ⟨_, rfl⟩
  have hn16 : n ≤ 16 := by rw [← hn]; exact h.few
  have hk16 : k ≤ 1000000 := by rw [← hk]; exact (h.size p hp).1
  rw [hn] at c1 hil
  rw [hk] at c2 hb
  have zil : (i : Int) < (n : Int) := by omega
  have hd : b = (decide (0 ≤ off) && decide (0 ≤ m) && decide (off ≤ (k : Int)) && decide (m ≤ (k : Int) - off)) := by
    rw [Bool.eq_iff_iff, hb]
    simp only [Bool.and_eq_true, decide_eq_true_eq, Lies]
    omega
  rw [hd]
  unfold I64 at ho hm
  clear h hi hp e hc hn hk hd hb
  go_enter Try.func28, Try.ntmps28
  by_cases h1 : 0 ≤ off
  · by_cases h2 : 0 ≤ m
    · by_cases h3 : off ≤ (k : Int)
      · by_cases h4 : m ≤ (k : Int) - off
        · go_wp2
          go_ret
          exact ⟨by simp [h1, h2, h3, h4], rfl⟩
        · go_wp2
          go_ret
          exact ⟨by simp; omega, rfl⟩
      · go_wp2
        go_ret
        exact ⟨by simp; omega, rfl⟩
    · go_wp2
      go_ret
      exact ⟨by simp; omega, rfl⟩
  · go_wp2
    go_ret
    exact ⟨by simp; omega, rfl⟩
end Go.Proofs.Ytonjmbcagdkdiaa
