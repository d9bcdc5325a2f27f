/-
  The document's read: what it answers, and memory on the way. No condition but that bytes fit.
-/
import Derived.Test.YtfeihdmjcppbaaaDoorF1
import Derived.Test.YtfeihdmjcppbaaaDoorE2
import Derived.Test.YtfeihdmjcppbaaaDoorQ2
namespace Go.Proofs.YtfeihdmjcppbaaaDoor
open Go.RowKit
set_option linter.unusedVariables false
set_option linter.unusedSimpArgs false
set_option maxRecDepth 100000

theorem RGet_q (A : Option Addr) (n cap : Nat) (l : List Nat) (w : World) (hb : Bs w A n cap l) (a s : Nat) (z y : Int) (hz : z = a) (hy : y = s) (hs : s ≤ 8) (has : a + s ≤ n) (hn : n ≤ 1000000) :
    Calls Tryd.prog 36 #[.slice A n cap, .int .i64 z, .int .i64 y] w fun e w' => e = .returned (.int .i64 (rget (sl l a s))) ∧ w = w' := (RGet_any A n cap l w hb a s z y hz hy hs has hn).mono fun e w' h => ⟨h.1, h.2.symm⟩
theorem rget_cases {s : List Nat} : rget s = (num s : Int) ∨ (rget s = -1 ∧ 18014398509481984 < num s) := by
  unfold rget
  by_cases h : 18014398509481984 < num (s.take (s.length - 1))
  · rw [if_pos h]
    refine .inr ⟨rfl, Nat.lt_of_lt_of_le h ?_⟩
    have := num_take_mono s 1 (s.length - 1)
    rw [List.take_of_length_le (i := s.length - 1 + 1) (by omega)] at this
    exact this
  · rw [if_neg h]; exact .inl rfl
/-- A text of the bytes, as it is cut out. -/
def rsl (A : Option Addr) (cap : Nat) (l : List Nat) (i : Nat) : Sl := ⟨if cap = en l i then A else A.map (·.add (en l i)), ln l i, cap - en l i⟩
def rx0 (k : Nat) (l : List Nat) : Dx := ⟨⟨k, rget (sl l 0 4), rget (sl l 4 8), rget (sl l 12 4), rget (sl l 16 8), rget (sl l 24 4), [], [], [], [], []⟩, nilS, nilS, nilS, nilS⟩
def rx5 (k : Nat) (l : List Nat) (A : Option Addr) (cap : Nat) : Dx := ⟨⟨k, rget (sl l 0 4), rget (sl l 4 8), rget (sl l 12 4), rget (sl l 16 8), rget (sl l 24 4), sl l (en l 0) (ln l 0), sl l (en l 1) (ln l 1), sl l (en l 2) (ln l 2), sl l (en l 3) (ln l 3), sl l (en l 4) (ln l 4)⟩, rsl A cap l 1, rsl A cap l 2, rsl A cap l 3, rsl A cap l 4⟩
theorem rx5_said {k : Nat} {l : List Nat} {A : Option Addr} {cap : Nat} (hf : Fit 256 l) (h1 : rget (sl l 4 8) = (num (sl l 4 8) : Int)) (h2 : rget (sl l 16 8) = (num (sl l 16 8) : Int)) : (rx5 k l A cap).d = said k l := by
  have l4 : ∀ o, rget (sl l o 4) = (num (sl l o 4) : Int) := fun o => rget_small (sl_fit hf o 4) (by unfold sl; rw [List.length_take]; omega)
  unfold rx5 said
  simp only [l4, h1, h2]
theorem dec_rx {k : Nat} {l : List Nat} {A : Option Addr} {cap : Nat} (hf : Fit 256 l) (h : cutOk l = true) : dec k l = if Right (rx5 k l A cap).d ∧ body (rx5 k l A cap).d = l then some (rx5 k l A cap).d else none := by
  have hc := of_decide_eq_true h
  unfold dec
  rcases rget_cases (s := sl l 4 8) with h1 | h1
  · rcases rget_cases (s := sl l 16 8) with h2 | h2
    · rw [rx5_said hf h1 h2]
      by_cases hq : Right (said k l) ∧ body (said k l) = l
      · rw [if_pos hq, if_pos ⟨hc.1, hc.2, hq.1, hq.2⟩]
      · rw [if_neg hq, if_neg (fun h => hq ⟨h.2.2.1, h.2.2.2⟩)]
    · have n1 : ¬ Right (said k l) := fun h => by
        have h3 : ((num (sl l 16 8) : Nat) : Int) ≤ 1099511627776 := h.bds.off.2
        omega
      have n2 : ¬ Right (rx5 k l A cap).d := fun h => by
        have h3 : 0 ≤ rget (sl l 16 8) := h.bds.off.1
        omega
      rw [if_neg (fun h => n1 h.2.2.1), if_neg (fun h => n2 h.1)]
  · have n1 : ¬ Right (said k l) := fun h => by
      have h3 : ((num (sl l 4 8) : Nat) : Int) ≤ 1099511627776 := h.bds.size.2
      omega
    have n2 : ¬ Right (rx5 k l A cap).d := fun h => by
      have h3 : 0 ≤ rget (sl l 4 8) := h.bds.size.1
      omega
    rw [if_neg (fun h => n1 h.2.2.1), if_neg (fun h => n2 h.1)]
/-- A text lies where the bytes lie. -/
def OfA (A : Option Addr) (x : Dx) : Prop := ∀ s, (s = x.s1 ∨ s = x.s2 ∨ s = x.s3 ∨ s = x.s4) → ∀ ad, s.A = some ad → ∃ ad0, A = some ad0 ∧ ad.block = ad0.block
theorem rsl_of {A : Option Addr} {cap : Nat} {l : List Nat} {i : Nat} {ad : Addr} (h : (rsl A cap l i).A = some ad) : ∃ ad0, A = some ad0 ∧ ad.block = ad0.block := by
  unfold rsl at h
  by_cases hc : cap = en l i
  · simp only [if_pos hc] at h
    exact ⟨ad, h, rfl⟩
  · simp only [if_neg hc] at h
    cases A with
    | none => cases h
    | some a =>
      simp only [Option.map_some, Option.some.injEq] at h
      exact ⟨a, rfl, by rw [← h, block_add]⟩
theorem rx5_of (k : Nat) (l : List Nat) (A : Option Addr) (cap : Nat) : OfA A (rx5 k l A cap) := fun s hs ad e => by
  rcases hs with rfl | rfl | rfl | rfl <;> exact rsl_of e
theorem Bs.text {w : World} {A : Option Addr} {n cap : Nat} {l : List Nat} (hb : Bs w A n cap l) (h : cutOk l = true) {i : Nat} (hi : i < 5) : Bs w (rsl A cap l i).A (rsl A cap l i).n (rsl A cap l i).cap (sl l (en l i) (ln l i)) := by
  have hc := (of_decide_eq_true h).2
  have h5 : en l i + ln l i ≤ n := by
    have h1 := en_mono l (i + 1) 5 (by omega)
    have h2 : en l (i + 1) = en l i + ln l i := rfl
    rw [hb.rd.1] at hc
    omega
  have hle := hb.le
  have hmx := hb.max
  refine ⟨hb.rd.mid (en l i) (ln l i) cap h5 hle, sl_fit hb.fit _ _, ?_, ?_, fun e => ?_⟩
  · show ln l i ≤ cap - en l i
    omega
  · show cap - en l i ≤ _
    omega
  · show cap - en l i = 0
    unfold rsl at e
    by_cases hce : cap = en l i
    · omega
    · simp only [if_neg hce] at e
      cases A with
      | none => have := hb.nil rfl; omega
      | some a => cases e
theorem rx5_ok {w : World} {k : Nat} {l : List Nat} {A : Option Addr} {n cap : Nat} (hb : Bs w A n cap l) (h : cutOk l = true) (hr : Right (rx5 k l A cap).d) : DxOk w (rx5 k l A cap) := by
  have hd := hr.bds
  have e1 := hd.kind
  have e2 := hd.alg
  have e3 := hd.size
  have e4 := hd.block
  have e5 := hd.off
  have e6 := hd.loc
  exact ⟨by unfold I64; omega, by unfold I64; omega, by unfold I64; omega, by unfold I64; omega, by unfold I64; omega, by unfold I64; omega, sl_fit hb.fit _ _, hb.text h (by omega), hb.text h (by omega), hb.text h (by omega), hb.text h (by omega)⟩
/-- The memory of the loop. -/
structure RSt (w : World) (k : Nat) (l : List Nat) (A : Option Addr) (cap i gd ga : Nat) (cs : List Value) (wr : World) : Prop where
  below : Below w.heap.size w wr
  res : Blk wr w.heap.size 28 zeroD
  d : Blk wr gd 28 (rx0 k l).cells
  arr : Blk wr ga 73 cs
  len : cs.length = 5
  one : ∀ v ∈ cs, v.oneCell' = true
  got : ∀ j, j < i → cs[j]? = some (rsl A cap l j).v
  ord : w.heap.size < gd ∧ gd < ga
theorem RSt.put {w wr w2 : World} {k : Nat} {l : List Nat} {A : Option Addr} {cap i gd ga : Nat} {cs : List Value} (h : RSt w k l A cap i gd ga cs wr) (hi : i < 5) (t : Touch [ga] wr w2) (hB : Blk w2 ga 73 (cs.set i (rsl A cap l i).v)) : RSt w k l A cap (i + 1) gd ga (cs.set i (rsl A cap l i).v) w2 := by
  have ho := h.ord
  refine ⟨h.below.trans (t.below (fun y hy => by rw [List.mem_singleton.1 hy]; omega) h.below.size), h.res.touch t (by simp; omega), h.d.touch t (by simp; omega), hB, by rw [List.length_set, h.len], fun v hv => ?_, fun j hj => ?_, ho⟩
  · rcases List.mem_or_eq_of_mem_set hv with hv | rfl
    · exact h.one v hv
    · rfl
  · by_cases e : j = i
    · subst e; rw [List.getElem?_set_self (by rw [h.len]; exact hi)]
    · rw [List.getElem?_set_ne (by omega)]; exact h.got j (by omega)
def RReadP (w : World) (k : Nat) (l : List Nat) (A : Option Addr) (e : Ending) (w' : World) : Prop :=
  ∃ cs : List Value, e = .returned (.tuple #[.agg cs.toArray, .bool (dec k l).isSome]) ∧ cs.length = 11 ∧ (∀ v ∈ cs, v.oneCell' = true) ∧ ((dec k l).isSome = true → ∃ x : Dx, cs = x.cells ∧ dec k l = some x.d ∧ DxOk w' x ∧ OfA A x) ∧ Below w.heap.size w w'
theorem RSt.out_no {w wr w9 : World} {k : Nat} {l : List Nat} {A : Option Addr} {cap i gd ga : Nat} {cs : List Value} (hbel : Below w.heap.size w wr) (t : Touch [w.heap.size] wr w9) (hN : dec k l = none) : RReadP w k l A (.returned (.tuple #[.agg zeroD.toArray, .bool false])) w9 :=
  ⟨zeroD, by rw [hN]; rfl, rfl, zeroD_one, fun h => (by rw [hN] at h; cases h), hbel.trans (t.below (fun y hy => by rw [List.mem_singleton.1 hy]; exact Nat.le_refl _) hbel.size)⟩
end Go.Proofs.YtfeihdmjcppbaaaDoor
