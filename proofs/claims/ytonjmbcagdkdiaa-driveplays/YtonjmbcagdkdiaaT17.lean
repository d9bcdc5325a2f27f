/-
  The twin under way: rows laid one by one. No condition.
-/
import Derived.Test.YtonjmbcagdkdiaaT16
namespace Go.Proofs.Ytonjmbcagdkdiaa
open Go.RowKit Go.MapKept
set_option linter.unusedVariables false
set_option linter.unusedSimpArgs false
set_option maxRecDepth 100000

/-- The block of a slice, if it has one. -/
def bl : Option Addr → List Nat
  | none => []
  | some ad => [ad.block]
theorem mem_bl {A : Option Addr} {x : Nat} : x ∈ bl A ↔ ∃ ad, A = some ad ∧ ad.block = x := by
  cases A with
  | none => simp [bl]
  | some ad => simp [bl, eq_comm]
theorem Row.touch {F : List Nat} {w w' : World} {B : Nat} {e : TypeId} {A : Option Addr} {n cap : Nat} {xs : List Value} (h : Row w B e A n cap xs) (t : Touch F w w') (hF : ∀ x ∈ bl A, x ∉ F) : Row w' B e A n cap xs := by
  refine ⟨h.1, ?_⟩
  rcases h.2 with h1 | ⟨g, cap', cur, hv, hB, hg, h4⟩
  · exact .inl h1
  · injection hv with e1 e2 e3
    subst e1
    exact .inr ⟨g, cap', cur, by rw [e3], hB, (t.block g (Array.getElem?_eq_some_iff.1 hg).1 (hF g (by simp [bl]))).trans hg, h4⟩
theorem Row.ge {w : World} {B : Nat} {e : TypeId} {A : Option Addr} {n cap : Nat} {xs : List Value} (h : Row w B e A n cap xs) : ∀ x ∈ bl A, B ≤ x ∧ x < w.heap.size := fun x hx => by
  obtain ⟨ad, e1, rfl⟩ := mem_bl.1 hx
  exact h.lt ad e1
theorem Row.rsV {w : World} {B : Nat} {e : TypeId} {A : Option Addr} {n cap : Nat} {xs : List Value} (h : Row w B e A n cap xs) : Rs w A xs := h.ss.rs
/-- The twin's own cells under way. -/
def mkCells (N : Nat) (pa : Option Addr) (pc k : Nat) (ba : Option Addr) (bc k2 : Nat) (sa : Option Addr) (sc : Nat) : List Value :=
  [.slice pa N pc, .slice ba k bc, .slice sa k2 sc, .int .i64 0, .bool false, .slice none 0 0, .bool false, .int .i64 0, .int .i64 0]
def mkRow (nm : ByteArray) (z bb mm : Nat) : TRow := ⟨nm, List.replicate z 0, List.replicate (z / 64) false, bb, mm⟩
structure Mk (w : World) (t B N : Nat) (ps : List (ByteArray × Int)) (pa : Option Addr) (pc k : Nat) (rows : List TRow) (ba : Option Addr) (bc : Nat) (sa : Option Addr) (sc : Nat) : Prop where
  blk : Blk w t 34 (mkCells N pa pc k ba bc k sa sc)
  len : rows.length = k
  parts : Rs w pa (pcells ps)
  tabB : Row w B 39 ba k bc (rows.map TRow.bv)
  tabS : Row w B 32 sa k sc (rows.map TRow.sv)
  bytes : ∀ p ∈ rows, Blk w p.bb 5 (cn .u8 p.l)
  bads : ∀ p ∈ rows, Blk w p.mm 4 (bcells p.sb)
  same : rows.map (fun p => (p.nm, (p.l.length : Int))) = ps.take k
  zero : ∀ p ∈ rows, p.l = List.replicate p.l.length 0 ∧ p.sb = List.replicate (p.l.length / 64) false
  nod : (rows.flatMap fun p => [p.bb, p.mm]).Nodup
  ge : ∀ p ∈ rows, B ≤ p.bb ∧ B ≤ p.mm
  out : ∀ p ∈ rows, ∀ x ∈ bl ba ++ bl sa, p.bb ≠ x ∧ p.mm ≠ x
  sep : ∀ x ∈ bl ba, x ∉ bl sa
  tlt : t < B
  plt : ∀ x ∈ bl pa, x < B
  pne : ∀ x ∈ bl pa, x ≠ t
  Ble : B ≤ w.heap.size
section
variable {w w1 w2 : World} {t B N : Nat} {ps : List (ByteArray × Int)} {pa : Option Addr} {pc k : Nat} {rows : List TRow} {ba sa ba' sa' : Option Addr} {bc sc bc' sc' : Nat}
theorem Mk.below (h : Mk w t B N ps pa pc k rows ba bc sa sc) {F : List Nat} (hb : Touch F w w1) (hF : ∀ x ∈ F, w.heap.size ≤ x) : Mk w1 t B N ps pa pc k rows ba bc sa sc := by
  have nF : ∀ x, x < w.heap.size → x ∉ F := fun x hx hm => by have := hF x hm; omega
  exact
  { h with
    blk := h.blk.touch hb (nF t h.blk.lt)
    parts := h.parts.touch0 hb (fun hp ad e => nF _ (h.parts.lt hp ad e))
    tabB := h.tabB.touch hb (fun x hx => nF _ (h.tabB.ge x hx).2)
    tabS := h.tabS.touch hb (fun x hx => nF _ (h.tabS.ge x hx).2)
    bytes := fun p hp => (h.bytes p hp).touch hb (nF _ (h.bytes p hp).lt)
    bads := fun p hp => (h.bads p hp).touch hb (nF _ (h.bads p hp).lt)
    Ble := Nat.le_trans h.Ble hb.size }
theorem Mk.next (h : Mk w t B N ps pa pc k rows ba bc sa sc) (nm : ByteArray) (z : Nat) (hp : ps[k]? = some (nm, (z : Int)))
    (t1 : Touch (t :: bl ba) w w1) (bb : Nat) (hbb : w.heap.size ≤ bb) (B1 : Blk w1 bb 5 (cn .u8 (List.replicate z 0))) (R1 : Row w1 B 39 ba' (k + 1) bc' (rows.map TRow.bv ++ [.slice (some ⟨bb, 0, none⟩) z z])) (o1 : ∀ x ∈ bl ba', x ∈ bl ba ∨ (w.heap.size ≤ x ∧ x ≠ bb))
    (t2 : Touch (t :: bl sa) w1 w2) (mm : Nat) (hmm : w1.heap.size ≤ mm) (B2 : Blk w2 mm 4 (bcells (List.replicate (z / 64) false))) (R2 : Row w2 B 32 sa' (k + 1) sc' (rows.map TRow.sv ++ [.slice (some ⟨mm, 0, none⟩) (z / 64) (z / 64)])) (o2 : ∀ x ∈ bl sa', x ∈ bl sa ∨ (w1.heap.size ≤ x ∧ x ≠ mm))
    (T2 : Blk w2 t 34 (mkCells N pa pc (k + 1) ba' bc' (k + 1) sa' sc')) : Mk w2 t B N ps pa pc (k + 1) (rows ++ [mkRow nm z bb mm]) ba' bc' sa' sc' := by
  have hs1 := t1.size
  have hs2 := t2.size
  have gB := h.tabB.ge
  have gS := h.tabS.ge
  have hbl := B1.lt
  have rb : ∀ p ∈ rows, p.bb < w.heap.size ∧ p.mm < w.heap.size := fun p hp => ⟨(h.bytes p hp).lt, (h.bads p hp).lt⟩
  have n1 : ∀ p ∈ rows, p.bb ∉ t :: bl ba ∧ p.mm ∉ t :: bl ba := fun p hp => by
    have g := h.ge p hp
    have tl := h.tlt
    refine ⟨fun hm => ?_, fun hm => ?_⟩ <;> rcases List.mem_cons.1 hm with e | e
    · omega
    · exact (h.out p hp _ (List.mem_append.2 (.inl e))).1 rfl
    · omega
    · exact (h.out p hp _ (List.mem_append.2 (.inl e))).2 rfl
  have n2 : ∀ p ∈ rows, p.bb ∉ t :: bl sa ∧ p.mm ∉ t :: bl sa := fun p hp => by
    have g := h.ge p hp
    have tl := h.tlt
    refine ⟨fun hm => ?_, fun hm => ?_⟩ <;> rcases List.mem_cons.1 hm with e | e
    · omega
    · exact (h.out p hp _ (List.mem_append.2 (.inr e))).1 rfl
    · omega
    · exact (h.out p hp _ (List.mem_append.2 (.inr e))).2 rfl
  have nb : bb ∉ t :: bl sa := fun hm => by
    rcases List.mem_cons.1 hm with e | e
    · have := h.blk.lt; omega
    · have := (gS _ e).2; omega
  have nba : ∀ x ∈ bl ba', x ∉ t :: bl sa := fun x hx hm => by
    rcases List.mem_cons.1 hm with e | e
    · have := (R1.ge x hx).1; have := h.tlt; omega
    · rcases o1 x hx with h1 | ⟨h1, _⟩
      · exact h.sep x h1 e
      · have := (gS x e).2; omega
  have R1' := R1.touch t2 nba
  have hz : (List.replicate z (0 : Nat)).length = z := by simp
  have memr : ∀ p ∈ rows ++ [mkRow nm z bb mm], p ∈ rows ∨ p = mkRow nm z bb mm := fun p hp => by
    rcases List.mem_append.1 hp with h1 | h1
    · exact .inl h1
    · exact .inr (List.mem_singleton.1 h1)
  exact
  { blk := T2
    len := by rw [List.length_append, h.len]; rfl
    parts := (h.parts.touch0 t1 (fun hp ad e hm => by
        have e1 : ad.block ∈ bl pa := mem_bl.2 ⟨ad, e, rfl⟩
        rcases List.mem_cons.1 hm with e2 | e2
        · exact h.pne _ e1 e2
        · have := (gB _ e2).1; have := h.plt _ e1; omega)).touch0 t2 (fun hp ad e hm => by
        have e1 : ad.block ∈ bl pa := mem_bl.2 ⟨ad, e, rfl⟩
        rcases List.mem_cons.1 hm with e2 | e2
        · exact h.pne _ e1 e2
        · have := (gS _ e2).1; have := h.plt _ e1; omega)
    tabB := by rw [List.map_append]; simpa [TRow.bv, mkRow] using R1'
    tabS := by rw [List.map_append]; simpa [TRow.sv, mkRow] using R2
    bytes := fun p hp => by
      rcases memr p hp with h1 | rfl
      · exact ((h.bytes p h1).touch t1 (n1 p h1).1).touch t2 (n2 p h1).1
      · exact B1.touch t2 nb
    bads := fun p hp => by
      rcases memr p hp with h1 | rfl
      · exact ((h.bads p h1).touch t1 (n1 p h1).2).touch t2 (n2 p h1).2
      · exact B2
    same := by
      rw [List.map_append, h.same, take_snoc hp]
      simp [mkRow]
    zero := fun p hp => by
      rcases memr p hp with h1 | rfl
      · exact h.zero p h1
      · exact ⟨by simp [mkRow], by simp [mkRow]⟩
    nod := by
      rw [List.flatMap_append, List.nodup_append]
      refine ⟨h.nod, ?_, fun x hx y hy e => ?_⟩
      · have : bb ≠ mm := by omega
        simp [mkRow, this]
      · obtain ⟨p, hp', hx⟩ := List.mem_flatMap.1 hx
        have := rb p hp'
        simp [mkRow] at hy
        simp at hx
        rcases hx with rfl | rfl <;> rcases hy with rfl | rfl <;> omega
    ge := fun p hp => by
      have hB := h.Ble
      rcases memr p hp with h1 | rfl
      · exact h.ge p h1
      · exact ⟨by show B ≤ bb; omega, by show B ≤ mm; omega⟩
    out := fun p hp x hx => by
      rcases memr p hp with h1 | rfl
      · have := rb p h1
        rcases List.mem_append.1 hx with hx | hx
        · rcases o1 x hx with h2 | ⟨h2, _⟩
          · exact h.out p h1 x (List.mem_append.2 (.inl h2))
          · omega
        · rcases o2 x hx with h2 | ⟨h2, _⟩
          · exact h.out p h1 x (List.mem_append.2 (.inr h2))
          · omega
      · show bb ≠ x ∧ mm ≠ x
        rcases List.mem_append.1 hx with hx | hx
        · have h4 := (R1.ge x hx).2
          rcases o1 x hx with h2 | ⟨h2, h3⟩
          · have := (gB x h2).2; omega
          · omega
        · rcases o2 x hx with h2 | ⟨h2, h3⟩
          · have := (gS x h2).2; omega
          · omega
    sep := fun x hx hx2 => by
      have h4 := (R1.ge x hx).2
      rcases o2 x hx2 with h2 | ⟨h2, _⟩
      · rcases o1 x hx with h3 | ⟨h3, _⟩
        · exact h.sep x h3 h2
        · have := (gS x h2).2; omega
      · omega
    tlt := h.tlt
    plt := h.plt
    pne := h.pne
    Ble := by have := h.Ble; omega }
/-- The twin made. -/
def mkTv (t : Nat) (rows : List TRow) (pa : Option Addr) (pc : Nat) (ba : Option Addr) (bc : Nat) (sa : Option Addr) (sc : Nat) : Tv := ⟨t, rows, pa, pc, ba, bc, sa, sc, 0, false, none, 0, [], false, 0, 0⟩
theorem Mk.tw (h : Mk w t B N ps pa pc k rows ba bc sa sc) (hk : k = N) (hN : ps.length = N) (hn16 : N ≤ 16) (hr : Right ps) (hle : ∀ q ∈ ps, q.2 ≤ 1000) : Tw w (mkTv t rows pa pc ba bc sa sc) := by
  subst hk
  have e0 : ps.take k = ps := List.take_of_length_le (by omega)
  have hs := h.same
  rw [e0] at hs
  have hps : (mkTv t rows pa pc ba bc sa sc).ps = ps := hs
  have rb : ∀ p ∈ rows, p.bb < w.heap.size ∧ p.mm < w.heap.size := fun p hp => ⟨(h.bytes p hp).lt, (h.bads p hp).lt⟩
  have tne : ∀ p ∈ rows, t ≠ p.bb ∧ t ≠ p.mm := fun p hp => by have := h.ge p hp; have := h.tlt; omega
  have own_mem : ∀ x, x ∈ (mkTv t rows pa pc ba bc sa sc).own → x = t ∨ ∃ p ∈ rows, x = p.bb ∨ x = p.mm := fun x hx => by
    rcases List.mem_cons.1 hx with e | e
    · exact .inl e
    · obtain ⟨p, hp, h1⟩ := List.mem_flatMap.1 e
      exact .inr ⟨p, hp, by simpa using h1⟩
  have hsz : ∀ p ∈ rows, sizeOk (p.l.length : Int) = true := fun p hp => by
    have hm : (p.nm, (p.l.length : Int)) ∈ ps := by rw [← hs]; exact List.mem_map.2 ⟨p, hp, rfl⟩
    exact (hr.1 _ hm).2
  exact
  { blk := by
      have := h.blk
      unfold mkCells at this
      unfold Tv.cells mkTv
      simp only [h.len]
      exact this
    parts := by rw [hps]; exact h.parts
    tabB := h.tabB.rsV
    tabS := h.tabS.rsV
    bytes := h.bytes
    bads := h.bads
    kept := fun hn => absurd hn (Nat.lt_irrefl _)
    names := by
      have e1 : rows.map (·.nm) = ps.map (·.1) := by rw [← hs, List.map_map]; rfl
      show (rows.map (·.nm)).Nodup
      rw [e1]; exact hr.2
    apart := by
      show (t :: rows.flatMap fun p => [p.bb, p.mm]).Nodup
      refine List.nodup_cons.2 ⟨fun hm => ?_, h.nod⟩
      obtain ⟨p, hp, h1⟩ := List.mem_flatMap.1 hm
      have := tne p hp
      simp at h1
      rcases h1 with e | e
      · exact this.1 e
      · exact this.2 e
    size := fun p hp => by
      have h1 := sizeOk_bd (hsz p hp)
      have h2 := (h.zero p hp).2
      have hle : p.l.length ≤ 1000000 := by
        have := hle (p.nm, (p.l.length : Int)) (by rw [← hs]; exact List.mem_map.2 ⟨p, hp, rfl⟩)
        simp only [] at this
        omega
      refine ⟨hle, by rw [h2]; simp, by omega⟩
    few := by show rows.length ≤ 16; rw [h.len]; exact hn16
    fit := fun p hp => by rw [(h.zero p hp).1]; exact Fit.replicate _ _ _ (by omega)
    partsOut := fun ad e => by
      have e1 : ad.block ∈ bl pa := mem_bl.2 ⟨ad, e, rfl⟩
      have hl := h.plt _ e1
      refine ⟨fun hm => ?_, by have := h.Ble; omega⟩
      rcases own_mem _ hm with e2 | ⟨p, hp, e2⟩
      · exact h.pne _ e1 e2
      · have := h.ge p hp; omega
    tabBOut := fun ad e => by
      have e1 : ad.block ∈ bl ba := mem_bl.2 ⟨ad, e, rfl⟩
      have hg := h.tabB.ge _ e1
      refine ⟨fun hm => ?_, hg.2⟩
      rcases own_mem _ hm with e2 | ⟨p, hp, e2⟩
      · have := h.tlt; omega
      · have := h.out p hp _ (List.mem_append.2 (.inl e1))
        rcases e2 with e2 | e2
        · exact this.1 e2.symm
        · exact this.2 e2.symm
    tabSOut := fun ad e => by
      have e1 : ad.block ∈ bl sa := mem_bl.2 ⟨ad, e, rfl⟩
      have hg := h.tabS.ge _ e1
      refine ⟨fun hm => ?_, hg.2⟩
      rcases own_mem _ hm with e2 | ⟨p, hp, e2⟩
      · have := h.tlt; omega
      · have := h.out p hp _ (List.mem_append.2 (.inr e1))
        rcases e2 with e2 | e2
        · exact this.1 e2.symm
        · exact this.2 e2.symm
    keptOut := fun h0 => absurd h0 (Nat.lt_irrefl _)
    kcap := ⟨Nat.le_refl _, (show (0 : Nat) ≤ 9223372036854775807 by omega)⟩ }
end
end Go.Proofs.Ytonjmbcagdkdiaa
