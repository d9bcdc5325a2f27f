/-
  A list of descriptors that is made element by element. No condition.
-/
import Derived.Test.YtfeihdmjcppbaaaDoorP2
import Derived.Great.BuildSlice
namespace Go.Proofs.YtfeihdmjcppbaaaDoor
open Go.RowKit
set_option linter.unusedVariables false
set_option linter.unusedSimpArgs false
set_option maxRecDepth 100000

/-- The block of a slice, if it has one. -/
def bl : Option Addr → List Nat
  | none => []
  | some ad => [ad.block]
theorem flat_get : ∀ (xs : List Dx) (i j : Nat) (x : Dx), xs[i]? = some x → j < 11 → (xs.flatMap Dx.cells)[i * 11 + j]? = x.cells[j]?
  | [], i, j, x, h, _ => by simp at h
  | y :: r, 0, j, x, h, hj => by
    simp at h
    subst h
    rw [List.flatMap_cons, Nat.zero_mul, Nat.zero_add, List.getElem?_append_left (by rw [Dx.cells_length]; exact hj)]
  | y :: r, i + 1, j, x, h, hj => by
    rw [List.flatMap_cons, List.getElem?_append_right (by rw [Dx.cells_length]; omega), Dx.cells_length, show (i + 1) * 11 + j - 11 = i * 11 + j by omega]
    exact flat_get r i j x (by simpa using h) hj
/-- A list that the call makes, of descriptor type t. -/
structure PL (t : TypeId) (B : Nat) (w : World) (A : Option Addr) (n cap : Nat) (xs : List Dx) : Prop where
  len : xs.length = n
  row : w.ownsRow B t 11 (.slice A n cap) n (xs.flatMap Dx.cells)
  ok : ∀ x ∈ xs, DxOk w x
  nw : ∀ x ∈ xs, ∀ s, (s = x.s1 ∨ s = x.s2 ∨ s = x.s3 ∨ s = x.s4) → 0 < s.n → ∀ ad, s.A = some ad → ∀ ad', A = some ad' → ad'.block ≠ ad.block
section
variable {t : TypeId} {B : Nat} {w w' : World} {A : Option Addr} {n cap : Nat} {xs : List Dx}
theorem PL.nil (t : TypeId) (B : Nat) (w : World) : PL t B w none 0 0 [] := ⟨rfl, World.ownsRow_nil w B t 11, (fun x h => by cases h), (fun x h => by cases h)⟩
theorem PL.below (h : PL t B w A n cap xs) (hb : Below w.heap.size w w') : PL t B w' A n cap xs :=
  ⟨h.len, World.ownsRow.kept h.row (only_of_below hb none) (by cases hv : (Value.slice A n cap).ownBlock <;> simp), fun x hx => (h.ok x hx).below hb, h.nw⟩
theorem PL.dl (h : PL t B w A n cap xs) : DL w A n xs :=
  ⟨h.len, fun hn => by
    obtain ⟨g, cap', hv, hb, hlt⟩ := World.ownsRow.form h.row hn
    have hA : A = some ⟨g, 0, none⟩ := by injection hv
    subst hA
    refine ⟨_, rfl, hlt, fun i x hx j v hv => ?_⟩
    have hj : j < 11 := by have := (List.getElem?_eq_some_iff.1 hv).1; rwa [Dx.cells_length] at this
    rw [add_add]
    exact World.ownsRow.cells h.row (g := g) rfl (i * 11 + j) v (by rw [flat_get xs i j x hx hj]; exact hv), h.ok⟩
theorem PL.le (h : PL t B w A n cap xs) : n ≤ cap ∧ cap ≤ maxLen := by
  rcases h.row.2 with ⟨hv, h0⟩ | ⟨g, cap', cur, hv, _, _, hnc, hm, _⟩
  · injection hv with _ h1 h2; omega
  · injection hv with _ h1 h2; omega
theorem PL.ge (h : PL t B w A n cap xs) : ∀ ad, A = some ad → B ≤ ad.block ∧ ad.block < w.heap.size := fun ad e => World.ownsRow.lt h.row ad.block (by rw [e]; rfl)
end
theorem touch_own {w w' : World} {A : Option Addr} {n cap : Nat} (h : w.grownBy w' (Value.slice A n cap).ownBlock) : Touch (bl A) w w' := by
  cases A with
  | none => exact ⟨h.os, h.tape, h.output, h.size, fun k hk _ => h.block k hk (by simp [Value.ownBlock])⟩
  | some ad => exact ⟨h.os, h.tape, h.output, h.size, fun k hk hn => h.block k hk (fun e => hn (by injection e with e; rw [e]; simp [bl]))⟩
/-- What a list of this type asks of the program. -/
structure LT (ty t : TypeId) : Prop where
  und : Tryd.prog.underlying ty = some (.slice t)
  inf : ∃ i z, Tryd.prog.info? t = some i ∧ i.zero = some z ∧ i.size = 11 ∧ z.cells.size = 11 ∧ i.bytes ≤ 200
theorem ltD : LT 22 27 := ⟨Tryd.underlying22, by
  have h : (Tryd.prog.info? 27).map (fun i => (i.zero, i.size, i.bytes)) = some (some (.agg zeroD.toArray), 11, 160) := by kernel_rfl
  cases hq : Tryd.prog.info? 27 with
  | none => rw [hq] at h; cases h
  | some i =>
    rw [hq] at h
    simp only [Option.map_some, Option.some.injEq, Prod.mk.injEq] at h
    exact ⟨i, _, rfl, h.1, h.2.1, rfl, by omega⟩⟩
theorem ltR : LT 35 28 := ⟨Tryd.underlying35, by
  have h : (Tryd.prog.info? 28).map (fun i => (i.zero, i.size, i.bytes)) = some (some (.agg zeroD.toArray), 11, 160) := by kernel_rfl
  cases hq : Tryd.prog.info? 28 with
  | none => rw [hq] at h; cases h
  | some i =>
    rw [hq] at h
    simp only [Option.map_some, Option.some.injEq, Prod.mk.injEq] at h
    exact ⟨i, _, rfl, h.1, h.2.1, rfl, by omega⟩⟩
/-- One descriptor more. -/
theorem wpList_appD {ty t : TypeId} (L : LT ty t) {ops : Array Oper} {rest : List Oper} {o : Oper} {a : Act} {w : World} {Q : Exit → Act → World → Prop} (hgd : o.guard = none) (s y : Operand) (ho : o.op = .call { callee := .builtin .append, args := #[s, y], argTypes := #[ty, ty] })
    {B : Nat} (hB : B ≤ w.heap.size) {A : Option Addr} {n cap : Nat} {xs : List Dx} (hs : a.eval s = .slice A n cap) (hP : PL t B w A n cap xs) {ad : Addr} {c2 : Nat} {x : Dx} (hy : a.eval y = .slice (some ad) 1 c2) (hsrc : At w ad x.cells) (hok : DxOk w x)
    (hnw : ∀ s, (s = x.s1 ∨ s = x.s2 ∨ s = x.s3 ∨ s = x.s4) → 0 < s.n → ∀ ad, s.A = some ad → ∀ ad', A = some ad' → ad'.block ≠ ad.block) (hn : n ≤ 1000) (N : Nat) (hN : n + 1 = N)
    (h : ∀ A' c' w', Hid (PL t B w' A' N c' (xs ++ [x])) → Below B w w' → wpList Tryd.prog ops Q rest (a.put o.dst (.slice A' N c')) w') : wpList Tryd.prog ops Q (o :: rest) a w := by
  subst hN
  obtain ⟨i, z, hi, hz, hsz, hzs, hby⟩ := L.inf
  obtain ⟨v', w', hrun, hown, hg, hnil, hat⟩ := run_append_own_at (P := Tryd.prog) w B ty o.type t i z 11 i.bytes L.und hi hz hsz rfl hzs (by omega) (.slice A n cap) n (xs.flatMap Dx.cells) hP.row ad 1 c2 x.cells (by rw [Dx.cells_length]) hsrc x.one (by unfold maxLen; omega) (by
    have : (n + 1) * i.bytes ≤ 1001 * 200 := Nat.mul_le_mul (by omega) hby
    omega) hB
  have hform : ∃ A' cap', v' = .slice A' (n + 1) cap' := by
    rcases hown.2 with ⟨rfl, h0⟩ | ⟨g, cap', cur, rfl, _⟩
    · omega
    · exact ⟨_, _, rfl⟩
  obtain ⟨A', cap', rfl⟩ := hform
  have ht := touch_own hg
  have hbs : ∀ {A1 : Option Addr} {n1 c1 : Nat} {l1 : List Nat}, Bs w A1 n1 c1 l1 → (0 < n1 → ∀ ad1, A1 = some ad1 → ∀ ad', A = some ad' → ad'.block ≠ ad1.block) → Bs w' A1 n1 c1 l1 := fun hb hne => hb.touch ht (fun hn ad1 e1 hm => by
    cases A with
    | none => cases hm
    | some ad' => exact hne hn ad1 e1 ad' rfl (List.mem_singleton.1 hm).symm)
  have hdx : ∀ y : Dx, DxOk w y → (∀ s, (s = y.s1 ∨ s = y.s2 ∨ s = y.s3 ∨ s = y.s4) → 0 < s.n → ∀ ad, s.A = some ad → ∀ ad', A = some ad' → ad'.block ≠ ad.block) → DxOk w' y := fun y hy hny =>
    { hy with salt := hbs hy.salt (hny _ (.inl rfl)), digest := hbs hy.digest (hny _ (.inr (.inl rfl))), key := hbs hy.key (hny _ (.inr (.inr (.inl rfl)))), value := hbs hy.value (hny _ (.inr (.inr (.inr rfl)))) }
  -- the list's block behind: as it was, or new
  have hnb : ∀ ad', A' = some ad' → (∃ ad0, A = some ad0 ∧ ad0.block = ad'.block) ∨ ad'.block = w.heap.size := fun ad' e => by
    subst e
    rcases hat with e2 | e2
    · cases A with
      | none => simp [Value.ownBlock] at e2
      | some ad0 => exact .inl ⟨ad0, rfl, by simp [Value.ownBlock] at e2; exact e2.symm⟩
    · exact .inr (by simpa [Value.ownBlock] using e2)
  have hlt : ∀ y : Dx, DxOk w y → ∀ s, (s = y.s1 ∨ s = y.s2 ∨ s = y.s3 ∨ s = y.s4) → 0 < s.n → ∀ ad, s.A = some ad → ad.block < w.heap.size := fun y hy s hs hn ad e => by
    rcases hs with rfl | rfl | rfl | rfl
    · exact hy.salt.rd.lt hn ad e
    · exact hy.digest.rd.lt hn ad e
    · exact hy.key.rd.lt hn ad e
    · exact hy.value.rd.lt hn ad e
  have hpl : PL t B w' A' (n + 1) cap' (xs ++ [x]) := by
    refine ⟨by rw [List.length_append, hP.len]; rfl, by rw [List.flatMap_append]; simpa using hown, fun y hy => ?_, fun y hy s hs hn ad e ad' e' => ?_⟩
    · rcases List.mem_append.1 hy with hy | hy
      · exact hdx y (hP.ok y hy) (hP.nw y hy)
      · rw [List.mem_singleton.1 hy]; exact hdx x hok hnw
    · have hyok : DxOk w y := by
        rcases List.mem_append.1 hy with hy | hy
        · exact hP.ok y hy
        · rw [List.mem_singleton.1 hy]; exact hok
      have hyn : ∀ ad', A = some ad' → ad'.block ≠ ad.block := by
        rcases List.mem_append.1 hy with hy | hy
        · exact hP.nw y hy s hs hn ad e
        · rw [List.mem_singleton.1 hy] at hs; exact hnw s hs hn ad e
      rcases hnb ad' e' with ⟨ad0, h0, h1⟩ | h1
      · rw [← h1]; exact hyn ad0 h0
      · have := hlt y hyok s hs hn ad e; omega
  refine wpList_plain hgd fun K hK => ?_
  unfold Oper.wp
  simp [execOp, ho, resolve, invoke, builtin, hs, hy, hrun, Result.andThen]
  exact hK _ _ (h A' cap' w' hpl (below_only (Below.refl _ _) hg hB (fun j hj => (World.ownsRow.lt hP.row j hj).1)))
theorem fill1 (x : Dx) (zs : Array Value) (hz : zs.size = 11) : Instr.fill (fun i => some (i * 11, 11)) zs [(0, .agg x.cells.toArray)] = some x.cells.toArray := by
  have h := Go.Great.fill_whole (s := 11) (by omega) [Value.agg x.cells.toArray] zs (fun v hv => by rw [List.mem_singleton.1 hv]; rfl) (by simpa using hz.symm)
  simpa [Value.cells] using h
/-- A slice of one descriptor. -/
theorem wpList_build1 {ty t : TypeId} (L : LT ty t) {ops : Array Oper} {rest : List Oper} {o : Oper} {a : Act} {w : World} {Q : Exit → Act → World → Prop} (hgd : o.guard = none) (y : Operand) (ho : o.op = .buildSlice ty 1 #[(0, y)]) (x : Dx) (hy : a.eval y = .agg x.cells.toArray)
    (h : wpList Tryd.prog ops Q rest (a.put o.dst (.slice (some ⟨w.heap.size, 0, none⟩) 1 1)) (w.alloc (.cells x.cells.toArray t))) : wpList Tryd.prog ops Q (o :: rest) a w := by
  obtain ⟨i, z, hi, hz, hsz, hzs, hby⟩ := L.inf
  refine wpList_buildSlice hgd ty t 1 #[(0, y)] ho x.cells.toArray i z L.und hi hz (by rw [hsz]; omega) (by rw [hsz]; omega) ?_ h
  rw [hsz]
  have e : (#[(0, y)].map fun ((i, x) : Nat × Operand) => (i, a.eval x)).toList = [(0, .agg x.cells.toArray)] := by simp [hy]
  rw [e]
  exact fill1 x _ (by simp)
theorem run_from8 (A : Option Addr) (n cap lo : Nat) (h1 : lo ≤ n) (h2 : n ≤ cap) (z : Int) (hz : z = lo) (w : World) : (Instr.slice 25 (.slice A n cap) (some (.int .i64 z)) none none).run Tryd.prog w = .ok (.slice (if cap = lo then A else A.map (·.add lo)) (n - lo) (cap - lo)) w := by
  subst hz
  obtain ⟨i0, hi0, hz0, hz1, hz2⟩ := info_parts byteInfo
  simp [Instr.slice, run_underlying Tryd.underlying25, Instr.sliceBounds, run_sliceBound, sizeOf, typeInfo, hi0, hz1, h1, h2]
theorem Bs.drop {w : World} {A : Option Addr} {n cap : Nat} {l : List Nat} (h : Bs w A n cap l) (m : Nat) (hm : m ≤ n) : Bs w (if cap = m then A else A.map (·.add m)) (n - m) (cap - m) (l.drop m) :=
  ⟨h.rd.drop m cap hm h.le, h.fit.drop m, by have := h.le; omega, by have := h.max; omega, fun e => by
    by_cases hc : cap = m
    · omega
    · rw [if_neg hc] at e
      have : A = Option.none := by cases A with
        | none => rfl
        | some ad => cases e
      have := h.nil this
      omega⟩
theorem step_err {seen : List De} {b : List Nat} (h : fErr b ≠ 0) : step seen b = .error (fErr b) := by
  unfold fErr at h ⊢
  unfold step
  by_cases h1 : b.length < 16
  · rw [if_pos h1, if_pos h1]
  · rw [if_neg h1, if_neg h1]
    by_cases h2 : 5 ≤ num (sl b 0 8)
    · rw [if_pos h2, if_pos h2]
    · rw [if_neg h2, if_neg h2]
      by_cases h3 : b.length < 16 + num (sl b 8 8)
      · rw [if_pos h3, if_pos h3]
      · rw [if_neg h1, if_neg h2, if_neg h3] at h
        exact absurd rfl h
theorem step_go {seen : List De} {b : List Nat} (h : fErr b = 0) : 16 ≤ b.length ∧ num (sl b 0 8) ≤ 4 ∧ 16 + num (sl b 8 8) ≤ b.length ∧ step seen b = match dec (num (sl b 0 8)) (sl b 16 (num (sl b 8 8))) with
    | none => .error 12
    | some d => if dup seen d then .error 35 else .ok (d, num (sl b 8 8)) := by
  unfold fErr at h
  unfold step
  by_cases h1 : b.length < 16
  · rw [if_pos h1] at h; cases h
  · by_cases h2 : 5 ≤ num (sl b 0 8)
    · rw [if_neg h1, if_pos h2] at h; cases h
    · by_cases h3 : b.length < 16 + num (sl b 8 8)
      · rw [if_neg h1, if_neg h2, if_pos h3] at h; cases h
      · refine ⟨by omega, by omega, by omega, ?_⟩
        rw [if_neg h1, if_neg h2, if_neg h3]
        cases dec (num (sl b 0 8)) (sl b 16 (num (sl b 8 8))) <;> rfl
end Go.Proofs.YtfeihdmjcppbaaaDoor
