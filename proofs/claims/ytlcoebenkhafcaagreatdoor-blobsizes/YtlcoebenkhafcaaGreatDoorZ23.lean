/-
  A list of descriptors that is made element by element. No condition. What Parse answers. No condition but that bytes fit. What bytes of descriptors are read as is written as the same bytes. No condition but that bytes fit.
-/
import Derived.Test.YtlcoebenkhafcaaGreatDoorZ20
import Derived.Great.BuildSlice
import Derived.Test.YtlcoebenkhafcaaGreatDoorZ08
namespace Go.Proofs.YtlcoebenkhafcaaGreatDoor
open Go.RowKit
set_option linter.unusedVariables false
set_option linter.unusedSimpArgs false
set_option maxRecDepth 100000
def bl : Option Addr → List Nat
  | none => []
  | some ad => [ad.block]
theorem flat_get : ∀ (xs : List Dx) (i j : Nat) (x : Dx), xs[i]? = some x → j < 11 → (xs.flatMap Dx.cells)[i * 11 + j]? = x.cells[j]?
  | [], i, j, x, h, _ => by simp at h
  | y :: r, 0, j, x, h, hj => by
    simp at h
    subst h
    rw [List.flatMap_cons, Nat.zero_mul, Nat.zero_add, List.getElem?_append_left (by rw [Dx.cells_length]; exact hj)]
  | y :: r, i + 1, j, x, h, hj => by
    rw [List.flatMap_cons, List.getElem?_append_right (by rw [Dx.cells_length]; omega), Dx.cells_length, show (i + 1) * 11 + j - 11 = i * 11 + j by omega]
    exact flat_get r i j x (by simpa using h) hj
structure PL (t : TypeId) (B : Nat) (w : World) (A : Option Addr) (n cap : Nat) (xs : List Dx) : Prop where
  len : xs.length = n
  row : w.ownsRow B t 11 (.slice A n cap) n (xs.flatMap Dx.cells)
  ok : ∀ x ∈ xs, DxOk w x
  nw : ∀ x ∈ xs, ∀ s, (s = x.s1 ∨ s = x.s2 ∨ s = x.s3 ∨ s = x.s4) → 0 < s.n → ∀ ad, s.A = some ad → ∀ ad', A = some ad' → ad'.block ≠ ad.block
section
variable {t : TypeId} {B : Nat} {w w' : World} {A : Option Addr} {n cap : Nat} {xs : List Dx}
theorem PL.nil (t : TypeId) (B : Nat) (w : World) : PL t B w none 0 0 [] := ⟨rfl, World.ownsRow_nil w B t 11, (fun x h => by cases h), (fun x h => by cases h)⟩
theorem PL.below (h : PL t B w A n cap xs) (hb : Below w.heap.size w w') : PL t B w' A n cap xs :=
  ⟨h.len, World.ownsRow.kept h.row (only_of_below hb none) (by cases hv : (Value.slice A n cap).ownBlock <;> simp), fun x hx => (h.ok x hx).below hb, h.nw⟩
theorem PL.dl (h : PL t B w A n cap xs) : DL w A n xs :=
  ⟨h.len, fun hn => by
    obtain ⟨g, cap', hv, hb, hlt⟩ := World.ownsRow.form h.row hn
    have hA : A = some ⟨g, 0, none⟩ := by injection hv
    subst hA
    refine ⟨_, rfl, hlt, fun i x hx j v hv => ?_⟩
    have hj : j < 11 := by have := (List.getElem?_eq_some_iff.1 hv).1; rwa [Dx.cells_length] at this
    rw [add_add]
    exact World.ownsRow.cells h.row (g := g) rfl (i * 11 + j) v (by rw [flat_get xs i j x hx hj]; exact hv), h.ok⟩
theorem PL.le (h : PL t B w A n cap xs) : n ≤ cap ∧ cap ≤ maxLen := by
  rcases h.row.2 with ⟨hv, h0⟩ | ⟨g, cap', cur, hv, _, _, hnc, hm, _⟩
  · injection hv with _ h1 h2; omega
  · injection hv with _ h1 h2; omega
theorem PL.ge (h : PL t B w A n cap xs) : ∀ ad, A = some ad → B ≤ ad.block ∧ ad.block < w.heap.size := fun ad e => World.ownsRow.lt h.row ad.block (by rw [e]; rfl)
end
theorem touch_own {w w' : World} {A : Option Addr} {n cap : Nat} (h : w.grownBy w' (Value.slice A n cap).ownBlock) : Touch (bl A) w w' := by
  cases A with
  | none => exact ⟨h.os, h.tape, h.output, h.size, fun k hk _ => h.block k hk (by simp [Value.ownBlock])⟩
  | some ad => exact ⟨h.os, h.tape, h.output, h.size, fun k hk hn => h.block k hk (fun e => hn (by injection e with e; rw [e]; simp [bl]))⟩
structure LT (ty t : TypeId) : Prop where
  und : Tryz.prog.underlying ty = some (.slice t)
  inf : ∃ i z, Tryz.prog.info? t = some i ∧ i.zero = some z ∧ i.size = 11 ∧ z.cells.size = 11 ∧ i.bytes ≤ 200
theorem ltD : LT 24 71 := ⟨Tryz.underlying24, by
  have h : (Tryz.prog.info? 71).map (fun i => (i.zero, i.size, i.bytes)) = some (some (.agg zeroD.toArray), 11, 160) := by kernel_rfl
  cases hq : Tryz.prog.info? 71 with
  | none => rw [hq] at h; cases h
  | some i =>
    rw [hq] at h
    simp only [Option.map_some, Option.some.injEq, Prod.mk.injEq] at h
    exact ⟨i, _, rfl, h.1, h.2.1, rfl, by omega⟩⟩
theorem wpList_appD {ty t : TypeId} (L : LT ty t) {ops : Array Oper} {rest : List Oper} {o : Oper} {a : Act} {w : World} {Q : Exit → Act → World → Prop} (hgd : o.guard = none) (s y : Operand) (ho : o.op = .call { callee := .builtin .append, args := #[s, y], argTypes := #[ty, ty] })
    {B : Nat} (hB : B ≤ w.heap.size) {A : Option Addr} {n cap : Nat} {xs : List Dx} (hs : a.eval s = .slice A n cap) (hP : PL t B w A n cap xs) {ad : Addr} {c2 : Nat} {x : Dx} (hy : a.eval y = .slice (some ad) 1 c2) (hsrc : At w ad x.cells) (hok : DxOk w x)
    (hnw : ∀ s, (s = x.s1 ∨ s = x.s2 ∨ s = x.s3 ∨ s = x.s4) → 0 < s.n → ∀ ad, s.A = some ad → ∀ ad', A = some ad' → ad'.block ≠ ad.block) (hn : n ≤ 1000) (N : Nat) (hN : n + 1 = N)
    (h : ∀ A' c' w', Hid (PL t B w' A' N c' (xs ++ [x])) → Below B w w' → wpList Tryz.prog ops Q rest (a.put o.dst (.slice A' N c')) w') : wpList Tryz.prog ops Q (o :: rest) a w := by
  subst hN
  obtain ⟨i, z, hi, hz, hsz, hzs, hby⟩ := L.inf
  obtain ⟨v', w', hrun, hown, hg, hnil, hat⟩ := run_append_own_at (P := Tryz.prog) w B ty o.type t i z 11 i.bytes L.und hi hz hsz rfl hzs (by omega) (.slice A n cap) n (xs.flatMap Dx.cells) hP.row ad 1 c2 x.cells (by rw [Dx.cells_length]) hsrc x.one (by unfold maxLen; omega) (by
    have : (n + 1) * i.bytes ≤ 1001 * 200 := Nat.mul_le_mul (by omega) hby
    omega) hB
  have hform : ∃ A' cap', v' = .slice A' (n + 1) cap' := by
    rcases hown.2 with ⟨rfl, h0⟩ | ⟨g, cap', cur, rfl, _⟩
    · omega
    · exact ⟨_, _, rfl⟩
  obtain ⟨A', cap', rfl⟩ := hform
  have ht := touch_own hg
  have hbs : ∀ {A1 : Option Addr} {n1 c1 : Nat} {l1 : List Nat}, Bs w A1 n1 c1 l1 → (0 < n1 → ∀ ad1, A1 = some ad1 → ∀ ad', A = some ad' → ad'.block ≠ ad1.block) → Bs w' A1 n1 c1 l1 := fun hb hne => hb.touch ht (fun hn ad1 e1 hm => by
    cases A with
    | none => cases hm
    | some ad' => exact hne hn ad1 e1 ad' rfl (List.mem_singleton.1 hm).symm)
  have hdx : ∀ y : Dx, DxOk w y → (∀ s, (s = y.s1 ∨ s = y.s2 ∨ s = y.s3 ∨ s = y.s4) → 0 < s.n → ∀ ad, s.A = some ad → ∀ ad', A = some ad' → ad'.block ≠ ad.block) → DxOk w' y := fun y hy hny =>
    { hy with salt := hbs hy.salt (hny _ (.inl rfl)), digest := hbs hy.digest (hny _ (.inr (.inl rfl))), key := hbs hy.key (hny _ (.inr (.inr (.inl rfl)))), value := hbs hy.value (hny _ (.inr (.inr (.inr rfl)))) }
  have hnb : ∀ ad', A' = some ad' → (∃ ad0, A = some ad0 ∧ ad0.block = ad'.block) ∨ ad'.block = w.heap.size := fun ad' e => by
    subst e
    rcases hat with e2 | e2
    · cases A with
      | none => simp [Value.ownBlock] at e2
      | some ad0 => exact .inl ⟨ad0, rfl, by simp [Value.ownBlock] at e2; exact e2.symm⟩
    · exact .inr (by simpa [Value.ownBlock] using e2)
  have hlt : ∀ y : Dx, DxOk w y → ∀ s, (s = y.s1 ∨ s = y.s2 ∨ s = y.s3 ∨ s = y.s4) → 0 < s.n → ∀ ad, s.A = some ad → ad.block < w.heap.size := fun y hy s hs hn ad e => by
    rcases hs with rfl | rfl | rfl | rfl
    · exact hy.salt.rd.lt hn ad e
    · exact hy.digest.rd.lt hn ad e
    · exact hy.key.rd.lt hn ad e
    · exact hy.value.rd.lt hn ad e
  have hpl : PL t B w' A' (n + 1) cap' (xs ++ [x]) := by
    refine ⟨by rw [List.length_append, hP.len]; rfl, by rw [List.flatMap_append]; simpa using hown, fun y hy => ?_, fun y hy s hs hn ad e ad' e' => ?_⟩
    · rcases List.mem_append.1 hy with hy | hy
      · exact hdx y (hP.ok y hy) (hP.nw y hy)
      · rw [List.mem_singleton.1 hy]; exact hdx x hok hnw
    · have hyok : DxOk w y := by
        rcases List.mem_append.1 hy with hy | hy
        · exact hP.ok y hy
        · rw [List.mem_singleton.1 hy]; exact hok
      have hyn : ∀ ad', A = some ad' → ad'.block ≠ ad.block := by
        rcases List.mem_append.1 hy with hy | hy
        · exact hP.nw y hy s hs hn ad e
        · rw [List.mem_singleton.1 hy] at hs; exact hnw s hs hn ad e
      rcases hnb ad' e' with ⟨ad0, h0, h1⟩ | h1
      · rw [← h1]; exact hyn ad0 h0
      · have := hlt y hyok s hs hn ad e; omega
  refine wpList_plain hgd fun K hK => ?_
  unfold Oper.wp
  simp [execOp, ho, resolve, invoke, builtin, hs, hy, hrun, Result.andThen]
  exact hK _ _ (h A' cap' w' hpl (below_only (Below.refl _ _) hg hB (fun j hj => (World.ownsRow.lt hP.row j hj).1)))
theorem fill1 (x : Dx) (zs : Array Value) (hz : zs.size = 11) : Instr.fill (fun i => some (i * 11, 11)) zs [(0, .agg x.cells.toArray)] = some x.cells.toArray := by
  have h := Go.Great.fill_whole (s := 11) (by omega) [Value.agg x.cells.toArray] zs (fun v hv => by rw [List.mem_singleton.1 hv]; rfl) (by simpa using hz.symm)
  simpa [Value.cells] using h
theorem wpList_build1 {ty t : TypeId} (L : LT ty t) {ops : Array Oper} {rest : List Oper} {o : Oper} {a : Act} {w : World} {Q : Exit → Act → World → Prop} (hgd : o.guard = none) (y : Operand) (ho : o.op = .buildSlice ty 1 #[(0, y)]) (x : Dx) (hy : a.eval y = .agg x.cells.toArray)
    (h : wpList Tryz.prog ops Q rest (a.put o.dst (.slice (some ⟨w.heap.size, 0, none⟩) 1 1)) (w.alloc (.cells x.cells.toArray t))) : wpList Tryz.prog ops Q (o :: rest) a w := by
  obtain ⟨i, z, hi, hz, hsz, hzs, hby⟩ := L.inf
  refine wpList_buildSlice hgd ty t 1 #[(0, y)] ho x.cells.toArray i z L.und hi hz (by rw [hsz]; omega) (by rw [hsz]; omega) ?_ h
  rw [hsz]
  have e : (#[(0, y)].map fun ((i, x) : Nat × Operand) => (i, a.eval x)).toList = [(0, .agg x.cells.toArray)] := by simp [hy]
  rw [e]
  exact fill1 x _ (by simp)
theorem run_from8 (A : Option Addr) (n cap lo : Nat) (h1 : lo ≤ n) (h2 : n ≤ cap) (z : Int) (hz : z = lo) (w : World) : (Instr.slice 25 (.slice A n cap) (some (.int .i64 z)) none none).run Tryz.prog w = .ok (.slice (if cap = lo then A else A.map (·.add lo)) (n - lo) (cap - lo)) w := by
  subst hz
  obtain ⟨i0, hi0, hz0, hz1, hz2⟩ := info_parts byteInfo
  simp [Instr.slice, run_underlying Tryz.underlying25, Instr.sliceBounds, run_sliceBound, sizeOf, typeInfo, hi0, hz1, h1, h2]
theorem Bs.drop {w : World} {A : Option Addr} {n cap : Nat} {l : List Nat} (h : Bs w A n cap l) (m : Nat) (hm : m ≤ n) : Bs w (if cap = m then A else A.map (·.add m)) (n - m) (cap - m) (l.drop m) :=
  ⟨h.rd.drop m cap hm h.le, h.fit.drop m, by have := h.le; omega, by have := h.max; omega, fun e => by
    by_cases hc : cap = m
    · omega
    · rw [if_neg hc] at e
      have : A = Option.none := by cases A with
        | none => rfl
        | some ad => cases e
      have := h.nil this
      omega⟩
theorem step_err {seen : List De} {b : List Nat} (h : fErr b ≠ 0) : step seen b = .error (fErr b) := by
  unfold fErr at h ⊢
  unfold step
  by_cases h1 : b.length < 16
  · rw [if_pos h1, if_pos h1]
  · rw [if_neg h1, if_neg h1]
    by_cases h2 : 5 ≤ num (sl b 0 8)
    · rw [if_pos h2, if_pos h2]
    · rw [if_neg h2, if_neg h2]
      by_cases h3 : b.length < 16 + num (sl b 8 8)
      · rw [if_pos h3, if_pos h3]
      · rw [if_neg h1, if_neg h2, if_neg h3] at h
        exact absurd rfl h
theorem step_go {seen : List De} {b : List Nat} (h : fErr b = 0) : 16 ≤ b.length ∧ num (sl b 0 8) ≤ 4 ∧ 16 + num (sl b 8 8) ≤ b.length ∧ step seen b = match dec (num (sl b 0 8)) (sl b 16 (num (sl b 8 8))) with
    | none => .error 12
    | some d => if dup seen d then .error 35 else .ok (d, num (sl b 8 8)) := by
  unfold fErr at h
  unfold step
  by_cases h1 : b.length < 16
  · rw [if_pos h1] at h; cases h
  · by_cases h2 : 5 ≤ num (sl b 0 8)
    · rw [if_neg h1, if_pos h2] at h; cases h
    · by_cases h3 : b.length < 16 + num (sl b 8 8)
      · rw [if_neg h1, if_neg h2, if_pos h3] at h; cases h
      · refine ⟨by omega, by omega, by omega, ?_⟩
        rw [if_neg h1, if_neg h2, if_neg h3]
        cases dec (num (sl b 0 8)) (sl b 16 (num (sl b 8 8))) <;> rfl
end Go.Proofs.YtlcoebenkhafcaaGreatDoor
namespace Go.Proofs.YtlcoebenkhafcaaGreatDoor
open Go.RowKit
set_option linter.unusedVariables false
set_option linter.unusedSimpArgs false
set_option maxRecDepth 100000
def lenOf : Value → Nat
  | .slice _ n _ => n
  | _ => 0
def NewD (B : Nat) (xs : List Dx) : Prop := ∀ x ∈ xs, ∀ s, (s = x.s1 ∨ s = x.s2 ∨ s = x.s3 ∨ s = x.s4) → ∃ g, s.A = some ⟨g, 0, none⟩ ∧ B ≤ g
theorem NewD.snoc {B : Nat} {xs : List Dx} (h : NewD B xs) {x : Dx} (hx : ∀ s, (s = x.s1 ∨ s = x.s2 ∨ s = x.s3 ∨ s = x.s4) → ∃ g, s.A = some ⟨g, 0, none⟩ ∧ B ≤ g) : NewD B (xs ++ [x]) := fun y hy => by
  rcases List.mem_append.1 hy with hy | hy
  · exact h y hy
  · rw [List.mem_singleton.1 hy]; exact hx
def ParseP (w : World) (l : List Nat) (e : Ending) (w' : World) : Prop :=
  ∃ A n c xs, ∃ er : Nat, e = .returned (.tuple #[.slice A n c, .int .i64 (er : Int)]) ∧ parse l = (des xs, er) ∧ PL 71 w.heap.size w' A n c xs ∧ NewD w.heap.size xs ∧ Below w.heap.size w w'
set_option maxHeartbeats 4000000 in
theorem Parse_any (A : Option Addr) (n cap : Nat) (l : List Nat) (w : World) (hb : Bs w A n cap l) (hn : n ≤ 100000) : Calls Tryz.prog 81 #[.slice A n cap] w (ParseP w l) := by
  obtain ⟨d0, hu0, hd0⟩ := uD
  have HB := Lib.hid hb
  clear hb
  go_enter Tryz.func81, Tryz.ntmps81
  go_wp2
  go_loopw [0, 4] (fun a o wr => ∃ Ab nb cb lb Al k cl xs, a = .slice Ab nb cb ∧ o = .slice Al k cl ∧ nb ≤ n ∧ k ≤ 32 ∧ Hid (Below w.heap.size w wr ∧ Bs w Ab nb cb lb ∧ PL 71 w.heap.size wr Al k cl xs ∧ NewD w.heap.size xs ∧ pgo (32 - k) (des xs) lb = parse l)) (fun a _ _ => lenOf a)
  case atStart => exact ⟨A, n, cap, l, none, 0, 0, [], rfl, rfl, Nat.le_refl _, by omega, Below.refl _ _, HB.out, PL.nil _ _ _, fun x h => (by cases h), rfl⟩
  case round =>
    obtain ⟨Ab, nb, cb, lb, Al, k, cl, xs, rfl, rfl, hnb, hk, HS⟩ := hrel
    have hlb := HS.out.2.1.rd.1
    have HLB := Lib.hid hlb
    clear hlb
    by_cases h0 : nb = 0
    · subst h0
      have HE : Hid (parse l = (des xs, 0)) := by
        have := HS.out.2.2.2.2
        have hl0 := HLB.out
        show _ = _
        rw [← this]
        cases 32 - k <;> simp [pgo, hl0]
      go_wp2
      go_ret2
      exact ⟨Al, k, cl, xs, 0, rfl, HE.out, HS.out.2.2.1, HS.out.2.2.2.1, HS.out.1⟩
    · have z0 : (0 : Int) < (nb : Int) := by omega
      by_cases hk32 : k = 32
      · subst hk32
        have HE : Hid (parse l = ([], 11)) := by
          have := HS.out.2.2.2.2
          have hl0 := HLB.out
          show _ = _
          rw [← this]
          simp only [Nat.sub_self, pgo]
          rw [if_neg (by omega)]
        clear h0
        go_wp2
        go_ret2
        exact ⟨none, 0, 0, [], 11, rfl, HE.out, PL.nil _ _ _, fun x h => (by cases h), HS.out.1⟩
      · have e32 : ((k : Int) == 32) = false := beq_eq_false_iff_ne.2 (by omega)
        have HPG : Hid (parse l = match step (des xs) lb with
            | .error e => ([], e)
            | .ok (d, m) => pgo (32 - (k + 1)) (des xs ++ [d]) (lb.drop (16 + m))) := by
          have := HS.out.2.2.2.2
          have hl0 := HLB.out
          show _ = _
          rw [← this]
          obtain ⟨f, hf⟩ : ∃ f, 32 - k = f + 1 := ⟨31 - k, by omega⟩
          rw [hf, pgo, if_neg (by omega), show 32 - (k + 1) = f by omega]
          rcases step (des xs) lb with e | ⟨d, m⟩ <;> rfl
        have HK32 : Hid (k < 32) := by show _ < _; omega
        have HF := Lib.hid (first_any Ab nb cb lb wr (HS.out.2.1.below HS.out.1) (by omega))
        have HN0 := Lib.hid h0
        clear h0 hk32
        go_wp2_with fail
        refine HF.out.mono ?_
        rintro e w1 ⟨kd, A1, m1, c1, er, rfl, her, hok, hb1⟩
        have H1 : Hid (Below w.heap.size w w1 ∧ Bs w1 Ab nb cb lb ∧ PL 71 w.heap.size w1 Al k cl xs) := ⟨HS.out.1.trans (hb1.mono HS.out.1.size), (HS.out.2.1.below HS.out.1).below hb1, HS.out.2.2.1.below hb1⟩
        have HER := Lib.hid her
        have HOK := Lib.hid hok
        clear her hok
        by_cases he0 : er = 0
        · subst he0
          obtain ⟨hkd, hm1, hc1, g1, hA1, hg1, hB1⟩ := HOK.out rfl
          obtain ⟨hg16, hg4, hgn, hst⟩ := step_go (seen := des xs) (b := lb) HER.out.symm
          have HST := Lib.hid hst
          obtain ⟨K, hK⟩ : ∃ K, num (sl lb 0 8) = K := ⟨_, rfl⟩
          obtain ⟨M, hM⟩ : ∃ M, num (sl lb 8 8) = M := ⟨_, rfl⟩
          rw [hK] at hkd hg4
          rw [hM] at hm1 hgn
          obtain rfl : M = m1 := hm1.symm
          obtain rfl : M = c1 := hc1.symm
          subst hkd hA1
          have hMn : 16 + M ≤ nb := by have := HLB.out; omega
          have hsl : (sl lb 16 M).length = M := sl_length hgn
          have hbs1 : Bs w1 (some ⟨g1, 0, none⟩) M M (sl lb 16 M) := ⟨hB1.rd M hsl, sl_fit HS.out.2.1.fit _ _, Nat.le_refl _, by omega, fun e => by cases e⟩
          have HRD := Lib.hid (read_any K (some ⟨g1, 0, none⟩) M M (sl lb 16 M) w1 hg4 hbs1 (by omega))
          have HST2 : Hid (step (des xs) lb = match dec K (sl lb 16 M) with
              | none => .error 12
              | some d => if dup (des xs) d then .error 35 else .ok (d, M)) := by
            have := HST.out
            rw [hK, hM] at this
            exact this
          have HMN := Lib.hid hMn
          have HGE1 : Hid (wr.heap.size ≤ g1 ∧ wr.heap.size ≤ w1.heap.size) := ⟨hg1, hb1.size⟩
          clear hg1 hB1 hg16 hg4 hgn hst hK hM hsl hbs1 hb1 hMn HST HF
          go_wp2_with fail
          refine HRD.out.mono ?_
          rintro e w2 ⟨cs, rfl, hcl, hco, hx, hb2⟩
          have H2 : Hid (Below w.heap.size w w2 ∧ Bs w2 Ab nb cb lb ∧ PL 71 w.heap.size w2 Al k cl xs ∧ w1.heap.size ≤ w2.heap.size) := ⟨H1.out.1.trans (hb2.mono H1.out.1.size), H1.out.2.1.below hb2, H1.out.2.2.below hb2, hb2.size⟩
          have HX := Lib.hid hx
          have HCS := Lib.hid (And.intro hcl hco)
          have hb5 : Below w2.heap.size w2 (w2.alloc (.cells cs.toArray 71)) := (Below.refl _ _).alloc (Nat.le_refl _) _
          have hk5 : Blk (w2.alloc (.cells cs.toArray 71)) w2.heap.size 71 cs := Blk.new _ _ _
          obtain ⟨w5, hw5⟩ : ∃ w5, w2.alloc (.cells cs.toArray 71) = w5 := ⟨_, rfl⟩
          rw [hw5] at hb5 hk5
          have H5 : Hid (Below w.heap.size w w5 ∧ Bs w5 Ab nb cb lb ∧ PL 71 w.heap.size w5 Al k cl xs ∧ Below w2.heap.size w2 w5) := ⟨H2.out.1.trans (hb5.mono H2.out.1.size), H2.out.2.1.below hb5, H2.out.2.2.1.below hb5, hb5⟩
          have HK5 := Lib.hid hk5
          clear hcl hco hx hb2 hb5 hk5 HRD
          rcases hdc : dec K (sl lb 16 M) with _ | d
          · have HE : Hid (parse l = ([], 12)) := by
              show _ = _
              rw [HPG.out, HST2.out, hdc]
            have hsome : (none : Option De).isSome = false := rfl
            rw [hsome]
            clear hdc hsome
            go_wp2_with ((with_reducible refine at_dst none ?_); refine wpList_storeNew (w := w2) (op := ⟨none, _, _, _, _, _⟩) rfl 71 (.tmp 8) (.tmp 29) rfl zeroD cs rfl rfl (by rw [HCS.out.1]; rfl) (by rw [HCS.out.1]; exact iD) HCS.out.2 ?_; rw [hw5])
            go_ret2
            exact ⟨none, 0, 0, [], 12, rfl, HE.out, PL.nil _ _ _, fun x h => (by cases h), H5.out.1⟩
          · have hsome : (some d).isSome = true := rfl
            obtain ⟨x, rfl, hxd, hxo, hxn⟩ := HX.out (by rw [hdc]; rfl)
            have hd2 : d = x.d := by
              have h1 := hdc
              unfold dec at h1
              split at h1
              · injection h1 with h1; rw [hxd, h1]
              · cases h1
            subst hd2
            have HXO := Lib.hid (hxo.below H5.out.2.2.2)
            have HXN : Hid (∀ s, (s = x.s1 ∨ s = x.s2 ∨ s = x.s3 ∨ s = x.s4) → ∃ g, s.A = some ⟨g, 0, none⟩ ∧ w1.heap.size ≤ g) := fun s hs => hxn s hs
            rw [hsome]
            have HDC := Lib.hid hdc
            have HCT := Lib.hid (ContainsF_any x Al k cl xs w5 HXO.out.name H5.out.2.2.1.dl (by omega))
            clear hdc hsome hxd hxo hxn HX
            go_wp2_with (first
              | ((with_reducible refine at_dst none ?_); refine wpList_storeNew (w := w2) (op := ⟨none, _, _, _, _, _⟩) rfl 71 (.tmp 8) (.tmp 29) rfl zeroD x.cells rfl rfl rfl iD x.one ?_; rw [hw5])
              | ((with_reducible refine at_dst (some 34) ?_); refine wpList_loadAt (op := ⟨some 34, _, _, _, _, _⟩) rfl 71 (.tmp 8) rfl ⟨w2.heap.size, 0, none⟩ rfl x.cells d0 HK5.out.at hu0 hd0 iD ?_))
            refine HCT.out.mono ?_
            rintro e w6 ⟨rfl, hb6⟩
            have H6 : Hid (Below w.heap.size w w6 ∧ Bs w6 Ab nb cb lb ∧ PL 71 w.heap.size w6 Al k cl xs ∧ Blk w6 w2.heap.size 71 x.cells ∧ DxOk w6 x) := ⟨H5.out.1.trans (hb6.mono H5.out.1.size), H5.out.2.1.below hb6, H5.out.2.2.1.below hb6, HK5.out.below hb6 HK5.out.lt, HXO.out.below hb6⟩
            clear hb6 HCT
            obtain ⟨dd, hdd⟩ : ∃ dd, dup (des xs) x.d = dd := ⟨_, rfl⟩
            rw [hdd]
            have HST3 : Hid (step (des xs) lb = if dd then .error 35 else .ok (x.d, M)) := by
              show _ = _
              rw [HST2.out, HDC.out, ← hdd]
            clear hdd
            cases dd
            · have hsz6 : w.heap.size ≤ w6.heap.size := H6.out.1.size
              have hbx : Below w6.heap.size w6 (w6.alloc (.cells x.cells.toArray 71)) := (Below.refl _ _).alloc (Nat.le_refl _) _
              have hkx : Blk (w6.alloc (.cells x.cells.toArray 71)) w6.heap.size 71 x.cells := Blk.new _ _ _
              obtain ⟨w7, hw7⟩ : ∃ w7, w6.alloc (.cells x.cells.toArray 71) = w7 := ⟨_, rfl⟩
              rw [hw7] at hbx hkx
              have H7 : Hid (Below w.heap.size w w7 ∧ Bs w7 Ab nb cb lb ∧ PL 71 w.heap.size w7 Al k cl xs ∧ Blk w7 w6.heap.size 71 x.cells ∧ DxOk w7 x) := ⟨H6.out.1.trans (hbx.mono H6.out.1.size), H6.out.2.1.below hbx, H6.out.2.2.1.below hbx, hkx, H6.out.2.2.2.2.below hbx⟩
              have HNW : Hid (∀ s, (s = x.s1 ∨ s = x.s2 ∨ s = x.s3 ∨ s = x.s4) → 0 < s.n → ∀ ad, s.A = some ad → ∀ ad', Al = some ad' → ad'.block ≠ ad.block) := fun s hs hn ad e ad' e' => by
                obtain ⟨g, hg, hge⟩ := HXN.out s hs
                rw [hg] at e
                injection e with e
                subst e
                have := (HS.out.2.2.1.ge ad' e').2
                have h2 := HGE1.out.2
                show ad'.block ≠ g
                omega
              have HAPP : Hid (∀ {ops : Array Oper} {rest : List Oper} {o : Oper} {a : Act} {Q : Exit → Act → World → Prop} (hgd : o.guard = none) (s y : Operand) (ho : o.op = .call { callee := .builtin .append, args := #[s, y], argTypes := #[24, 24] }) (hs : a.eval s = .slice Al k cl) (hy : a.eval y = .slice (some ⟨w6.heap.size, 0, none⟩) 1 1)
                  (hk : ∀ A' c' w', Hid (PL 71 w.heap.size w' A' (k + 1) c' (xs ++ [x])) → Below w.heap.size w7 w' → wpList Tryz.prog ops Q rest (a.put o.dst (.slice A' (k + 1) c')) w'), wpList Tryz.prog ops Q (o :: rest) a w7) :=
                fun hgd s y ho hs hy hk => wpList_appD ltD hgd s y ho H7.out.1.size hs H7.out.2.2.1 hy H7.out.2.2.2.1.at H7.out.2.2.2.2 HNW.out (by have := HK32.out; omega) (k + 1) rfl hk
              have hsl2 := fun W => run_from8 Ab nb cb (16 + M) (by have := HMN.out; omega) HS.out.2.1.le ((16 + M : Nat) : Int) rfl W
              have HBD := Lib.hid (HS.out.2.1.drop (16 + M) (by have := HMN.out; omega))
              have hwr : wrap64 (16 + (M : Int)) = ((16 + M : Nat) : Int) := by
                have := HMN.out
                unfold wrap64
                omega
              obtain ⟨P, hP⟩ : ∃ P, 16 + M = P := ⟨_, rfl⟩
              rw [hP] at hsl2 HBD hwr
              obtain ⟨A9, hA9⟩ : ∃ A9, (if cb = P then Ab else Ab.map (·.add P)) = A9 := ⟨_, rfl⟩
              rw [hA9] at hsl2 HBD
              obtain ⟨n9, hn9⟩ : ∃ n9, nb - P = n9 := ⟨_, rfl⟩
              obtain ⟨c9, hc9⟩ : ∃ c9, cb - P = c9 := ⟨_, rfl⟩
              rw [hn9, hc9] at hsl2 HBD
              have HN9 : Hid (n9 + 16 ≤ nb) := by show _ ≤ _; have := HMN.out; omega
              have HPE : Hid (pgo (32 - (k + 1)) (des (xs ++ [x])) (lb.drop P) = parse l) := by
                show _ = _
                rw [HPG.out, HST3.out, ← hP]
                simp [des]
              clear hsz6 hbx hkx hA9 hn9 hc9 hP
              go_wp2_with (first
                | ((with_reducible refine at_dst (some 38) ?_); refine wpList_loadAt (op := ⟨some 38, _, _, _, _, _⟩) rfl 71 (.tmp 8) rfl ⟨w2.heap.size, 0, none⟩ rfl x.cells d0 H6.out.2.2.2.1.at hu0 hd0 iD ?_)
                | ((with_reducible refine at_dst (some 39) ?_); refine wpList_build1 ltD (o := ⟨some 39, _, _, _, _, _⟩) rfl (.tmp 38) rfl x rfl ?_; rw [hw7])
                | ((with_reducible refine at_dst (some 40) ?_); refine HAPP.out (o := ⟨some 40, _, _, _, _, _⟩) rfl (.tmp 37) (.tmp 39) rfl rfl rfl ?_; intro A5 c5 w8 hpl8 hbe8))
              go_roundw
              case rel =>
                have hbw8 : Below w.heap.size w w8 := H7.out.1.trans hbe8
                refine ⟨A9, n9, c9, lb.drop P, A5, k + 1, c5, xs ++ [x], rfl, rfl, by have := HN9.out; omega, by have := HK32.out; omega, hbw8, HBD.out, hpl8.out, HS.out.2.2.2.1.snoc (fun s hs => ?_), HPE.out⟩
                obtain ⟨g, hg, hge⟩ := HXN.out s hs
                exact ⟨g, hg, by have h1 := HS.out.1.size; have h2 := HGE1.out.2; omega⟩
              case measure =>
                show n9 < nb
                have := HN9.out
                omega
            · have HE : Hid (parse l = ([], 35)) := by
                show _ = _
                rw [HPG.out, HST3.out]
                rfl
              go_wp2
              go_ret2
              exact ⟨none, 0, 0, [], 35, rfl, HE.out, PL.nil _ _ _, fun x h => (by cases h), H6.out.1⟩
        · have HE : Hid (parse l = ([], er)) := by
            show _ = _
            rw [HPG.out, step_err (by rw [← HER.out]; exact he0), HER.out]
          have e0 : ((er : Int) != 0) = true := by simp [he0]
          clear he0 hb1
          go_wp2
          go_ret2
          exact ⟨none, 0, 0, [], er, rfl, HE.out, PL.nil _ _ _, fun x h => (by cases h), H1.out.1⟩
end Go.Proofs.YtlcoebenkhafcaaGreatDoor
namespace Go.Proofs.YtlcoebenkhafcaaGreatDoor
set_option linter.unusedVariables false
set_option linter.unusedSimpArgs false
set_option maxRecDepth 100000
theorem be_num : ∀ (s : Nat) (l : List Nat), Fit 256 l → l.length = s → be s (num l) = l
  | 0, l, _, h => by rw [List.eq_nil_of_length_eq_zero h]; rfl
  | s + 1, l, hf, h => by
    rcases List.eq_nil_or_concat l with rfl | ⟨l', x, rfl⟩
    · simp at h
    · have hx : x < 256 := hf x (by simp)
      have ih := be_num s l' (fun d hd => hf d (by simp [hd])) (by simpa using h)
      simp only [List.concat_eq_append] at *
      rw [num_snoc, be, show (num l' * 256 + x) / 256 = num l' by omega, show (num l' * 256 + x) % 256 = x by omega, ih]
theorem step_ne {seen : List De} {b : List Nat} {e : Nat} (h : step seen b = .error e) : e ≠ 0 := by
  unfold step at h
  split at h
  · injection h with h; omega
  · split at h
    · injection h with h; omega
    · split at h
      · injection h with h; omega
      · cases hd : dec (num (sl b 0 8)) (sl b 16 (num (sl b 8 8))) with
        | none => rw [hd] at h; injection h with h; omega
        | some x =>
          rw [hd] at h
          simp only [] at h
          split at h
          · injection h with h; omega
          · cases h
theorem step_bytes {seen : List De} {b : List Nat} {d : De} {n : Nat} (h : step seen b = .ok (d, n)) (hf : Fit 256 b) : Right d ∧ dup seen d = false ∧ b.take (16 + n) = enc d := by
  unfold step at h
  split at h
  · cases h
  · split at h
    · cases h
    · split at h
      · cases h
      · next h1 h2 h3 =>
        cases hd : dec (num (sl b 0 8)) (sl b 16 (num (sl b 8 8))) with
        | none => rw [hd] at h; cases h
        | some x =>
          rw [hd] at h
          simp only [] at h
          split at h
          · cases h
          · next hn =>
            simp only [Except.ok.injEq, Prod.mk.injEq] at h
            obtain ⟨rfl, rfl⟩ := h
            obtain ⟨g1, g2, g3⟩ := dec_some hd
            refine ⟨g1, by simpa using hn, ?_⟩
            have e1 : x.kind.toNat = num (sl b 0 8) := by rw [g3]; exact Int.toNat_natCast _
            have e2 : (body x).length = num (sl b 8 8) := by rw [g2, sl_length (by omega)]
            have b1 := be_num 8 (sl b 0 8) (sl_fit hf 0 8) (sl_length (by omega))
            have b2 := be_num 8 (sl b 8 8) (sl_fit hf 8 8) (sl_length (by omega))
            rw [enc, e1, e2, b1, b2, g2]
            obtain ⟨m, hm⟩ : ∃ m, num (sl b 8 8) = m := ⟨_, rfl⟩
            rw [hm]
            unfold sl
            rw [List.drop_zero, show 16 + m = 8 + (8 + m) by omega, List.take_add, List.take_add, List.drop_drop]
theorem pgo_back : ∀ (f : Nat) (seen : List De) (b : List Nat) (L : List De), Fit 256 b → pgo f seen b = (L, 0) → ∃ M, L = seen ++ M ∧ (∀ d ∈ M, Right d) ∧ tw seen M = false ∧ M.length ≤ f ∧ dencs M = b
  | 0, seen, b, L, hf, h => by
    rw [pgo] at h
    by_cases hb : b.length = 0
    · rw [if_pos hb] at h
      injection h with h1 h2
      exact ⟨[], by simp [h1], by simp, rfl, Nat.le_refl _, by rw [List.eq_nil_of_length_eq_zero hb]; rfl⟩
    · rw [if_neg hb] at h
      injection h with h1 h2
      omega
  | f + 1, seen, b, L, hf, h => by
    rw [pgo] at h
    by_cases hb : b.length = 0
    · rw [if_pos hb] at h
      injection h with h1 h2
      exact ⟨[], by simp [h1], by simp, rfl, by simp, by rw [List.eq_nil_of_length_eq_zero hb]; rfl⟩
    · rw [if_neg hb] at h
      cases hs : step seen b with
      | error e =>
        rw [hs] at h
        injection h with h1 h2
        exact absurd h2 (step_ne hs)
      | ok q =>
        obtain ⟨d, n⟩ := q
        rw [hs] at h
        obtain ⟨h1, h2, h3⟩ := step_bytes hs hf
        obtain ⟨M, e1, e2, e3, e4, e5⟩ := pgo_back f (seen ++ [d]) (b.drop (16 + n)) L (hf.drop _) h
        refine ⟨d :: M, by rw [e1]; simp, fun y hy => ?_, by simp [tw, h2, e3], by simpa using e4, ?_⟩
        · rcases List.mem_cons.1 hy with rfl | hy
          · exact h1
          · exact e2 y hy
        · show enc d ++ dencs M = b
          rw [e5, ← h3, List.take_append_drop]
theorem parse_right {l : List Nat} {L : List De} (hf : Fit 256 l) (h : parse l = (L, 0)) : ∀ d ∈ L, Right d := by
  obtain ⟨M, e1, e2, e3, e4, e5⟩ := pgo_back 32 [] l L hf h
  rw [List.nil_append] at e1
  rw [e1]; exact e2
theorem pgo_len : ∀ (f : Nat) (seen : List De) (b : List Nat) (L : List De) (er : Nat), pgo f seen b = (L, er) → L.length ≤ seen.length + f
  | 0, seen, b, L, er, h => by
    rw [pgo] at h
    split at h
    · injection h with h1 h2; rw [← h1]; omega
    · injection h with h1 h2; rw [← h1]; simp
  | f + 1, seen, b, L, er, h => by
    rw [pgo] at h
    split at h
    · injection h with h1 h2; rw [← h1]; omega
    · cases hs : step seen b with
      | error e => rw [hs] at h; injection h with h1 h2; rw [← h1]; simp
      | ok q =>
        obtain ⟨d, n⟩ := q
        rw [hs] at h
        have := pgo_len f (seen ++ [d]) _ L er h
        rw [List.length_append, List.length_singleton] at this
        omega
end Go.Proofs.YtlcoebenkhafcaaGreatDoor
