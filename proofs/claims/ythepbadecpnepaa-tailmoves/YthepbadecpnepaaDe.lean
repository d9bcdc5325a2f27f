/-
  A region whose order is drawn: one property an operation, in any order; calls, allocations and stores let in, guards met or not. No condition.
-/
import Derived.Test.YthepbadecpnepaaD9
import Derived.RegionTactic
namespace Go.Proofs.Ythepbadecpnepaa
open Go.RowKit
set_option linter.unusedVariables false
set_option linter.unusedSimpArgs false
set_option maxRecDepth 100000

theorem count_drop (f g : Nat → Bool) (i : Nat) (hf : f i = true) (hg : g i = false) (hs : ∀ j, j ≠ i → g j = f j) : ∀ n, i < n → (List.range n).countP f = (List.range n).countP g + 1
  | 0, h => by omega
  | n + 1, h => by
    rw [List.range_succ, List.countP_append, List.countP_append]
    by_cases hin : i < n
    · have := count_drop f g i hf hg hs n hin
      have e : g n = f n := hs n (by omega)
      simp only [List.countP_cons, List.countP_nil, e]
      omega
    · have hi : i = n := by omega
      subst hi
      have e : (List.range i).countP f = (List.range i).countP g := by
        apply List.countP_congr
        intro j hj
        have := List.mem_range.1 hj
        rw [hs j (by omega)]
      simp [List.countP_cons, hf, hg, e]
/-- The frame outside the region's own slots. -/
structure Keeps (l : List Oper) (a0 a : Act) : Prop where
  defers : a.defers = a0.defers
  size : a.tmps.size = a0.tmps.size
  slot : ∀ s, (∀ o ∈ l, o.dst ≠ some s) → a.tmps.getD s undef = a0.tmps.getD s undef
/-- What an operation left: its slot's value, or nothing. -/
def got (a : Act) (o : Oper) : Value := match o.dst with
  | some d => a.tmps.getD d undef
  | none => undef
/-- Every operation that writes a slot writes one of its own, and waits only for earlier ones, by the edges that bind. -/
def eachW (l : List Oper) (size : Nat) : Bool :=
  (List.range l.length).all fun i => match l[i]? with
    | some o => (match o.dst with
      | some d => decide (d < size) && (List.range i).all fun j => match l[j]? with
        | some o' => o'.dst != some d
        | none => true
      | none => true) && o.after.all fun e => !Region.binds .any e || decide (e.on < i)
    | none => true
theorem eachW_lt {l : List Oper} {size : Nat} (h : eachW l size = true) {i : Nat} {o : Oper} (ho : l[i]? = some o) {d : Nat} (hd : o.dst = some d) : d < size := by
  have hi := (List.getElem?_eq_some_iff.1 ho).1
  have := List.all_eq_true.1 h i (List.mem_range.2 hi)
  rw [ho] at this
  simp only [hd, Bool.and_eq_true, decide_eq_true_eq] at this
  exact this.1.1
theorem eachW_ne_lt {l : List Oper} {size : Nat} (h : eachW l size = true) {i j : Nat} {o o' : Oper} {d : Nat} (ho : l[i]? = some o) (ho' : l[j]? = some o') (hd : o.dst = some d) (hlt : j < i) : o'.dst ≠ some d := by
  have hi := (List.getElem?_eq_some_iff.1 ho).1
  have := List.all_eq_true.1 h i (List.mem_range.2 hi)
  rw [ho] at this
  simp only [hd, Bool.and_eq_true] at this
  have h2 := List.all_eq_true.1 this.1.2 j (List.mem_range.2 hlt)
  rw [ho'] at h2
  simpa using h2
theorem eachW_ne {l : List Oper} {size : Nat} (h : eachW l size = true) {i j : Nat} {o o' : Oper} {d d' : Nat} (ho : l[i]? = some o) (ho' : l[j]? = some o') (hd : o.dst = some d) (hd' : o'.dst = some d') (hne : i ≠ j) : d ≠ d' := by
  rintro rfl
  rcases Nat.lt_or_gt_of_ne hne with hlt | hlt
  · exact eachW_ne_lt h ho' ho hd' hlt hd
  · exact eachW_ne_lt h ho ho' hd hlt hd'
theorem eachW_on {l : List Oper} {size : Nat} (h : eachW l size = true) {i : Nat} {o : Oper} (ho : l[i]? = some o) {e : Edge} (he : e ∈ o.after) (hb : Region.binds .any e = true) : e.on < i := by
  have hi := (List.getElem?_eq_some_iff.1 ho).1
  have := List.all_eq_true.1 h i (List.mem_range.2 hi)
  rw [ho] at this
  simp only [Bool.and_eq_true] at this
  have h2 := Array.all_eq_true_iff_forall_mem.1 this.2 e he
  simpa [hb] using h2
/-- What an operation that yields v leaves. -/
def gotv (o : Oper) (v : Value) : Value := match o.dst with
  | some _ => v
  | none => undef

theorem wp_region_eachW {P : Program} {id : Nat} {l : List Oper} {Q : Exit → Act → World → Prop} {a0 : Act} {w0 : World} (hm : P.follows .mixedOrders = true) (hB : eachW l a0.tmps.size = true) (Sm : World → World → Prop)
    (V : Nat → Value → World → Prop) (R : World → Prop)
    (mono : ∀ i v w w', V i v w → R w → Sm w w' → V i v w') (hR : ∀ w w', R w → Sm w w' → R w') (h0 : R w0.drew)
    (step : ∀ i o, l[i]? = some o → ∀ (a : Act) (w : World), R w → Keeps l a0 a → (∀ j o', l[j]? = some o' → (∃ e ∈ o.after, Region.binds .any e = true ∧ e.on = j) → V j (got a o') w) →
      ∀ K : Act → World → Prop, (∀ v w', V i (gotv o v) w' → Sm w w' → K (a.put o.dst v) w') → (if Region.wanted o (yielded l.toArray a.tmps) then o.wp P a w K Q else K (a.put o.dst undef) w))
    (fin : ∀ (a : Act) (w : World), R w → Keeps l a0 a → (∀ i o, l[i]? = some o → V i (got a o) w) → Q .normal a w) :
    (Code.region id l.toArray true).wp P Q a0 w0 := by
  refine wp_region_any hm ?_
  have key : ∀ (fuel : Nat) (listed : Array Bool) (a : Act) (w : World), listed.size = l.length → (List.range l.length).countP (fun j => !listed.getD j true) = fuel → R w → Keeps l a0 a →
      (∀ i o, l[i]? = some o → listed.getD i true = true → V i (got a o) w) → wpAny P .any l.toArray Q fuel listed a w := by
    intro fuel
    induction fuel with
    | zero =>
      intro listed a w hsz hc hr hk hv
      have all : ∀ i, i < l.length → listed.getD i true = true := by
        intro i hi
        have := List.countP_eq_zero.1 hc i (List.mem_range.2 hi)
        simpa using this
      refine ⟨?_, fin a w hr hk (fun i o ho => hv i o ho (all i (List.getElem?_eq_some_iff.1 ho).1))⟩
      apply List.eq_nil_iff_forall_not_mem.2
      intro j hj
      obtain ⟨h1, o, ho, _⟩ := mem_ready.1 hj
      have hjl : j < l.length := by
        have := (Array.getElem?_eq_some_iff.1 ho).1
        simpa using this
      rw [all j hjl] at h1
      cases h1
    | succ fuel ih =>
      intro listed a w hsz hc hr hk hv
      refine ⟨fun hnil => ?_, fun i hi => ?_⟩
      · -- the least operation that is not listed is ready
        exfalso
        have hex : ∃ j, j < l.length ∧ listed.getD j true = false := by
          have hpos : 0 < (List.range l.length).countP (fun j => !listed.getD j true) := by omega
          obtain ⟨j, hj, hf⟩ := List.countP_pos_iff.1 hpos
          exact ⟨j, List.mem_range.1 hj, by simpa using hf⟩
        have least : ∀ n, (∃ j, j < n ∧ j < l.length ∧ listed.getD j true = false) → ∃ j, j < l.length ∧ listed.getD j true = false ∧ ∀ k, k < j → listed.getD k true = true := by
          intro n
          induction n with
          | zero => rintro ⟨j, h, _⟩; omega
          | succ n ihn =>
            rintro ⟨j, h1, h2, h3⟩
            by_cases hb : ∃ j, j < n ∧ j < l.length ∧ listed.getD j true = false
            · exact ihn hb
            · refine ⟨j, h2, h3, fun k hk => ?_⟩
              cases hq : listed.getD k true with
              | true => rfl
              | false => exact absurd ⟨k, by omega, by omega, hq⟩ hb
        obtain ⟨j, hj, hf⟩ := hex
        obtain ⟨j, hj, hf, hlow⟩ := least (j + 1) ⟨j, by omega, hj, hf⟩
        have hmem : j ∈ Region.ready .any l.toArray listed := by
          refine mem_ready.2 ⟨hf, l[j], by simp [hj], fun e he hbd => ?_⟩
          have hon := eachW_on hB (List.getElem?_eq_getElem hj) he hbd
          have h1 := hlow e.on hon
          have hlt : e.on < listed.size := by omega
          simp [Array.getD, hlt] at h1 ⊢
          exact h1
        rw [hnil] at hmem
        cases hmem
      · obtain ⟨hun, o, ho, hall⟩ := mem_ready.1 hi
        have ho' : l[i]? = some o := by simpa using ho
        have hil := (List.getElem?_eq_some_iff.1 ho').1
        have hcnt2 : listed.size = l.length → (List.range l.length).countP (fun j => !(listed.setIfInBounds i true).getD j true) = fuel := by
          intro hsz
          have hlt : i < listed.size := by omega
          have := count_drop (fun j => !listed.getD j true) (fun j => !(listed.setIfInBounds i true).getD j true) i (by simp [hun]) (by simp [Array.getD, hlt]) (fun j hj => by simp [Array.getD_eq_getD_getElem?, Ne.symm hj]) l.length hil
          omega
        have hother : ∀ j, j < l.length → i ≠ j → (listed.setIfInBounds i true).getD j true = true → listed.getD j true = true := by
          intro j hj hij hlj
          have e : (listed.setIfInBounds i true).getD j true = listed.getD j true := by
            simp [Array.getD_eq_getD_getElem?, Array.getElem?_setIfInBounds, hij]
          rw [e] at hlj
          exact hlj
        have hst := step i o ho' a w hr hk (fun j oj hj ⟨e, he, hbd, hej⟩ => hv j oj hj (by
          have h1 := hall e he hbd
          rw [hej] at h1
          have hlt : j < listed.size := by rw [hsz]; exact (List.getElem?_eq_some_iff.1 hj).1
          simp [Array.getD, hlt] at h1 ⊢
          exact h1)) (wpAny P .any l.toArray Q fuel (listed.setIfInBounds i true)) (fun v w' hvv hb => by
          rcases hd : o.dst with _ | d
          · have hput : a.put none v = a := rfl
            rw [hput]
            refine ih _ _ _ (by simpa using hsz) (hcnt2 hsz) (hR _ _ hr hb) hk ?_
            intro j oj hj hlj
            by_cases hij : i = j
            · subst hij
              rw [ho'] at hj
              injection hj with hj
              subst hj
              have e1 : got a o = undef := by simp [got, hd]
              have e2 : gotv o v = undef := by simp [gotv, hd]
              rw [e1]
              rw [e2] at hvv
              exact hvv
            · exact mono j _ w w' (hv j oj hj (hother j (List.getElem?_eq_some_iff.1 hj).1 hij hlj)) hr hb
          · have hds := eachW_lt hB ho' hd
            have hkd : (a.put (some d) v).tmps = a.tmps.setIfInBounds d v := rfl
            have hgv : gotv o v = v := by simp [gotv, hd]
            rw [hgv] at hvv
            refine ih _ _ _ (by simpa using hsz) (hcnt2 hsz) (hR _ _ hr hb) ⟨hk.defers, ?_, ?_⟩ ?_
            · rw [hkd]; simpa using hk.size
            · intro s hs
              rw [hkd, ← hk.slot s hs]
              have hne : d ≠ s := fun e => hs o (List.mem_of_getElem? ho') (by rw [hd, e])
              simp [Array.getD_eq_getD_getElem?, Array.getElem?_setIfInBounds, hne]
            · intro j oj hj hlj
              by_cases hij : i = j
              · subst hij
                rw [ho'] at hj
                injection hj with hj
                subst hj
                have hlt : d < a.tmps.size := by rw [hk.size]; exact hds
                have e1 : got (a.put (some d) v) o = v := by
                  simp [got, hd, hkd, Array.getD_eq_getD_getElem?, Array.getElem?_setIfInBounds, hlt]
                rw [e1]
                exact hvv
              · have e1 : got (a.put (some d) v) oj = got a oj := by
                  rcases hdj : oj.dst with _ | dj
                  · simp [got, hdj]
                  · have hne := eachW_ne hB ho' hj hd hdj hij
                    simp [got, hdj, hkd, Array.getD_eq_getD_getElem?, Array.getElem?_setIfInBounds, hne]
                rw [e1]
                exact mono j _ w w' (hv j oj hj (hother j (List.getElem?_eq_some_iff.1 hj).1 hij hlj)) hr hb)
        unfold wpOp
        rw [ho]
        simp only []
        split
        · next hw => rw [if_pos hw] at hst; exact .inl hst
        · next hw => rw [if_neg hw] at hst; exact hst
  have hsz : (Array.replicate l.toArray.size false).size = l.length := by simp
  have hcnt : (List.range l.length).countP (fun j => !(Array.replicate l.toArray.size false).getD j true) = l.toArray.size := by
    have e : (List.range l.length).countP (fun j => !(Array.replicate l.toArray.size false).getD j true) = (List.range l.length).length := by
      apply List.countP_eq_length.2
      intro j hj
      have := List.mem_range.1 hj
      simp [Array.getD, this]
    rw [e]; simp
  refine key _ _ a0 _ hsz hcnt h0 ⟨rfl, rfl, fun _ _ => rfl⟩ ?_
  intro i o ho hl
  have := (List.getElem?_eq_some_iff.1 ho).1
  simp [Array.getD, this] at hl
/-- The frame behind a region, written out: the slots of p are the region's own. -/
def mixP (p : Nat → Bool) (f : Nat → Value) : Nat → List Value → List Value
  | _, [] => []
  | k, v :: r => (if p k = true then f k else v) :: mixP p f (k + 1) r
theorem mixP_length (p : Nat → Bool) (f : Nat → Value) : ∀ (l : List Value) (k : Nat), (mixP p f k l).length = l.length
  | [], _ => rfl
  | _ :: r, k => by simp [mixP, mixP_length p f r (k + 1)]
theorem mixP_get (p : Nat → Bool) (f : Nat → Value) : ∀ (l : List Value) (k i : Nat), i < l.length → (mixP p f k l).getD i undef = if p (k + i) = true then f (k + i) else l.getD i undef
  | [], _, _, h => by simp at h
  | v :: r, k, 0, _ => by simp [mixP]
  | v :: r, k, i + 1, h => by
    have := mixP_get p f r (k + 1) i (by simpa using h)
    simp only [mixP, List.getD_cons_succ]
    rw [this, show k + 1 + i = k + (i + 1) by omega]
theorem keeps_frameP {l : List Oper} {tm : Array Value} {a : Act} (p : Nat → Bool) (hk : Keeps l ⟨tm, []⟩ a) (hd : ∀ o ∈ l, ∀ s, o.dst = some s → p s = true) : a = ⟨(mixP p (fun s => a.tmps.getD s undef) 0 tm.toList).toArray, []⟩ := by
  obtain ⟨t, df⟩ := a
  have h1 : df = [] := hk.defers
  have h2 : t.size = tm.size := hk.size
  subst h1
  congr 1
  apply Array.ext
  · simp [mixP_length, h2]
  · intro i hi1 hi2
    have hl : i < tm.toList.length := by simp; omega
    have e := mixP_get p (fun s => t.getD s undef) tm.toList 0 i hl
    rw [Nat.zero_add] at e
    have e1 : t[i] = t.getD i undef := by simp [Array.getD, hi1]
    have e2 : ((mixP p (fun s => t.getD s undef) 0 tm.toList).toArray)[i] = (mixP p (fun s => t.getD s undef) 0 tm.toList).getD i undef := by
      rw [List.getD_eq_getElem?_getD, List.getElem?_eq_getElem (by simpa using hi2)]
      simp
    rw [e1, e2, e]
    by_cases hn : p i = true
    · rw [if_pos hn]
    · rw [if_neg hn]
      have e3 : t.getD i undef = tm.getD i undef := hk.slot i (fun o ho e => hn (hd o ho i e))
      rw [e3]
      simp [Array.getD, show i < tm.size by simpa using hl, List.getD_eq_getElem?_getD]
theorem want_none {o : Oper} {y : Nat → Option Bool} (h : o.guard = none) : Region.wanted o y = true := by simp [Region.wanted, h]
theorem want_some {l : List Oper} {o oj : Oper} {a : Act} {j d : Nat} {b : Bool} (h : o.guard = some (j, b)) (hj : l[j]? = some oj) (hd : oj.dst = some d) (hv : a.tmps.getD d undef = .bool b) : Region.wanted o (yielded l.toArray a.tmps) = true := by
  have ht : a.tmps[d]? = some (.bool b) := by
    rw [Array.getD_eq_getD_getElem?] at hv
    cases hq : a.tmps[d]? with
    | none => rw [hq] at hv; cases hv
    | some x => rw [hq] at hv; simp at hv; rw [hv]
  simp [Region.wanted, h, yielded, hj, hd, ht]
section
variable {P : Program} {o : Oper} {a : Act} {w w' : World} {K : Act → World → Prop} {Q : Exit → Act → World → Prop} {E : Prop} {b : Bool}
theorem st_run (hw : b = true) (v : Value) (hr : (execOp a.eval o).run P w = .ok (.value v) w') (h : K (a.put o.dst v) w') : if b = true then o.wp P a w K Q else E := by
  rw [if_pos hw]
  unfold Oper.wp
  rw [hr]
  exact h
theorem st_skip (hw : b = true) (hr : (execOp a.eval o).run P w = .ok .skip w') (h : K (a.put o.dst undef) w') : if b = true then o.wp P a w K Q else E := by
  rw [if_pos hw]
  unfold Oper.wp
  rw [hr]
  exact h
theorem st_fall (hw : b = false) (h : E) : if b = true then o.wp P a w K Q else E := by
  rw [if_neg (by rw [hw]; exact Bool.false_ne_true)]
  exact h
end
theorem want_fall {l : List Oper} {o oj : Oper} {a : Act} {j d : Nat} {b c : Bool} (h : o.guard = some (j, b)) (hj : l[j]? = some oj) (hd : oj.dst = some d) (hv : a.tmps.getD d undef = .bool c) (hne : c ≠ b) : Region.wanted o (yielded l.toArray a.tmps) = false := by
  have ht : a.tmps[d]? = some (.bool c) := by
    rw [Array.getD_eq_getD_getElem?] at hv
    cases hq : a.tmps[d]? with
    | none => rw [hq] at hv; cases hv
    | some x => rw [hq] at hv; simp at hv; rw [hv]
  simp [Region.wanted, h, yielded, hj, hd, ht, hne]
section
variable {o : Oper} {a : Act} {w : World} {K : Act → World → Prop} {Q : Exit → Act → World → Prop} {E : Prop} {b : Bool}
theorem st_move (x : Operand) (ho : o.op = .move x) (hw : b = true) (v : Value) (hx : a.eval x = v) (h : K (a.put o.dst v) w) : if b = true then o.wp Try.prog a w K Q else E := by
  rw [if_pos hw]; unfold Oper.wp execOp; simp only [ho, hx, Sem.run_pure]; exact h
theorem st_assign (x : Operand) (ho : o.op = .assign x) (hw : b = true) (v : Value) (hx : a.eval x = v) (h : K (a.put o.dst v) w) : if b = true then o.wp Try.prog a w K Q else E := by
  rw [if_pos hw]; unfold Oper.wp execOp; simp only [ho, hx, Sem.run_pure]; exact h
theorem st_pick (c x y : Operand) (ho : o.op = .pick c x y) (hw : b = true) (cb : Bool) (hc : a.eval c = .bool cb) (v : Value) (hv : (if cb = true then a.eval x else a.eval y) = v) (h : K (a.put o.dst v) w) : if b = true then o.wp Try.prog a w K Q else E := by
  rw [if_pos hw]; unfold Oper.wp execOp
  subst hv
  simp only [ho, hc, asBool, Sem.run_bind, Sem.run_pure, Result.andThen_ok]
  exact h
theorem st_call1 (f : Nat) (x : Operand) (t : TypeId) (ho : o.op = .call { callee := .value (.func f), args := #[x], argTypes := #[t] }) (hw : b = true) (v : Value) (hx : a.eval x = v) (hcf : (callFunc f #[v]).run Try.prog w = .ok (.enter f #[v]) w) (post : Ending → World → Prop) (hc : Calls Try.prog f #[v] w post) (hp : ∀ e w', post e w' → ∃ u, e = .returned u ∧ K (a.put o.dst u) w') : if b = true then o.wp Try.prog a w K Q else E := by
  rw [if_pos hw]; unfold Oper.wp execOp
  have hf : a.eval (.func f) = .func (.func f) #[] #[] := rfl
  have hx' : Array.map a.eval #[x] = #[v] := by simp [hx]
  simp only [ho]
  simp only [resolve, hf, hx']
  simp [invoke, go_sem, Result.andThen]
  rw [hcf]
  refine hc.mono fun e w' h => ?_
  obtain ⟨u, rfl, hk⟩ := hp e w' h
  exact hk
theorem st_callV (f : Nat) (y x1 x2 : Operand) (t1 t2 : TypeId) (ho : o.op = .call { callee := .value y, args := #[x1, x2], argTypes := #[t1, t2] }) (hw : b = true) (c1 c2 v1 v2 : Value) (hy : a.eval y = .func (.func f) #[] #[c1, c2]) (hx1 : a.eval x1 = v1) (hx2 : a.eval x2 = v2) (hcf : (callFunc f #[v1, v2, c1, c2]).run Try.prog w = .ok (.enter f #[v1, v2, c1, c2]) w) (post : Ending → World → Prop) (hc : Calls Try.prog f #[v1, v2, c1, c2] w post) (hp : ∀ e w', post e w' → ∃ u, e = .returned u ∧ K (a.put o.dst u) w') : if b = true then o.wp Try.prog a w K Q else E := by
  rw [if_pos hw]; unfold Oper.wp execOp
  have hx' : Array.map a.eval #[x1, x2] = #[v1, v2] := by simp [hx1, hx2]
  simp only [ho]
  simp only [resolve, hy, hx']
  simp [invoke, go_sem, Result.andThen]
  rw [hcf]
  refine hc.mono fun e w' h => ?_
  obtain ⟨u, rfl, hk⟩ := hp e w' h
  exact hk
theorem st_callN (f : Nat) (args : Array Operand) (ts : Array TypeId) (ho : o.op = .call { callee := .value (.func f), args := args, argTypes := ts }) (hw : b = true) (vs : Array Value) (hx : Array.map a.eval args = vs) (hcf : (callFunc f vs).run Try.prog w = .ok (.enter f vs) w) (post : Ending → World → Prop) (hc : Calls Try.prog f vs w post) (hp : ∀ e w', post e w' → ∃ u, e = .returned u ∧ K (a.put o.dst u) w') : if b = true then o.wp Try.prog a w K Q else E := by
  rw [if_pos hw]; unfold Oper.wp execOp
  have hf : a.eval (.func f) = .func (.func f) #[] #[] := rfl
  simp only [ho]
  simp only [resolve, hf, hx]
  simp [invoke, go_sem, Result.andThen]
  rw [hcf]
  refine hc.mono fun e w' h => ?_
  obtain ⟨u, rfl, hk⟩ := hp e w' h
  exact hk
end
theorem below_drew1 {B : Nat} {a w : World} (h : Below B a w) : Below B a w.drew := ⟨h.os, h.tape, h.output, h.size, h.block⟩
end Go.Proofs.Ythepbadecpnepaa
