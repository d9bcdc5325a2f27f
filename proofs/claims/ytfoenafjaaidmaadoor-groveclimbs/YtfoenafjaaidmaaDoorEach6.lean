/-
  A region that draws its order, by one property for each operation's value: each operation, whatever came before it but what it waits for, yields a value of its property, and only new blocks come; then behind the region all of them hold. No condition.
-/
import Derived.Test.YtfoenafjaaidmaaDoorB9
import Derived.RegionTactic
namespace Go.Proofs.YtfoenafjaaidmaaDoor
open Go.RowKit
set_option linter.unusedVariables false
set_option linter.unusedSimpArgs false

/-- Every operation writes a slot of its own, and waits only for earlier ones. -/
def eachB (l : List Oper) (size : Nat) : Bool :=
  (List.range l.length).all fun i => match l[i]? with
    | some o => (match o.dst with
      | some d => decide (d < size) && (List.range i).all fun j => match l[j]? with
        | some o' => o'.dst != some d
        | none => true
      | none => false) && o.after.all fun e => decide (e.on < i)
    | none => true
theorem each_dst {l : List Oper} {size : Nat} (h : eachB l size = true) {i : Nat} {o : Oper} (ho : l[i]? = some o) : ∃ d, o.dst = some d ∧ d < size := by
  have hi := (List.getElem?_eq_some_iff.1 ho).1
  have := List.all_eq_true.1 h i (List.mem_range.2 hi)
  rw [ho] at this
  simp only [Bool.and_eq_true] at this
  rcases hd : o.dst with _ | d
  · rw [hd] at this; simp at this
  · rw [hd] at this
    simp only [Bool.and_eq_true, decide_eq_true_eq] at this
    exact ⟨d, rfl, this.1.1⟩
theorem each_ne_lt {l : List Oper} {size : Nat} (h : eachB l size = true) {i j : Nat} {o o' : Oper} {d : Nat} (ho : l[i]? = some o) (ho' : l[j]? = some o') (hd : o.dst = some d) (hlt : j < i) : o'.dst ≠ some d := by
  have hi := (List.getElem?_eq_some_iff.1 ho).1
  have := List.all_eq_true.1 h i (List.mem_range.2 hi)
  rw [ho] at this
  simp only [hd, Bool.and_eq_true] at this
  have h2 := List.all_eq_true.1 this.1.2 j (List.mem_range.2 hlt)
  rw [ho'] at h2
  simpa using h2
theorem each_ne {l : List Oper} {size : Nat} (h : eachB l size = true) {i j : Nat} {o o' : Oper} {d d' : Nat} (ho : l[i]? = some o) (ho' : l[j]? = some o') (hd : o.dst = some d) (hd' : o'.dst = some d') (hne : i ≠ j) : d ≠ d' := by
  rintro rfl
  rcases Nat.lt_or_gt_of_ne hne with hlt | hlt
  · exact each_ne_lt h ho' ho hd' hlt hd
  · exact each_ne_lt h ho ho' hd hlt hd'
theorem each_on {l : List Oper} {size : Nat} (h : eachB l size = true) {i : Nat} {o : Oper} (ho : l[i]? = some o) {e : Edge} (he : e ∈ o.after) : e.on < i := by
  have hi := (List.getElem?_eq_some_iff.1 ho).1
  have := List.all_eq_true.1 h i (List.mem_range.2 hi)
  rw [ho] at this
  simp only [Bool.and_eq_true] at this
  have h2 := Array.all_eq_true_iff_forall_mem.1 this.2 e he
  simpa using h2

theorem count_drop (f g : Nat → Bool) (i : Nat) (hf : f i = true) (hg : g i = false) (hs : ∀ j, j ≠ i → g j = f j) : ∀ n, i < n → (List.range n).countP f = (List.range n).countP g + 1
  | 0, h => by omega
  | n + 1, h => by
    rw [List.range_succ, List.countP_append, List.countP_append]
    by_cases hin : i < n
    · have := count_drop f g i hf hg hs n hin
      have e : g n = f n := hs n (by omega)
      simp only [List.countP_cons, List.countP_nil, e]
      omega
    · have hi : i = n := by omega
      subst hi
      have e : (List.range i).countP f = (List.range i).countP g := by
        apply List.countP_congr
        intro j hj
        have := List.mem_range.1 hj
        rw [hs j (by omega)]
      simp [List.countP_cons, hf, hg, e]

/-- The frame outside the region's own slots. -/
structure Keeps (l : List Oper) (a0 a : Act) : Prop where
  defers : a.defers = a0.defers
  size : a.tmps.size = a0.tmps.size
  slot : ∀ s, (∀ o ∈ l, o.dst ≠ some s) → a.tmps.getD s undef = a0.tmps.getD s undef

theorem wp_region_each {P : Program} {id : Nat} {l : List Oper} {Q : Exit → Act → World → Prop} {a0 : Act} {w0 : World} (hm : P.follows .mixedOrders = true) (hB : eachB l a0.tmps.size = true)
    (V : Nat → Value → World → Prop) (R : World → Prop)
    (mono : ∀ i v w w', V i v w → R w → Below w.heap.size w w' → V i v w') (hR : ∀ w w', R w → Below w.heap.size w w' → R w') (h0 : R w0.drew)
    (step : ∀ i o, l[i]? = some o → ∀ (a : Act) (w : World), R w → Keeps l a0 a → (∀ j o' d, l[j]? = some o' → o'.dst = some d → (∃ e ∈ o.after, Region.binds .any e = true ∧ e.on = j) → V j (a.tmps.getD d undef) w) →
      ∀ K : Act → World → Prop, (∀ v w', V i v w' → Below w.heap.size w w' → K (a.put o.dst v) w') → (if Region.wanted o (yielded l.toArray a.tmps) then o.wp P a w K Q else K (a.put o.dst undef) w))
    (fin : ∀ (a : Act) (w : World), R w → Keeps l a0 a → (∀ i o d, l[i]? = some o → o.dst = some d → V i (a.tmps.getD d undef) w) → Q .normal a w) :
    (Code.region id l.toArray true).wp P Q a0 w0 := by
  refine wp_region_any hm ?_
  have key : ∀ (fuel : Nat) (listed : Array Bool) (a : Act) (w : World), listed.size = l.length → (List.range l.length).countP (fun j => !listed.getD j true) = fuel → R w → Keeps l a0 a →
      (∀ i o d, l[i]? = some o → o.dst = some d → listed.getD i true = true → V i (a.tmps.getD d undef) w) → wpAny P .any l.toArray Q fuel listed a w := by
    intro fuel
    induction fuel with
    | zero =>
      intro listed a w hsz hc hr hk hv
      have all : ∀ i, i < l.length → listed.getD i true = true := by
        intro i hi
        have := List.countP_eq_zero.1 hc i (List.mem_range.2 hi)
        simpa using this
      refine ⟨?_, fin a w hr hk (fun i o d ho hd => hv i o d ho hd (all i (List.getElem?_eq_some_iff.1 ho).1))⟩
      apply List.eq_nil_iff_forall_not_mem.2
      intro j hj
      obtain ⟨h1, o, ho, _⟩ := mem_ready.1 hj
      have hjl : j < l.length := by
        have := (Array.getElem?_eq_some_iff.1 ho).1
        simpa using this
      rw [all j hjl] at h1
      cases h1
    | succ fuel ih =>
      intro listed a w hsz hc hr hk hv
      refine ⟨fun hnil => ?_, fun i hi => ?_⟩
      · -- the least operation that is not listed is ready
        exfalso
        have hex : ∃ j, j < l.length ∧ listed.getD j true = false := by
          have hpos : 0 < (List.range l.length).countP (fun j => !listed.getD j true) := by omega
          obtain ⟨j, hj, hf⟩ := List.countP_pos_iff.1 hpos
          exact ⟨j, List.mem_range.1 hj, by simpa using hf⟩
        have least : ∀ n, (∃ j, j < n ∧ j < l.length ∧ listed.getD j true = false) → ∃ j, j < l.length ∧ listed.getD j true = false ∧ ∀ k, k < j → listed.getD k true = true := by
          intro n
          induction n with
          | zero => rintro ⟨j, h, _⟩; omega
          | succ n ihn =>
            rintro ⟨j, h1, h2, h3⟩
            by_cases hb : ∃ j, j < n ∧ j < l.length ∧ listed.getD j true = false
            · exact ihn hb
            · refine ⟨j, h2, h3, fun k hk => ?_⟩
              cases hq : listed.getD k true with
              | true => rfl
              | false => exact absurd ⟨k, by omega, by omega, hq⟩ hb
        obtain ⟨j, hj, hf⟩ := hex
        obtain ⟨j, hj, hf, hlow⟩ := least (j + 1) ⟨j, by omega, hj, hf⟩
        have hmem : j ∈ Region.ready .any l.toArray listed := by
          refine mem_ready.2 ⟨hf, l[j], by simp [hj], fun e he _ => ?_⟩
          have hon := each_on hB (List.getElem?_eq_getElem hj) he
          have h1 := hlow e.on hon
          have hlt : e.on < listed.size := by omega
          simp [Array.getD, hlt] at h1 ⊢
          exact h1
        rw [hnil] at hmem
        cases hmem
      · obtain ⟨hun, o, ho, hall⟩ := mem_ready.1 hi
        have ho' : l[i]? = some o := by simpa using ho
        have hil := (List.getElem?_eq_some_iff.1 ho').1
        obtain ⟨d, hd, hds⟩ := each_dst hB ho'
        have hst := step i o ho' a w hr hk (fun j oj dj hj hdj ⟨e, he, hbd, hej⟩ => hv j oj dj hj hdj (by
          have h1 := hall e he hbd
          rw [hej] at h1
          have hlt : j < listed.size := by rw [hsz]; exact (List.getElem?_eq_some_iff.1 hj).1
          simp [Array.getD, hlt] at h1 ⊢
          exact h1)) (wpAny P .any l.toArray Q fuel (listed.setIfInBounds i true)) (fun v w' hvv hb => by
          have hkd : (a.put o.dst v).tmps = a.tmps.setIfInBounds d v := by rw [hd]; rfl
          refine ih _ _ _ (by simpa using hsz) ?_ (hR _ _ hr hb) ⟨?_, ?_, ?_⟩ ?_
          · have hlt : i < listed.size := by omega
            have := count_drop (fun j => !listed.getD j true) (fun j => !(listed.setIfInBounds i true).getD j true) i (by simp [hun]) (by simp [Array.getD, hlt]) (fun j hj => by simp [Array.getD_eq_getD_getElem?, Ne.symm hj]) l.length hil
            omega
          · rw [hd]; exact hk.defers
          · rw [hkd]; simpa using hk.size
          · intro s hs
            rw [hkd, ← hk.slot s hs]
            have hne : d ≠ s := fun e => hs o (List.mem_of_getElem? ho') (by rw [hd, e])
            simp [Array.getD_eq_getD_getElem?, Array.getElem?_setIfInBounds, hne]
          · intro j oj dj hj hdj hlj
            rw [hkd]
            by_cases hij : i = j
            · subst hij
              rw [ho'] at hj
              injection hj with hj
              subst hj
              rw [hd] at hdj
              injection hdj with hdj
              subst hdj
              have hlt : d < a.tmps.size := by rw [hk.size]; exact hds
              simp [Array.getD_eq_getD_getElem?, Array.getElem?_setIfInBounds, hlt]
              exact hvv
            · have hne := each_ne hB ho' hj hd hdj hij
              have : (a.tmps.setIfInBounds d v).getD dj undef = a.tmps.getD dj undef := by
                simp [Array.getD_eq_getD_getElem?, Array.getElem?_setIfInBounds, hne]
              rw [this]
              refine mono j _ w w' (hv j oj dj hj hdj ?_) hr hb
              have hlt : j < listed.size := by rw [hsz]; exact (List.getElem?_eq_some_iff.1 hj).1
              have e : (listed.setIfInBounds i true).getD j true = listed.getD j true := by
                simp [Array.getD_eq_getD_getElem?, Array.getElem?_setIfInBounds, hij]
              rw [e] at hlj
              exact hlj)
        unfold wpOp
        rw [ho]
        simp only []
        split
        · next hw => rw [if_pos hw] at hst; exact .inl hst
        · next hw => rw [if_neg hw] at hst; exact hst
  have hsz : (Array.replicate l.toArray.size false).size = l.length := by simp
  have hcnt : (List.range l.length).countP (fun j => !(Array.replicate l.toArray.size false).getD j true) = l.toArray.size := by
    have e : (List.range l.length).countP (fun j => !(Array.replicate l.toArray.size false).getD j true) = (List.range l.length).length := by
      apply List.countP_eq_length.2
      intro j hj
      have := List.mem_range.1 hj
      simp [Array.getD, this]
    rw [e]; simp
  refine key _ _ a0 _ hsz hcnt h0 ⟨rfl, rfl, fun _ _ => rfl⟩ ?_
  intro i o d ho hd hl
  have := (List.getElem?_eq_some_iff.1 ho).1
  simp [Array.getD, this] at hl

theorem want_none {o : Oper} {y : Nat → Option Bool} (h : o.guard = none) : Region.wanted o y = true := by simp [Region.wanted, h]
theorem want_some {l : List Oper} {o oj : Oper} {a : Act} {j d : Nat} {b : Bool} (h : o.guard = some (j, b)) (hj : l[j]? = some oj) (hd : oj.dst = some d) (hv : a.tmps.getD d undef = .bool b) : Region.wanted o (yielded l.toArray a.tmps) = true := by
  have ht : a.tmps[d]? = some (.bool b) := by
    rw [Array.getD_eq_getD_getElem?] at hv
    cases hq : a.tmps[d]? with
    | none => rw [hq] at hv; cases hv
    | some x => rw [hq] at hv; simp at hv; rw [hv]
  simp [Region.wanted, h, yielded, hj, hd, ht]
section
variable {o : Oper} {a : Act} {w : World} {K : Act → World → Prop} {Q : Exit → Act → World → Prop} {E : Prop} {b : Bool}
theorem st_move (x : Operand) (ho : o.op = .move x) (hw : b = true) (v : Value) (hx : a.eval x = v) (h : K (a.put o.dst v) w) : if b = true then o.wp Tryd.prog a w K Q else E := by
  rw [if_pos hw]; unfold Oper.wp execOp; simp only [ho, hx, Sem.run_pure]; exact h
theorem st_assign (x : Operand) (ho : o.op = .assign x) (hw : b = true) (v : Value) (hx : a.eval x = v) (h : K (a.put o.dst v) w) : if b = true then o.wp Tryd.prog a w K Q else E := by
  rw [if_pos hw]; unfold Oper.wp execOp; simp only [ho, hx, Sem.run_pure]; exact h
theorem st_pick (c x y : Operand) (ho : o.op = .pick c x y) (hw : b = true) (cb : Bool) (hc : a.eval c = .bool cb) (v : Value) (hv : (if cb = true then a.eval x else a.eval y) = v) (h : K (a.put o.dst v) w) : if b = true then o.wp Tryd.prog a w K Q else E := by
  rw [if_pos hw]; unfold Oper.wp execOp
  subst hv
  simp only [ho, hc, asBool, Sem.run_bind, Sem.run_pure, Result.andThen_ok]
  exact h
theorem st_len (x : Operand) (ho : o.op = .call { callee := .builtin .len, args := #[x], argTypes := #[22] }) (hw : b = true) (A : Option Addr) (n cap : Nat) (hx : a.eval x = .slice A n cap) (h : K (a.put o.dst (.int .i64 (n : Int))) w) : if b = true then o.wp Tryd.prog a w K Q else E := by
  rw [if_pos hw]; unfold Oper.wp execOp
  simp [ho, resolve, invoke, builtin, hx, Builtin.len_, run_underlying Tryd.underlying22, Builtin.lenOf, Result.andThen, goInt]
  exact h
theorem st_eqlInt (t : TypeId) (x y : Operand) (ho : o.op = .binOp .eql t x y t) (hw : b = true) (m : Int) (hx : a.eval x = .int .i64 m) (hy : a.eval y = .int .i64 m) (h : K (a.put o.dst (.bool true)) w) : if b = true then o.wp Tryd.prog a w K Q else E := by
  rw [if_pos hw]; unfold Oper.wp execOp
  simp only [ho, hx, hy]
  simp [eqGuard, go_sem, Result.andThen]
  exact h
theorem st_eqlStr (x y : Operand) (ho : o.op = .binOp .eql 9 x y 9) (hw : b = true) (s : ByteArray) (hx : a.eval x = .string s) (hy : a.eval y = .string s) (h : K (a.put o.dst (.bool true)) w) : if b = true then o.wp Tryd.prog a w K Q else E := by
  rw [if_pos hw]; unfold Oper.wp execOp
  simp only [ho, hx, hy]
  simp [eqGuard, go_sem, Result.andThen]
  exact h
theorem st_conv (x : Operand) (ho : o.op = .convert 22 9 x) (hw : b = true) (A : Option Addr) (n cap : Nat) (l : List Nat) (hx : a.eval x = .slice A n cap) (hs : Rd .u8 w A n l) (h : K (a.put o.dst (.string (str l))) w) : if b = true then o.wp Tryd.prog a w K Q else E := by
  rw [if_pos hw]; unfold Oper.wp execOp
  simp only [ho, hx, Sem.run_bind, Sem.run_pure, Result.andThen_ok, rd_str hs cap]
  exact h
theorem st_call1 (f : Nat) (x : Operand) (t : TypeId) (ho : o.op = .call { callee := .value (.func f), args := #[x], argTypes := #[t] }) (hw : b = true) (v : Value) (hx : a.eval x = v) (hcf : (callFunc f #[v]).run Tryd.prog w = .ok (.enter f #[v]) w) (post : Ending → World → Prop) (hc : Calls Tryd.prog f #[v] w post) (hp : ∀ e w', post e w' → ∃ u, e = .returned u ∧ K (a.put o.dst u) w') : if b = true then o.wp Tryd.prog a w K Q else E := by
  rw [if_pos hw]; unfold Oper.wp execOp
  have hf : a.eval (.func f) = .func (.func f) #[] #[] := rfl
  have hx' : Array.map a.eval #[x] = #[v] := by simp [hx]
  simp only [ho]
  simp only [resolve, hf, hx']
  simp [invoke, go_sem, Result.andThen]
  rw [hcf]
  refine hc.mono fun e w' h => ?_
  obtain ⟨u, rfl, hk⟩ := hp e w' h
  exact hk
theorem st_callV (f : Nat) (y x1 x2 : Operand) (t1 t2 : TypeId) (ho : o.op = .call { callee := .value y, args := #[x1, x2], argTypes := #[t1, t2] }) (hw : b = true) (c1 c2 v1 v2 : Value) (hy : a.eval y = .func (.func f) #[] #[c1, c2]) (hx1 : a.eval x1 = v1) (hx2 : a.eval x2 = v2) (hcf : (callFunc f #[v1, v2, c1, c2]).run Tryd.prog w = .ok (.enter f #[v1, v2, c1, c2]) w) (post : Ending → World → Prop) (hc : Calls Tryd.prog f #[v1, v2, c1, c2] w post) (hp : ∀ e w', post e w' → ∃ u, e = .returned u ∧ K (a.put o.dst u) w') : if b = true then o.wp Tryd.prog a w K Q else E := by
  rw [if_pos hw]; unfold Oper.wp execOp
  have hx' : Array.map a.eval #[x1, x2] = #[v1, v2] := by simp [hx1, hx2]
  simp only [ho]
  simp only [resolve, hy, hx']
  simp [invoke, go_sem, Result.andThen]
  rw [hcf]
  refine hc.mono fun e w' h => ?_
  obtain ⟨u, rfl, hk⟩ := hp e w' h
  exact hk
end
end Go.Proofs.YtfoenafjaaidmaaDoor
