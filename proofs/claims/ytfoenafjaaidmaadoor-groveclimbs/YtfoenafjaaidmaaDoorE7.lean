/-
  Drawn regions again, by one property an operation, where a step may mark a row of its own, or write what stands there.
-/
import Derived.Test.YtfoenafjaaidmaaDoorQ1
import Derived.Test.YtfoenafjaaidmaaDoorEach6
import Derived.Lib.SlBytesConst
namespace Go.Proofs.YtfoenafjaaidmaaDoor
open Go.RowKit
set_option linter.unusedVariables false
set_option linter.unusedSimpArgs false
set_option maxRecDepth 100000

theorem wp_region_eachS {P : Program} {id : Nat} {l : List Oper} {Q : Exit → Act → World → Prop} {a0 : Act} {w0 : World} (hm : P.follows .mixedOrders = true) (hB : eachB l a0.tmps.size = true)
    (V : Nat → Value → World → Prop) (R : World → Prop) (S : World → World → Prop)
    (mono : ∀ i v w w', V i v w → R w → S w w' → V i v w') (hR : ∀ w w', R w → S w w' → R w') (h0 : R w0.drew)
    (step : ∀ i o, l[i]? = some o → ∀ (a : Act) (w : World), R w → Keeps l a0 a → (∀ j o' d, l[j]? = some o' → o'.dst = some d → (∃ e ∈ o.after, Region.binds .any e = true ∧ e.on = j) → V j (a.tmps.getD d undef) w) →
      ∀ K : Act → World → Prop, (∀ v w', V i v w' → S w w' → K (a.put o.dst v) w') → (if Region.wanted o (yielded l.toArray a.tmps) then o.wp P a w K Q else K (a.put o.dst undef) w))
    (fin : ∀ (a : Act) (w : World), R w → Keeps l a0 a → (∀ i o d, l[i]? = some o → o.dst = some d → V i (a.tmps.getD d undef) w) → Q .normal a w) :
    (Code.region id l.toArray true).wp P Q a0 w0 := by
  refine wp_region_any hm ?_
  have key : ∀ (fuel : Nat) (listed : Array Bool) (a : Act) (w : World), listed.size = l.length → (List.range l.length).countP (fun j => !listed.getD j true) = fuel → R w → Keeps l a0 a →
      (∀ i o d, l[i]? = some o → o.dst = some d → listed.getD i true = true → V i (a.tmps.getD d undef) w) → wpAny P .any l.toArray Q fuel listed a w := by
    intro fuel
    induction fuel with
    | zero =>
      intro listed a w hsz hc hr hk hv
      have all : ∀ i, i < l.length → listed.getD i true = true := by
        intro i hi
        have := List.countP_eq_zero.1 hc i (List.mem_range.2 hi)
        simpa using this
      refine ⟨?_, fin a w hr hk (fun i o d ho hd => hv i o d ho hd (all i (List.getElem?_eq_some_iff.1 ho).1))⟩
      apply List.eq_nil_iff_forall_not_mem.2
      intro j hj
      obtain ⟨h1, o, ho, _⟩ := mem_ready.1 hj
      have hjl : j < l.length := by
        have := (Array.getElem?_eq_some_iff.1 ho).1
        simpa using this
      rw [all j hjl] at h1
      cases h1
    | succ fuel ih =>
      intro listed a w hsz hc hr hk hv
      refine ⟨fun hnil => ?_, fun i hi => ?_⟩
      · -- the least operation that is not listed is ready
        exfalso
        have hex : ∃ j, j < l.length ∧ listed.getD j true = false := by
          have hpos : 0 < (List.range l.length).countP (fun j => !listed.getD j true) := by omega
          obtain ⟨j, hj, hf⟩ := List.countP_pos_iff.1 hpos
          exact ⟨j, List.mem_range.1 hj, by simpa using hf⟩
        have least : ∀ n, (∃ j, j < n ∧ j < l.length ∧ listed.getD j true = false) → ∃ j, j < l.length ∧ listed.getD j true = false ∧ ∀ k, k < j → listed.getD k true = true := by
          intro n
          induction n with
          | zero => rintro ⟨j, h, _⟩; omega
          | succ n ihn =>
            rintro ⟨j, h1, h2, h3⟩
            by_cases hb : ∃ j, j < n ∧ j < l.length ∧ listed.getD j true = false
            · exact ihn hb
            · refine ⟨j, h2, h3, fun k hk => ?_⟩
              cases hq : listed.getD k true with
              | true => rfl
              | false => exact absurd ⟨k, by omega, by omega, hq⟩ hb
        obtain ⟨j, hj, hf⟩ := hex
        obtain ⟨j, hj, hf, hlow⟩ := least (j + 1) ⟨j, by omega, hj, hf⟩
        have hmem : j ∈ Region.ready .any l.toArray listed := by
          refine mem_ready.2 ⟨hf, l[j], by simp [hj], fun e he _ => ?_⟩
          have hon := each_on hB (List.getElem?_eq_getElem hj) he
          have h1 := hlow e.on hon
          have hlt : e.on < listed.size := by omega
          simp [Array.getD, hlt] at h1 ⊢
          exact h1
        rw [hnil] at hmem
        cases hmem
      · obtain ⟨hun, o, ho, hall⟩ := mem_ready.1 hi
        have ho' : l[i]? = some o := by simpa using ho
        have hil := (List.getElem?_eq_some_iff.1 ho').1
        obtain ⟨d, hd, hds⟩ := each_dst hB ho'
        have hst := step i o ho' a w hr hk (fun j oj dj hj hdj ⟨e, he, hbd, hej⟩ => hv j oj dj hj hdj (by
          have h1 := hall e he hbd
          rw [hej] at h1
          have hlt : j < listed.size := by rw [hsz]; exact (List.getElem?_eq_some_iff.1 hj).1
          simp [Array.getD, hlt] at h1 ⊢
          exact h1)) (wpAny P .any l.toArray Q fuel (listed.setIfInBounds i true)) (fun v w' hvv hb => by
          have hkd : (a.put o.dst v).tmps = a.tmps.setIfInBounds d v := by rw [hd]; rfl
          refine ih _ _ _ (by simpa using hsz) ?_ (hR _ _ hr hb) ⟨?_, ?_, ?_⟩ ?_
          · have hlt : i < listed.size := by omega
            have := count_drop (fun j => !listed.getD j true) (fun j => !(listed.setIfInBounds i true).getD j true) i (by simp [hun]) (by simp [Array.getD, hlt]) (fun j hj => by simp [Array.getD_eq_getD_getElem?, Ne.symm hj]) l.length hil
            omega
          · rw [hd]; exact hk.defers
          · rw [hkd]; simpa using hk.size
          · intro s hs
            rw [hkd, ← hk.slot s hs]
            have hne : d ≠ s := fun e => hs o (List.mem_of_getElem? ho') (by rw [hd, e])
            simp [Array.getD_eq_getD_getElem?, Array.getElem?_setIfInBounds, hne]
          · intro j oj dj hj hdj hlj
            rw [hkd]
            by_cases hij : i = j
            · subst hij
              rw [ho'] at hj
              injection hj with hj
              subst hj
              rw [hd] at hdj
              injection hdj with hdj
              subst hdj
              have hlt : d < a.tmps.size := by rw [hk.size]; exact hds
              simp [Array.getD_eq_getD_getElem?, Array.getElem?_setIfInBounds, hlt]
              exact hvv
            · have hne := each_ne hB ho' hj hd hdj hij
              have : (a.tmps.setIfInBounds d v).getD dj undef = a.tmps.getD dj undef := by
                simp [Array.getD_eq_getD_getElem?, Array.getElem?_setIfInBounds, hne]
              rw [this]
              refine mono j _ w w' (hv j oj dj hj hdj ?_) hr hb
              have hlt : j < listed.size := by rw [hsz]; exact (List.getElem?_eq_some_iff.1 hj).1
              have e : (listed.setIfInBounds i true).getD j true = listed.getD j true := by
                simp [Array.getD_eq_getD_getElem?, Array.getElem?_setIfInBounds, hij]
              rw [e] at hlj
              exact hlj)
        unfold wpOp
        rw [ho]
        simp only []
        split
        · next hw => rw [if_pos hw] at hst; exact .inl hst
        · next hw => rw [if_neg hw] at hst; exact hst
  have hsz : (Array.replicate l.toArray.size false).size = l.length := by simp
  have hcnt : (List.range l.length).countP (fun j => !(Array.replicate l.toArray.size false).getD j true) = l.toArray.size := by
    have e : (List.range l.length).countP (fun j => !(Array.replicate l.toArray.size false).getD j true) = (List.range l.length).length := by
      apply List.countP_eq_length.2
      intro j hj
      have := List.mem_range.1 hj
      simp [Array.getD, this]
    rw [e]; simp
  refine key _ _ a0 _ hsz hcnt h0 ⟨rfl, rfl, fun _ _ => rfl⟩ ?_
  intro i o d ho hd hl
  have := (List.getElem?_eq_some_iff.1 ho).1
  simp [Array.getD, this] at hl


/-- What was there below B is as it was; what is read elsewhere reads as it did. -/
structure Like (B : Nat) (w w' : World) : Prop where
  below : Below B w w'
  size : w.heap.size ≤ w'.heap.size
  cell : ∀ p : Addr, p.block < w.heap.size → w'.cell? p = w.cell? p
  shape : ∀ g, g < w.heap.size → w'.shape? g = w.shape? g
theorem Like.refl (B : Nat) (w : World) : Like B w w := ⟨Below.refl _ _, Nat.le_refl _, fun _ _ => rfl, fun _ _ => rfl⟩
theorem Like.of_below {B : Nat} {w w' : World} (h : Below w.heap.size w w') (hB : B ≤ w.heap.size) : Like B w w' :=
  ⟨h.mono hB, h.size, fun p hp => h.cell hp, fun g hg => by unfold World.shape?; rw [h.block g hg]⟩
theorem Rd.like {q : IntKind} {B : Nat} {w w' : World} {A : Option Addr} {n : Nat} {l : List Nat} (h : Rd q w A n l) (hs : Like B w w') : Rd q w' A n l :=
  ⟨h.1, fun hn => by
    obtain ⟨ad, e, hlt, hc⟩ := h.2 hn
    exact ⟨ad, e, Nat.lt_of_lt_of_le hlt hs.size, fun j x hj => (hs.cell (ad.add j) (by rw [block_add]; exact hlt)).trans (hc j x hj)⟩⟩
/-- Since a region began. -/
def Since (w0 w : World) : Prop := Below w0.heap.size w0 w ∧ w0.heap.size ≤ w.heap.size
theorem Since.like {w0 w w' : World} (h : Since w0 w) (hs : Like w0.heap.size w w') : Since w0 w' := ⟨h.1.trans hs.below, Nat.le_trans h.2 hs.size⟩
theorem Since.start (w0 : World) : Since w0 w0.drew := ⟨⟨rfl, rfl, rfl, Nat.le_refl _, fun _ _ => rfl⟩, Nat.le_refl _⟩
/-- What an operation may yield: bytes to be read. -/
def VRd (n : Nat) (l : List Nat) (v : Value) (w : World) : Prop := ∃ A c, v = .slice A n c ∧ Rd .u8 w A n l ∧ (A = none → c = 0) ∧ n ≤ c
/-- Bytes just laid. -/
def VNew (B n : Nat) (l : List Nat) (v : Value) (w : World) : Prop := ∃ g, v = .slice (some ⟨g, 0, none⟩) n n ∧ B ≤ g ∧ Rd .u8 w (some ⟨g, 0, none⟩) n l ∧ w.shape? g = some (5, n)
theorem VRd.like {n : Nat} {l : List Nat} {v : Value} {B : Nat} {w w' : World} (h : VRd n l v w) (hs : Like B w w') : VRd n l v w' := by
  obtain ⟨A, c, e, hr, h1, h2⟩ := h
  exact ⟨A, c, e, hr.like hs, h1, h2⟩
/-- Bytes to be read, of whatever room. -/
def VRo (n : Nat) (l : List Nat) (v : Value) (w : World) : Prop := ∃ A c, v = .slice A n c ∧ Rd .u8 w A n l
theorem VRo.like {n : Nat} {l : List Nat} {v : Value} {B : Nat} {w w' : World} (h : VRo n l v w) (hs : Like B w w') : VRo n l v w' := by
  obtain ⟨A, c, e, hr⟩ := h
  exact ⟨A, c, e, hr.like hs⟩
theorem shape_lt {w : World} {g : Nat} {x : TypeId × Nat} (h : w.shape? g = some x) : g < w.heap.size := by
  rcases Nat.lt_or_ge g w.heap.size with hlt | hge
  · exact hlt
  · unfold World.shape? at h; rw [Array.getElem?_eq_none hge] at h; cases h
theorem VNew.like {B' n : Nat} {l : List Nat} {v : Value} {B : Nat} {w w' : World} (h : VNew B' n l v w) (hs : Like B w w') : VNew B' n l v w' := by
  obtain ⟨g, e, hg, hr, h1⟩ := h
  exact ⟨g, e, hg, hr.like hs, by rw [hs.shape g (shape_lt h1)]; exact h1⟩
theorem VNew.rd {B n : Nat} {l : List Nat} {v : Value} {w : World} (h : VNew B n l v w) : VRd n l v w := by
  obtain ⟨g, e, hg, hr, h1⟩ := h
  exact ⟨_, n, e, hr, fun e => by (cases e), Nat.le_refl _⟩
theorem like_freeze (B g k : Nat) (w : World) (hB : B ≤ g) : Like B w (w.freeze ⟨g, k, none⟩ 1) := by
  have hb : ∀ i, i ≠ g → (w.freeze ⟨g, k, none⟩ 1).heap[i]? = w.heap[i]? := by
    intro i hi
    unfold World.freeze
    rw [if_neg (by omega)]
    simp only [Array.getElem?_modify]
    rw [if_neg (fun e => hi e.symm)]
  have hg : (w.freeze ⟨g, k, none⟩ 1).heap[g]? = (w.heap[g]?).map fun x => match x with | .cells c elem (lo, hi) => .cells c elem (if lo == hi then (k, k + 1) else (min lo k, max hi (k + 1))) | o => o := by
    unfold World.freeze
    rw [if_neg (by omega)]
    simp only [Array.getElem?_modify, if_true]
    rfl
  have hsz : (w.freeze ⟨g, k, none⟩ 1).heap.size = w.heap.size := by
    unfold World.freeze
    rw [if_neg (by omega)]
    simp
  refine ⟨⟨rfl, rfl, rfl, by rw [hsz]; exact Nat.le_refl _, fun i hi => hb i (by omega)⟩, by rw [hsz]; exact Nat.le_refl _, fun p _ => ?_, fun i _ => ?_⟩
  · by_cases hp : p.block = g
    · unfold World.cell?
      rw [hp, hg]
      cases hw : w.heap[g]? with
      | none => rfl
      | some x =>
        cases x <;> rfl
    · unfold World.cell?
      rw [hb _ hp]
  · by_cases hp : i = g
    · subst hp
      unfold World.shape?
      rw [hg]
      cases hw : w.heap[i]? with
      | none => rfl
      | some x =>
        cases x <;> rfl
    · unfold World.shape?
      rw [hb _ hp]
theorem run_conv22 {w : World} {g n c k : Nat} (h : w.shape? g = some (5, k)) : (convert 22 22 (.slice (some ⟨g, 0, none⟩) n c)).run Tryd.prog w = .ok (.slice (some ⟨g, 0, none⟩) n c) (w.freeze ⟨g, k, none⟩ 1) := by
  simp [convert, run_underlying Tryd.underlying22, run_underlying Tryd.underlying5, markStringish, h]
section
variable {o : Oper} {a : Act} {w : World} {K : Act → World → Prop} {Q : Exit → Act → World → Prop} {E : Prop} {b : Bool}
theorem st_conv22 (x : Operand) (ho : o.op = .convert 22 22 x) (hw : b = true) (B n : Nat) (l : List Nat) (v : Value) (hx : a.eval x = v) (hn : VNew B n l v w) (h : ∀ w', VRd n l v w' → Like B w w' → K (a.put o.dst v) w') : if b = true then o.wp Tryd.prog a w K Q else E := by
  obtain ⟨g, rfl, hg, hr, h1⟩ := hn
  have hl := like_freeze B g n w hg
  rw [if_pos hw]; unfold Oper.wp execOp
  simp only [ho, hx, Sem.run_bind, Sem.run_pure, Result.andThen_ok, run_conv22 h1]
  exact h _ ⟨_, n, rfl, hr.like hl, fun e => by (cases e), Nat.le_refl _⟩ hl
theorem st_callN (f : Nat) (args : Array Operand) (ts : Array TypeId) (ho : o.op = .call { callee := .value (.func f), args := args, argTypes := ts }) (hw : b = true) (vs : Array Value) (hx : Array.map a.eval args = vs) (hcf : (callFunc f vs).run Tryd.prog w = .ok (.enter f vs) w) (post : Ending → World → Prop) (hc : Calls Tryd.prog f vs w post) (hp : ∀ e w', post e w' → ∃ u, e = .returned u ∧ K (a.put o.dst u) w') : if b = true then o.wp Tryd.prog a w K Q else E := by
  rw [if_pos hw]; unfold Oper.wp execOp
  have hf : a.eval (.func f) = .func (.func f) #[] #[] := rfl
  simp only [ho]
  simp only [resolve, hf, hx]
  simp [invoke, go_sem, Result.andThen]
  rw [hcf]
  refine hc.mono fun e w' h => ?_
  obtain ⟨u, rfl, hk⟩ := hp e w' h
  exact hk
theorem st_buildN (t : TypeId) (n : Nat) (xs : Array (Nat × Operand)) (ho : o.op = .buildSlice t n xs) (hw : b = true) (vs : Array (Nat × Value)) (hm : Array.map (fun (i, x) => (i, a.eval x)) xs = vs) (v : Value) (w' : World) (hrun : (Instr.buildSlice t n vs).run Tryd.prog w = .ok v w') (h : K (a.put o.dst v) w') : if b = true then o.wp Tryd.prog a w K Q else E := by
  rw [if_pos hw]; unfold Oper.wp execOp
  simp only [ho, hm]
  simp only [Sem.run_bind, hrun, Result.andThen_ok, Sem.run_pure]
  exact h
theorem st_app (s x : Operand) (ts : Array TypeId) (ho : o.op = .call { callee := .builtin .append, args := #[s, x], argTypes := ts }) (hw : b = true) (v u : Value) (hs : a.eval s = v) (hx : a.eval x = u) (v' : Value) (w' : World) (hr : (Builtin.append_ ts o.type #[v, u]).run Tryd.prog w = .ok v' w') (h : K (a.put o.dst v') w') : if b = true then o.wp Tryd.prog a w K Q else E := by
  rw [if_pos hw]; unfold Oper.wp execOp
  simp only [ho, resolve, invoke, builtin, Sem.run_bind, Sem.run_pure, Result.andThen_ok, List.map_toArray, List.map_cons, List.map_nil, hs, hx, hr]
  exact h
theorem st_eqlStrB (x y : Operand) (ho : o.op = .binOp .eql 9 x y 9) (hw : b = true) (l l' : List Nat) (hf : Fit 256 l) (hf' : Fit 256 l') (hx : a.eval x = .string (str l)) (hy : a.eval y = .string (str l')) (h : K (a.put o.dst (.bool (decide (l = l')))) w) : if b = true then o.wp Tryd.prog a w K Q else E := by
  rw [if_pos hw]; unfold Oper.wp execOp
  have e := str_same hf hf'
  simp only [ho, hx, hy]
  simp [eqGuard, go_sem, Result.andThen, e]
  exact h
end
/-- Bytes just laid. -/
theorem vnew_alloc (w0 w : World) (hS : Since w0 w) (l : List Nat) (cs : Array Value) (hcs : cs = (cn .u8 l).toArray) (n : Nat) (hn : l.length = n) : VNew w0.heap.size n l (.slice (some ⟨w.heap.size, 0, none⟩) n n) (w.alloc (.cells cs 5)) ∧ Like w0.heap.size w (w.alloc (.cells cs 5)) := by
  subst hcs
  have hB := Blk.new w 5 (cn .u8 l)
  refine ⟨⟨_, rfl, hS.2, hB.rd n hn, ?_⟩, Like.of_below ((Below.refl _ _).alloc (Nat.le_refl _) _) hS.2⟩
  unfold World.shape?
  rw [hB]
  simp [cn_length, hn]
end Go.Proofs.YtfoenafjaaidmaaDoor
