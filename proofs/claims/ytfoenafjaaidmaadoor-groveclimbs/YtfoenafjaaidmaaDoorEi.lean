/-
  A region whose order is drawn, in the round of a range over a function: one property an operation; what was done is told, so that a cell may be read and then written. No condition.
-/
import Derived.Test.YtfoenafjaaidmaaDoorEw
import Derived.OwnWalkIn
import Derived.RangeFuncCalls
namespace Go.Proofs.YtfoenafjaaidmaaDoor
open Go.RowKit
set_option linter.unusedVariables false
set_option linter.unusedSimpArgs false

theorem Oper.wpIn_of_wp {r n : Nat} {P : Program} {o : Oper} {a : Act} {w : World} {K : Act → World → Prop} {Q : Exit → Act → World → Prop} (hd : ∀ c, o.op ≠ .defer c) (h : o.wp P a w K Q) : o.wpIn (Fence.wide.inRound r) n P a w K Q := by
  refine ⟨fun _ _ => trivial, ?_⟩
  have e : o.semAt (Fence.wide.inRound r).round a.eval = execOp a.eval o := by
    show o.semAt (some r) a.eval = _
    exact Oper.semAt_some r _ _ hd
  rw [e]
  unfold Oper.wp at h
  generalize (execOp a.eval o).run P w = x at *
  cases x with
  | ok x w' =>
    cases x with
    | value v => exact h
    | skip => exact h
    | defer d => exact h
    | enter f args => exact ⟨(fun h1 => by cases h1), CallsIn.inRound r (callsIn_wide.2 h)⟩
    | row s args => exact ⟨(fun h1 => by cases h1), fun c cs _ => let ⟨v, w', hr, s⟩ := h c cs; ⟨v, w', hr, stepsIn_wide.2 s⟩⟩
    | _ => exact h.elim
  | halt x w' => cases x <;> first | exact h | exact h.elim

/-- What is done, with one more. -/
def upd (d : Nat → Bool) (i : Nat) : Nat → Bool := fun j => if j = i then true else d j
/-- What is waited for by what is done is done. -/
def Shut (l : List Oper) (d : Nat → Bool) : Prop := ∀ j o, l[j]? = some o → d j = true → ∀ e ∈ o.after, Region.binds .any e = true → d e.on = true

theorem wp_region_eachI {P : Program} {id n r : Nat} {l : List Oper} {Q : Exit → Act → World → Prop} {a0 : Act} {w0 : World} (hm : P.follows .mixedOrders = true) (hB : eachW l a0.tmps.size = true) (hdf : ∀ o ∈ l, ∀ c, o.op ≠ .defer c) (Sm : (Nat → Bool) → World → World → Prop)
    (V : Nat → Value → World → Prop) (R : (Nat → Bool) → World → Prop)
    (mono : ∀ d i v w w', d i = true → V i v w → R d w → Sm d w w' → V i v w') (h0 : ∀ d : Nat → Bool, (∀ j, j < l.length → d j = false) → R d w0.drew)
    (step : ∀ i o, l[i]? = some o → ∀ (d : Nat → Bool) (a : Act) (w : World), R d w → d i = false → Shut l d → (∀ e ∈ o.after, Region.binds .any e = true → d e.on = true) → Keeps l a0 a → (∀ j o', l[j]? = some o' → (∃ e ∈ o.after, Region.binds .any e = true ∧ e.on = j) → V j (got a o') w) →
      ∀ K : Act → World → Prop, (∀ v w', V i (gotv o v) w' → Sm d w w' → R (upd d i) w' → K (a.put o.dst v) w') → (if Region.wanted o (yielded l.toArray a.tmps) then o.wp P a w K Q else K (a.put o.dst undef) w))
    (fin : ∀ (d : Nat → Bool) (a : Act) (w : World), (∀ j, j < l.length → d j = true) → R d w → Keeps l a0 a → (∀ i o, l[i]? = some o → V i (got a o) w) → Q .normal a w) :
    (Code.region id l.toArray true).wpIn (Fence.wide.inRound r) n P Q a0 w0 := by
  refine wpIn_region_any hm ?_
  have key : ∀ (fuel : Nat) (listed : Array Bool) (a : Act) (w : World), listed.size = l.length → (List.range l.length).countP (fun j => !listed.getD j true) = fuel → R (fun j => listed.getD j true) w → Shut l (fun j => listed.getD j true) → Keeps l a0 a →
      (∀ i o, l[i]? = some o → listed.getD i true = true → V i (got a o) w) → wpAnyIn (Fence.wide.inRound r) n P .any l.toArray Q fuel listed a w := by
    intro fuel
    induction fuel with
    | zero =>
      intro listed a w hsz hc hr hsh hk hv
      have all : ∀ i, i < l.length → listed.getD i true = true := by
        intro i hi
        have := List.countP_eq_zero.1 hc i (List.mem_range.2 hi)
        simpa using this
      refine ⟨?_, fin _ a w all hr hk (fun i o ho => hv i o ho (all i (List.getElem?_eq_some_iff.1 ho).1))⟩
      apply List.eq_nil_iff_forall_not_mem.2
      intro j hj
      obtain ⟨h1, o, ho, _⟩ := mem_ready.1 hj
      have hjl : j < l.length := by
        have := (Array.getElem?_eq_some_iff.1 ho).1
        simpa using this
      rw [all j hjl] at h1
      cases h1
    | succ fuel ih =>
      intro listed a w hsz hc hr hsh hk hv
      refine ⟨fun hnil => ?_, fun i hi => ?_⟩
      · -- the least operation that is not listed is ready
        exfalso
        have hex : ∃ j, j < l.length ∧ listed.getD j true = false := by
          have hpos : 0 < (List.range l.length).countP (fun j => !listed.getD j true) := by omega
          obtain ⟨j, hj, hf⟩ := List.countP_pos_iff.1 hpos
          exact ⟨j, List.mem_range.1 hj, by simpa using hf⟩
        have least : ∀ n, (∃ j, j < n ∧ j < l.length ∧ listed.getD j true = false) → ∃ j, j < l.length ∧ listed.getD j true = false ∧ ∀ k, k < j → listed.getD k true = true := by
          intro n
          induction n with
          | zero => rintro ⟨j, h, _⟩; omega
          | succ n ihn =>
            rintro ⟨j, h1, h2, h3⟩
            by_cases hb : ∃ j, j < n ∧ j < l.length ∧ listed.getD j true = false
            · exact ihn hb
            · refine ⟨j, h2, h3, fun k hk => ?_⟩
              cases hq : listed.getD k true with
              | true => rfl
              | false => exact absurd ⟨k, by omega, by omega, hq⟩ hb
        obtain ⟨j, hj, hf⟩ := hex
        obtain ⟨j, hj, hf, hlow⟩ := least (j + 1) ⟨j, by omega, hj, hf⟩
        have hmem : j ∈ Region.ready .any l.toArray listed := by
          refine mem_ready.2 ⟨hf, l[j], by simp [hj], fun e he hbd => ?_⟩
          have hon := eachW_on hB (List.getElem?_eq_getElem hj) he hbd
          have h1 := hlow e.on hon
          have hlt : e.on < listed.size := by omega
          simp [Array.getD, hlt] at h1 ⊢
          exact h1
        rw [hnil] at hmem
        cases hmem
      · obtain ⟨hun, o, ho, hall⟩ := mem_ready.1 hi
        have ho' : l[i]? = some o := by simpa using ho
        have hil := (List.getElem?_eq_some_iff.1 ho').1
        have hpre : ∀ e ∈ o.after, Region.binds .any e = true → listed.getD e.on true = true := by
          intro e he hbd
          have h1 := hall e he hbd
          have hon := eachW_on hB ho' he hbd
          have hlt : e.on < listed.size := by omega
          simp [Array.getD, hlt] at h1 ⊢
          exact h1
        have hcnt2 : listed.size = l.length → (List.range l.length).countP (fun j => !(listed.setIfInBounds i true).getD j true) = fuel := by
          intro hsz
          have hlt : i < listed.size := by omega
          have := count_drop (fun j => !listed.getD j true) (fun j => !(listed.setIfInBounds i true).getD j true) i (by simp [hun]) (by simp [Array.getD, hlt]) (fun j hj => by simp [Array.getD_eq_getD_getElem?, Ne.symm hj]) l.length hil
          omega
        have hupd : (fun j => (listed.setIfInBounds i true).getD j true) = upd (fun j => listed.getD j true) i := by
          funext j
          have hlt : i < listed.size := by omega
          unfold upd
          by_cases hij : j = i
          · subst hij; simp [Array.getD, hlt]
          · rw [if_neg hij]; simp [Array.getD_eq_getD_getElem?, Ne.symm hij]
        have hsh2 : Shut l (upd (fun j => listed.getD j true) i) := by
          intro j oj hj hdj e he hbd
          unfold upd at hdj ⊢
          by_cases hij : j = i
          · subst hij
            rw [ho'] at hj
            injection hj with hj
            subst hj
            split
            · rfl
            · exact hpre e he hbd
          · rw [if_neg hij] at hdj
            split
            · rfl
            · exact hsh j oj hj hdj e he hbd
        have hother : ∀ j, j < l.length → i ≠ j → (listed.setIfInBounds i true).getD j true = true → listed.getD j true = true := by
          intro j hj hij hlj
          have e : (listed.setIfInBounds i true).getD j true = listed.getD j true := by
            simp [Array.getD_eq_getD_getElem?, Array.getElem?_setIfInBounds, hij]
          rw [e] at hlj
          exact hlj
        have hst := step i o ho' (fun j => listed.getD j true) a w hr hun hsh hpre hk (fun j oj hj ⟨e, he, hbd, hej⟩ => hv j oj hj (by
          have h1 := hpre e he hbd
          rw [hej] at h1
          exact h1)) (wpAnyIn (Fence.wide.inRound r) n P .any l.toArray Q fuel (listed.setIfInBounds i true)) (fun v w' hvv hb hRn => by
          rcases hd : o.dst with _ | d
          · have hput : a.put none v = a := rfl
            rw [hput]
            refine ih _ _ _ (by simpa using hsz) (hcnt2 hsz) (by rw [hupd]; exact hRn) (by rw [hupd]; exact hsh2) hk ?_
            intro j oj hj hlj
            by_cases hij : i = j
            · subst hij
              rw [ho'] at hj
              injection hj with hj
              subst hj
              have e1 : got a o = undef := by simp [got, hd]
              have e2 : gotv o v = undef := by simp [gotv, hd]
              rw [e1]
              rw [e2] at hvv
              exact hvv
            · have hdn := hother j (List.getElem?_eq_some_iff.1 hj).1 hij hlj
              exact mono _ j _ w w' hdn (hv j oj hj hdn) hr hb
          · have hds := eachW_lt hB ho' hd
            have hkd : (a.put (some d) v).tmps = a.tmps.setIfInBounds d v := rfl
            have hgv : gotv o v = v := by simp [gotv, hd]
            rw [hgv] at hvv
            refine ih _ _ _ (by simpa using hsz) (hcnt2 hsz) (by rw [hupd]; exact hRn) (by rw [hupd]; exact hsh2) ⟨hk.defers, ?_, ?_⟩ ?_
            · rw [hkd]; simpa using hk.size
            · intro s hs
              rw [hkd, ← hk.slot s hs]
              have hne : d ≠ s := fun e => hs o (List.mem_of_getElem? ho') (by rw [hd, e])
              simp [Array.getD_eq_getD_getElem?, Array.getElem?_setIfInBounds, hne]
            · intro j oj hj hlj
              by_cases hij : i = j
              · subst hij
                rw [ho'] at hj
                injection hj with hj
                subst hj
                have hlt : d < a.tmps.size := by rw [hk.size]; exact hds
                have e1 : got (a.put (some d) v) o = v := by
                  simp [got, hd, hkd, Array.getD_eq_getD_getElem?, Array.getElem?_setIfInBounds, hlt]
                rw [e1]
                exact hvv
              · have e1 : got (a.put (some d) v) oj = got a oj := by
                  rcases hdj : oj.dst with _ | dj
                  · simp [got, hdj]
                  · have hne := eachW_ne hB ho' hj hd hdj hij
                    simp [got, hdj, hkd, Array.getD_eq_getD_getElem?, Array.getElem?_setIfInBounds, hne]
                rw [e1]
                have hdn := hother j (List.getElem?_eq_some_iff.1 hj).1 hij hlj
                exact mono _ j _ w w' hdn (hv j oj hj hdn) hr hb)
        unfold wpOpIn
        rw [ho]
        simp only []
        split
        · next hw => rw [if_pos hw] at hst; exact Oper.wpIn_of_wp (hdf o (List.mem_of_getElem? ho')) hst
        · next hw => rw [if_neg hw] at hst; exact ⟨fun _ _ => trivial, hst⟩
  have hsz : (Array.replicate l.toArray.size false).size = l.length := by simp
  have hcnt : (List.range l.length).countP (fun j => !(Array.replicate l.toArray.size false).getD j true) = l.toArray.size := by
    have e : (List.range l.length).countP (fun j => !(Array.replicate l.toArray.size false).getD j true) = (List.range l.length).length := by
      apply List.countP_eq_length.2
      intro j hj
      have := List.mem_range.1 hj
      simp [Array.getD, this]
    rw [e]; simp
  have hno : ∀ j, j < l.length → (Array.replicate l.toArray.size false).getD j true = false := by
    intro j hj
    simp [Array.getD, hj]
  refine key _ _ a0 _ hsz hcnt (h0 _ hno) ?_ ⟨rfl, rfl, fun _ _ => rfl⟩ ?_
  · intro j o hj hd
    have := hno j (List.getElem?_eq_some_iff.1 hj).1
    have h2 : (Array.replicate l.toArray.size false).getD j true = true := hd
    rw [this] at h2
    cases h2
  intro i o ho hl
  have := (List.getElem?_eq_some_iff.1 ho).1
  simp [Array.getD, this] at hl
end Go.Proofs.YtfoenafjaaidmaaDoor
