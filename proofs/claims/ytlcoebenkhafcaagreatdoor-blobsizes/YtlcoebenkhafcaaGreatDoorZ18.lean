/-
  A region whose order is drawn: one property an operation, which may speak of what is done; the relation of a step may speak of the slots. No condition. What pieces of package blob answers. No condition but that texts are bytes that fit. What pieces of package blob answers. No condition but that texts are bytes that fit.
-/
import Derived.Test.YtlcoebenkhafcaaGreatDoorZ09
import Derived.Test.YtlcoebenkhafcaaGreatDoorZ17
namespace Go.Proofs.YtlcoebenkhafcaaGreatDoor
open Go.RowKit
set_option linter.unusedVariables false
set_option linter.unusedSimpArgs false
namespace Done
def upd (d : Nat → Bool) (i : Nat) : Nat → Bool := fun j => if j = i then true else d j
def Shut (l : List Oper) (d : Nat → Bool) : Prop := ∀ j o, l[j]? = some o → d j = true → ∀ e ∈ o.after, Region.binds .any e = true → d e.on = true
theorem wp_region_eachA {P : Program} {id : Nat} {l : List Oper} {Q : Exit → Act → World → Prop} {a0 : Act} {w0 : World} (hm : P.follows .mixedOrders = true) (hB : eachW l a0.tmps.size = true) (Sm : (Nat → Bool) → Nat → Act → World → World → Prop)
    (V : (Nat → Bool) → Nat → Value → World → Prop) (R : (Nat → Bool) → World → Prop)
    (mono : ∀ d i0 i o a w w', l[i]? = some o → d i = true → d i0 = false → V d i (got a o) w → R d w → Sm d i0 a w w' → V (upd d i0) i (got a o) w') (h0 : ∀ d : Nat → Bool, (∀ j, j < l.length → d j = false) → R d w0.drew)
    (step : ∀ i o, l[i]? = some o → ∀ (d : Nat → Bool) (a : Act) (w : World), R d w → d i = false → Shut l d → (∀ e ∈ o.after, Region.binds .any e = true → d e.on = true) → Keeps l a0 a → (∀ j o', l[j]? = some o' → (∃ e ∈ o.after, Region.binds .any e = true ∧ e.on = j) → V d j (got a o') w) →
      ∀ K : Act → World → Prop, (∀ v w', V (upd d i) i (gotv o v) w' → Sm d i a w w' → R (upd d i) w' → K (a.put o.dst v) w') → (if Region.wanted o (yielded l.toArray a.tmps) then o.wp P a w K Q else K (a.put o.dst undef) w))
    (fin : ∀ (d : Nat → Bool) (a : Act) (w : World), (∀ j, j < l.length → d j = true) → R d w → Keeps l a0 a → (∀ i o, l[i]? = some o → V d i (got a o) w) → Q .normal a w) :
    (Code.region id l.toArray true).wp P Q a0 w0 := by
  refine wp_region_any hm ?_
  have key : ∀ (fuel : Nat) (listed : Array Bool) (a : Act) (w : World), listed.size = l.length → (List.range l.length).countP (fun j => !listed.getD j true) = fuel → R (fun j => listed.getD j true) w → Shut l (fun j => listed.getD j true) → Keeps l a0 a →
      (∀ i o, l[i]? = some o → listed.getD i true = true → V (fun j => listed.getD j true) i (got a o) w) → wpAny P .any l.toArray Q fuel listed a w := by
    intro fuel
    induction fuel with
    | zero =>
      intro listed a w hsz hc hr hsh hk hv
      have all : ∀ i, i < l.length → listed.getD i true = true := by
        intro i hi
        have := List.countP_eq_zero.1 hc i (List.mem_range.2 hi)
        simpa using this
      refine ⟨?_, fin _ a w all hr hk (fun i o ho => hv i o ho (all i (List.getElem?_eq_some_iff.1 ho).1))⟩
      apply List.eq_nil_iff_forall_not_mem.2
      intro j hj
      obtain ⟨h1, o, ho, _⟩ := mem_ready.1 hj
      have hjl : j < l.length := by
        have := (Array.getElem?_eq_some_iff.1 ho).1
        simpa using this
      rw [all j hjl] at h1
      cases h1
    | succ fuel ih =>
      intro listed a w hsz hc hr hsh hk hv
      refine ⟨fun hnil => ?_, fun i hi => ?_⟩
      · -- the least operation that is not listed is ready
        exfalso
        have hex : ∃ j, j < l.length ∧ listed.getD j true = false := by
          have hpos : 0 < (List.range l.length).countP (fun j => !listed.getD j true) := by omega
          obtain ⟨j, hj, hf⟩ := List.countP_pos_iff.1 hpos
          exact ⟨j, List.mem_range.1 hj, by simpa using hf⟩
        have least : ∀ n, (∃ j, j < n ∧ j < l.length ∧ listed.getD j true = false) → ∃ j, j < l.length ∧ listed.getD j true = false ∧ ∀ k, k < j → listed.getD k true = true := by
          intro n
          induction n with
          | zero => rintro ⟨j, h, _⟩; omega
          | succ n ihn =>
            rintro ⟨j, h1, h2, h3⟩
            by_cases hb : ∃ j, j < n ∧ j < l.length ∧ listed.getD j true = false
            · exact ihn hb
            · refine ⟨j, h2, h3, fun k hk => ?_⟩
              cases hq : listed.getD k true with
              | true => rfl
              | false => exact absurd ⟨k, by omega, by omega, hq⟩ hb
        obtain ⟨j, hj, hf⟩ := hex
        obtain ⟨j, hj, hf, hlow⟩ := least (j + 1) ⟨j, by omega, hj, hf⟩
        have hmem : j ∈ Region.ready .any l.toArray listed := by
          refine mem_ready.2 ⟨hf, l[j], by simp [hj], fun e he hbd => ?_⟩
          have hon := eachW_on hB (List.getElem?_eq_getElem hj) he hbd
          have h1 := hlow e.on hon
          have hlt : e.on < listed.size := by omega
          simp [Array.getD, hlt] at h1 ⊢
          exact h1
        rw [hnil] at hmem
        cases hmem
      · obtain ⟨hun, o, ho, hall⟩ := mem_ready.1 hi
        have ho' : l[i]? = some o := by simpa using ho
        have hil := (List.getElem?_eq_some_iff.1 ho').1
        have hpre : ∀ e ∈ o.after, Region.binds .any e = true → listed.getD e.on true = true := by
          intro e he hbd
          have h1 := hall e he hbd
          have hon := eachW_on hB ho' he hbd
          have hlt : e.on < listed.size := by omega
          simp [Array.getD, hlt] at h1 ⊢
          exact h1
        have hcnt2 : listed.size = l.length → (List.range l.length).countP (fun j => !(listed.setIfInBounds i true).getD j true) = fuel := by
          intro hsz
          have hlt : i < listed.size := by omega
          have := count_drop (fun j => !listed.getD j true) (fun j => !(listed.setIfInBounds i true).getD j true) i (by simp [hun]) (by simp [Array.getD, hlt]) (fun j hj => by simp [Array.getD_eq_getD_getElem?, Ne.symm hj]) l.length hil
          omega
        have hupd : (fun j => (listed.setIfInBounds i true).getD j true) = upd (fun j => listed.getD j true) i := by
          funext j
          have hlt : i < listed.size := by omega
          unfold upd
          by_cases hij : j = i
          · subst hij; simp [Array.getD, hlt]
          · rw [if_neg hij]; simp [Array.getD_eq_getD_getElem?, Ne.symm hij]
        have hsh2 : Shut l (upd (fun j => listed.getD j true) i) := by
          intro j oj hj hdj e he hbd
          unfold upd at hdj ⊢
          by_cases hij : j = i
          · subst hij
            rw [ho'] at hj
            injection hj with hj
            subst hj
            split
            · rfl
            · exact hpre e he hbd
          · rw [if_neg hij] at hdj
            split
            · rfl
            · exact hsh j oj hj hdj e he hbd
        have hother : ∀ j, j < l.length → i ≠ j → (listed.setIfInBounds i true).getD j true = true → listed.getD j true = true := by
          intro j hj hij hlj
          have e : (listed.setIfInBounds i true).getD j true = listed.getD j true := by
            simp [Array.getD_eq_getD_getElem?, Array.getElem?_setIfInBounds, hij]
          rw [e] at hlj
          exact hlj
        have hst := step i o ho' (fun j => listed.getD j true) a w hr hun hsh hpre hk (fun j oj hj ⟨e, he, hbd, hej⟩ => hv j oj hj (by
          have h1 := hpre e he hbd
          rw [hej] at h1
          exact h1)) (wpAny P .any l.toArray Q fuel (listed.setIfInBounds i true)) (fun v w' hvv hb hRn => by
          rcases hd : o.dst with _ | d
          · have hput : a.put none v = a := rfl
            rw [hput]
            refine ih _ _ _ (by simpa using hsz) (hcnt2 hsz) (by rw [hupd]; exact hRn) (by rw [hupd]; exact hsh2) hk ?_
            rw [hupd]
            intro j oj hj hlj
            by_cases hij : i = j
            · subst hij
              rw [ho'] at hj
              injection hj with hj
              subst hj
              have e1 : got a o = undef := by simp [got, hd]
              have e2 : gotv o v = undef := by simp [gotv, hd]
              rw [e1]
              rw [e2] at hvv
              exact hvv
            · have hdn := hother j (List.getElem?_eq_some_iff.1 hj).1 hij hlj
              exact mono _ i j oj a w w' hj hdn hun (hv j oj hj hdn) hr hb
          · have hds := eachW_lt hB ho' hd
            have hkd : (a.put (some d) v).tmps = a.tmps.setIfInBounds d v := rfl
            have hgv : gotv o v = v := by simp [gotv, hd]
            rw [hgv] at hvv
            refine ih _ _ _ (by simpa using hsz) (hcnt2 hsz) (by rw [hupd]; exact hRn) (by rw [hupd]; exact hsh2) ⟨hk.defers, ?_, ?_⟩ ?_
            · rw [hkd]; simpa using hk.size
            · intro s hs
              rw [hkd, ← hk.slot s hs]
              have hne : d ≠ s := fun e => hs o (List.mem_of_getElem? ho') (by rw [hd, e])
              simp [Array.getD_eq_getD_getElem?, Array.getElem?_setIfInBounds, hne]
            · rw [hupd]
              intro j oj hj hlj
              by_cases hij : i = j
              · subst hij
                rw [ho'] at hj
                injection hj with hj
                subst hj
                have hlt : d < a.tmps.size := by rw [hk.size]; exact hds
                have e1 : got (a.put (some d) v) o = v := by
                  simp [got, hd, hkd, Array.getD_eq_getD_getElem?, Array.getElem?_setIfInBounds, hlt]
                rw [e1]
                exact hvv
              · have e1 : got (a.put (some d) v) oj = got a oj := by
                  rcases hdj : oj.dst with _ | dj
                  · simp [got, hdj]
                  · have hne := eachW_ne hB ho' hj hd hdj hij
                    simp [got, hdj, hkd, Array.getD_eq_getD_getElem?, Array.getElem?_setIfInBounds, hne]
                rw [e1]
                have hdn := hother j (List.getElem?_eq_some_iff.1 hj).1 hij hlj
                exact mono _ i j oj a w w' hj hdn hun (hv j oj hj hdn) hr hb)
        unfold wpOp
        rw [ho]
        simp only []
        split
        · next hw => rw [if_pos hw] at hst; exact .inl hst
        · next hw => rw [if_neg hw] at hst; exact hst
  have hsz : (Array.replicate l.toArray.size false).size = l.length := by simp
  have hcnt : (List.range l.length).countP (fun j => !(Array.replicate l.toArray.size false).getD j true) = l.toArray.size := by
    have e : (List.range l.length).countP (fun j => !(Array.replicate l.toArray.size false).getD j true) = (List.range l.length).length := by
      apply List.countP_eq_length.2
      intro j hj
      have := List.mem_range.1 hj
      simp [Array.getD, this]
    rw [e]; simp
  have hno : ∀ j, j < l.length → (Array.replicate l.toArray.size false).getD j true = false := by
    intro j hj
    simp [Array.getD, hj]
  refine key _ _ a0 _ hsz hcnt (h0 _ hno) ?_ ⟨rfl, rfl, fun _ _ => rfl⟩ ?_
  · intro j o hj hd
    have := hno j (List.getElem?_eq_some_iff.1 hj).1
    have h2 : (Array.replicate l.toArray.size false).getD j true = true := hd
    rw [this] at h2
    cases h2
  intro i o ho hl
  have := (List.getElem?_eq_some_iff.1 ho).1
  simp [Array.getD, this] at hl
end Done
end Go.Proofs.YtlcoebenkhafcaaGreatDoor
namespace Go.Proofs.YtlcoebenkhafcaaGreatDoor
open Go.RowKit
set_option linter.unusedVariables false
set_option linter.unusedSimpArgs false
set_option maxRecDepth 100000
def zeroP : List Value := [.slice none 0 0, .slice none 0 0, .slice none 0 0]
theorem zeroP_one : ∀ v ∈ zeroP, v.oneCell' = true := by
  intro v hv
  simp only [zeroP, List.mem_cons, List.not_mem_nil, or_false] at hv
  rcases hv with rfl | rfl | rfl <;> rfl
def pcells (h a u : Sl) : List Value := [h.v, a.v, u.v]
theorem pcells_one (h a u : Sl) : ∀ v ∈ pcells h a u, v.oneCell' = true := by
  intro v hv
  simp only [pcells, List.mem_cons, List.not_mem_nil, or_false] at hv
  rcases hv with rfl | rfl | rfl <;> rfl
structure PcOk (w : World) (b : Bl) (h a u : Sl) : Prop where
  head : Bs w h.A h.n h.cap (bhead b)
  auth : Bs w a.A a.n a.cap (bauth b)
  aux : Bs w u.A u.n u.cap (baux b)
theorem PcOk.below {w w' : World} {b : Bl} {h a u : Sl} (k : PcOk w b h a u) (hb : Below w.heap.size w w') : PcOk w' b h a u := ⟨k.head.below hb, k.auth.below hb, k.aux.below hb⟩
def PiecesP (x : BX) (w : World) (e : Ending) (w' : World) : Prop :=
  ∃ cs, ∃ er : Nat, e = .returned (.tuple #[.agg cs.toArray, .int .i64 (er : Int)]) ∧ cs.length = 3 ∧ (∀ v ∈ cs, v.oneCell' = true) ∧ (BRight x.b → er = 0 ∧ ∃ h a u, cs = pcells h a u ∧ PcOk w' x.b h a u) ∧ (¬ BRight x.b → er = 12) ∧ Below w.heap.size w w'
theorem st_storeBlk {P : Program} {o : Oper} {a : Act} {w : World} {K : Act → World → Prop} {Q : Exit → Act → World → Prop} {E : Prop} {b : Bool} (hw : b = true) (ty : TypeId) (x y : Operand) (ho : o.op = .store ty x y) {g : Nat} {t : TypeId} {old cs : List Value} (hx : a.eval x = .pointer (some ⟨g, 0, none⟩)) (hy : a.eval y = .agg cs.toArray) (hB : Blk w g t old)
    (hs : old.length = cs.length) (hi : (P.info? ty).map (·.size) = some cs.length) (h1 : ∀ v ∈ cs, v.oneCell' = true)
    (h : ∀ w', Blk w' g t cs → Touch [g] w w' → K (a.put o.dst undef) w') : if b = true then o.wp P a w K Q else E := by
  rw [if_pos hw]
  unfold Oper.wp execOp
  have e := run_storeVar_row (P := P) w g t ty old.toArray cs.toArray hB (by simpa using hi) (by simpa using hs) (Array.all_eq_true_iff_forall_mem.2 (fun v hv => h1 v (by simpa using hv)))
  simp only [ho, hx, hy, Instr.storeAt, Instr.sureAddr, Sem.run_bind, Sem.run_pure, Result.andThen_ok, e]
  exact h _ (setRow_heap w g _ _ t (0, 0) hB) (touch_setRow w g _)
theorem st_build {P : Program} {o : Oper} {a : Act} {w : World} {K : Act → World → Prop} {Q : Exit → Act → World → Prop} {E : Prop} {b : Bool} (hw : b = true) (t : TypeId) (xs : Array (Nat × Operand)) (ho : o.op = .build t xs) (vs : Array (Nat × Value)) (hm : Array.map (fun (i, x) => (i, a.eval x)) xs = vs) (v : Value) (hrun : (Instr.build t vs).run P w = .ok v w) (h : K (a.put o.dst v) w) : if b = true then o.wp P a w K Q else E := by
  rw [if_pos hw]; unfold Oper.wp execOp
  simp only [ho, hm]
  simp only [Sem.run_bind, hrun, Result.andThen_ok, Sem.run_pure]
  exact h
theorem wpList_bld {P : Program} {ops : Array Oper} {rest : List Oper} {op : Oper} {a : Act} {w : World} {Q : Exit → Act → World → Prop} (hgd : op.guard = none) (t : TypeId) (xs : Array (Nat × Operand)) (ho : op.op = .build t xs) (vs : Array (Nat × Value)) (hm : Array.map (fun (i, x) => (i, a.eval x)) xs = vs) (v : Value) (hrun : (Instr.build t vs).run P w = .ok v w) (h : wpList P ops Q rest (a.put op.dst v) w) : wpList P ops Q (op :: rest) a w :=
  wpList_plain hgd fun _ hK => by
    unfold Oper.wp execOp
    simp only [ho, hm]
    simp only [Sem.run_bind, hrun, Result.andThen_ok, Sem.run_pure]
    exact hK _ _ h
theorem stopper {p : Prop} (h : p ∧ True) : p := h.1
theorem Touch.belowAt {B g : Nat} {w u u' : World} (t : Touch [g] u u') (hb : Below B w u) (hg : B ≤ g) (hB : B ≤ u.heap.size) : Below B w u' :=
  hb.trans (t.below (fun y hy => by rw [List.mem_singleton.1 hy]; exact hg) hB)
def zeroO : List Value := List.replicate 11 (.int .i64 0)
theorem iB1 : (Tryz.prog.info? 25).map (·.size) = some 1 := by kernel_rfl
theorem ocells_head {b : Bl} (h : Headed b) : ocells (outl b) = hcells b ++ [.int .i64 1, .int .i64 (up64 (b.hash.length + b.sig.length) : Nat), .int .i64 (up64 ((dencs b.ds).length + b.key.length) : Nat), .int .i64 (b.hash.length : Nat), .int .i64 (b.sig.length : Nat), .int .i64 (b.key.length : Nat), .int .i64 ((dencs b.ds).length : Nat)] := by
  unfold Headed at h
  simp only [ocells, outl, hcells, List.cons_append, List.nil_append]
  rw [Int.toNat_of_nonneg h.1.1, Int.toNat_of_nonneg h.2.1.1, Int.toNat_of_nonneg h.2.2.1.1, Int.toNat_of_nonneg h.2.2.2.1]
  rfl
theorem upd_ne {d : Nat → Bool} {i j : Nat} (h : j ≠ i) : Done.upd d i j = d j := by unfold Done.upd; rw [if_neg h]
theorem upd_eq (d : Nat → Bool) (i : Nat) : Done.upd d i i = true := by unfold Done.upd; rw [if_pos rfl]
theorem Bs.off13 {u u' : World} {g : Nat} {A : Option Addr} {n cap : Nat} {l : List Nat} (h : Bs u A n cap l) (ht : Touch [g] u u') (hne : ∀ ad, A = some ad → ad.block ≠ g) : Bs u' A n cap l :=
  h.touch ht (fun _ ad e hm => hne ad e (by simpa using hm))
theorem PcOk.far {u u' : World} {b : Bl} {g : Nat} {gh ga gx n0 n1 n2 : Nat} (h : PcOk u b ⟨some ⟨gh, 0, none⟩, n0, n0⟩ ⟨some ⟨ga, 0, none⟩, n1, n1⟩ ⟨some ⟨gx, 0, none⟩, n2, n2⟩) (ht : Touch [g] u u') (h0 : gh ≠ g) (h1 : ga ≠ g) (h2 : gx ≠ g) : PcOk u' b ⟨some ⟨gh, 0, none⟩, n0, n0⟩ ⟨some ⟨ga, 0, none⟩, n1, n1⟩ ⟨some ⟨gx, 0, none⟩, n2, n2⟩ :=
  ⟨h.head.off13 ht (fun ad e => by injection e with e; rw [← e]; exact h0), h.auth.off13 ht (fun ad e => by injection e with e; rw [← e]; exact h1), h.aux.off13 ht (fun ad e => by injection e with e; rw [← e]; exact h2)⟩
theorem Blk.ne57 {u : World} {g g' : Nat} {cs cs' : List Value} (h : Blk u g 5 cs) (k : Blk u g' 57 cs') : g ≠ g' := fun e => by
  subst e; have h1 := h.symm.trans k; injection h1 with h1; injection h1 with _ h1; cases h1
theorem pieces_fin {w u8 u9 : World} {x : BX} {g2 g6 g8 ga gx m1 m2 : Nat} (h : Below w.heap.size w u8 ∧ Blk u8 g2 57 zeroP ∧ Blk u8 g6 57 (pcells ⟨none, 0, 0⟩ ⟨some ⟨ga, 0, none⟩, m1, m1⟩ ⟨some ⟨gx, 0, none⟩, m2, m2⟩) ∧ Blk u8 ga 5 (cn .u8 (bauth x.b)) ∧ Blk u8 gx 5 (cn .u8 (baux x.b)) ∧ Blk u8 g8 5 (cn .u8 (bhead x.b)))
    (hT : Touch [g6] u8 u9) (hU : Blk u9 g6 57 (pcells ⟨some ⟨g8, 0, none⟩, 128, 128⟩ ⟨some ⟨ga, 0, none⟩, m1, m1⟩ ⟨some ⟨gx, 0, none⟩, m2, m2⟩)) (h26 : g2 < g6) (hw2 : w.heap.size ≤ g2) (hx : x.b.Fits) (hm : m1 = up64 (x.b.hash.length + x.b.sig.length) ∧ m2 = up64 ((dencs x.b.ds).length + x.b.key.length)) (h1 : m1 ≤ 640) (h2 : m2 ≤ 49500) :
    Below w.heap.size w u9 ∧ Blk u9 g2 57 zeroP ∧ Blk u9 g6 57 (pcells ⟨some ⟨g8, 0, none⟩, 128, 128⟩ ⟨some ⟨ga, 0, none⟩, m1, m1⟩ ⟨some ⟨gx, 0, none⟩, m2, m2⟩) ∧ PcOk u9 x.b ⟨some ⟨g8, 0, none⟩, 128, 128⟩ ⟨some ⟨ga, 0, none⟩, m1, m1⟩ ⟨some ⟨gx, 0, none⟩, m2, m2⟩ ∧ (g8 ≠ g2 ∧ ga ≠ g2 ∧ gx ≠ g2) := by
  obtain ⟨a1, a2, a3, a4, a5, a6⟩ := h
  have t4 := a4.touch hT (by simpa using a4.ne57 a3)
  have t5 := a5.touch hT (by simpa using a5.ne57 a3)
  have t6 := a6.touch hT (by simpa using a6.ne57 a3)
  exact ⟨hT.belowAt a1 (by omega) a1.size, a2.touch hT (by simp; omega), hU, ⟨t6.bs (obytes_fit _) (obytes_length _) (by dsimp only; omega), t4.bs (pad_fit (hx.hash.append hx.sig)) ((bauth_length _).trans hm.1.symm) (by dsimp only; omega), t5.bs (pad_fit ((encs_fit hx.ds).append hx.key)) ((baux_length _).trans hm.2.symm) (by dsimp only; omega)⟩, a6.ne57 a2, a4.ne57 a2, a5.ne57 a2⟩
end Go.Proofs.YtlcoebenkhafcaaGreatDoor
namespace Go.Proofs.YtlcoebenkhafcaaGreatDoor
open Go.RowKit
set_option linter.unusedVariables false
set_option linter.unusedSimpArgs false
set_option maxRecDepth 100000
set_option maxHeartbeats 8000000 in
theorem pieces_any (x : BX) (w : World) (hx : BXOk w x) : Calls Tryz.prog 33 #[x.val] w (PiecesP x w) := by
  obtain ⟨dH, huH, hdH⟩ := uH
  obtain ⟨dB, huB, hdB⟩ := uBl
  obtain ⟨dP, huP, hdP⟩ := uPc
  have HX0 := Lib.hid hx
  unfold BX.val
  obtain ⟨W, hW⟩ : ∃ W, w.alloc (.cells x.cells.toArray 27) = W := ⟨_, rfl⟩
  have X := Lib.hid (BIn.new hx hW)
  have hb2 : Below W.heap.size W (W.alloc (.cells zeroP.toArray 57)) := (Below.refl _ _).alloc (Nat.le_refl _) _
  have hk2 : Blk (W.alloc (.cells zeroP.toArray 57)) W.heap.size 57 zeroP := Blk.new _ _ _
  obtain ⟨W2, hW2⟩ : ∃ W2, W.alloc (.cells zeroP.toArray 57) = W2 := ⟨_, rfl⟩
  rw [hW2] at hb2 hk2
  unfold zeroP at hW2
  have hgW : w.heap.size ≤ W.heap.size := X.out.below.size
  obtain ⟨g2, hg2⟩ : ∃ g2, W.heap.size = g2 := ⟨_, rfl⟩
  rw [hg2] at hk2 hgW
  have X2 : Hid (BIn w w.heap.size x W2 ∧ Blk W2 g2 57 zeroP ∧ w.heap.size ≤ g2) := ⟨X.out.next hb2, hk2, hgW⟩
  clear hb2 hk2 hgW hx
  have HBR := Lib.hid (BRight_any x W2 X2.out.1.ok)
  by_cases hr : BRight x.b
  · have e1 : decide (BRight x.b) = true := decide_eq_true hr
    rw [e1] at HBR
    have HRI := Lib.hid hr
    have HHD := Lib.hid (ocells_head hr.1)
    have HRM := Lib.hid hr.outl_room
    have HLL : Hid (x.b.key.length = x.sk.n ∧ x.b.hash.length = x.sh.n ∧ x.b.sig.length = x.ss.n) := ⟨HX0.out.key.rd.1, HX0.out.hash.rd.1, HX0.out.sig.rd.1⟩
    have hll := hr.2.2.le
    rw [HLL.out.1, HLL.out.2.1, HLL.out.2.2] at hll
    have hle1 := hll.1
    have hle2 := hll.2.1
    have hle3 := hll.2.2
    have HLE := Lib.hid hr.2.1.le
    have HENC := Lib.hid hr.2.1.encode
    clear hr e1 hll
    go_enter Tryz.func33, Tryz.ntmps33
    go_wp2_with ((with_reducible refine at_dst (some 8) ?_); refine wpList_loadAt (op := ⟨some 8, _, _, _, _, _⟩) rfl 27 (.tmp 1) rfl ⟨w.heap.size, 0, none⟩ rfl x.cells dB X2.out.1.blk.at huB hdB iBl ?_)
    refine HBR.out.mono ?_
    rintro e w3 ⟨rfl, hb3⟩
    have X3 : Hid (BIn w w.heap.size x w3 ∧ Blk w3 g2 57 zeroP ∧ w.heap.size ≤ g2) := ⟨X2.out.1.next hb3, X2.out.2.1.below hb3 X2.out.2.1.lt, X2.out.2.2⟩
    have k4 := X3.out.1.c4
    have HE := Lib.hid (Encode_any x.sd.A x.sd.n x.sd.cap x.xs w3 X3.out.1.ok.dl X3.out.1.ok.dn X3.out.1.ok.dc X3.out.1.ok.dm X3.out.1.ok.nm)
    clear hb3
    go_wp2_with fail
    refine HE.out.mono ?_
    rintro e w4 ⟨A4, n4, c4, l4, er, rfl, her, hr4, hb4⟩
    rw [X3.out.1.ok.ds, HENC.out] at her
    injection her with hl4 her
    subst hl4 her
    have hn4 : n4 = (dencs x.b.ds).length := by have := hr4.length; rw [cn_length] at this; exact this.symm
    have hn4b : n4 ≤ 48384 := by rw [hn4]; exact HLE.out
    have HN4 := Lib.hid hn4
    have hf4 : Fit 256 (dencs x.b.ds) := encs_fit X3.out.1.ok.fits.ds
    have X4 : Hid (BIn w w.heap.size x w4 ∧ Blk w4 g2 57 zeroP ∧ w.heap.size ≤ g2 ∧ Bs w4 A4 n4 c4 (dencs x.b.ds)) := ⟨X3.out.1.next hb4, X3.out.2.1.below hb4 X3.out.2.1.lt, X3.out.2.2, hr4.bs hf4⟩
    have k5 := X4.out.1.c5
    have k6 := X4.out.1.c6
    have k7 := X4.out.1.c7
    obtain ⟨m1, hm1⟩ : ∃ m1, up64 (x.sh.n + x.ss.n) = m1 := ⟨_, rfl⟩
    obtain ⟨m2, hm2⟩ : ∃ m2, up64 (n4 + x.sk.n) = m2 := ⟨_, rfl⟩
    have hm1b : m1 ≤ 640 := by rw [← hm1]; unfold up64; omega
    have hm2b : m2 ≤ 49500 := by rw [← hm2]; unfold up64; omega
    have HP1 : Hid (∀ u, Below w4.heap.size w4 u → Calls Tryz.prog 66 #[.slice x.sh.A x.sh.n x.sh.cap, .slice x.ss.A x.ss.n x.ss.cap] u fun e w' => ∃ g, e = .returned (.slice (some ⟨g, 0, none⟩) m1 m1) ∧ u.heap.size ≤ g ∧ Blk w' g 5 (cn .u8 (bauth x.b)) ∧ Below u.heap.size u w') := fun u hu =>
      padded_any _ _ _ _ _ _ _ _ u (X4.out.1.ok.hash.below hu) (X4.out.1.ok.sig.below hu) (by omega) m1 hm1
    have HP2 : Hid (∀ u, Below w4.heap.size w4 u → Calls Tryz.prog 66 #[.slice A4 n4 c4, .slice x.sk.A x.sk.n x.sk.cap] u fun e w' => ∃ g, e = .returned (.slice (some ⟨g, 0, none⟩) m2 m2) ∧ u.heap.size ≤ g ∧ Blk w' g 5 (cn .u8 (baux x.b)) ∧ Below u.heap.size u w') := fun u hu =>
      padded_any _ _ _ _ _ _ _ _ u (X4.out.2.2.2.below hu) (X4.out.1.ok.key.below hu) (by omega) m2 hm2
    have HM12 : Hid (m1 = up64 (x.b.hash.length + x.b.sig.length) ∧ m2 = up64 ((dencs x.b.ds).length + x.b.key.length)) := by
      rw [← hm1, ← hm2, HLL.out.1, HLL.out.2.1, HLL.out.2.2, hn4]; exact ⟨rfl, rfl⟩
    clear hr4 hb4 hf4 hn4 hm1 hm2 HE HBR k4
    go_wp2
    rename_i hKx
    refine Done.wp_region_eachA (by kernel_rfl) (by kernel_rfl) (fun d i0 a u u' => (i0 ≠ 11 ∧ Below u.heap.size u u') ∨ (i0 = 11 ∧ ∃ g6 ga gx, a.tmps.getD 6 undef = .pointer (some ⟨g6, 0, none⟩) ∧ w4.heap.size ≤ g6 ∧ Blk u' g6 57 (pcells ⟨none, 0, 0⟩ ⟨some ⟨ga, 0, none⟩, m1, m1⟩ ⟨some ⟨gx, 0, none⟩, m2, m2⟩) ∧ Blk u' ga 5 (cn .u8 (bauth x.b)) ∧ Blk u' gx 5 (cn .u8 (baux x.b)))) (fun d iX v u => match iX with
        | 0 => v = .pointer (some ⟨w.heap.size, 6, none⟩)
        | 1 => v = .slice x.sh.A x.sh.n x.sh.cap
        | 2 => v = .pointer (some ⟨w.heap.size, 7, none⟩)
        | 3 => v = .slice x.ss.A x.ss.n x.ss.cap
        | 4 => d 11 = true ∨ ∃ ga, v = .slice (some ⟨ga, 0, none⟩) m1 m1 ∧ Blk u ga 5 (cn .u8 (bauth x.b))
        | 5 => v = .slice A4 n4 c4
        | 6 => v = .pointer (some ⟨w.heap.size, 5, none⟩)
        | 7 => v = .slice x.sk.A x.sk.n x.sk.cap
        | 8 => d 11 = true ∨ ∃ gx, v = .slice (some ⟨gx, 0, none⟩) m2 m2 ∧ Blk u gx 5 (cn .u8 (baux x.b))
        | 9 => d 11 = true ∨ ∃ ga gx, v = .agg (pcells ⟨none, 0, 0⟩ ⟨some ⟨ga, 0, none⟩, m1, m1⟩ ⟨some ⟨gx, 0, none⟩, m2, m2⟩).toArray ∧ Blk u ga 5 (cn .u8 (bauth x.b)) ∧ Blk u gx 5 (cn .u8 (baux x.b))
        | 10 => ∃ g6, v = .pointer (some ⟨g6, 0, none⟩) ∧ w4.heap.size ≤ g6 ∧ (d 11 = false → Blk u g6 57 zeroP) ∧ (d 11 = true → ∃ ga gx, Blk u g6 57 (pcells ⟨none, 0, 0⟩ ⟨some ⟨ga, 0, none⟩, m1, m1⟩ ⟨some ⟨gx, 0, none⟩, m2, m2⟩) ∧ Blk u ga 5 (cn .u8 (bauth x.b)) ∧ Blk u gx 5 (cn .u8 (baux x.b)))
        | 11 => True
        | _ => True) (fun _ u => Below w4.heap.size w4 u) ?e1 (fun _ _ => ⟨rfl, rfl, rfl, Nat.le_refl _, fun _ _ => rfl⟩) ?e2 ?e3
    case e1 =>
      intro d i0 iX o a u u' ho hdi hd0 h hr hb
      rcases hb with ⟨hne, hb⟩ | ⟨rfl, g6, ga, gx, hs6, hg6, hB1, hB2, hB3⟩
      · have hu11 : Done.upd d i0 11 = d 11 := upd_ne (fun e => hne e.symm)
        rcases iX with _ | _ | _ | _ | _ | _ | _ | _ | _ | _ | _ | _ | iX
        · exact h
        · exact h
        · exact h
        · exact h
        · exact h.elim (fun h => .inl (hu11.trans h)) (fun ⟨q, e, hB⟩ => .inr ⟨q, e, hB.below hb hB.lt⟩)
        · exact h
        · exact h
        · exact h
        · exact h.elim (fun h => .inl (hu11.trans h)) (fun ⟨q, e, hB⟩ => .inr ⟨q, e, hB.below hb hB.lt⟩)
        · exact h.elim (fun h => .inl (hu11.trans h)) (fun ⟨q, r, e, hB, hC⟩ => .inr ⟨q, r, e, hB.below hb hB.lt, hC.below hb hC.lt⟩)
        · obtain ⟨q, e, hq, h1, h2⟩ := h
          exact ⟨q, e, hq, fun h => (h1 (hu11.symm.trans h)).below hb (h1 (hu11.symm.trans h)).lt, fun h => (by obtain ⟨r, t, hA, hB, hC⟩ := h2 (hu11.symm.trans h); exact ⟨r, t, hA.below hb hA.lt, hB.below hb hB.lt, hC.below hb hC.lt⟩)⟩
        · trivial
        · trivial
      · rcases iX with _ | _ | _ | _ | _ | _ | _ | _ | _ | _ | _ | _ | iX
        · exact h
        · exact h
        · exact h
        · exact h
        · exact .inl (upd_eq d 11)
        · exact h
        · exact h
        · exact h
        · exact .inl (upd_eq d 11)
        · exact .inl (upd_eq d 11)
        · obtain rfl := Option.some.inj ho
          obtain ⟨q, e, hq, h1, h2⟩ := h
          have hq6 : q = g6 := by have e2 : a.tmps.getD 6 undef = _ := e; rw [hs6] at e2; injection e2 with e2; injection e2 with e2; injection e2 with e2; exact e2.symm
          subst hq6
          exact ⟨q, e, hq, fun h => (by rw [upd_eq] at h; cases h), fun _ => ⟨ga, gx, hB1, hB2, hB3⟩⟩
        · trivial
        · trivial
    case e2 =>
      intro iX o ho d aX u hr hdi hsh hall hk hpre K hK
      have e1 : aX.tmps.getD 1 undef = .pointer (some ⟨w.heap.size, 0, none⟩) := hk.slot 1 (by simp)
      have e4 : aX.tmps.getD 4 undef = .slice A4 n4 c4 := hk.slot 4 (by simp)
      have u5 : u.cell? ⟨w.heap.size, 5, none⟩ = some (.slice x.sk.A x.sk.n x.sk.cap) := (hr.cell (p := ⟨w.heap.size, 5, none⟩) X4.out.1.blk.lt).trans k5
      have u6 : u.cell? ⟨w.heap.size, 6, none⟩ = some (.slice x.sh.A x.sh.n x.sh.cap) := (hr.cell (p := ⟨w.heap.size, 6, none⟩) X4.out.1.blk.lt).trans k6
      have u7 : u.cell? ⟨w.heap.size, 7, none⟩ = some (.slice x.ss.A x.ss.n x.ss.cap) := (hr.cell (p := ⟨w.heap.size, 7, none⟩) X4.out.1.blk.lt).trans k7
      have rf : Below u.heap.size u u := Below.refl _ _
      rcases iX with _ | _ | _ | _ | _ | _ | _ | _ | _ | _ | _ | _ | iX
      · obtain rfl := Option.some.inj ho
        have y1 : aX.eval (.tmp 1) = .pointer (some ⟨w.heap.size, 0, none⟩) := e1
        refine st_run (want_none rfl) (.pointer (some ⟨w.heap.size, 6, none⟩)) (w' := u) ?_ (hK _ _ rfl (.inl ⟨by decide, rf⟩) hr)
        simp only [execOp, y1]
        go_simp
      · obtain rfl := Option.some.inj ho
        have y18 : aX.eval (.tmp 18) = .pointer (some ⟨w.heap.size, 6, none⟩) := (hpre 0 _ rfl ⟨⟨0, .data⟩, by simp, rfl, rfl⟩)
        refine st_run (want_none rfl) (.slice x.sh.A x.sh.n x.sh.cap) (w' := u) ?_ (hK _ _ rfl (.inl ⟨by decide, rf⟩) hr)
        simp only [execOp, y18]
        go_simp
      · obtain rfl := Option.some.inj ho
        have y1 : aX.eval (.tmp 1) = .pointer (some ⟨w.heap.size, 0, none⟩) := e1
        refine st_run (want_none rfl) (.pointer (some ⟨w.heap.size, 7, none⟩)) (w' := u) ?_ (hK _ _ rfl (.inl ⟨by decide, rf⟩) hr)
        simp only [execOp, y1]
        go_simp
      · obtain rfl := Option.some.inj ho
        have y20 : aX.eval (.tmp 20) = .pointer (some ⟨w.heap.size, 7, none⟩) := (hpre 2 _ rfl ⟨⟨2, .data⟩, by simp, rfl, rfl⟩)
        refine st_run (want_none rfl) (.slice x.ss.A x.ss.n x.ss.cap) (w' := u) ?_ (hK _ _ rfl (.inl ⟨by decide, rf⟩) hr)
        simp only [execOp, y20]
        go_simp
      · obtain rfl := Option.some.inj ho
        have y19 : aX.eval (.tmp 19) = .slice x.sh.A x.sh.n x.sh.cap := (hpre 1 _ rfl ⟨⟨1, .data⟩, by simp, rfl, rfl⟩)
        have y21 : aX.eval (.tmp 21) = .slice x.ss.A x.ss.n x.ss.cap := (hpre 3 _ rfl ⟨⟨3, .data⟩, by simp, rfl, rfl⟩)
        exact st_callN 66 _ _ rfl (want_none rfl) #[.slice x.sh.A x.sh.n x.sh.cap, .slice x.ss.A x.ss.n x.ss.cap] (by simp [y19, y21]) (by kernel_rfl) _ (HP1.out u hr) (by rintro _ u2 ⟨q, rfl, hq, hB, hb⟩; exact ⟨_, rfl, hK _ _ (.inr ⟨q, rfl, hB⟩) (.inl ⟨by decide, hb⟩) (hr.trans (hb.mono hr.size))⟩)
      · obtain rfl := Option.some.inj ho
        exact st_move (.tmp 4) rfl (want_none rfl) _ e4 (hK _ _ rfl (.inl ⟨by decide, rf⟩) hr)
      · obtain rfl := Option.some.inj ho
        have y1 : aX.eval (.tmp 1) = .pointer (some ⟨w.heap.size, 0, none⟩) := e1
        refine st_run (want_none rfl) (.pointer (some ⟨w.heap.size, 5, none⟩)) (w' := u) ?_ (hK _ _ rfl (.inl ⟨by decide, rf⟩) hr)
        simp only [execOp, y1]
        go_simp
      · obtain rfl := Option.some.inj ho
        have y24 : aX.eval (.tmp 24) = .pointer (some ⟨w.heap.size, 5, none⟩) := (hpre 6 _ rfl ⟨⟨6, .data⟩, by simp, rfl, rfl⟩)
        refine st_run (want_none rfl) (.slice x.sk.A x.sk.n x.sk.cap) (w' := u) ?_ (hK _ _ rfl (.inl ⟨by decide, rf⟩) hr)
        simp only [execOp, y24]
        go_simp
      · obtain rfl := Option.some.inj ho
        have y23 : aX.eval (.tmp 23) = .slice A4 n4 c4 := (hpre 5 _ rfl ⟨⟨5, .data⟩, by simp, rfl, rfl⟩)
        have y25 : aX.eval (.tmp 25) = .slice x.sk.A x.sk.n x.sk.cap := (hpre 7 _ rfl ⟨⟨7, .data⟩, by simp, rfl, rfl⟩)
        exact st_callN 66 _ _ rfl (want_none rfl) #[.slice A4 n4 c4, .slice x.sk.A x.sk.n x.sk.cap] (by simp [y23, y25]) (by kernel_rfl) _ (HP2.out u hr) (by rintro _ u2 ⟨q, rfl, hq, hB, hb⟩; exact ⟨_, rfl, hK _ _ (.inr ⟨q, rfl, hB⟩) (.inl ⟨by decide, hb⟩) (hr.trans (hb.mono hr.size))⟩)
      · obtain rfl := Option.some.inj ho
        have n11 : d 11 = false := by
          cases h : d 11 with
          | false => rfl
          | true => have := hsh 11 _ rfl h ⟨9, .data⟩ (by simp) rfl; rw [hdi] at this; cases this
        obtain ⟨ga, ea, hBa⟩ := (hpre 4 _ rfl ⟨⟨4, .data⟩, by simp, rfl, rfl⟩).resolve_left (fun h => by rw [n11] at h; cases h)
        obtain ⟨gx, ex, hBx⟩ := (hpre 8 _ rfl ⟨⟨8, .data⟩, by simp, rfl, rfl⟩).resolve_left (fun h => by rw [n11] at h; cases h)
        have y22 : aX.eval (.tmp 22) = _ := ea
        have y26 : aX.eval (.tmp 26) = _ := ex
        exact st_build (want_none rfl) 57 #[(1, .tmp 22), (2, .tmp 26)] rfl #[(1, .slice (some ⟨ga, 0, none⟩) m1 m1), (2, .slice (some ⟨gx, 0, none⟩) m2 m2)] (by simp [y22, y26]) (.agg (pcells ⟨none, 0, 0⟩ ⟨some ⟨ga, 0, none⟩, m1, m1⟩ ⟨some ⟨gx, 0, none⟩, m2, m2⟩).toArray) (by kernel_rfl) (hK _ _ (.inr ⟨ga, gx, rfl, hBa, hBx⟩) (.inl ⟨by decide, rf⟩) hr)
      · obtain rfl := Option.some.inj ho
        have n11 : d 11 = false := by
          cases h : d 11 with
          | false => rfl
          | true => have := hsh 11 _ rfl h ⟨10, .data⟩ (by simp) rfl; rw [hdi] at this; cases this
        have hba : Below u.heap.size u (u.alloc (.cells zeroP.toArray 57)) := (Below.refl _ _).alloc (Nat.le_refl _) _
        refine st_run (want_none rfl) (.pointer (some ⟨u.heap.size, 0, none⟩)) (w' := u.alloc (.cells zeroP.toArray 57)) ?_ (hK _ _ ⟨u.heap.size, rfl, hr.size, fun _ => Blk.new _ _ _, fun h => (by rw [upd_ne (by decide), n11] at h; cases h)⟩ (.inl ⟨by decide, hba⟩) (hr.trans (hba.mono hr.size)))
        first
          | kernel_rfl
          | (simp only [execOp]; go_simp; rfl)
          | (simp only [execOp]; go_simp)
      · obtain rfl := Option.some.inj ho
        obtain ⟨g6, e6, hg6, hz, _⟩ := (hpre 10 _ rfl ⟨⟨10, .data⟩, by simp, rfl, rfl⟩)
        have n11 : d 11 = false := hdi
        obtain ⟨ga, gx, ev, hBa, hBx⟩ := (hpre 9 _ rfl ⟨⟨9, .data⟩, by simp, rfl, rfl⟩).resolve_left (fun h => by rw [n11] at h; cases h)
        have y6 : aX.eval (.tmp 6) = _ := e6
        have y27 : aX.eval (.tmp 27) = _ := ev
        have hz6 := hz n11
        have na : ga ≠ g6 := fun e => by subst e; have h1 := hBa.symm.trans hz6; injection h1 with h1; injection h1 with _ h1; cases h1
        have nx : gx ≠ g6 := fun e => by subst e; have h1 := hBx.symm.trans hz6; injection h1 with h1; injection h1 with _ h1; cases h1
        exact st_storeBlk (want_none rfl) 57 (.tmp 6) (.tmp 27) rfl y6 y27 hz6 rfl iPc (pcells_one _ _ _) (fun u2 hB ht => hK _ _ trivial (.inr ⟨rfl, g6, ga, gx, e6, hg6, hB, hBa.touch ht (by simpa using na), hBx.touch ht (by simpa using nx)⟩) (ht.belowAt hr hg6 hr.size))
      · cases ho
    case e3 =>
      intro d aX u hd hr hk hv
      obtain ⟨g6, q6, hg6, _, hB6⟩ := hv 10 _ rfl
      obtain ⟨ga, gx, hC6, hBa, hBx⟩ := hB6 (hd 11 (by decide))
      have q6 : aX.tmps.getD 6 undef = .pointer (some ⟨g6, 0, none⟩) := q6
      have hfr := keeps_frameP (fun s => decide (s = 6 ∨ (18 ≤ s ∧ s ≤ 27))) hk (by simp)
      refine hKx aX u ?_
      rw [hfr]
      generalize hff : (fun s => aX.tmps.getD s undef) = ff
      have hf6 : ff 6 = .pointer (some ⟨g6, 0, none⟩) := by rw [← hff]; exact q6
      simp only [mixP, hf6, decide_eq_true_eq, Nat.reduceAdd, Nat.reduceLeDiff, Nat.reduceEqDiff, false_or, true_or, or_false, or_true, and_true, and_false, true_and, false_and, and_self, if_true, if_false, Nat.zero_le]
      clear hfr hff hf6 q6 hv hk hKx hB6 hd
      have X5 : Hid (BIn w w.heap.size x u ∧ Blk u g2 57 zeroP ∧ w.heap.size ≤ g2 ∧ Blk u g6 57 (pcells ⟨none, 0, 0⟩ ⟨some ⟨ga, 0, none⟩, m1, m1⟩ ⟨some ⟨gx, 0, none⟩, m2, m2⟩) ∧ Blk u ga 5 (cn .u8 (bauth x.b)) ∧ Blk u gx 5 (cn .u8 (baux x.b)) ∧ g2 < g6) := ⟨X4.out.1.next hr, X4.out.2.1.below hr X4.out.2.1.lt, X4.out.2.2.1, hC6, hBa, hBx, Nat.lt_of_lt_of_le X4.out.2.1.lt hg6⟩
      clear hr hC6 hBa hBx hg6
      clear k5 k6 k7
      have k5 := X5.out.1.c5
      have k6 := X5.out.1.c6
      have k7 := X5.out.1.c7
      have p1 : u.cell? ⟨g6, 1, none⟩ = some (.slice (some ⟨ga, 0, none⟩) m1 m1) := X5.out.2.2.2.1.cell 1
      have p2 : u.cell? ⟨g6, 2, none⟩ = some (.slice (some ⟨gx, 0, none⟩) m2 m2) := X5.out.2.2.2.1.cell 2
      obtain ⟨oc, hoc⟩ : ∃ oc, ocells (outl x.b) = oc := ⟨_, rfl⟩
      have HOC := Lib.hid hoc
      have hoc2 : oc = hcells x.b ++ ([.int .i64 1, .int .i64 (m1 : Nat), .int .i64 (m2 : Nat), .int .i64 (x.sh.n : Nat), .int .i64 (x.ss.n : Nat), .int .i64 (x.sk.n : Nat), .int .i64 (n4 : Nat)] : List Value) := by
        rw [← hoc, HHD.out, ← HM12.out.1, ← HM12.out.2, HLL.out.1, HLL.out.2.1, HLL.out.2.2, HN4.out]
      have HO2 : Hid (Value.agg oc.toArray = Value.agg (hcells x.b ++ ([.int .i64 1, .int .i64 (m1 : Nat), .int .i64 (m2 : Nat), .int .i64 (x.sh.n : Nat), .int .i64 (x.ss.n : Nat), .int .i64 (x.sk.n : Nat), .int .i64 (n4 : Nat)] : List Value)).toArray) := by show _ = _; rw [hoc2]
      have HOL : Hid (oc.length = 11 ∧ ∀ v ∈ oc, v.oneCell' = true) := by rw [← hoc]; exact ⟨ocells_len _, ocells_one _⟩
      have hb7 : Below u.heap.size u (u.alloc (.cells oc.toArray 65)) := (Below.refl _ _).alloc (Nat.le_refl _) _
      have hk7 : Blk (u.alloc (.cells oc.toArray 65)) u.heap.size 65 oc := Blk.new _ _ _
      obtain ⟨u7, hu7⟩ : ∃ u7, u.alloc (.cells oc.toArray 65) = u7 := ⟨_, rfl⟩
      rw [hu7] at hb7 hk7
      obtain ⟨g7, hg7⟩ : ∃ g7, u.heap.size = g7 := ⟨_, rfl⟩
      rw [hg7] at hk7
      have X7 : Hid (Below w.heap.size w u7 ∧ Blk u7 g2 57 zeroP ∧ Blk u7 g6 57 (pcells ⟨none, 0, 0⟩ ⟨some ⟨ga, 0, none⟩, m1, m1⟩ ⟨some ⟨gx, 0, none⟩, m2, m2⟩) ∧ Blk u7 ga 5 (cn .u8 (bauth x.b)) ∧ Blk u7 gx 5 (cn .u8 (baux x.b))) := ⟨X5.out.1.below.trans (hb7.mono X5.out.1.below.size), X5.out.2.1.below hb7 X5.out.2.1.lt, X5.out.2.2.2.1.below hb7 X5.out.2.2.2.1.lt, X5.out.2.2.2.2.1.below hb7 X5.out.2.2.2.2.1.lt, X5.out.2.2.2.2.2.1.below hb7 X5.out.2.2.2.2.2.1.lt⟩
      have HOB := Lib.hid (obytes_any g7 (outl x.b) u7 (by rw [hoc]; exact hk7) HRM.out (by
        have h1 := HM12.out.1
        have h2 := HM12.out.2
        have h3 := HRI.out.1
        have h4 := HLE.out
        unfold Headed at h3
        simp only [outl]
        rw [← h1, ← h2, HLL.out.1, HLL.out.2.1, HLL.out.2.2]
        omega))
      clear hb7 hk7 hoc hoc2
      have HBLD : ∀ W : World, (Instr.build 65 #[(0, .agg (hcells x.b).toArray), (1, .int .i64 1), (2, .int .i64 (m1 : Nat)), (3, .int .i64 (m2 : Nat)), (4, .int .i64 (x.sh.n : Nat)), (5, .int .i64 (x.ss.n : Nat)), (6, .int .i64 (x.sk.n : Nat)), (7, .int .i64 (n4 : Nat))]).run Tryz.prog W = .ok (.agg oc.toArray) W := fun W => by rw [HO2.out]; kernel_rfl
      go_wp2_with (first
        | ((with_reducible refine at_dst (some 29) ?_); refine wpList_loadAt (op := ⟨some 29, _, _, _, _, _⟩) rfl 23 (.tmp 28) rfl ⟨w.heap.size, 0, none⟩ rfl (hcells x.b) dH X5.out.1.hat huH hdH iH ?_)
        | ((with_reducible refine at_dst (some 47) ?_); refine wpList_bld (op := ⟨some 47, _, _, _, _, _⟩) rfl 65 _ rfl #[(0, .agg (hcells x.b).toArray), (1, .int .i64 1), (2, .int .i64 (m1 : Nat)), (3, .int .i64 (m2 : Nat)), (4, .int .i64 (x.sh.n : Nat)), (5, .int .i64 (x.ss.n : Nat)), (6, .int .i64 (x.sk.n : Nat)), (7, .int .i64 (n4 : Nat))] (by simp [Act.eval]) (.agg oc.toArray) (HBLD _) ?_)
        | ((with_reducible refine at_dst none ?_); refine wpList_storeNew (w := u) (op := ⟨none, _, _, _, _, _⟩) rfl 65 (.tmp 7) (.tmp 47) rfl zeroO oc (by rw [← hg7]; rfl) rfl (by rw [HOL.out.1]; rfl) (by rw [HOL.out.1]; exact iOl) HOL.out.2 ?_; rw [hu7]))
      refine HOB.out.mono ?_
      rintro e u8 ⟨g8, rfl, hg8, hB8, hb8⟩
      have X8 : Hid (Below w.heap.size w u8 ∧ Blk u8 g2 57 zeroP ∧ Blk u8 g6 57 (pcells ⟨none, 0, 0⟩ ⟨some ⟨ga, 0, none⟩, m1, m1⟩ ⟨some ⟨gx, 0, none⟩, m2, m2⟩) ∧ Blk u8 ga 5 (cn .u8 (bauth x.b)) ∧ Blk u8 gx 5 (cn .u8 (baux x.b)) ∧ Blk u8 g8 5 (cn .u8 (bhead x.b)) ∧ u7.heap.size ≤ g8) := ⟨X7.out.1.trans (hb8.mono X7.out.1.size), X7.out.2.1.below hb8 X7.out.2.1.lt, X7.out.2.2.1.below hb8 X7.out.2.2.1.lt, X7.out.2.2.2.1.below hb8 X7.out.2.2.2.1.lt, X7.out.2.2.2.2.below hb8 X7.out.2.2.2.2.lt, hB8, hg8⟩
      clear hg8 hB8 hb8 p1 p2 k5 k6 k7
      go_wp2_with ((with_reducible refine at_dst none ?_); refine stopper ?_)
      refine ⟨?_, trivial⟩
      refine wpList_storeOne (op := ⟨none, _, _, _, _, _⟩) rfl 25 (.tmp 49) (.tmp 48) rfl (g := g6) (i := 0) (t := 57) (v := .slice (some ⟨g8, 0, none⟩) 128 128) rfl rfl X8.out.2.2.1 (by show 0 < 3; omega) rfl rfl iB1 ?_
      intro u9 hU hT
      have X9 : Hid (Below w.heap.size w u9 ∧ Blk u9 g2 57 zeroP ∧ Blk u9 g6 57 (pcells ⟨some ⟨g8, 0, none⟩, 128, 128⟩ ⟨some ⟨ga, 0, none⟩, m1, m1⟩ ⟨some ⟨gx, 0, none⟩, m2, m2⟩) ∧ PcOk u9 x.b ⟨some ⟨g8, 0, none⟩, 128, 128⟩ ⟨some ⟨ga, 0, none⟩, m1, m1⟩ ⟨some ⟨gx, 0, none⟩, m2, m2⟩ ∧ (g8 ≠ g2 ∧ ga ≠ g2 ∧ gx ≠ g2)) := pieces_fin ⟨X8.out.1, X8.out.2.1, X8.out.2.2.1, X8.out.2.2.2.1, X8.out.2.2.2.2.1, X8.out.2.2.2.2.2.1⟩ hT hU.out X5.out.2.2.2.2.2.2 X5.out.2.2.1 HX0.out.fits HM12.out hm1b hm2b; have p0 : u9.cell? ⟨g6, 0, none⟩ = some (.slice (some ⟨g8, 0, none⟩) 128 128) := X9.out.2.2.1.cell 0
      have p1 : u9.cell? ⟨g6, 1, none⟩ = some (.slice (some ⟨ga, 0, none⟩) m1 m1) := X9.out.2.2.1.cell 1
      have p2 : u9.cell? ⟨g6, 2, none⟩ = some (.slice (some ⟨gx, 0, none⟩) m2 m2) := X9.out.2.2.1.cell 2
      go_wp2_with (first
        | ((with_reducible refine at_dst (some 63) ?_); refine wpList_loadAt (op := ⟨some 63, _, _, _, _, _⟩) rfl 57 (.tmp 6) rfl ⟨g6, 0, none⟩ rfl _ dP X9.out.2.2.1.at huP hdP iPc ?_)
        | ((with_reducible refine at_dst none ?_); refine wpList_storeBlk (op := ⟨none, _, _, _, _, _⟩) rfl 57 (.tmp 2) (.tmp 63) rfl (g := g2) (t := 57) (old := zeroP) (cs := pcells ⟨some ⟨g8, 0, none⟩, 128, 128⟩ ⟨some ⟨ga, 0, none⟩, m1, m1⟩ ⟨some ⟨gx, 0, none⟩, m2, m2⟩) (by first | rfl | (rw [← hg2]; rfl)) rfl X9.out.2.1 rfl iPc (pcells_one _ _ _) ?_; intro w9 hB9 ht9))
      exact ret_cell_tmp rfl (by first | rfl | (rw [← hg2]; rfl)) hB9.out.at huP hdP iPc rfl ⟨_, 0, rfl, rfl, pcells_one _ _ _, fun _ => ⟨rfl, _, _, _, rfl, X9.out.2.2.2.1.far ht9 X9.out.2.2.2.2.1 X9.out.2.2.2.2.2.1 X9.out.2.2.2.2.2.2⟩, fun h => absurd HRI.out h, ht9.belowAt X9.out.1 X5.out.2.2.1 X9.out.1.size⟩
  · rw [decide_eq_false hr] at HBR
    have HNR := Lib.hid hr
    clear hr
    go_enter Tryz.func33, Tryz.ntmps33
    go_wp2_with ((with_reducible refine at_dst (some 8) ?_); refine wpList_loadAt (op := ⟨some 8, _, _, _, _, _⟩) rfl 27 (.tmp 1) rfl ⟨w.heap.size, 0, none⟩ rfl x.cells dB X2.out.1.blk.at huB hdB iBl ?_)
    refine HBR.out.mono ?_
    rintro e w3 ⟨rfl, hb3⟩
    have X3 : Hid (BIn w w.heap.size x w3 ∧ Blk w3 g2 57 zeroP ∧ w.heap.size ≤ g2) := ⟨X2.out.1.next hb3, X2.out.2.1.below hb3 X2.out.2.1.lt, X2.out.2.2⟩
    clear hb3
    go_wp2_with ((with_reducible refine at_dst none ?_); refine wpList_storeBlk (op := ⟨none, _, _, _, _, _⟩) rfl 57 (.tmp 2) (.tmp 11) rfl (g := g2) (t := 57) (old := zeroP) (cs := zeroP) (by first | rfl | (rw [← hg2]; rfl)) rfl X3.out.2.1 rfl iPc zeroP_one ?_; intro w9 hB9 ht9)
    exact ret_cell_tmp rfl (by first | rfl | (rw [← hg2]; rfl)) hB9.out.at huP hdP iPc rfl ⟨zeroP, 12, rfl, rfl, zeroP_one, fun h => absurd h HNR.out, fun _ => rfl, ht9.belowAt X3.out.1.below X3.out.2.2 X3.out.1.below.size⟩
end Go.Proofs.YtlcoebenkhafcaaGreatDoor
