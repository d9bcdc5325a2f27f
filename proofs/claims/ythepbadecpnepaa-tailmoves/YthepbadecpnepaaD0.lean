/-
  Memory of a drive: what a step may turn, slices of any cells, maps as lists of entries, sets of numbers. No condition.
-/
import Derived.Test.YthepbadecpnepaaDm
namespace Go.Proofs.Ythepbadecpnepaa
open Go.RowKit Go.MapKept
set_option linter.unusedVariables false
set_option linter.unusedSimpArgs false
set_option maxRecDepth 100000

/-- Of what was there only the blocks of F may have turned; the streams are as they were. -/
structure Touch (F : List Nat) (w w' : World) : Prop where
  os : w'.os = w.os
  tape : w'.tape = w.tape
  output : w'.output = w.output
  size : w.heap.size ≤ w'.heap.size
  block : ∀ k, k < w.heap.size → k ∉ F → w'.heap[k]? = w.heap[k]?
section
variable {F G : List Nat} {a b c w w' : World} {B : Nat}
theorem Touch.refl (F : List Nat) (w : World) : Touch F w w := ⟨rfl, rfl, rfl, Nat.le_refl _, fun _ _ _ => rfl⟩
theorem Touch.then (h : Touch F a b) (k : Touch G b c) (hG : ∀ x ∈ G, x ∈ F ∨ a.heap.size ≤ x) : Touch F a c :=
  ⟨k.os.trans h.os, k.tape.trans h.tape, k.output.trans h.output, Nat.le_trans h.size k.size, fun i hi hn => (k.block i (Nat.lt_of_lt_of_le hi h.size) (fun hg => by
    rcases hG i hg with h1 | h1
    · exact hn h1
    · omega)).trans (h.block i hi hn)⟩
theorem Touch.trans (h : Touch F a b) (k : Touch F b c) : Touch F a c := h.then k (fun x hx => .inl hx)
theorem Touch.wider (h : Touch F a b) (hG : ∀ x ∈ F, x ∈ G) : Touch G a b := ⟨h.os, h.tape, h.output, h.size, fun i hi hn => h.block i hi (fun hf => hn (hG i hf))⟩
theorem Touch.of_below (F : List Nat) (h : Below w.heap.size w w') : Touch F w w' := ⟨h.os, h.tape, h.output, h.size, fun i hi _ => h.block i hi⟩
theorem Touch.then_below (h : Touch F a b) (k : Below b.heap.size b c) : Touch F a c := h.trans (Touch.of_below F k)
theorem Touch.below (h : Touch F w w') (hF : ∀ x ∈ F, B ≤ x) (hB : B ≤ w.heap.size) : Below B w w' :=
  ⟨h.os, h.tape, h.output, h.size, fun i hi => h.block i (by omega) (fun hf => by have := hF i hf; omega)⟩
theorem Touch.drewN (h : Touch F a w) (n : Nat) : Touch F a (w.drewN n) := ⟨h.os, h.tape, h.output, h.size, h.block⟩
theorem Touch.drew (h : Touch F a w) : Touch F a w.drew := ⟨h.os, h.tape, h.output, h.size, h.block⟩
theorem Touch.alloc (h : Touch F a w) (o : Obj) : Touch F a (w.alloc o) := h.trans (Touch.of_below F ((Below.refl _ _).alloc (Nat.le_refl _) o))
theorem Touch.setCell (h : Touch F a w) {p : Addr} (hp : p.block ∈ F ∨ a.heap.size ≤ p.block) (u : Value) : Touch F a (w.setCell p u) :=
  h.then (G := [p.block]) ⟨rfl, rfl, rfl, by simp [World.setCell], fun k _ hn => Below.heap_setCell _ _ _ _ (by simpa using hn)⟩ (fun x hx => by
    obtain rfl := List.mem_singleton.1 hx
    exact hp)
theorem Touch.grown {g : Nat} (h : Touch F a w) (hg : w.grownBy w' (some g)) (hp : g ∈ F ∨ a.heap.size ≤ g) : Touch F a w' :=
  h.then (G := [g]) ⟨hg.os, hg.tape, hg.output, hg.size, fun k hk hn => hg.block k hk (fun e => hn (by injection e with e; simp [e]))⟩ (fun x hx => by
    obtain rfl := List.mem_singleton.1 hx
    exact hp)
theorem Blk.touch {g : Nat} {t : TypeId} {cs : List Value} (h : Blk w g t cs) (k : Touch F w w') (hg : g ∉ F) : Blk w' g t cs := (k.block g h.lt hg).trans h
theorem Touch.cell (h : Touch F w w') {p : Addr} (hl : p.block < w.heap.size) (hp : p.block ∉ F) : w'.cell? p = w.cell? p := World.cell?_of_block (w := w) (h.block p.block hl hp)
theorem Touch.frozen (h : Touch F w w') {p : Addr} (hl : p.block < w.heap.size) (hp : p.block ∉ F) : w'.frozen? p = w.frozen? p := World.frozen?_of_block (w := w) (h.block p.block hl hp)
theorem Rd.touch {k : IntKind} {A : Option Addr} {n : Nat} {l : List Nat} (h : Rd k w A n l) (t : Touch F w w') (hF : ∀ ad, A = some ad → ad.block ∉ F) : Rd k w' A n l :=
  ⟨h.1, fun hn => by
    obtain ⟨ad, e, hlt, hc⟩ := h.2 hn
    exact ⟨ad, e, Nat.lt_of_lt_of_le hlt t.size, fun j x hj => (t.cell (p := ad.add j) (by rw [block_add]; exact hlt) (by rw [block_add]; exact hF ad e)).trans (hc j x hj)⟩⟩
end

theorem Rd.touch0 {F : List Nat} {w w' : World} {k : IntKind} {A : Option Addr} {n : Nat} {l : List Nat} (h : Rd k w A n l) (t : Touch F w w') (hF : 0 < n → ∀ ad, A = some ad → ad.block ∉ F) : Rd k w' A n l :=
  ⟨h.1, fun hn => by
    obtain ⟨ad, e, hlt, hc⟩ := h.2 hn
    exact ⟨ad, e, Nat.lt_of_lt_of_le hlt t.size, fun j x hj => (t.cell (p := ad.add j) (by rw [block_add]; exact hlt) (by rw [block_add]; exact hF hn ad e)).trans (hc j x hj)⟩⟩

/-- The slice at A reads as these cells. -/
def Rs (w : World) (A : Option Addr) (vs : List Value) : Prop := 0 < vs.length → ∃ ad, A = some ad ∧ ad.block < w.heap.size ∧ ∀ (j : Nat) u, vs[j]? = some u → w.cell? (ad.add j) = some u
section
variable {F : List Nat} {w w' : World} {A : Option Addr} {vs : List Value}
theorem Rs.nil (w : World) (A : Option Addr) : Rs w A [] := fun h => absurd h (by simp)
theorem Rs.touch (h : Rs w A vs) (t : Touch F w w') (hF : ∀ ad, A = some ad → ad.block ∉ F) : Rs w' A vs := fun hn => by
  obtain ⟨ad, e, hlt, hc⟩ := h hn
  exact ⟨ad, e, Nat.lt_of_lt_of_le hlt t.size, fun j x hj => (t.cell (p := ad.add j) (by rw [block_add]; exact hlt) (by rw [block_add]; exact hF ad e)).trans (hc j x hj)⟩
theorem Rs.touch0 (h : Rs w A vs) (t : Touch F w w') (hF : 0 < vs.length → ∀ ad, A = some ad → ad.block ∉ F) : Rs w' A vs := fun hn => by
  obtain ⟨ad, e, hlt, hc⟩ := h hn
  exact ⟨ad, e, Nat.lt_of_lt_of_le hlt t.size, fun j x hj => (t.cell (p := ad.add j) (by rw [block_add]; exact hlt) (by rw [block_add]; exact hF hn ad e)).trans (hc j x hj)⟩
theorem Rs.below (h : Rs w A vs) (hb : Below w.heap.size w w') : Rs w' A vs := h.touch (Touch.of_below [] hb) (fun _ _ => by simp)
theorem Rs.belowAt {B : Nat} (h : Rs w A vs) (hb : Below B w w') (hlt : ∀ ad, A = some ad → ad.block < B) : Rs w' A vs := fun hn => by
  obtain ⟨ad, e, h1, hc⟩ := h hn
  exact ⟨ad, e, Nat.lt_of_lt_of_le h1 hb.size, fun j x hj => (hb.cell (p := ad.add j) (by rw [block_add]; exact hlt ad e)).trans (hc j x hj)⟩
theorem Rs.drewN (h : Rs w A vs) (m : Nat) : Rs (w.drewN m) A vs := h
theorem Rs.lt (h : Rs w A vs) (hn : 0 < vs.length) : ∀ ad, A = some ad → ad.block < w.heap.size := by
  intro ad e
  obtain ⟨ad', e', hlt, _⟩ := h hn
  rw [e] at e'
  injection e' with e'
  rw [e']; exact hlt
theorem Rs.get (h : Rs w A vs) {j : Nat} {u : Value} (hj : vs[j]? = some u) : ∃ ad, A = some ad ∧ w.cell? (ad.add j) = some u := by
  obtain ⟨ad, e, _, hc⟩ := h (by have := (List.getElem?_eq_some_iff.1 hj).1; omega)
  exact ⟨ad, e, hc j u hj⟩
theorem Rs.take (h : Rs w A vs) (m : Nat) : Rs w A (vs.take m) := fun hp => by
  rw [List.length_take] at hp
  obtain ⟨ad, e, hlt, hc⟩ := h (by omega)
  refine ⟨ad, e, hlt, fun j x hj => hc j x ?_⟩
  rw [List.getElem?_take] at hj
  split at hj
  · exact hj
  · cases hj
theorem Blk.rs {g : Nat} {t : TypeId} (h : Blk w g t vs) : Rs w (some ⟨g, 0, none⟩) vs := fun _ => ⟨_, rfl, h.lt, fun j x hj => by rw [addr_add, Nat.zero_add, h.cell]; exact hj⟩
theorem Rd.rs {k : IntKind} {n : Nat} {l : List Nat} (h : Rd k w A n l) : Rs w A (cn k l) := fun hn => by
  rw [cn_length, h.1] at hn
  obtain ⟨ad, e, hlt, hc⟩ := h.2 hn
  refine ⟨ad, e, hlt, fun j u hu => ?_⟩
  have hj : j < l.length := by have := (List.getElem?_eq_some_iff.1 hu).1; rwa [cn_length] at this
  obtain ⟨x, hx⟩ := get_some hj
  rw [cn_get hx] at hu
  injection hu with hu
  rw [hc j x hx, hu]
theorem Rs.rd {k : IntKind} {n : Nat} {l : List Nat} (h : Rs w A (cn k l)) (hn : l.length = n) : Rd k w A n l := ⟨hn, fun hp => by
  obtain ⟨ad, e, hlt, hc⟩ := h (by rw [cn_length, hn]; exact hp)
  exact ⟨ad, e, hlt, fun j x hj => hc j _ (cn_get hj)⟩⟩
end

/-! ### Maps as lists of entries -/
/-- Block b is a map whose entries, in the order in which they came, are these. -/
def MapAt (w : World) (b : Nat) (kv : List (Value × Value)) : Prop := ∃ es clock, w.heap[b]? = some (.map es clock) ∧ es.toList.map (fun e => (e.key, e.val)) = kv
section
variable {F : List Nat} {w w' : World} {b : Nat} {kv : List (Value × Value)}
theorem MapAt.lt (h : MapAt w b kv) : b < w.heap.size := by
  obtain ⟨es, clock, hb, _⟩ := h
  exact (Array.getElem?_eq_some_iff.1 hb).1
theorem MapAt.touch (h : MapAt w b kv) (t : Touch F w w') (hb : b ∉ F) : MapAt w' b kv := by
  have hl := h.lt
  obtain ⟨es, clock, h1, h2⟩ := h
  exact ⟨es, clock, (t.block b hl hb).trans h1, h2⟩
theorem MapAt.of_block (h : MapAt w b kv) (t : w'.heap[b]? = w.heap[b]?) : MapAt w' b kv := by
  obtain ⟨es, clock, h1, h2⟩ := h
  exact ⟨es, clock, t.trans h1, h2⟩
theorem MapAt.made (w : World) : MapAt (w.alloc (.map #[] 0)) w.heap.size [] := ⟨#[], 0, heap_alloc_new w _, rfl⟩
theorem MapAt.ne_blk {g : Nat} {t : TypeId} {cs : List Value} (h : MapAt w b kv) (k : Blk w g t cs) : b ≠ g := by
  rintro rfl
  obtain ⟨es, clock, h1, _⟩ := h
  unfold Blk at k
  rw [k] at h1
  cases h1

variable {d : TypeDesc} {kt et t : TypeId}
theorem find_of {es : Array MapEntry} (hes : es.toList.map (fun e => (e.key, e.val)) = kv) {k : Value} (hk : IsKey d k) (hks : ∀ x ∈ kv, IsKey d x.1) :
    (Instr.findNow d k es.toList 0 = some none ∧ ∀ x ∈ kv, x.1 ≠ k) ∨ ∃ (j : Nat) (e : MapEntry), Instr.findNow d k es.toList 0 = some (some (j, e.val)) ∧ es[j]? = some e ∧ e.key = k ∧ kv[j]? = some (k, e.val) := by
  have h : ∀ x ∈ es.toList, IsKey d x.key := fun x hx => hks (x.key, x.val) (by rw [← hes]; exact List.mem_map.2 ⟨x, hx, rfl⟩)
  rcases findNow_spec hk es.toList 0 h with ⟨h1, h2⟩ | ⟨j, e, h1, h2, h3⟩
  · refine .inl ⟨h1, fun x hx => ?_⟩
    rw [← hes] at hx
    obtain ⟨e, he, rfl⟩ := List.mem_map.1 hx
    exact h2 e he
  · refine .inr ⟨j, e, by rw [h1, Nat.zero_add], by simpa using h2, h3, ?_⟩
    rw [← hes, List.getElem?_map, h2, ← h3]
    rfl
/-- 'v, ok := m[k]', the key there. -/
theorem run_lookup_hit (ht : Try.prog.underlying t = some (.map kt et)) (hd : Try.prog.underlying kt = some d) (h : MapAt w b kv) {k v : Value} (hk : IsKey d k) (hks : ∀ x ∈ kv, IsKey d x.1) (hn : (kv.map (·.1)).Nodup) (hv : (k, v) ∈ kv) :
    (Instr.lookup t (.map (some b)) k true).run Try.prog w = .ok (.tuple #[v, .bool true]) w := by
  obtain ⟨es, clock, hb, hes⟩ := h
  rcases find_of hes hk hks with ⟨h1, h2⟩ | ⟨j, e, h1, h2, h3, h4⟩
  · exact absurd rfl (h2 _ hv)
  · have hev : e.val = v := by
      obtain ⟨i, hi⟩ := List.mem_iff_getElem?.1 hv
      have e1 : (kv.map (·.1))[i]? = some k := by rw [List.getElem?_map, hi]; rfl
      have e2 : (kv.map (·.1))[j]? = some k := by rw [List.getElem?_map, h4]; rfl
      have hij : i = j := by
        have hi' := (List.getElem?_eq_some_iff.1 e1).1
        exact (List.getElem?_inj hi' hn).1 (e1.trans e2.symm)
      subst hij
      rw [hi] at h4
      injection h4 with h4
      injection h4 with _ h4
      exact h4.symm
    simp [Instr.lookup, run_underlying ht, MapKept.run_getObj_map hb, run_checkKey hd hk, run_findKey hd h1, Result.andThen, hev]
/-- 'v, ok := m[k]', the key not there. -/
theorem run_lookup_miss (ht : Try.prog.underlying t = some (.map kt et)) (hd : Try.prog.underlying kt = some d) {z : Value} (hz : (zeroValue et).run Try.prog w = .ok z w) (h : MapAt w b kv) {k : Value} (hk : IsKey d k) (hks : ∀ x ∈ kv, IsKey d x.1) (hm : ∀ x ∈ kv, x.1 ≠ k) :
    (Instr.lookup t (.map (some b)) k true).run Try.prog w = .ok (.tuple #[z, .bool false]) w := by
  obtain ⟨es, clock, hb, hes⟩ := h
  rcases find_of hes hk hks with ⟨h1, h2⟩ | ⟨j, e, h1, h2, h3, h4⟩
  · simp [Instr.lookup, run_underlying ht, MapKept.run_getObj_map hb, run_checkKey hd hk, run_findKey hd h1, Result.andThen, hz]
  · exact absurd rfl (hm _ (List.mem_of_getElem? h4))
theorem touch_set {o o' : Obj} (hb : w.heap[b]? = some o) : Touch [b] w { w with heap := w.heap.setIfInBounds b o' } :=
  ⟨rfl, rfl, rfl, by simp, fun k _ hk => (heap_set hb).2 k (by simpa using hk)⟩
/-- 'm[k] = v', the key not there yet. -/
theorem run_update_new (ht : Try.prog.underlying t = some (.map kt et)) (hd : Try.prog.underlying kt = some d) (h : MapAt w b kv) {k v : Value} (hk : IsKey d k) (hks : ∀ x ∈ kv, IsKey d x.1) (hm : ∀ x ∈ kv, x.1 ≠ k) :
    ∃ w', (Instr.mapUpdate t (.map (some b)) k v).run Try.prog w = .ok () w' ∧ MapAt w' b (kv ++ [(k, v)]) ∧ Touch [b] w w' := by
  obtain ⟨es, clock, hb, hes⟩ := h
  rcases find_of hes hk hks with ⟨h1, h2⟩ | ⟨j, e, h1, h2, h3, h4⟩
  · refine ⟨_, by simp [Instr.mapUpdate, run_underlying ht, MapKept.run_getObj_map hb, run_checkKey hd hk, run_findKey hd h1, Result.andThen, MapKept.run_setObj_map _ hb]; rfl, ⟨_, _, (heap_set hb).1, by simp [← hes]⟩, touch_set hb⟩
  · exact absurd rfl (hm _ (List.mem_of_getElem? h4))
/-- 'm[k] = v' where that is what it holds already. -/
theorem run_update_same (ht : Try.prog.underlying t = some (.map kt et)) (hd : Try.prog.underlying kt = some d) (h : MapAt w b kv) {k v : Value} (hk : IsKey d k) (hks : ∀ x ∈ kv, IsKey d x.1) (hn : (kv.map (·.1)).Nodup) (hv : (k, v) ∈ kv) :
    ∃ w', (Instr.mapUpdate t (.map (some b)) k v).run Try.prog w = .ok () w' ∧ MapAt w' b kv ∧ Touch [b] w w' := by
  obtain ⟨es, clock, hb, hes⟩ := h
  rcases find_of hes hk hks with ⟨h1, h2⟩ | ⟨j, e, h1, h2, h3, h4⟩
  · exact absurd rfl (h2 _ hv)
  · have hev : e.val = v := by
      obtain ⟨i, hi⟩ := List.mem_iff_getElem?.1 hv
      have e1 : (kv.map (·.1))[i]? = some k := by rw [List.getElem?_map, hi]; rfl
      have e2 : (kv.map (·.1))[j]? = some k := by rw [List.getElem?_map, h4]; rfl
      have hij : i = j := by
        have hi' := (List.getElem?_eq_some_iff.1 e1).1
        exact (List.getElem?_inj hi' hn).1 (e1.trans e2.symm)
      subst hij
      rw [hi] at h4
      injection h4 with h4
      injection h4 with _ h4
      exact h4.symm
    have hkey : (((es[j]?).map (·.key)).getD k) = k := by rw [h2]; simpa using h3
    refine ⟨_, by simp [Instr.mapUpdate, run_underlying ht, MapKept.run_getObj_map hb, run_checkKey hd hk, run_findKey hd h1, Result.andThen, hkey, run_keyThatStays hk, MapKept.run_setObj_map _ hb]; rfl, ⟨_, _, (heap_set hb).1, ?_⟩, touch_set hb⟩
    rw [← hes]
    apply List.ext_getElem?
    intro i
    simp only [List.getElem?_map, Array.getElem?_toList, Array.getElem?_modify]
    by_cases hi : j = i
    · subst hi
      rw [if_pos rfl, h2]
      simp [h3, hev]
    · rw [if_neg hi]
/-- 'delete(m, k)'. -/
theorem run_delete_at (ht : Try.prog.underlying t = some (.map kt et)) (hd : Try.prog.underlying kt = some d) (h : MapAt w b kv) {k : Value} (hk : IsKey d k) (hks : ∀ x ∈ kv, IsKey d x.1) (hn : (kv.map (·.1)).Nodup) (ty : TypeId) :
    ∃ w' kv', (Builtin.delete_ #[t, kt] ty #[.map (some b), k]).run Try.prog w = .ok (.tuple #[]) w' ∧ MapAt w' b kv' ∧ Touch [b] w w' ∧ (kv'.map (·.1)).Nodup ∧ ∀ x, x ∈ kv' ↔ x ∈ kv ∧ x.1 ≠ k := by
  obtain ⟨es, clock, hb, hes⟩ := h
  rcases find_of hes hk hks with ⟨h1, h2⟩ | ⟨j, e, h1, h2, h3, h4⟩
  · exact ⟨_, kv, by simp [Builtin.delete_, run_underlying ht, MapKept.run_getObj_map hb, run_checkKey hd hk, run_findKey hd h1, Result.andThen, MapKept.run_setObj_map _ hb]; rfl, ⟨_, _, (heap_set hb).1, hes⟩, touch_set hb, hn, fun x => ⟨fun hx => ⟨hx, h2 x hx⟩, fun hx => hx.1⟩⟩
  · have hj := (List.getElem?_eq_some_iff.1 h4).1
    have hjs : j < es.size := (Array.getElem?_eq_some_iff.1 h2).1
    refine ⟨_, kv.eraseIdx j, by simp [Builtin.delete_, run_underlying ht, MapKept.run_getObj_map hb, run_checkKey hd hk, run_findKey hd h1, Result.andThen, MapKept.run_setObj_map _ hb]; rfl, ⟨_, _, (heap_set hb).1, ?_⟩, touch_set hb, ?_, ?_⟩
    · rw [← hes]
      simp [Array.eraseIdxIfInBounds, hjs, Go.ChangeMaps.map_eraseIdx]
    · exact hn.sublist ((List.eraseIdx_sublist _ _).map _)
    · intro x
      rw [List.mem_eraseIdx_iff_getElem?]
      have e2 : (kv.map (·.1))[j]? = some k := by rw [List.getElem?_map, h4]; rfl
      constructor
      · rintro ⟨i, hij, hi⟩
        refine ⟨List.mem_of_getElem? hi, fun hxk => hij ?_⟩
        have e1 : (kv.map (·.1))[i]? = some k := by rw [List.getElem?_map, hi, ← hxk]; rfl
        exact (List.getElem?_inj (List.getElem?_eq_some_iff.1 e1).1 hn).1 (e1.trans e2.symm)
      · rintro ⟨hx, hxk⟩
        obtain ⟨i, hi⟩ := List.mem_iff_getElem?.1 hx
        refine ⟨i, fun hij => hxk ?_, hi⟩
        rw [hij, h4] at hi
        injection hi with hi
        rw [← hi]
/-- The same at the operation. -/
theorem wpList_lookup_run {ops : Array Oper} {rest : List Oper} {o : Oper} {a : Act} {Q : Exit → Act → World → Prop} (hg : o.guard = none) (m x : Operand) (t : TypeId) (hop : o.op = Op.lookup t m x true) (mv kv v : Value) (hm : a.eval m = mv) (hx : a.eval x = kv)
    (hrun : (Instr.lookup t mv kv true).run Try.prog w = .ok v w) (hK : wpList Try.prog ops Q rest (a.put o.dst v) w) : wpList Try.prog ops Q (o :: rest) a w := by
  refine wpList_plain hg fun K' hK' => ?_
  unfold Oper.wp
  simp [execOp, hop, hm, hx, hrun, Result.andThen]
  exact hK' _ _ hK
theorem wpList_update_run {ops : Array Oper} {rest : List Oper} {o : Oper} {a : Act} {Q : Exit → Act → World → Prop} (hg : o.guard = none) (m x y : Operand) (t : TypeId) (hop : o.op = Op.mapUpdate t m x y) (mv kv v : Value) (hm : a.eval m = mv) (hx : a.eval x = kv) (hv : a.eval y = v) {w' : World}
    (hrun : (Instr.mapUpdate t mv kv v).run Try.prog w = .ok () w') (hK : wpList Try.prog ops Q rest (a.put o.dst undef) w') : wpList Try.prog ops Q (o :: rest) a w := by
  refine wpList_plain hg fun K' hK' => ?_
  unfold Oper.wp
  simp [execOp, hop, hm, hx, hv, hrun, Result.andThen]
  exact hK' _ _ hK
theorem wpList_delete_run {ops : Array Oper} {rest : List Oper} {o : Oper} {a : Act} {Q : Exit → Act → World → Prop} (hg : o.guard = none) (m x : Operand) (t k : TypeId) (hop : o.op = Op.call { callee := Callee.builtin Builtin.delete, args := #[m, x], argTypes := #[t, k] }) (mv kv : Value) (hm : a.eval m = mv) (hx : a.eval x = kv) {w' : World}
    (hrun : (Builtin.delete_ #[t, k] o.type #[mv, kv]).run Try.prog w = .ok (.tuple #[]) w') (hK : wpList Try.prog ops Q rest (a.put o.dst (.tuple #[])) w') : wpList Try.prog ops Q (o :: rest) a w := by
  refine wpList_plain hg fun K' hK' => ?_
  unfold Oper.wp
  simp [execOp, hop, resolve, invoke, builtin, hm, hx, hrun, Result.andThen]
  exact hK' _ _ hK
end
end Go.Proofs.Ythepbadecpnepaa
