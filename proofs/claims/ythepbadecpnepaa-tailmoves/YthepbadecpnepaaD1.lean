/-
  A drive as it lies in memory. No condition.
-/
import Derived.Test.YthepbadecpnepaaD0
namespace Go.Proofs.Ythepbadecpnepaa
open Go.RowKit Go.MapKept
set_option linter.unusedVariables false
set_option linter.unusedSimpArgs false
set_option maxRecDepth 100000

/-- All are below B. -/
def Fit (B : Nat) (l : List Nat) : Prop := ∀ d ∈ l, d < B
theorem Fit.replicate (B n d : Nat) (hd : d < B) : Fit B (List.replicate n d) := fun x hx => by rw [List.eq_of_mem_replicate hx]; exact hd
theorem Fit.get {B : Nat} {a : List Nat} (h : Fit B a) {i d : Nat} (hi : a[i]? = some d) : d < B := h d (List.mem_of_getElem? hi)
theorem Fit.take {B : Nat} {a : List Nat} (h : Fit B a) (n : Nat) : Fit B (a.take n) := fun x hx => h x (List.mem_of_mem_take hx)
theorem Fit.drop {B : Nat} {a : List Nat} (h : Fit B a) (n : Nat) : Fit B (a.drop n) := fun x hx => h x (List.mem_of_mem_drop hx)
theorem Fit.append {B : Nat} {a b : List Nat} (ha : Fit B a) (hb : Fit B b) : Fit B (a ++ b) := fun x hx => (List.mem_append.1 hx).elim (ha x) (hb x)

/-- Block b is a set of numbers. -/
def SetAt (w : World) (b : Nat) (S : Int → Bool) : Prop := ∃ ks : List Int, MapAt w b (ks.map fun k => (Value.int .i64 k, Value.agg #[])) ∧ ks.Nodup ∧ ∀ k, k ∈ ks ↔ S k = true
section
variable {F : List Nat} {w w' : World} {b : Nat} {S : Int → Bool}
theorem SetAt.lt (h : SetAt w b S) : b < w.heap.size := by
  obtain ⟨ks, h1, _⟩ := h
  exact h1.lt
theorem SetAt.touch (h : SetAt w b S) (t : Touch F w w') (hb : b ∉ F) : SetAt w' b S := by
  obtain ⟨ks, h1, h2⟩ := h
  exact ⟨ks, h1.touch t hb, h2⟩
theorem SetAt.made (w : World) : SetAt (w.alloc (.map #[] 0)) w.heap.size (fun _ => false) := ⟨[], MapAt.made w, by simp, by simp⟩
theorem set_keys (ks : List Int) : ∀ x ∈ ks.map (fun k => (Value.int .i64 k, Value.agg #[])), IsKey (.int .i64) x.1 := fun x hx => by
  obtain ⟨k, _, rfl⟩ := List.mem_map.1 hx
  rfl
theorem set_firsts (ks : List Int) : (ks.map (fun k => (Value.int .i64 k, Value.agg #[]))).map (·.1) = ks.map (Value.int .i64) := by simp
theorem set_nodup {ks : List Int} (h : ks.Nodup) : ((ks.map (fun k => (Value.int .i64 k, Value.agg #[]))).map (·.1)).Nodup := by
  rw [set_firsts]
  exact (List.pairwise_map).2 (h.imp (fun hne e => hne (by injection e)))
theorem zeroU (w : World) : (zeroValue 80).run Try.prog w = .ok (.agg #[]) w := by kernel_rfl
theorem zeroS (w : World) : (zeroValue 74).run Try.prog w = .ok (.agg #[.slice none 0 0, .map none]) w := by kernel_rfl
theorem SetAt.look (h : SetAt w b S) (k : Int) : (Instr.lookup 72 (.map (some b)) (.int .i64 k) true).run Try.prog w = .ok (.tuple #[.agg #[], .bool (S k)]) w := by
  obtain ⟨ks, h1, h2, h3⟩ := h
  cases hs : S k with
  | true => exact run_lookup_hit Try.underlying72 Try.underlying3 h1 rfl (set_keys ks) (set_nodup h2) (List.mem_map.2 ⟨k, (h3 k).2 hs, rfl⟩)
  | false =>
    refine run_lookup_miss Try.underlying72 Try.underlying3 (zeroU w) h1 rfl (set_keys ks) (fun x hx => ?_)
    obtain ⟨j, hj, rfl⟩ := List.mem_map.1 hx
    intro e
    injection e with _ e
    rw [e] at hj
    rw [(h3 k).1 hj] at hs
    cases hs
theorem SetAt.put (h : SetAt w b S) (k : Int) : ∃ w', (Instr.mapUpdate 72 (.map (some b)) (.int .i64 k) (.agg #[])).run Try.prog w = .ok () w' ∧ SetAt w' b (fun x => x == k || S x) ∧ Touch [b] w w' := by
  obtain ⟨ks, h1, h2, h3⟩ := h
  by_cases hs : k ∈ ks
  · obtain ⟨w', hr, hm, ht⟩ := run_update_same Try.underlying72 Try.underlying3 h1 (k := .int .i64 k) (v := .agg #[]) rfl (set_keys ks) (set_nodup h2) (List.mem_map.2 ⟨k, hs, rfl⟩)
    refine ⟨w', hr, ⟨ks, hm, h2, fun x => ?_⟩, ht⟩
    rw [h3 x]
    by_cases e : x = k
    · subst e; simp [(h3 x).1 hs]
    · simp [e]
  · obtain ⟨w', hr, hm, ht⟩ := run_update_new Try.underlying72 Try.underlying3 h1 (k := .int .i64 k) (v := .agg #[]) rfl (set_keys ks) (fun x hx => by
      obtain ⟨j, hj, rfl⟩ := List.mem_map.1 hx
      intro e
      injection e with _ e
      rw [e] at hj
      exact hs hj)
    refine ⟨w', hr, ⟨ks ++ [k], by simpa using hm, ?_, fun x => ?_⟩, ht⟩
    · rw [List.nodup_append]
      exact ⟨h2, by simp, fun a ha b' hb e => by rw [List.mem_singleton.1 hb] at e; rw [e] at ha; exact hs ha⟩
    · rw [List.mem_append, h3 x, List.mem_singleton]
      by_cases e : x = k <;> simp [e]
theorem SetAt.del (h : SetAt w b S) (k : Int) (ty : TypeId) : ∃ w', (Builtin.delete_ #[72, 3] ty #[.map (some b), .int .i64 k]).run Try.prog w = .ok (.tuple #[]) w' ∧ SetAt w' b (fun x => x != k && S x) ∧ Touch [b] w w' := by
  obtain ⟨ks, h1, h2, h3⟩ := h
  obtain ⟨w', kv', hr, hm, ht, hn, hx⟩ := run_delete_at Try.underlying72 Try.underlying3 h1 (k := .int .i64 k) rfl (set_keys ks) (set_nodup h2) ty
  have hform : ∃ ks' : List Int, kv' = ks'.map (fun k => (Value.int .i64 k, Value.agg #[])) := by
    have hall : ∀ x ∈ kv', ∃ j : Int, x = (Value.int .i64 j, Value.agg #[]) := fun x hx' => by
      obtain ⟨j, _, rfl⟩ := List.mem_map.1 ((hx x).1 hx').1
      exact ⟨j, rfl⟩
    clear hm hn hx hr
    induction kv' with
    | nil => exact ⟨[], rfl⟩
    | cons x r ih =>
      obtain ⟨ks', e⟩ := ih (fun y hy => hall y (by simp [hy]))
      obtain ⟨j, e2⟩ := hall x (by simp)
      exact ⟨j :: ks', by rw [e, e2]; rfl⟩
  obtain ⟨ks', rfl⟩ := hform
  refine ⟨w', hr, ⟨ks', hm, ?_, fun x => ?_⟩, ht⟩
  · rw [set_firsts] at hn
    exact (List.pairwise_map.1 hn).imp (fun hne e => hne (by rw [e]))
  · have h4 := hx (.int .i64 x, .agg #[])
    have e1 : ((Value.int .i64 x, Value.agg #[]) ∈ ks'.map (fun k => (Value.int .i64 k, Value.agg #[]))) ↔ x ∈ ks' := by simp
    have e2 : ((Value.int .i64 x, Value.agg #[]) ∈ ks.map (fun k => (Value.int .i64 k, Value.agg #[]))) ↔ x ∈ ks := by simp
    rw [e1, e2, h3 x] at h4
    rw [h4]
    by_cases e : x = k <;> simp [e]
end

/-- A partition: its name, the blocks of its bytes and of its bad sectors, the bytes, the bad sectors. -/
structure Pt where
  nm : ByteArray
  bb : Nat
  mm : Nat
  l : List Nat
  bad : Int → Bool
def Pt.val (p : Pt) : Value := .agg #[.slice (some ⟨p.bb, 0, none⟩) p.l.length p.l.length, .map (some p.mm)]
def Pt.ent (p : Pt) : Value × Value := (.string p.nm, p.val)
def pcells (ps : List (ByteArray × Int)) : List Value := ps.flatMap fun p => [.string p.1, .int .i64 p.2]
def bcells (l : List Bool) : List Value := l.map .bool
structure Dv where
  g : Nat
  mb : Nat
  pts : List Pt
  pa : Option Addr
  pc : Nat
  down : Bool
  left : Int
  ka : Option Addr
  kc : Nat
  keep : List Bool
  count : Int
  told : Int
def Dv.own (D : Dv) : List Nat := D.g :: D.mb :: D.pts.flatMap fun p => [p.bb, p.mm]
def Dv.cells (D : Dv) : List Value := [.slice D.pa D.pts.length D.pc, .map (some D.mb), .bool D.down, .int .i64 D.left, .slice D.ka D.keep.length D.kc, .int .i64 D.count, .int .i64 D.told]
def Dv.ps (D : Dv) : List (ByteArray × Int) := D.pts.map fun p => (p.nm, (p.l.length : Int))
/-- The drive D lies in memory. -/
structure Drv (w : World) (D : Dv) : Prop where
  blk : Blk w D.g 71 D.cells
  map : MapAt w D.mb (D.pts.map Pt.ent)
  bytes : ∀ p ∈ D.pts, Blk w p.bb 5 (cn .u8 p.l)
  bads : ∀ p ∈ D.pts, SetAt w p.mm p.bad
  names : (D.pts.map (·.nm)).Nodup
  apart : D.own.Nodup
  size : ∀ p ∈ D.pts, 64 ≤ p.l.length ∧ p.l.length ≤ 1048576 ∧ p.l.length % 64 = 0
  fit : ∀ p ∈ D.pts, Fit 256 p.l
  few : D.pts.length ≤ 16
  parts : Rs w D.pa (pcells D.ps)
  partsOwn : ∀ ad, D.pa = some ad → ad.block ∉ D.own
  pcap : D.pts.length ≤ D.pc ∧ D.pc ≤ 9223372036854775807 ∧ (D.pa = none → D.pc = 0)
  kept : Rs w D.ka (bcells D.keep)
  keptOwn : ∀ ad, D.ka = some ad → ad.block ∉ D.own
  short : D.keep.length ≤ 16384
  partsLt : ∀ ad, D.pa = some ad → ad.block < w.heap.size
  keptLt : ∀ ad, D.ka = some ad → ad.block < w.heap.size
  nums : -1 ≤ D.left ∧ D.left ≤ 9223372036854775807 ∧ 0 ≤ D.count ∧ D.count ≤ 1152921504606846976 ∧ 0 ≤ D.told ∧ D.told ≤ 1152921504606846976
section
variable {F : List Nat} {w w' : World} {D : Dv}
theorem own_g (D : Dv) : D.g ∈ D.own := by simp [Dv.own]
theorem own_mb (D : Dv) : D.mb ∈ D.own := by simp [Dv.own]
theorem own_bb {D : Dv} {p : Pt} (h : p ∈ D.pts) : p.bb ∈ D.own := by
  simp only [Dv.own, List.mem_cons, List.mem_flatMap]
  exact .inr (.inr ⟨p, h, by simp⟩)
theorem own_mm {D : Dv} {p : Pt} (h : p ∈ D.pts) : p.mm ∈ D.own := by
  simp only [Dv.own, List.mem_cons, List.mem_flatMap]
  exact .inr (.inr ⟨p, h, by simp⟩)
theorem Drv.lt (h : Drv w D) : ∀ b ∈ D.own, b < w.heap.size := by
  intro b hb
  simp only [Dv.own, List.mem_cons, List.mem_flatMap] at hb
  rcases hb with rfl | rfl | ⟨p, hp, hb⟩
  · exact h.blk.lt
  · exact h.map.lt
  · simp at hb
    rcases hb with rfl | rfl
    · exact (h.bytes p hp).lt
    · exact (h.bads p hp).lt
/-- Nothing of the drive has turned. -/
theorem Drv.touch (h : Drv w D) (t : Touch F w w') (hF : ∀ b ∈ F, b ∉ D.own) (hp : ∀ ad, D.pa = some ad → ad.block ∉ F) (hk : ∀ ad, D.ka = some ad → ad.block ∉ F) : Drv w' D where
  blk := h.blk.touch t (fun hb => hF _ hb (own_g D))
  map := h.map.touch t (fun hb => hF _ hb (own_mb D))
  bytes p hp := (h.bytes p hp).touch t (fun hb => hF _ hb (own_bb hp))
  bads p hp := (h.bads p hp).touch t (fun hb => hF _ hb (own_mm hp))
  names := h.names
  apart := h.apart
  size := h.size
  fit := h.fit
  few := h.few
  parts := h.parts.touch t hp
  partsOwn := h.partsOwn
  pcap := h.pcap
  kept := h.kept.touch t hk
  keptOwn := h.keptOwn
  short := h.short
  partsLt ad e := Nat.lt_of_lt_of_le (h.partsLt ad e) t.size
  keptLt ad e := Nat.lt_of_lt_of_le (h.keptLt ad e) t.size
  nums := h.nums
theorem Drv.below (h : Drv w D) (hb : Below w.heap.size w w') : Drv w' D := h.touch (Touch.of_below [] hb) (fun b hb => by cases hb) (fun _ _ => by simp) (fun _ _ => by simp)
theorem Drv.drewN (h : Drv w D) (n : Nat) : Drv (w.drewN n) D := h.below (below_drewN below_self n)
/-- Block g is none of the drive's. -/
def Dv.far (D : Dv) (g : Nat) : Prop := g ∉ D.own ∧ (∀ ad, D.pa = some ad → ad.block ≠ g) ∧ (∀ ad, D.ka = some ad → ad.block ≠ g)
theorem Drv.far_new (h : Drv w D) {g : Nat} (hg : w.heap.size ≤ g) : D.far g :=
  ⟨fun hm => by have := h.lt g hm; omega, fun ad e => by have := h.partsLt ad e; omega, fun ad e => by have := h.keptLt ad e; omega⟩
theorem Drv.setFar (h : Drv w D) {p : Addr} (hp : D.far p.block) (u : Value) : Drv (w.setCell p u) D :=
  h.touch (F := [p.block]) ((Touch.refl _ w).setCell (.inl (by simp)) u) (fun b hb => by rw [List.mem_singleton.1 hb]; exact hp.1) (fun ad e hm => hp.2.1 ad e (List.mem_singleton.1 hm)) (fun ad e hm => hp.2.2 ad e (List.mem_singleton.1 hm))
theorem Drv.touchFar (h : Drv w D) (t : Touch F w w') (hF : ∀ g ∈ F, D.far g) : Drv w' D :=
  h.touch t (fun b hb => (hF b hb).1) (fun ad e hm => (hF _ hm).2.1 ad e rfl) (fun ad e hm => (hF _ hm).2.2 ad e rfl)
/-- The drive's own cells have turned. -/
theorem Drv.upd (h : Drv w D) (dn : Bool) (lf : Int) (ka : Option Addr) (kc : Nat) (kp : List Bool) (ct td : Int) (t : Touch [D.g] w w') (hb : Blk w' D.g 71 ({ D with down := dn, left := lf, ka := ka, kc := kc, keep := kp, count := ct, told := td } : Dv).cells)
    (hk : Rs w' ka (bcells kp)) (hko : ∀ ad, ka = some ad → ad.block ∉ D.own) (hkl : ∀ ad, ka = some ad → ad.block < w'.heap.size) (hs : kp.length ≤ 16384) (hn : -1 ≤ lf ∧ lf ≤ 9223372036854775807 ∧ 0 ≤ ct ∧ ct ≤ 1152921504606846976 ∧ 0 ≤ td ∧ td ≤ 1152921504606846976) :
    Drv w' { D with down := dn, left := lf, ka := ka, kc := kc, keep := kp, count := ct, told := td } := by
  have hne : ∀ b ∈ D.own, b ≠ D.g → b ∉ [D.g] := fun b _ hb he => hb (List.mem_singleton.1 he)
  have ha := List.nodup_cons.1 h.apart
  have hg : ∀ b ∈ D.mb :: D.pts.flatMap (fun p => [p.bb, p.mm]), b ∉ [D.g] := fun b hb he => by
    rw [List.mem_singleton.1 he] at hb
    exact ha.1 hb
  have hpt : ∀ p ∈ D.pts, p.bb ∉ [D.g] ∧ p.mm ∉ [D.g] := fun p hp => ⟨hg _ (by simp only [List.mem_cons, List.mem_flatMap]; exact .inr ⟨p, hp, by simp⟩), hg _ (by simp only [List.mem_cons, List.mem_flatMap]; exact .inr ⟨p, hp, by simp⟩)⟩
  exact
  { blk := hb
    map := h.map.touch t (hg _ (by simp))
    bytes := fun p hp => (h.bytes p hp).touch t (hpt p hp).1
    bads := fun p hp => (h.bads p hp).touch t (hpt p hp).2
    names := h.names
    apart := h.apart
    size := h.size
    fit := h.fit
    few := h.few
    parts := h.parts.touch t (fun ad e hm => h.partsOwn ad e (by rw [List.mem_singleton.1 hm]; exact own_g D))
    partsOwn := h.partsOwn
    pcap := h.pcap
    kept := hk
    keptOwn := hko
    short := hs
    partsLt := fun ad e => Nat.lt_of_lt_of_le (h.partsLt ad e) t.size
    keptLt := hkl
    nums := hn }

/-- Another one in a place. -/
def Dv.put (D : Dv) (i : Nat) (p : Pt) : Dv := { D with pts := D.pts.set i p }
theorem map_set {α β : Type} (f : α → β) {l : List α} {i : Nat} {x y : α} (h : l[i]? = some x) (e : f y = f x) : (l.set i y).map f = l.map f := by
  rw [List.map_set, e]
  apply List.ext_getElem?
  intro j
  rw [List.getElem?_set]
  by_cases hj : i = j
  · subst hj
    obtain ⟨this, hx⟩ := List.getElem?_eq_some_iff.1 h
    simp [h, this, hx]
  · rw [if_neg hj]
theorem own_put {D : Dv} {i : Nat} {p q : Pt} (h : D.pts[i]? = some p) (h1 : q.bb = p.bb) (h2 : q.mm = p.mm) : (D.put i q).own = D.own := by
  have e : (D.pts.set i q).flatMap (fun p => [p.bb, p.mm]) = D.pts.flatMap (fun p => [p.bb, p.mm]) := by
    rw [List.flatMap_def, List.flatMap_def, map_set (fun p : Pt => [p.bb, p.mm]) h (by rw [h1, h2])]
  show D.g :: D.mb :: _ = D.g :: D.mb :: _
  rw [show (D.put i q).pts = D.pts.set i q from rfl, e]
theorem mem_put {D : Dv} {i : Nat} {p q x : Pt} (h : D.pts[i]? = some p) (hx : x ∈ (D.put i q).pts) : x = q ∨ ∃ j, j ≠ i ∧ D.pts[j]? = some x := by
  obtain ⟨j, hj⟩ := List.mem_iff_getElem?.1 hx
  rw [show (D.put i q).pts = D.pts.set i q from rfl, List.getElem?_set] at hj
  by_cases e : i = j
  · subst e
    simp [(List.getElem?_eq_some_iff.1 h).1] at hj
    exact .inl hj.symm
  · rw [if_neg e] at hj
    exact .inr ⟨j, fun e' => e e'.symm, hj⟩
theorem nodup_pts {l : List Pt} (h : (l.flatMap fun p => [p.bb, p.mm]).Nodup) {i j : Nat} {p q : Pt} (hi : l[i]? = some p) (hj : l[j]? = some q) (hne : i ≠ j) : p.bb ≠ q.bb ∧ p.bb ≠ q.mm ∧ p.mm ≠ q.bb ∧ p.mm ≠ q.mm := by
  induction l generalizing i j with
  | nil => simp at hi
  | cons x r ih =>
    rw [List.flatMap_cons, List.nodup_append] at h
    obtain ⟨h1, h2, h3⟩ := h
    have key : ∀ y ∈ r, x.bb ≠ y.bb ∧ x.bb ≠ y.mm ∧ x.mm ≠ y.bb ∧ x.mm ≠ y.mm := fun y hy => by
      have m1 : y.bb ∈ r.flatMap (fun p => [p.bb, p.mm]) := List.mem_flatMap.2 ⟨y, hy, by simp⟩
      have m2 : y.mm ∈ r.flatMap (fun p => [p.bb, p.mm]) := List.mem_flatMap.2 ⟨y, hy, by simp⟩
      exact ⟨h3 _ (by simp) _ m1, h3 _ (by simp) _ m2, h3 _ (by simp) _ m1, h3 _ (by simp) _ m2⟩
    cases i with
    | zero =>
      cases j with
      | zero => exact absurd rfl hne
      | succ j =>
        simp at hi hj
        subst hi
        exact key q (List.mem_of_getElem? hj)
    | succ i =>
      cases j with
      | zero =>
        simp at hi hj
        subst hj
        obtain ⟨a, b, c, d⟩ := key p (List.mem_of_getElem? hi)
        exact ⟨a.symm, c.symm, b.symm, d.symm⟩
      | succ j =>
        simp at hi hj
        exact ih h2 hi hj (by omega)
theorem nodup_one {l : List Pt} (h : (l.flatMap fun p => [p.bb, p.mm]).Nodup) {p : Pt} (hp : p ∈ l) : p.bb ≠ p.mm := by
  induction l with
  | nil => cases hp
  | cons x r ih =>
    rw [List.flatMap_cons, List.nodup_append] at h
    rcases List.mem_cons.1 hp with rfl | hp
    · have := h.1
      simp at this
      exact this
    · exact ih h.2.1 hp
/-- A partition's bytes, or its bad sectors, have turned. -/
theorem Drv.setPt (h : Drv w D) {i : Nat} {p : Pt} (hi : D.pts[i]? = some p) (l' : List Nat) (S' : Int → Bool) (hl : l'.length = p.l.length) (hf : Fit 256 l') (t : Touch [p.bb, p.mm] w w') (hB : Blk w' p.bb 5 (cn .u8 l')) (hS : SetAt w' p.mm S') :
    Drv w' (D.put i { p with l := l', bad := S' }) := by
  have hp : p ∈ D.pts := List.mem_of_getElem? hi
  have ho : (D.put i { p with l := l', bad := S' }).own = D.own := own_put hi rfl rfl
  have ha := List.nodup_cons.1 h.apart
  have ha2 := List.nodup_cons.1 ha.2
  have gm : D.g ∉ [p.bb, p.mm] := fun hm => ha.1 (by
    rw [List.mem_cons, List.mem_flatMap]
    exact .inr ⟨p, hp, hm⟩)
  have mm : D.mb ∉ [p.bb, p.mm] := fun hm => ha2.1 (List.mem_flatMap.2 ⟨p, hp, hm⟩)
  have hlen : (D.pts.set i { p with l := l', bad := S' }).length = D.pts.length := by simp
  have hps : (D.put i { p with l := l', bad := S' }).ps = D.ps := map_set (fun p : Pt => (p.nm, (p.l.length : Int))) hi (by simp [hl])
  have hcells : (D.put i { p with l := l', bad := S' }).cells = D.cells := by
    show [Value.slice D.pa (D.pts.set i { p with l := l', bad := S' }).length D.pc, _, _, _, _, _, _] = _
    rw [hlen]; rfl
  have out : ∀ ad : Addr, ad.block ∉ D.own → ad.block ∉ [p.bb, p.mm] := fun ad hn hm => hn (by
    simp at hm
    rcases hm with e | e
    · rw [e]; exact own_bb hp
    · rw [e]; exact own_mm hp)
  exact
  { blk := by rw [hcells]; exact h.blk.touch t gm
    map := by
      rw [show (D.put i { p with l := l', bad := S' }).pts.map Pt.ent = D.pts.map Pt.ent from map_set Pt.ent hi (by simp [Pt.ent, Pt.val, hl])]
      exact h.map.touch t mm
    bytes := fun x hx => by
      rcases mem_put hi hx with rfl | ⟨j, hj, hx⟩
      · exact hB
      · have hd := nodup_pts ha2.2 hx hi hj
        exact (h.bytes x (List.mem_of_getElem? hx)).touch t (by simp [hd.1, hd.2.1])
    bads := fun x hx => by
      rcases mem_put hi hx with rfl | ⟨j, hj, hx⟩
      · exact hS
      · have hd := nodup_pts ha2.2 hx hi hj
        exact (h.bads x (List.mem_of_getElem? hx)).touch t (by simp [hd.2.2.1, hd.2.2.2])
    names := by
      rw [show (D.put i { p with l := l', bad := S' }).pts.map (·.nm) = D.pts.map (·.nm) from map_set _ hi rfl]
      exact h.names
    apart := by rw [ho]; exact h.apart
    size := fun x hx => by
      rcases mem_put hi hx with rfl | ⟨j, hj, hx⟩
      · have := h.size p hp
        show 64 ≤ l'.length ∧ l'.length ≤ 1048576 ∧ l'.length % 64 = 0
        rw [hl]; exact this
      · exact h.size x (List.mem_of_getElem? hx)
    fit := fun x hx => by
      rcases mem_put hi hx with rfl | ⟨j, hj, hx⟩
      · exact hf
      · exact h.fit x (List.mem_of_getElem? hx)
    few := by show (D.pts.set i { p with l := l', bad := S' }).length ≤ 16; rw [hlen]; exact h.few
    parts := by rw [hps]; exact h.parts.touch t (fun ad e => out ad (h.partsOwn ad e))
    partsOwn := by rw [ho]; exact h.partsOwn
    pcap := by show (D.pts.set i { p with l := l', bad := S' }).length ≤ _ ∧ _; rw [hlen]; exact h.pcap
    kept := h.kept.touch t (fun ad e => out ad (h.keptOwn ad e))
    keptOwn := by rw [ho]; exact h.keptOwn
    short := h.short
    partsLt := fun ad e => Nat.lt_of_lt_of_le (h.partsLt ad e) t.size
    keptLt := fun ad e => Nat.lt_of_lt_of_le (h.keptLt ad e) t.size
    nums := h.nums }
end

/-- The partition of a name: looked up. -/
theorem ents_keys (l : List Pt) : ∀ x ∈ l.map Pt.ent, IsKey .string x.1 := fun x hx => by
  obtain ⟨p, _, rfl⟩ := List.mem_map.1 hx
  trivial
theorem ents_nodup {l : List Pt} (h : (l.map (·.nm)).Nodup) : ((l.map Pt.ent).map (·.1)).Nodup := by
  rw [List.map_map]
  have e : l.map ((·.1) ∘ Pt.ent) = (l.map (·.nm)).map Value.string := by rw [List.map_map]; rfl
  rw [e]
  exact List.pairwise_map.2 (h.imp (fun hne e => hne (by injection e)))
theorem look_yes {w : World} {mb : Nat} {l : List Pt} (h : MapAt w mb (l.map Pt.ent)) (hn : (l.map (·.nm)).Nodup) {p : Pt} (hp : p ∈ l) (s : ByteArray) (hs : p.nm = s) : (Instr.lookup 69 (.map (some mb)) (.string s) true).run Try.prog w = .ok (.tuple #[p.val, .bool true]) w := by
  subst hs
  exact run_lookup_hit Try.underlying69 Try.underlying9 h trivial (ents_keys l) (ents_nodup hn) (List.mem_map.2 ⟨p, hp, rfl⟩)
theorem look_no {w : World} {mb : Nat} {l : List Pt} (h : MapAt w mb (l.map Pt.ent)) (s : ByteArray) (hs : ∀ p ∈ l, p.nm ≠ s) : (Instr.lookup 69 (.map (some mb)) (.string s) true).run Try.prog w = .ok (.tuple #[.agg #[.slice none 0 0, .map none], .bool false]) w :=
  run_lookup_miss Try.underlying69 Try.underlying9 (zeroS w) h (k := .string s) trivial (ents_keys l) (fun x hx => by
    obtain ⟨p, hp, rfl⟩ := List.mem_map.1 hx
    intro e
    exact hs p hp (by injection e))
end Go.Proofs.Ythepbadecpnepaa
