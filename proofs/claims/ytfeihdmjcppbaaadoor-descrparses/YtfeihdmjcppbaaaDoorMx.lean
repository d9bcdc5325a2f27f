/-
  Descriptors in memory: a value of eleven parts, a slice of them. No condition.
-/
import Derived.Test.YtfeihdmjcppbaaaDoorD0
import Derived.Test.YtfeihdmjcppbaaaDoorPu2
import Derived.ProofKit
import Derived.ShutString
import Derived.ChangeOld
import Derived.Below
import Derived.Deep.Slices
import Derived.Deep.Fields
import Derived.Deep.WholeRow
import Derived.ChangeSame
import Derived.Lib.SmallJoins
import Derived.OpenShut
namespace Go.Proofs.YtfeihdmjcppbaaaDoor
open Go.RowKit Go.ChangeShapes Go.WideShapes Go.ChangeAt
set_option linter.unusedVariables false
set_option linter.unusedSimpArgs false
set_option maxRecDepth 100000

/-- Bytes as the walk's string. -/
def str (l : List Nat) : ByteArray := strOfNums (l.map fun (x : Nat) => (x : Int))
theorem rd_str {w : World} {A : Option Addr} {k : Nat} {l : List Nat} (h : Rd .u8 w A k l) (cap : Nat) : (convert 25 9 (.slice A k cap)).run Tryd.prog w = .ok (.string (str l)) w := by
  rcases A with _ | a
  · have hl : l = [] := by
      rcases Nat.eq_zero_or_pos k with h0 | h0
      · exact List.eq_nil_of_length_eq_zero (by rw [h.1]; exact h0)
      · obtain ⟨_, e, _⟩ := h.2 h0; cases e
    subst hl
    rw [run_convert_bytes_nil (P := Tryd.prog) w 25 5 Tryd.underlying25 Tryd.underlying5 k cap 9 Tryd.underlying9]
    rfl
  · have hl : (loadCells a k).run Tryd.prog w = .ok ((l.map fun (x : Nat) => (x : Int)).map (Value.int .u8)).toArray w := by
      have := run_loadCells_list (P := Tryd.prog) w a (cn .u8 l) (fun j v hj => by
        have hjl := (List.getElem?_eq_some_iff.1 hj).1
        rw [cn_length] at hjl
        obtain ⟨x, hx⟩ := get_some hjl
        rw [cn_get hx] at hj
        injection hj with hj
        obtain ⟨ad, e, _, hc⟩ := h.2 (by rw [← h.1]; omega)
        injection e with e
        subst e
        rw [← hj]
        exact hc j x hx)
      rw [cn_length, h.1] at this
      rw [this]
      simp [cn, Function.comp_def]
    rw [run_convert_bytes_string w 25 9 5 _ k cap Tryd.underlying25 Tryd.underlying5 Tryd.underlying9, run_bytesToString w _ k cap (l.map fun (x : Nat) => (x : Int)) hl, foldl_push_bytes]
    simp [str, strOfNums, ByteArray.empty, ByteArray.emptyWithCapacity]
    rfl
theorem str_toList (l : List Nat) : (str l).toList = l.map UInt8.ofNat := by
  rw [ByteArray.toList_eq]
  show ((l.map fun (x : Nat) => (x : Int)).map fun n => UInt8.ofNat n.toNat) = _
  simp [Function.comp_def]
theorem u8_inj : ∀ {l l' : List Nat}, Fit 256 l → Fit 256 l' → l.map UInt8.ofNat = l'.map UInt8.ofNat → l = l'
  | [], [], _, _, _ => rfl
  | [], _ :: _, _, _, h => by simp at h
  | _ :: _, [], _, _, h => by simp at h
  | a :: l, b :: l', h, h', e => by
    simp only [List.map_cons, List.cons.injEq] at e
    have ha := h a (by simp)
    have hb := h' b (by simp)
    have e1 : a = b := by
      have := congrArg UInt8.toNat e.1
      simp only [UInt8.toNat_ofNat'] at this
      omega
    rw [e1, u8_inj (fun x hx => h x (by simp [hx])) (fun x hx => h' x (by simp [hx])) e.2]
theorem str_same {l l' : List Nat} (h : Fit 256 l) (h' : Fit 256 l') : ((str l).toList == (str l').toList) = decide (l = l') := by
  rw [str_toList, str_toList, Bool.eq_iff_iff]
  simp only [beq_iff_eq, decide_eq_true_eq]
  exact ⟨u8_inj h h', fun e => by rw [e]⟩

def I64 (x : Int) : Prop := -9223372036854775808 ≤ x ∧ x ≤ 9223372036854775807
theorem i64_wf {x : Int} (h : (Lit.int .i64 x).wf = true) : I64 x := bounds_i64 h
/-- Bytes that came in. -/
structure Bs (w : World) (A : Option Addr) (n cap : Nat) (l : List Nat) : Prop where
  rd : Rd .u8 w A n l
  fit : Fit 256 l
  le : n ≤ cap
  max : cap ≤ 9223372036854775807
  nil : A = none → cap = 0
theorem Bs.below {w w' : World} {A : Option Addr} {n cap : Nat} {l : List Nat} (h : Bs w A n cap l) (hb : Below w.heap.size w w') : Bs w' A n cap l := { h with rd := h.rd.below hb }
theorem Bs.belowAt {B : Nat} {w w' : World} {A : Option Addr} {n cap : Nat} {l : List Nat} (h : Bs w A n cap l) (hb : Below B w w') (hlt : 0 < n → ∀ ad, A = some ad → ad.block < B) : Bs w' A n cap l :=
  { h with rd := ⟨h.rd.1, fun hn => by
      obtain ⟨ad, e, h1, hc⟩ := h.rd.2 hn
      exact ⟨ad, e, Nat.lt_of_lt_of_le h1 hb.size, fun j x hj => (hb.cell (p := ad.add j) (by rw [block_add]; exact hlt hn ad e)).trans (hc j x hj)⟩⟩ }
theorem Bs.touch {F : List Nat} {w w' : World} {A : Option Addr} {n cap : Nat} {l : List Nat} (h : Bs w A n cap l) (t : Touch F w w') (hF : 0 < n → ∀ ad, A = some ad → ad.block ∉ F) : Bs w' A n cap l := { h with rd := h.rd.touch0 t hF }
theorem Bs.none (w : World) : Bs w none 0 0 [] := ⟨Rd.nil _ _ _, Fit.nil _, Nat.le_refl _, by simp, fun _ => rfl⟩
theorem Bs.str {w : World} {A : Option Addr} {n cap : Nat} {l : List Nat} (h : Bs w A n cap l) : (convert 25 9 (.slice A n cap)).run Tryd.prog w = .ok (.string (str l)) w := rd_str h.rd cap
theorem str_size (l : List Nat) : (str l).size = l.length := by
  show ((l.map fun (x : Nat) => (x : Int)).map fun n => UInt8.ofNat n.toNat).toArray.size = _
  simp
theorem str_nil : str [] = ⟨#[]⟩ := rfl
theorem str_of (s : ByteArray) : ∃ l, Fit 256 l ∧ s = str l := by
  refine ⟨s.data.toList.map UInt8.toNat, fun d hd => ?_, ?_⟩
  · obtain ⟨b, _, rfl⟩ := List.mem_map.1 hd
    exact b.toNat_lt
  · obtain ⟨a⟩ := s
    simp [Go.Proofs.YtfeihdmjcppbaaaDoor.str, strOfNums, Function.comp_def]
/-- A slice's head. -/
structure Sl where
  A : Option Addr
  n : Nat
  cap : Nat
deriving Inhabited
def Sl.v (s : Sl) : Value := .slice s.A s.n s.cap
/-- A descriptor as a value. -/
structure Dx where
  d : De
  s1 : Sl
  s2 : Sl
  s3 : Sl
  s4 : Sl
deriving Inhabited
def Dx.cells (x : Dx) : List Value := [.int .i64 x.d.kind, .int .i64 x.d.alg, .int .i64 x.d.size, .int .i64 x.d.block, .int .i64 x.d.off, .int .i64 x.d.loc, .string (str x.d.name), x.s1.v, x.s2.v, x.s3.v, x.s4.v]
def Dx.val (x : Dx) : Value := .agg x.cells.toArray
theorem Dx.cells_length (x : Dx) : x.cells.length = 11 := rfl
theorem Dx.one (x : Dx) : ∀ v ∈ x.cells, v.oneCell' = true := by
  intro v hv
  simp only [Dx.cells, List.mem_cons, List.not_mem_nil, or_false] at hv
  rcases hv with rfl | rfl | rfl | rfl | rfl | rfl | rfl | rfl | rfl | rfl | rfl <;> rfl
/-- What a descriptor's texts lie in. -/
structure DxOk (w : World) (x : Dx) : Prop where
  kind : I64 x.d.kind
  alg : I64 x.d.alg
  size : I64 x.d.size
  block : I64 x.d.block
  off : I64 x.d.off
  loc : I64 x.d.loc
  name : Fit 256 x.d.name
  salt : Bs w x.s1.A x.s1.n x.s1.cap x.d.salt
  digest : Bs w x.s2.A x.s2.n x.s2.cap x.d.digest
  key : Bs w x.s3.A x.s3.n x.s3.cap x.d.key
  value : Bs w x.s4.A x.s4.n x.s4.cap x.d.value
theorem DxOk.below {w w' : World} {x : Dx} (h : DxOk w x) (hb : Below w.heap.size w w') : DxOk w' x :=
  { h with salt := h.salt.below hb, digest := h.digest.below hb, key := h.key.below hb, value := h.value.below hb }
theorem DxOk.drewN {w : World} {x : Dx} (h : DxOk w x) (n : Nat) : DxOk (w.drewN n) x := { h with salt := { h.salt with rd := h.salt.rd }, digest := { h.digest with rd := h.digest.rd }, key := { h.key with rd := h.key.rd }, value := { h.value with rd := h.value.rd } }
theorem DxOk.fits {w : World} {x : Dx} (h : DxOk w x) : Fits x.d := ⟨h.name, h.salt.fit, h.digest.fit, h.key.fit, h.value.fit⟩
/-- The lengths alone. -/
structure Hds (x : Dx) : Prop where
  salt : x.d.salt.length = x.s1.n
  digest : x.d.digest.length = x.s2.n
  key : x.d.key.length = x.s3.n
  value : x.d.value.length = x.s4.n
theorem DxOk.hds {w : World} {x : Dx} (h : DxOk w x) : Hds x := ⟨h.salt.rd.1, h.digest.rd.1, h.key.rd.1, h.value.rd.1⟩
/-- These cells lie at a. -/
def At (w : World) (a : Addr) (cs : List Value) : Prop := ∀ (j : Nat) v, cs[j]? = some v → w.cell? (a.add j) = some v
theorem At.below {B : Nat} {w w' : World} {a : Addr} {cs : List Value} (h : At w a cs) (hb : Below B w w') (hlt : a.block < B) : At w' a cs := fun j v hj => (hb.cell (p := a.add j) (by rw [block_add]; exact hlt)).trans (h j v hj)
theorem At.touch {F : List Nat} {w w' : World} {a : Addr} {cs : List Value} (h : At w a cs) (t : Touch F w w') (hl : a.block < w.heap.size) (hF : a.block ∉ F) : At w' a cs := fun j v hj => (t.cell (p := a.add j) (by rw [block_add]; exact hl) (by rw [block_add]; exact hF)).trans (h j v hj)
theorem At.drewN {w : World} {a : Addr} {cs : List Value} (h : At w a cs) (n : Nat) : At (w.drewN n) a cs := h
theorem Blk.at {w : World} {g : Nat} {t : TypeId} {cs : List Value} (h : Blk w g t cs) : At w ⟨g, 0, none⟩ cs := fun j v hj => by rw [addr_add, Nat.zero_add, h.cell]; exact hj
theorem At.cell {w : World} {g o : Nat} {cs : List Value} (h : At w ⟨g, o, none⟩ cs) (j : Nat) {v : Value} (hj : cs[j]? = some v) : w.cell? ⟨g, o + j, none⟩ = some v := by rw [← addr_add]; exact h j v hj
/-- A slice of descriptors. -/
structure DL (w : World) (A : Option Addr) (n : Nat) (xs : List Dx) : Prop where
  len : xs.length = n
  at_ : 0 < n → ∃ ad, A = some ad ∧ ad.block < w.heap.size ∧ ∀ (i : Nat) x, xs[i]? = some x → At w (ad.add (i * 11)) x.cells
  ok : ∀ x ∈ xs, DxOk w x
theorem DL.below {w w' : World} {A : Option Addr} {n : Nat} {xs : List Dx} (h : DL w A n xs) (hb : Below w.heap.size w w') : DL w' A n xs :=
  ⟨h.len, fun hn => by
    obtain ⟨ad, e, hlt, hc⟩ := h.at_ hn
    exact ⟨ad, e, Nat.lt_of_lt_of_le hlt hb.size, fun i x hx => (hc i x hx).below hb (by rw [block_add]; exact hlt)⟩, fun x hx => (h.ok x hx).below hb⟩
theorem DL.get {w : World} {A : Option Addr} {n : Nat} {xs : List Dx} (h : DL w A n xs) {i : Nat} (hi : i < n) : ∃ ad x, A = some ad ∧ ad.block < w.heap.size ∧ xs[i]? = some x ∧ x ∈ xs ∧ At w (ad.add (i * 11)) x.cells ∧ DxOk w x := by
  obtain ⟨ad, e, hlt, hc⟩ := h.at_ (by omega)
  have hl : i < xs.length := by rw [h.len]; exact hi
  have hg := List.getElem?_eq_getElem hl
  exact ⟨ad, xs[i], e, hlt, hg, List.getElem_mem hl, hc i _ hg, h.ok _ (List.getElem_mem hl)⟩
theorem DL.nil (w : World) (A : Option Addr) : DL w A 0 [] := ⟨rfl, fun h => absurd h (Nat.lt_irrefl _), fun x h => by cases h⟩
theorem DL.take {w : World} {A : Option Addr} {n : Nat} {xs : List Dx} (h : DL w A n xs) (k : Nat) (hk : k ≤ n) : DL w A k (xs.take k) :=
  ⟨by rw [List.length_take, h.len]; omega, fun hp => by
    obtain ⟨ad, e, hlt, hc⟩ := h.at_ (by omega)
    exact ⟨ad, e, hlt, fun i x hx => hc i x (by
      rw [List.getElem?_take] at hx
      by_cases hik : i < k
      · rwa [if_pos hik] at hx
      · rw [if_neg hik] at hx; cases hx)⟩, fun x hx => h.ok x (List.mem_of_mem_take hx)⟩
/-- What the descriptors hold. -/
def des (xs : List Dx) : List De := xs.map (·.d)

section
variable {P : Program} {ops : Array Oper} {rest : List Oper} {op : Oper} {a : Act} {w : World} {Q : Exit → Act → World → Prop}
theorem run_loadVar_at (p : Addr) (ty : TypeId) (cs : List Value) (d : TypeDesc) (hc : At w p cs) (hu : P.underlying ty = some d) (hd : d.isRow = true) (hi : (P.info? ty).map (·.size) = some cs.length) : (loadVar ty p).run P w = .ok (.agg cs.toArray) w := by
  have hl : (loadCells p cs.length).run P w = .ok cs.toArray w := run_loadCells_list (P := P) w p cs (fun j v hv => hc j v hv)
  cases hq : P.info? ty with
  | none => simp [hq] at hi
  | some i =>
    have hs : i.size = cs.length := by simpa [hq] using hi
    have hagg : (isAgg ty).run P w = .ok true w := by
      unfold isAgg
      rw [Sem.run_bind, run_underlying hu w]
      cases d <;> simp_all
    simp [loadVar, Sem.run_bind, hagg, sizeOf, typeInfo, hq, hs, hl]
/-- A whole value out of cells that lie there. -/
theorem wpList_loadAt (hgd : op.guard = none) (ty : TypeId) (x : Operand) (ho : op.op = .load ty x) (p : Addr) (hx : a.eval x = .pointer (some p)) (cs : List Value) (d : TypeDesc) (hc : At w p cs)
    (hu : P.underlying ty = some d) (hd : d.isRow = true) (hi : (P.info? ty).map (·.size) = some cs.length) (h : wpList P ops Q rest (a.put op.dst (.agg cs.toArray)) w) : wpList P ops Q (op :: rest) a w :=
  wpList_plain hgd fun _ hK => by
    unfold Oper.wp execOp
    simp only [ho, hx, Instr.loadAt, Instr.sureAddr, Sem.run_bind, Sem.run_pure, Result.andThen_ok, run_loadVar_at p ty cs d hc hu hd hi]
    exact hK _ _ h
/-- A whole value into the block that was made last. -/
theorem wpList_storeNew (hgd : op.guard = none) (ty : TypeId) (x y : Operand) (ho : op.op = .store ty x y) (old cs : List Value) (hx : a.eval x = .pointer (some ⟨w.heap.size, 0, none⟩)) (hy : a.eval y = .agg cs.toArray)
    (hs : old.length = cs.length) (hi : (P.info? ty).map (·.size) = some cs.length) (h1 : ∀ v ∈ cs, v.oneCell' = true)
    (h : wpList P ops Q rest (a.put op.dst undef) (w.alloc (.cells cs.toArray ty))) : wpList P ops Q (op :: rest) a (w.alloc (.cells old.toArray ty)) :=
  wpList_plain hgd fun _ hK => by
    unfold Oper.wp execOp
    have e := run_storeAt_new (P := P) w ty old.toArray cs.toArray (by simpa using hi) (by simpa using hs) (Array.all_eq_true_iff_forall_mem.2 (fun v hv => h1 v (by simpa using hv)))
    simp only [ho, hx, hy, Sem.run_bind, Sem.run_pure, Result.andThen_ok, e]
    exact hK _ _ h
end
theorem uD : ∃ d, Tryd.prog.underlying 27 = some d ∧ d.isRow = true := ⟨_, Tryd.underlying27, rfl⟩
theorem uR : ∃ d, Tryd.prog.underlying 28 = some d ∧ d.isRow = true := ⟨_, Tryd.underlying28, rfl⟩
theorem iD : (Tryd.prog.info? 27).map (·.size) = some 11 := by kernel_rfl
theorem iR : (Tryd.prog.info? 28).map (·.size) = some 11 := by kernel_rfl
/-- The zero descriptor's cells. -/
def zeroD : List Value := [.int .i64 0, .int .i64 0, .int .i64 0, .int .i64 0, .int .i64 0, .int .i64 0, .string ⟨#[]⟩, .slice none 0 0, .slice none 0 0, .slice none 0 0, .slice none 0 0]
end Go.Proofs.YtfeihdmjcppbaaaDoor
