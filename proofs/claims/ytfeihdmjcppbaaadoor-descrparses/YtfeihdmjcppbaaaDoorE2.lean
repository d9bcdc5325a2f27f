/-
  What the document's bytes answers for a right descriptor. No condition but that texts are bytes that fit.
-/
import Derived.Test.YtfeihdmjcppbaaaDoorLOwn
import Derived.Test.YtfeihdmjcppbaaaDoorS1
import Derived.Test.YtfeihdmjcppbaaaDoorR4
import Derived.Test.YtfeihdmjcppbaaaDoorJn
import Derived.Deep.QuietTactic
import Derived.Deep.DeepCutAuto
import Derived.Deep.CutBlock
namespace Go.Proofs.YtfeihdmjcppbaaaDoor
open Go.RowKit
set_option linter.unusedVariables false
set_option linter.unusedSimpArgs false
set_option maxRecDepth 100000

/-- Bytes under way, and the blocks that they don't lie in. -/
structure Acc (w0 w : World) (gs : List Nat) (A : Option Addr) (n cap : Nat) (l : List Nat) : Prop where
  row : Row w w0.heap.size 5 A n cap (cn .u8 l)
  below : Below w0.heap.size w0 w
  off : ∀ b ∈ bl A, b ∉ gs
section
variable {w0 w w' : World} {gs : List Nat} {A : Option Addr} {n cap : Nat} {l : List Nat}
theorem Acc.next (h : Acc w0 w gs A n cap l) (hb : Below w.heap.size w w') : Acc w0 w' gs A n cap l := ⟨h.row.below hb, h.below.trans (hb.mono h.below.size), h.off⟩
theorem Acc.add (h : Acc w0 w gs A n cap l) {g : Nat} (hg : w.heap.size ≤ g) : Acc w0 w (g :: gs) A n cap l :=
  ⟨h.row, h.below, fun b hb hm => by
    rcases List.mem_cons.1 hm with e | hm
    · have := (h.row.memb b hb).2
      omega
    · exact h.off b hb hm⟩
theorem Acc.blk (h : Acc w0 w gs A n cap l) (t : Touch (bl A) w w') {g : Nat} (hg : g ∈ gs) {ty : TypeId} {cs : List Value} (hk : Blk w g ty cs) : Blk w' g ty cs := hk.touch t (fun hm => h.off g hm hg)
end
theorem wpList_acc {ops : Array Oper} {rest : List Oper} {o : Oper} {a : Act} {w : World} {Q : Exit → Act → World → Prop} (hgd : o.guard = none) (s x : Operand) (ho : o.op = .call { callee := .builtin .append, args := #[s, x], argTypes := #[25, 25] })
    {w0 : World} {gs : List Nat} {A : Option Addr} {n cap : Nat} {l : List Nat} (h : Acc w0 w gs A n cap l) (hs : a.eval s = .slice A n cap) {A2 : Option Addr} {m c2 : Nat} {l2 : List Nat} (hx : a.eval x = .slice A2 m c2) (hrd : Rd .u8 w A2 m l2) (hnil : A2 = none → c2 = 0 ∧ m = 0) (hnm : n + m ≤ 1000000) (N : Nat) (hN : n + m = N) (hgs : ∀ g ∈ gs, g < w.heap.size)
    (hk : ∀ A' c' w', Hid (Acc w0 w' gs A' N c' (l ++ l2)) → Hid (Touch (bl A) w w') → wpList Tryd.prog ops Q rest (a.put o.dst (.slice A' N c')) w') : wpList Tryd.prog ops Q (o :: rest) a w := by
  subst hN
  obtain ⟨i, hi, hz, hsize, hby⟩ := info_parts byteInfo
  have key : ∃ A' c' w', (Builtin.append_ #[25, 25] o.type #[.slice A n cap, .slice A2 m c2]).run Tryd.prog w = .ok (.slice A' (n + m) c') w' ∧ Acc w0 w' gs A' (n + m) c' (l ++ l2) ∧ Touch (bl A) w w' := by
    rcases hrd.srcs c2 (fun e => (hnil e).1) with ⟨rfl, rfl⟩ | ⟨ad, rfl, hc⟩
    · obtain rfl := (hnil rfl).2
      have hl2 : l2 = [] := List.eq_nil_of_length_eq_zero hrd.1
      subst hl2
      exact ⟨A, cap, w, run_append_owned_none (P := Tryd.prog) (w := w) w0.heap.size 25 o.type 5 i 1 Tryd.underlying25 hi _ n _ h.row, by simpa using h, Touch.refl _ _⟩
    · obtain ⟨v', w', hrun, hown, hg, hnl, hat⟩ := run_append_own_at (P := Tryd.prog) w w0.heap.size 25 o.type 5 i _ 1 _ Tryd.underlying25 hi hz hsize hby rfl (by omega) _ n (cn .u8 l) h.row ad m c2 (cn .u8 l2) (by rw [cn_length, hrd.1]; omega) hc (cn_one _ _) (by unfold maxLen; omega) (by omega) h.below.size
      have hform : ∃ A' cap', v' = .slice A' (n + m) cap' := by
        rcases hown.2 with ⟨rfl, h0⟩ | ⟨g, cap', cur, rfl, _⟩
        · exact ⟨none, 0, by rw [h0]⟩
        · exact ⟨_, _, rfl⟩
      obtain ⟨A', cap', rfl⟩ := hform
      refine ⟨A', cap', w', hrun, ⟨by rw [cn_append]; exact hown, below_only h.below hg h.below.size (fun j hj => (World.ownsRow.lt h.row j hj).1), fun b hb hm => ?_⟩, touch_own hg⟩
      cases A' with
      | none => cases hb
      | some ad' =>
        have hb' := List.mem_singleton.1 hb
        subst hb'
        rcases hat with e2 | e2
        · cases A with
          | none => simp [Value.ownBlock] at e2
          | some ad0 =>
            simp [Value.ownBlock] at e2
            exact h.off _ (by rw [e2]; simp [bl]) hm
        · simp [Value.ownBlock] at e2
          have := hgs _ hm
          omega
  obtain ⟨A', c', w', hrun, hacc, ht⟩ := key
  refine wpList_plain hgd fun K hK => ?_
  unfold Oper.wp
  simp [execOp, ho, resolve, invoke, builtin, hs, hx, hrun, Result.andThen]
  exact hK _ _ (hk A' c' w' hacc ht)
/-- A part: its cell. -/
def Bt.val (p : Bt) : Value := .slice p.A p.n p.cap
/-- A part as it can be appended. -/
structure Pt (w0 w : World) (gs : List Nat) (p : Bt) : Prop where
  rd : Rd .u8 w p.A p.n p.l
  nil : p.A = none → p.cap = 0 ∧ p.n = 0
  at_ : 0 < p.n → ∀ ad, p.A = some ad → ad.block ∈ gs ∨ ad.block < w0.heap.size
/-- All that is under way. -/
structure Bun (w0 w : World) (gs : List Nat) (A : Option Addr) (n cap : Nat) (l : List Nat) (g : Nat) (ps : List Bt) (gx : Nat) (cs : List Value) : Prop where
  acc : Acc w0 w gs A n cap l
  parts : Blk w g 25 (ps.map Bt.val)
  box : Blk w gx 28 cs
  pts : ∀ p ∈ ps, Pt w0 w gs p
  mem : g ∈ gs ∧ gx ∈ gs
  lt : ∀ g ∈ gs, g < w.heap.size
section
variable {w0 w w' : World} {gs : List Nat} {A A' : Option Addr} {n n' cap cap' : Nat} {l l' : List Nat} {g gx : Nat} {ps : List Bt} {cs : List Value}
theorem Bun.next (h : Bun w0 w gs A n cap l g ps gx cs) (hb : Below w.heap.size w w') : Bun w0 w' gs A n cap l g ps gx cs :=
  ⟨h.acc.next hb, h.parts.below hb h.parts.lt, h.box.below hb h.box.lt, fun p hp => { h.pts p hp with rd := (h.pts p hp).rd.below hb }, h.mem, fun g hg => Nat.lt_of_lt_of_le (h.lt g hg) hb.size⟩
theorem Bun.touch (h : Bun w0 w gs A n cap l g ps gx cs) (t : Touch (bl A) w w') (k : Acc w0 w' gs A' n' cap' l') : Bun w0 w' gs A' n' cap' l' g ps gx cs :=
  ⟨k, h.acc.blk t h.mem.1 h.parts, h.acc.blk t h.mem.2 h.box, fun p hp => { h.pts p hp with rd := (h.pts p hp).rd.touch0 t (fun hn ad e hm => by
    rcases (h.pts p hp).at_ hn ad e with h1 | h1
    · exact h.acc.off _ hm h1
    · have := (h.acc.row.memb _ hm).1
      omega) }, h.mem, fun g hg => Nat.lt_of_lt_of_le (h.lt g hg) t.size⟩
end
theorem rd_blk {w : World} {g : Nat} {s : Nat} {l : List Nat} (h : Blk w g 5 (cn .u8 l)) (hl : l.length = s) : Rd .u8 w (some ⟨g, 0, none⟩) s l :=
  ⟨hl, fun _ => ⟨_, rfl, h.lt, fun j x hj => by rw [addr_add, Nat.zero_add, h.cell]; exact cn_get hj⟩⟩
theorem row_blk {w : World} {B g s : Nat} {l : List Nat} (h : Blk w g 5 (cn .u8 l)) (hl : l.length = s) (hs : s ≤ 1000000) (hB : B ≤ g) : Row w B 5 (some ⟨g, 0, none⟩) s s (cn .u8 l) :=
  ⟨by rw [cn_length, hl]; simp, .inr ⟨g, s, (cn .u8 l).toArray, rfl, hB, h, Nat.le_refl _, by unfold maxLen; omega, by simp [cn_length, hl], by
    rw [List.toList_toArray]
    exact List.take_of_length_le (by rw [cn_length, hl]; simp)⟩⟩
def lnsTo (ps : List Bt) (i : Nat) : List Nat := (ps.take i).flatMap fun p => be 4 p.l.length
theorem lnsTo_snoc {ps : List Bt} {i : Nat} {p : Bt} (h : ps[i]? = some p) : lnsTo ps (i + 1) = lnsTo ps i ++ be 4 p.l.length := by rw [lnsTo, take_snoc' h, List.flatMap_append]; simp [lnsTo]
theorem flat_snoc' {ps : List Bt} {i : Nat} {p : Bt} (h : ps[i]? = some p) : flat (ps.take (i + 1)) = flat (ps.take i) ++ p.l := by rw [flat, take_snoc' h, List.flatMap_append]; simp [flat]
theorem flat_le (ps : List Bt) (i : Nat) : (flat (ps.take i)).length ≤ (flat ps).length := by
  have h : flat ps = flat (ps.take i) ++ flat (ps.drop i) := by rw [flat, flat, flat, ← List.flatMap_append, List.take_append_drop]
  rw [h, List.length_append]
  omega
theorem freeze_size (w : World) (a : Addr) (n : Nat) : (w.freeze a n).heap.size = w.heap.size := by
  unfold World.freeze
  split <;> simp
theorem bytesWorld_lt (w : World) (s : ByteArray) : w.heap.size < (Lib.bytesWorld w 5 s).heap.size := by
  unfold Lib.bytesWorld
  rw [freeze_size]
  simp
set_option maxHeartbeats 8000000 in
theorem rbytes_any (x : Dx) (w : World) (hx : DxOk w x) (hr : Right x.d) : Calls Tryd.prog 31 #[x.val] w fun e w' => ∃ A2 n2 c2, e = .returned (.slice A2 n2 c2) ∧ Row w' w.heap.size 5 A2 n2 c2 (cn .u8 (enc x.d)) ∧ Below w.heap.size w w' := by
  unfold Dx.val
  obtain ⟨W, hW⟩ : ∃ W, w.alloc (.cells x.cells.toArray 28) = W := ⟨_, rfl⟩
  have X := Lib.hid (Bx.new hW)
  have HX := Lib.hid hx
  have HB := Lib.hid hr.bds
  have HT := Lib.hid hr.tlen_le
  have HHD := Lib.hid hx.hds
  have HGX : Hid (w.heap.size < W.heap.size) := X.out.lt
  have BX0 : Hid (Blk W w.heap.size 28 x.cells) := X.out.blk
  have GXL : Hid (w.heap.size < W.heap.size) := X.out.lt
  have A0 : Hid (Acc w W [w.heap.size] none 0 0 []) := ⟨Row.nil _ _ _, X.out.below, fun b hb => by cases hb⟩
  obtain ⟨k1, hk1⟩ : ∃ v : Nat, x.d.alg.toNat = v := ⟨_, rfl⟩
  have Ek1 : Hid (x.d.alg = (k1 : Int)) := by have := HB.out.alg; show _ = _; omega
  have Dk1 := Lib.hid hk1
  clear hk1
  obtain ⟨k2, hk2⟩ : ∃ v : Nat, x.d.size.toNat = v := ⟨_, rfl⟩
  have Ek2 : Hid (x.d.size = (k2 : Int)) := by have := HB.out.size; show _ = _; omega
  have Dk2 := Lib.hid hk2
  clear hk2
  obtain ⟨k3, hk3⟩ : ∃ v : Nat, x.d.block.toNat = v := ⟨_, rfl⟩
  have Ek3 : Hid (x.d.block = (k3 : Int)) := by have := HB.out.block; show _ = _; omega
  have Dk3 := Lib.hid hk3
  clear hk3
  obtain ⟨k4, hk4⟩ : ∃ v : Nat, x.d.off.toNat = v := ⟨_, rfl⟩
  have Ek4 : Hid (x.d.off = (k4 : Int)) := by have := HB.out.off; show _ = _; omega
  have Dk4 := Lib.hid hk4
  clear hk4
  obtain ⟨k5, hk5⟩ : ∃ v : Nat, x.d.loc.toNat = v := ⟨_, rfl⟩
  have Ek5 : Hid (x.d.loc = (k5 : Int)) := by have := HB.out.loc; show _ = _; omega
  have Dk5 := Lib.hid hk5
  clear hk5
  obtain ⟨k0, hk0⟩ : ∃ v : Nat, x.d.kind.toNat = v := ⟨_, rfl⟩
  have Ek0 : Hid (x.d.kind = (k0 : Int)) := by have := HB.out.kind; show _ = _; omega
  have Dk0 := Lib.hid hk0
  clear hk0
  clear hx hr
  go_enter Tryd.func31, Tryd.ntmps31
  have c1 : W.cell? ⟨w.heap.size, 1, none⟩ = some (.int .i64 (k1 : Int)) := by
    have := BX0.out.cell 1
    rw [← Ek1.out]
    exact this
  have HN1 := Lib.hid (Number_any k1 4 W (k1 : Int) 4 rfl rfl (by omega) (by omega) (by have := HB.out.alg; have := Ek1.out; omega))
  go_wp2_with fail
  refine HN1.out.mono ?_
  rintro e u1 ⟨g1, rfl, hg1, hkk1, hbb1⟩
  have HA1 : Hid (∀ {ops : Array Oper} {rest : List Oper} {o : Oper} {a : Act} {Q : Exit → Act → World → Prop} (hgd : o.guard = none) (s y : Operand) (ho : o.op = .call { callee := .builtin .append, args := #[s, y], argTypes := #[25, 25] }) (hs : a.eval s = .slice none 0 0) (hy : a.eval y = .slice (some ⟨g1, 0, none⟩) 4 4)
      (hk : ∀ A' c' w', Hid (Acc w w' [w.heap.size] A' 4 c' ([] ++ be 4 k1)) → Hid (Touch (bl none) u1 w') → wpList Tryd.prog ops Q rest (a.put o.dst (.slice A' 4 c')) w'), wpList Tryd.prog ops Q (o :: rest) a u1) :=
    fun hgd s y ho hs hy hk => wpList_acc hgd s y ho (A0.out.next hbb1) hs hy (rd_blk hkk1 (be_length _ _)) (fun e => by cases e) (by omega) 4 rfl (fun g hg => by rw [List.mem_singleton.1 hg]; have := hbb1.size; have := GXL.out; omega) hk
  have BY1 : Hid (Blk u1 w.heap.size 28 x.cells) := BX0.out.below hbb1 BX0.out.lt
  have SY1 : Hid (W.heap.size ≤ u1.heap.size) := by have := hbb1.size; show _ ≤ _; omega
  clear hg1 hkk1 hbb1 c1 HN1
  go_upto_region 3 with ((with_reducible refine at_dst (some 12) ?_); refine HA1.out (o := ⟨some 12, _, _, _, _, _⟩) rfl (.tmp 8) (.tmp 11) rfl rfl rfl ?_; intro P1 r1 w1 A1 T1)
  have BX1 : Hid (Blk w1 w.heap.size 28 x.cells) := BY1.out.touch T1.out (by simp [bl])
  have SZ1 : Hid (W.heap.size ≤ w1.heap.size) := by have := T1.out.size; have := SY1.out; show _ ≤ _; omega
  clear HA1 T1 BY1 SY1 A0 BX0
  have c2 : w1.cell? ⟨w.heap.size, 2, none⟩ = some (.int .i64 (k2 : Int)) := by
    have := BX1.out.cell 2
    rw [← Ek2.out]
    exact this
  have HN2 := Lib.hid (Number_any k2 8 w1 (k2 : Int) 8 rfl rfl (by omega) (by omega) (by have := HB.out.size; have := Ek2.out; omega))
  go_wp2_with fail
  refine HN2.out.mono ?_
  rintro e u2 ⟨g2, rfl, hg2, hkk2, hbb2⟩
  have HA2 : Hid (∀ {ops : Array Oper} {rest : List Oper} {o : Oper} {a : Act} {Q : Exit → Act → World → Prop} (hgd : o.guard = none) (s y : Operand) (ho : o.op = .call { callee := .builtin .append, args := #[s, y], argTypes := #[25, 25] }) (hs : a.eval s = .slice P1 4 r1) (hy : a.eval y = .slice (some ⟨g2, 0, none⟩) 8 8)
      (hk : ∀ A' c' w', Hid (Acc w w' [w.heap.size] A' 12 c' (([] ++ be 4 k1) ++ be 8 k2)) → Hid (Touch (bl P1) u2 w') → wpList Tryd.prog ops Q rest (a.put o.dst (.slice A' 12 c')) w'), wpList Tryd.prog ops Q (o :: rest) a u2) :=
    fun hgd s y ho hs hy hk => wpList_acc hgd s y ho (A1.out.next hbb2) hs hy (rd_blk hkk2 (be_length _ _)) (fun e => by cases e) (by omega) 12 rfl (fun g hg => by rw [List.mem_singleton.1 hg]; have := hbb2.size; have := GXL.out; have := SZ1.out; omega) hk
  have BY2 : Hid (Blk u2 w.heap.size 28 x.cells) := BX1.out.below hbb2 BX1.out.lt
  have SY2 : Hid (W.heap.size ≤ u2.heap.size) := by have := hbb2.size; have := SZ1.out; show _ ≤ _; omega
  clear hg2 hkk2 hbb2 c2 HN2
  go_upto_region 4 with ((with_reducible refine at_dst (some 17) ?_); refine HA2.out (o := ⟨some 17, _, _, _, _, _⟩) rfl (.tmp 13) (.tmp 16) rfl rfl rfl ?_; intro P2 r2 w2 A2 T2)
  have BX2 : Hid (Blk w2 w.heap.size 28 x.cells) := BY2.out.touch T2.out (fun hm => A1.out.off w.heap.size hm (by simp))
  have SZ2 : Hid (W.heap.size ≤ w2.heap.size) := by have := T2.out.size; have := SY2.out; show _ ≤ _; omega
  clear HA2 T2 BY2 SY2 A1 BX1 SZ1
  have c3 : w2.cell? ⟨w.heap.size, 3, none⟩ = some (.int .i64 (k3 : Int)) := by
    have := BX2.out.cell 3
    rw [← Ek3.out]
    exact this
  have HN3 := Lib.hid (Number_any k3 4 w2 (k3 : Int) 4 rfl rfl (by omega) (by omega) (by have := HB.out.block; have := Ek3.out; omega))
  go_wp2_with fail
  refine HN3.out.mono ?_
  rintro e u3 ⟨g3, rfl, hg3, hkk3, hbb3⟩
  have HA3 : Hid (∀ {ops : Array Oper} {rest : List Oper} {o : Oper} {a : Act} {Q : Exit → Act → World → Prop} (hgd : o.guard = none) (s y : Operand) (ho : o.op = .call { callee := .builtin .append, args := #[s, y], argTypes := #[25, 25] }) (hs : a.eval s = .slice P2 12 r2) (hy : a.eval y = .slice (some ⟨g3, 0, none⟩) 4 4)
      (hk : ∀ A' c' w', Hid (Acc w w' [w.heap.size] A' 16 c' ((([] ++ be 4 k1) ++ be 8 k2) ++ be 4 k3)) → Hid (Touch (bl P2) u3 w') → wpList Tryd.prog ops Q rest (a.put o.dst (.slice A' 16 c')) w'), wpList Tryd.prog ops Q (o :: rest) a u3) :=
    fun hgd s y ho hs hy hk => wpList_acc hgd s y ho (A2.out.next hbb3) hs hy (rd_blk hkk3 (be_length _ _)) (fun e => by cases e) (by omega) 16 rfl (fun g hg => by rw [List.mem_singleton.1 hg]; have := hbb3.size; have := GXL.out; have := SZ2.out; omega) hk
  have BY3 : Hid (Blk u3 w.heap.size 28 x.cells) := BX2.out.below hbb3 BX2.out.lt
  have SY3 : Hid (W.heap.size ≤ u3.heap.size) := by have := hbb3.size; have := SZ2.out; show _ ≤ _; omega
  clear hg3 hkk3 hbb3 c3 HN3
  go_upto_region 5 with ((with_reducible refine at_dst (some 22) ?_); refine HA3.out (o := ⟨some 22, _, _, _, _, _⟩) rfl (.tmp 18) (.tmp 21) rfl rfl rfl ?_; intro P3 r3 w3 A3 T3)
  have BX3 : Hid (Blk w3 w.heap.size 28 x.cells) := BY3.out.touch T3.out (fun hm => A2.out.off w.heap.size hm (by simp))
  have SZ3 : Hid (W.heap.size ≤ w3.heap.size) := by have := T3.out.size; have := SY3.out; show _ ≤ _; omega
  clear HA3 T3 BY3 SY3 A2 BX2 SZ2
  have c4 : w3.cell? ⟨w.heap.size, 4, none⟩ = some (.int .i64 (k4 : Int)) := by
    have := BX3.out.cell 4
    rw [← Ek4.out]
    exact this
  have HN4 := Lib.hid (Number_any k4 8 w3 (k4 : Int) 8 rfl rfl (by omega) (by omega) (by have := HB.out.off; have := Ek4.out; omega))
  go_wp2_with fail
  refine HN4.out.mono ?_
  rintro e u4 ⟨g4, rfl, hg4, hkk4, hbb4⟩
  have HA4 : Hid (∀ {ops : Array Oper} {rest : List Oper} {o : Oper} {a : Act} {Q : Exit → Act → World → Prop} (hgd : o.guard = none) (s y : Operand) (ho : o.op = .call { callee := .builtin .append, args := #[s, y], argTypes := #[25, 25] }) (hs : a.eval s = .slice P3 16 r3) (hy : a.eval y = .slice (some ⟨g4, 0, none⟩) 8 8)
      (hk : ∀ A' c' w', Hid (Acc w w' [w.heap.size] A' 24 c' (((([] ++ be 4 k1) ++ be 8 k2) ++ be 4 k3) ++ be 8 k4)) → Hid (Touch (bl P3) u4 w') → wpList Tryd.prog ops Q rest (a.put o.dst (.slice A' 24 c')) w'), wpList Tryd.prog ops Q (o :: rest) a u4) :=
    fun hgd s y ho hs hy hk => wpList_acc hgd s y ho (A3.out.next hbb4) hs hy (rd_blk hkk4 (be_length _ _)) (fun e => by cases e) (by omega) 24 rfl (fun g hg => by rw [List.mem_singleton.1 hg]; have := hbb4.size; have := GXL.out; have := SZ3.out; omega) hk
  have BY4 : Hid (Blk u4 w.heap.size 28 x.cells) := BX3.out.below hbb4 BX3.out.lt
  have SY4 : Hid (W.heap.size ≤ u4.heap.size) := by have := hbb4.size; have := SZ3.out; show _ ≤ _; omega
  clear hg4 hkk4 hbb4 c4 HN4
  go_upto_region 6 with ((with_reducible refine at_dst (some 27) ?_); refine HA4.out (o := ⟨some 27, _, _, _, _, _⟩) rfl (.tmp 23) (.tmp 26) rfl rfl rfl ?_; intro P4 r4 w4 A4 T4)
  have BX4 : Hid (Blk w4 w.heap.size 28 x.cells) := BY4.out.touch T4.out (fun hm => A3.out.off w.heap.size hm (by simp))
  have SZ4 : Hid (W.heap.size ≤ w4.heap.size) := by have := T4.out.size; have := SY4.out; show _ ≤ _; omega
  clear HA4 T4 BY4 SY4 A3 BX3 SZ3
  have c5 : w4.cell? ⟨w.heap.size, 5, none⟩ = some (.int .i64 (k5 : Int)) := by
    have := BX4.out.cell 5
    rw [← Ek5.out]
    exact this
  have HN5 := Lib.hid (Number_any k5 4 w4 (k5 : Int) 4 rfl rfl (by omega) (by omega) (by have := HB.out.loc; have := Ek5.out; omega))
  go_wp2_with fail
  refine HN5.out.mono ?_
  rintro e u5 ⟨g5, rfl, hg5, hkk5, hbb5⟩
  have HA5 : Hid (∀ {ops : Array Oper} {rest : List Oper} {o : Oper} {a : Act} {Q : Exit → Act → World → Prop} (hgd : o.guard = none) (s y : Operand) (ho : o.op = .call { callee := .builtin .append, args := #[s, y], argTypes := #[25, 25] }) (hs : a.eval s = .slice P4 24 r4) (hy : a.eval y = .slice (some ⟨g5, 0, none⟩) 4 4)
      (hk : ∀ A' c' w', Hid (Acc w w' [w.heap.size] A' 28 c' ((((([] ++ be 4 k1) ++ be 8 k2) ++ be 4 k3) ++ be 8 k4) ++ be 4 k5)) → Hid (Touch (bl P4) u5 w') → wpList Tryd.prog ops Q rest (a.put o.dst (.slice A' 28 c')) w'), wpList Tryd.prog ops Q (o :: rest) a u5) :=
    fun hgd s y ho hs hy hk => wpList_acc hgd s y ho (A4.out.next hbb5) hs hy (rd_blk hkk5 (be_length _ _)) (fun e => by cases e) (by omega) 28 rfl (fun g hg => by rw [List.mem_singleton.1 hg]; have := hbb5.size; have := GXL.out; have := SZ4.out; omega) hk
  have BY5 : Hid (Blk u5 w.heap.size 28 x.cells) := BX4.out.below hbb5 BX4.out.lt
  have SY5 : Hid (W.heap.size ≤ u5.heap.size) := by have := hbb5.size; have := SZ4.out; show _ ≤ _; omega
  clear hg5 hkk5 hbb5 c5 HN5
  go_upto_region 7 with ((with_reducible refine at_dst (some 32) ?_); refine HA5.out (o := ⟨some 32, _, _, _, _, _⟩) rfl (.tmp 28) (.tmp 31) rfl rfl rfl ?_; intro P5 r5 w5 A5 T5)
  have BX5 : Hid (Blk w5 w.heap.size 28 x.cells) := BY5.out.touch T5.out (fun hm => A4.out.off w.heap.size hm (by simp))
  have SZ5 : Hid (W.heap.size ≤ w5.heap.size) := by have := T5.out.size; have := SY5.out; show _ ≤ _; omega
  clear HA5 T5 BY5 SY5 A4 BX4 SZ4
  have A6 : Hid (Acc w w5 [w.heap.size] P5 28 r5 (nums x.d)) := by
    have h := A5.out
    have e : ((((([] ++ be 4 k1) ++ be 8 k2) ++ be 4 k3) ++ be 8 k4) ++ be 4 k5) = nums x.d := by simp [nums, Dk1.out, Dk2.out, Dk3.out, Dk4.out, Dk5.out]
    rw [e] at h
    exact h
  clear A5
  have c6 : w5.cell? ⟨w.heap.size, 6, none⟩ = some (.string (str x.d.name)) := BX5.out.cell 6
  have hcv := Lib.run_convert_string_bytes (P := Tryd.prog) w5 9 25 5 (str x.d.name) Tryd.underlying9 Tryd.underlying25 Tryd.underlying5
  have hrq := rd_bytesWorld w5 x.d.name HX.out.name
  rw [str_size] at hcv
  have hb9 := below_bytesWorld w5 (str x.d.name)
  generalize hw9 : Lib.bytesWorld w5 5 (str x.d.name) = w9 at hcv hrq hb9
  generalize grownCap w5 x.d.name.length 0 5 = cq at hcv
  have BX9 : Hid (Blk w9 w.heap.size 28 x.cells) := BX5.out.below hb9 BX5.out.lt
  have hq9 : w5.heap.size < w9.heap.size := by rw [← hw9]; exact bytesWorld_lt _ _
  have c7 : w9.cell? ⟨w.heap.size, 7, none⟩ = some (.slice x.s1.A x.s1.n x.s1.cap) := BX9.out.cell 7
  have c8 : w9.cell? ⟨w.heap.size, 8, none⟩ = some (.slice x.s2.A x.s2.n x.s2.cap) := BX9.out.cell 8
  have c9 : w9.cell? ⟨w.heap.size, 9, none⟩ = some (.slice x.s3.A x.s3.n x.s3.cap) := BX9.out.cell 9
  have c10 : w9.cell? ⟨w.heap.size, 10, none⟩ = some (.slice x.s4.A x.s4.n x.s4.cap) := BX9.out.cell 10
  obtain ⟨ps, hps⟩ : ∃ ps : List Bt, ps = [⟨some ⟨w5.heap.size, 0, none⟩, x.d.name.length, cq, x.d.name⟩, ⟨x.s1.A, x.s1.n, x.s1.cap, x.d.salt⟩, ⟨x.s2.A, x.s2.n, x.s2.cap, x.d.digest⟩, ⟨x.s3.A, x.s3.n, x.s3.cap, x.d.key⟩, ⟨x.s4.A, x.s4.n, x.s4.cap, x.d.value⟩] := ⟨_, rfl⟩
  have hb10 : Below w9.heap.size w9 (w9.alloc (.cells (ps.map Bt.val).toArray 25)) := (Below.refl _ _).alloc (Nat.le_refl _) _
  have hk10 : Blk (w9.alloc (.cells (ps.map Bt.val).toArray 25)) w9.heap.size 25 (ps.map Bt.val) := Blk.new _ _ _
  have ePS : (w9.alloc (.cells (ps.map Bt.val).toArray 25)) = w9.alloc (.cells #[.slice (some ⟨w5.heap.size, 0, none⟩) x.d.name.length cq, .slice x.s1.A x.s1.n x.s1.cap, .slice x.s2.A x.s2.n x.s2.cap, .slice x.s3.A x.s3.n x.s3.cap, .slice x.s4.A x.s4.n x.s4.cap] 25) := by rw [hps]; rfl
  rw [ePS] at hb10 hk10
  obtain ⟨w10, hw10⟩ : ∃ w10, w9.alloc (.cells #[.slice (some ⟨w5.heap.size, 0, none⟩) x.d.name.length cq, .slice x.s1.A x.s1.n x.s1.cap, .slice x.s2.A x.s2.n x.s2.cap, .slice x.s3.A x.s3.n x.s3.cap, .slice x.s4.A x.s4.n x.s4.cap] 25) = w10 := ⟨_, rfl⟩
  rw [hw10] at hb10 hk10
  have PSL : Hid (ps.length = 5 ∧ flat ps = texts x.d ∧ lnsTo ps 5 = lens x.d) := by rw [hps]; exact ⟨rfl, by simp [flat, texts], by simp [lnsTo, lens]⟩
  have PN : Hid (∀ p ∈ ps, p.n = p.l.length ∧ p.n ≤ 2000) := fun p hp => by
    have hB := HB.out
    have hH := HHD.out
    have h1 := hB.name
    have h2 := hB.salt
    have h3 := hB.digest
    have h4 := hB.key
    have h5 := hB.value
    rw [hps] at hp
    simp only [List.mem_cons, List.not_mem_nil, or_false] at hp
    rcases hp with rfl | rfl | rfl | rfl | rfl
    · exact ⟨rfl, by show x.d.name.length ≤ _; omega⟩
    · exact ⟨hH.salt.symm, by show x.s1.n ≤ _; rw [← hH.salt]; omega⟩
    · exact ⟨hH.digest.symm, by show x.s2.n ≤ _; rw [← hH.digest]; omega⟩
    · exact ⟨hH.key.symm, by show x.s3.n ≤ _; rw [← hH.key]; omega⟩
    · exact ⟨hH.value.symm, by show x.s4.n ≤ _; rw [← hH.value]; omega⟩
  obtain ⟨g10, hg10⟩ : ∃ g, w9.heap.size = g := ⟨_, rfl⟩
  have B10 : Hid (Bun w w10 [g10, w5.heap.size, w.heap.size] P5 28 r5 (nums x.d) g10 ps w.heap.size x.cells) := by
    have a1 := ((A6.out.add (Nat.le_refl _)).next hb9).add (g := g10) (by omega)
    refine ⟨a1.next hb10, hg10 ▸ hk10, BX9.out.below hb10 BX9.out.lt, fun p hp => ?_, by simp, fun g hg => ?_⟩
    · have hok := HX.out.below (below_then (below_then A6.out.below hb9) hb10)
      have h0 := HX.out
      rw [hps] at hp
      simp only [List.mem_cons, List.not_mem_nil, or_false] at hp
      rcases hp with rfl | rfl | rfl | rfl | rfl
      · exact ⟨hrq.below hb10, (fun e => by cases e), fun _ ad e => .inl (by injection e with e; rw [← e]; simp)⟩
      · exact ⟨hok.salt.rd, fun e => ⟨h0.salt.nil e, by have h1 := h0.salt.nil e; have h2 := h0.salt.le; show x.s1.n = 0; omega⟩, fun hn ad e => .inr (h0.salt.rd.lt hn ad e)⟩
      · exact ⟨hok.digest.rd, fun e => ⟨h0.digest.nil e, by have h1 := h0.digest.nil e; have h2 := h0.digest.le; show x.s2.n = 0; omega⟩, fun hn ad e => .inr (h0.digest.rd.lt hn ad e)⟩
      · exact ⟨hok.key.rd, fun e => ⟨h0.key.nil e, by have h1 := h0.key.nil e; have h2 := h0.key.le; show x.s3.n = 0; omega⟩, fun hn ad e => .inr (h0.key.rd.lt hn ad e)⟩
      · exact ⟨hok.value.rd, fun e => ⟨h0.value.nil e, by have h1 := h0.value.nil e; have h2 := h0.value.le; show x.s4.n = 0; omega⟩, fun hn ad e => .inr (h0.value.rd.lt hn ad e)⟩
    · simp only [List.mem_cons, List.not_mem_nil, or_false] at hg
      have h1 := hk10.lt
      have h2 := hb10.size
      have h3 := (BX9.out).lt
      rcases hg with rfl | rfl | rfl
      · omega
      · omega
      · omega
  obtain ⟨gq, hgq⟩ : ∃ g, w5.heap.size = g := ⟨_, rfl⟩
  rw [hgq] at B10
  have PSI : Hid (∀ i, i < 5 → ∃ p, ps[i]? = some p ∧ p ∈ ps) := fun i hi => ⟨ps[i]'(by rw [PSL.out.1]; exact hi), List.getElem?_eq_getElem _, List.getElem_mem _⟩
  clear hk10 hb10 hrq hb9 hq9 hps ePS hw9 A6 BX9 BX5 hgq
  go_wp2_with fail
  go_loopw [3, 5] (fun a o wr => ∃ i : Nat, i ≤ 5 ∧ o = .int .i64 (i : Int) ∧ ∃ A2 n2 c2, a = .slice A2 n2 c2 ∧ Hid (n2 = 28 + 4 * i) ∧ Hid (Bun w wr [g10, gq, w.heap.size] A2 n2 c2 (nums x.d ++ lnsTo ps i) g10 ps w.heap.size x.cells)) (fun _ o _ => 5 - (intOf o).toNat)
  case atStart => exact ⟨0, Nat.zero_le _, rfl, P5, 28, r5, rfl, rfl, by show Bun w _ _ _ _ _ _ _ _ _ _; simpa [lnsTo] using B10.out⟩
  case round =>
    obtain ⟨i, hi, rfl, A2, n2, c2, rfl, HN, HB1⟩ := hrel
    clear B10 c6 c7 c8 c9 c10 hcv hw10
    by_cases hin : i < 5
    · have hin2 : (i : Int) < 5 := by omega
      obtain ⟨p, hp, hpm⟩ := PSI.out i hin
      have hpn := PN.out p hpm
      have cp : wr.cell? ⟨g10, i, none⟩ = some (.slice p.A p.n p.cap) := by
        rw [HB1.out.parts.cell i]; simp [hp, Bt.val]
      have HNU := Lib.hid (Number_any p.n 4 wr (p.n : Int) 4 rfl rfl (by omega) (by omega) (by omega))
      have HP := Lib.hid hp
      have HPN := Lib.hid hpn
      clear hp hpm hpn
      go_wp2_with fail
      refine HNU.out.mono ?_
      rintro e u ⟨gn, rfl, hge, hkn, hbn⟩
      have HB2 := Lib.hid (HB1.out.next hbn)
      have HKN := Lib.hid hkn
      have HA1 : Hid (∀ {ops : Array Oper} {rest : List Oper} {o : Oper} {a : Act} {Q : Exit → Act → World → Prop} (hgd : o.guard = none) (s y : Operand) (ho : o.op = .call { callee := .builtin .append, args := #[s, y], argTypes := #[25, 25] }) (hs : a.eval s = .slice A2 n2 c2) (hy : a.eval y = .slice (some ⟨gn, 0, none⟩) 4 4)
          (hk : ∀ A' c' w', Hid (Acc w w' [g10, gq, w.heap.size] A' (n2 + 4) c' ((nums x.d ++ lnsTo ps i) ++ be 4 p.n)) → Hid (Touch (bl (A2)) u w') → wpList Tryd.prog ops Q rest (a.put o.dst (.slice A' (n2 + 4) c')) w'), wpList Tryd.prog ops Q (o :: rest) a u) :=
        fun hgd s y ho hs hy hk => wpList_acc hgd s y ho HB2.out.acc hs hy (rd_blk HKN.out (be_length _ _)) (fun e => by cases e) (by have := HN.out; omega) (n2 + 4) rfl HB2.out.lt hk
      clear hge hkn hbn cp
      go_wp2_with ((with_reducible refine at_dst (some 56) ?_); refine HA1.out (o := ⟨some 56, _, _, _, _, _⟩) rfl (.tmp 49) (.tmp 55) rfl rfl rfl ?_; intro A3 c3 w3 HA3 HT3)
      go_roundw
      case rel =>
        refine ⟨i + 1, by omega, by go_num, _, _, _, rfl, ?_, ?_⟩
        · show _ = _
          have := HN.out
          omega
        · rw [lnsTo_snoc HP.out, ← List.append_assoc, ← HPN.out.1]
          exact HB2.out.touch HT3.out HA3.out
      case measure => simp [intOf]; omega
    · obtain rfl : i = 5 := by omega
      have HB3 : Hid (Bun w wr [g10, gq, w.heap.size] A2 n2 c2 (nums x.d ++ lens x.d) g10 ps w.heap.size x.cells) := by
        have := HB1.out
        rw [PSL.out.2.2] at this
        exact this
      (try rw [show ((5 : Nat) : Int) = 5 from rfl])
      have HN3 : Hid (n2 = 48) := by have := HN.out; show _ = _; omega
      clear HB1 HN
      go_wp2_with fail
      go_loopw [3, 6] (fun a o wr => ∃ i : Nat, i ≤ 5 ∧ o = .int .i64 (i : Int) ∧ ∃ A2 n2 c2, a = .slice A2 n2 c2 ∧ Hid (n2 = 48 + (flat (ps.take i)).length) ∧ Hid (Bun w wr [g10, gq, w.heap.size] A2 n2 c2 ((nums x.d ++ lens x.d) ++ flat (ps.take i)) g10 ps w.heap.size x.cells)) (fun _ o _ => 5 - (intOf o).toNat)
      case atStart => exact ⟨0, Nat.zero_le _, rfl, A2, n2, c2, rfl, by show _ = _; rw [HN3.out]; simp [flat], by show Bun w _ _ _ _ _ _ _ _ _ _; simpa [flat] using HB3.out⟩
      case round =>
        obtain ⟨i, hi, rfl, A4, n4, c4, rfl, HN, HB4⟩ := hrel
        clear HB3 HN3
        have HLE : Hid ((flat (ps.take i)).length ≤ 1440) := by
          have h1 := flat_le ps i
          rw [PSL.out.2.1, texts_length] at h1
          have := HT.out
          show _ ≤ _
          omega
        by_cases hin : i < 5
        · have hin2 : (i : Int) < 5 := by omega
          obtain ⟨p, hp, hpm⟩ := PSI.out i hin
          have hpn := PN.out p hpm
          have cp : wr.cell? ⟨g10, i, none⟩ = some (.slice p.A p.n p.cap) := by
            rw [HB4.out.parts.cell i]; simp [hp, Bt.val]
          have HPT := Lib.hid (HB4.out.pts p hpm)
          have HP := Lib.hid hp
          have HPN := Lib.hid hpn
          have HA1 : Hid (∀ {ops : Array Oper} {rest : List Oper} {o : Oper} {a : Act} {Q : Exit → Act → World → Prop} (hgd : o.guard = none) (s y : Operand) (ho : o.op = .call { callee := .builtin .append, args := #[s, y], argTypes := #[25, 25] }) (hs : a.eval s = .slice A4 n4 c4) (hy : a.eval y = .slice p.A p.n p.cap)
          (hk : ∀ A' c' w', Hid (Acc w w' [g10, gq, w.heap.size] A' (n4 + p.n) c' (((nums x.d ++ lens x.d) ++ flat (ps.take i)) ++ p.l)) → Hid (Touch (bl (A4)) wr w') → wpList Tryd.prog ops Q rest (a.put o.dst (.slice A' (n4 + p.n) c')) w'), wpList Tryd.prog ops Q (o :: rest) a wr) :=
        fun hgd s y ho hs hy hk => wpList_acc hgd s y ho HB4.out.acc hs hy HPT.out.rd HPT.out.nil (by have := HN.out; have := HLE.out; have := HPN.out; omega) (n4 + p.n) rfl HB4.out.lt hk
          clear hp hpm hpn
          go_wp2_with ((with_reducible refine at_dst (some 66) ?_); refine HA1.out (o := ⟨some 66, _, _, _, _, _⟩) rfl (.tmp 61) (.tmp 65) rfl rfl rfl ?_; intro A3 c3 w3 HA3 HT3)
          go_roundw
          case rel =>
            refine ⟨i + 1, by omega, by go_num, _, _, _, rfl, ?_, ?_⟩
            · show _ = _
              have := HN.out
              have := HPN.out.1
              rw [flat_snoc' HP.out, List.length_append]
              omega
            · rw [flat_snoc' HP.out, ← List.append_assoc]
              exact HB4.out.touch HT3.out HA3.out
          case measure => simp [intOf]; omega
        · obtain rfl : i = 5 := by omega
          have hall : flat (ps.take 5) = texts x.d := by rw [List.take_of_length_le (by rw [PSL.out.1]; exact Nat.le_refl _)]; exact PSL.out.2.1
          have HB5 : Hid (Bun w wr [g10, gq, w.heap.size] A4 n4 c4 (raw x.d) g10 ps w.heap.size x.cells) := by
            have := HB4.out
            rw [hall, List.append_assoc] at this
            exact this
          have HN5 : Hid (n4 = (raw x.d).length ∧ n4 ≤ 2000) := by
            have h1 := HN.out
            rw [hall, texts_length] at h1
            have h2 := HT.out
            exact ⟨by rw [raw_length]; omega, by omega⟩
          clear HB4 HN HLE hall
          (try rw [show ((5 : Nat) : Int) = 5 from rfl])
          obtain ⟨gap, hgap⟩ : ∃ gap, gapn (raw x.d).length 8 = gap := ⟨_, rfl⟩
          have HGAP : Hid (gap = (8 - n4 % 8) % 8) := by rw [HN5.out.1]; exact hgap.symm
          have HBOD : Hid (body x.d = raw x.d ++ List.replicate gap 0) := by rw [← hgap]; rfl
          clear hgap
          go_wp2_with fail
          go_loopw [3] (fun a wr => ∃ j : Nat, j ≤ gap ∧ ∃ A2 n2 c2, a = .slice A2 n2 c2 ∧ Hid (n2 = n4 + j) ∧ Hid (Bun w wr [g10, gq, w.heap.size] A2 n2 c2 (raw x.d ++ List.replicate j 0) g10 ps w.heap.size x.cells)) (fun a _ => n4 + gap - lenOf a)
          case atStart => exact ⟨0, Nat.zero_le _, A4, n4, c4, rfl, rfl, by show Bun w _ _ _ _ _ _ _ _ _ _; simpa using HB5.out⟩
          case round =>
            obtain ⟨j, hj, A6, n6, c6, rfl, HN, HB6⟩ := hrel
            clear HB5
            obtain ⟨q, hq⟩ : ∃ q, n6 % 8 = q := ⟨_, rfl⟩
            have hn6 : n6 ≤ 3000 := by have := HN.out; have := HN5.out; have := HGAP.out; omega
            have hrem : ((n6 : Int)).tmod 8 = (q : Int) := by rw [Int.tmod_eq_emod_of_nonneg (by omega)]; omega
            by_cases hjg : j < gap
            · have hq0 : q ≠ 0 := by have := HN.out; have := HGAP.out; omega
              have e0 : ((q : Int) != 0) = true := by simp [hq0]
              have hb1 : Below wr.heap.size wr (wr.alloc (.cells #[.int .u8 0] 5)) := (Below.refl _ _).alloc (Nat.le_refl _) _
              have hk1 : Blk (wr.alloc (.cells #[.int .u8 0] 5)) wr.heap.size 5 (cn .u8 [0]) := Blk.new wr 5 (cn .u8 [0])
              obtain ⟨wz, hwz⟩ : ∃ wz, wr.alloc (.cells #[.int .u8 0] 5) = wz := ⟨_, rfl⟩
              rw [hwz] at hb1 hk1
              have HB7 := Lib.hid (HB6.out.next hb1)
              have HK1 := Lib.hid hk1
              have HA1 : Hid (∀ {ops : Array Oper} {rest : List Oper} {o : Oper} {a : Act} {Q : Exit → Act → World → Prop} (hgd : o.guard = none) (s y : Operand) (ho : o.op = .call { callee := .builtin .append, args := #[s, y], argTypes := #[25, 25] }) (hs : a.eval s = .slice A6 n6 c6) (hy : a.eval y = .slice (some ⟨wr.heap.size, 0, none⟩) 1 1)
          (hk : ∀ A' c' w', Hid (Acc w w' [g10, gq, w.heap.size] A' (n6 + 1) c' ((raw x.d ++ List.replicate j 0) ++ [0])) → Hid (Touch (bl (A6)) wz w') → wpList Tryd.prog ops Q rest (a.put o.dst (.slice A' (n6 + 1) c')) w'), wpList Tryd.prog ops Q (o :: rest) a wz) :=
        fun hgd s y ho hs hy hk => wpList_acc hgd s y ho HB7.out.acc hs hy (rd_blk HK1.out rfl) (fun e => by cases e) (by omega) (n6 + 1) rfl HB7.out.lt hk
              clear hb1 hk1 hq hq0
              go_wp2_with ((with_reducible refine at_dst (some 73) ?_); refine HA1.out (o := ⟨some 73, _, _, _, _, _⟩) rfl (.tmp 71) (.tmp 72) rfl rfl rfl ?_; intro A3 c3 w3 HA3 HT3)
              go_roundw
              case rel =>
                refine ⟨j + 1, by omega, _, _, _, rfl, ?_, ?_⟩
                · show _ = _
                  have := HN.out
                  omega
                · rw [List.replicate_succ', ← List.append_assoc]
                  exact HB7.out.touch HT3.out HA3.out
              case measure =>
                show n4 + gap - (n6 + 1) < n4 + gap - n6
                have := HN.out
                omega
            · obtain rfl : q = 0 := by have := HN.out; have := HGAP.out; omega
              have hjj : j = gap := by omega
              have HB8 : Hid (Bun w wr [g10, gq, w.heap.size] A6 n6 c6 (body x.d) g10 ps w.heap.size x.cells) := by
                have := HB6.out
                rw [hjj, ← HBOD.out] at this
                exact this
              have h6 : 0 < n6 := by
                have h1 := HN.out
                have h2 := HN5.out.1
                rw [raw_length] at h2
                omega
              obtain ⟨gb, hA6, hgb1, hgb2, _⟩ := HB8.out.acc.row.cells h6
              subst hA6
              have HGB : Hid (gb < wr.heap.size) := hgb2
              have HLB : Hid ((body x.d).length = n6) := by have := HB8.out.acc.row.length; rw [cn_length] at this; exact this
              have c0 : wr.cell? ⟨w.heap.size, 0, none⟩ = some (.int .i64 (k0 : Int)) := by
                have := HB8.out.box.cell 0
                rw [← Ek0.out]
                exact this
              have HN8 := Lib.hid (Number_any k0 8 wr (k0 : Int) 8 rfl rfl (by omega) (by omega) (by have := HB.out.kind; have := Ek0.out; omega))
              clear hgb1 hgb2 hq hjj hjg hj HB6 h6
              have e00 : ((((0 : Nat) : Int)) != 0) = false := rfl
              go_wp2_with fail
              refine HN8.out.mono ?_
              rintro e u8 ⟨g8, rfl, hg8, hk8, hb8⟩
              have HR8 : Hid (Rd .u8 u8 (some ⟨gb, 0, none⟩) n6 (body x.d)) := HB8.out.acc.row.rd.below hb8
              have HBE8 := Lib.hid (below_then HB8.out.acc.below hb8)
              have HK8 := Lib.hid hk8
              have HG8 : Hid (g8 ≠ gb ∧ w.heap.size ≤ g8 ∧ gb < u8.heap.size) := ⟨by have := HGB.out; omega, by have := HB8.out.acc.below.size; omega, by have := HGB.out; have := hb8.size; omega⟩
              have HN9 := Lib.hid (Number_any n6 8 u8 (n6 : Int) 8 rfl rfl (by omega) (by omega) (by omega))
              clear hg8 hk8 hb8 c0
              go_wp2_with fail
              refine HN9.out.mono ?_
              rintro e u9 ⟨g9, rfl, hg9, hk9, hb9⟩
              have HAC9 : Hid (Acc w u9 [gb] (some ⟨g8, 0, none⟩) 8 8 (be 8 k0)) := ⟨row_blk (HK8.out.below hb9 HK8.out.lt) (be_length _ _) (by omega) HG8.out.2.1, below_then HBE8.out hb9, fun b hb hm => by
                have h1 := List.mem_singleton.1 hb
                have h2 := List.mem_singleton.1 hm
                exact HG8.out.1 (by rw [← h2, h1])⟩
              have HR9 := Lib.hid (HR8.out.below hb9)
              have HK9 := Lib.hid hk9
              have HL9 : Hid (gb < u9.heap.size) := Nat.lt_of_lt_of_le HG8.out.2.2 hb9.size
              have HA1 : Hid (∀ {ops : Array Oper} {rest : List Oper} {o : Oper} {a : Act} {Q : Exit → Act → World → Prop} (hgd : o.guard = none) (s y : Operand) (ho : o.op = .call { callee := .builtin .append, args := #[s, y], argTypes := #[25, 25] }) (hs : a.eval s = .slice (some ⟨g8, 0, none⟩) 8 8) (hy : a.eval y = .slice (some ⟨g9, 0, none⟩) 8 8)
          (hk : ∀ A' c' w', Hid (Acc w w' [gb] A' (16) c' (be 8 k0 ++ be 8 n6)) → Hid (Touch (bl ((some ⟨g8, 0, none⟩))) u9 w') → wpList Tryd.prog ops Q rest (a.put o.dst (.slice A' (16) c')) w'), wpList Tryd.prog ops Q (o :: rest) a u9) :=
        fun hgd s y ho hs hy hk => wpList_acc hgd s y ho HAC9.out hs hy (rd_blk HK9.out (be_length _ _)) (fun e => by cases e) (by omega) 16 rfl (fun g hg => by rw [List.mem_singleton.1 hg]; exact HL9.out) hk
              clear hg9 hk9 hb9
              go_upto_region 20 with ((with_reducible refine at_dst (some 81) ?_); refine HA1.out (o := ⟨some 81, _, _, _, _, _⟩) rfl (.tmp 77) (.tmp 80) rfl rfl rfl ?_; intro A10 c10 w10 HA10 HT10)
              have HR10 : Hid (Rd .u8 w10 (some ⟨gb, 0, none⟩) n6 (body x.d)) := HR9.out.touch0 HT10.out (fun _ ad e hm => by
                injection e with e
                subst e
                exact HAC9.out.off _ hm (by simp))
              have HL10 : Hid (gb < w10.heap.size) := Nat.lt_of_lt_of_le HL9.out HT10.out.size
              clear HA1
              have HA2 : Hid (∀ {ops : Array Oper} {rest : List Oper} {o : Oper} {a : Act} {Q : Exit → Act → World → Prop} (hgd : o.guard = none) (s y : Operand) (ho : o.op = .call { callee := .builtin .append, args := #[s, y], argTypes := #[25, 25] }) (hs : a.eval s = .slice A10 16 c10) (hy : a.eval y = .slice (some ⟨gb, 0, none⟩) n6 c6)
          (hk : ∀ A' c' w', Hid (Acc w w' [gb] A' (16 + n6) c' ((be 8 k0 ++ be 8 n6) ++ body x.d)) → Hid (Touch (bl (A10)) w10 w') → wpList Tryd.prog ops Q rest (a.put o.dst (.slice A' (16 + n6) c')) w'), wpList Tryd.prog ops Q (o :: rest) a w10) :=
        fun hgd s y ho hs hy hk => wpList_acc hgd s y ho HA10.out hs hy HR10.out (fun e => by cases e) (by omega) (16 + n6) rfl (fun g hg => by rw [List.mem_singleton.1 hg]; exact HL10.out) hk
              go_wp2_with ((with_reducible refine at_dst (some 84) ?_); refine HA2.out (o := ⟨some 84, _, _, _, _, _⟩) rfl (.tmp 82) (.tmp 83) rfl rfl rfl ?_; intro A11 c11 w11 HA11 HT11)
              go_ret
              refine ⟨_, _, _, rfl, ?_, HA11.out.below⟩
              have e : enc x.d = (be 8 k0 ++ be 8 n6) ++ body x.d := by rw [enc, Dk0.out, HLB.out, List.append_assoc]
              rw [e]
              exact HA11.out.row
end Go.Proofs.YtfeihdmjcppbaaaDoor
