/-
  Bytes that are put behind others, cloned, held against others; a key in memory.
-/
import Derived.Test.YtojpbfkdkkdpcaaDoorK1
import Derived.Test.YtojpbfkdkkdpcaaDoorRing7
import Derived.Test.YtojpbfkdkkdpcaaDoorPure7
namespace Go.Proofs.YtojpbfkdkkdpcaaDoor
open Go.RowKit
set_option linter.unusedVariables false
set_option linter.unusedSimpArgs false
set_option maxRecDepth 100000

theorem Rd.src {w : World} {A : Option Addr} {n : Nat} {l : List Nat} (h : Rd .u8 w A n l) (hn : 1 ≤ n) : ∃ ad, A = some ad ∧ ∀ j u, (cn .u8 l)[j]? = some u → w.cell? (ad.add j) = some u := by
  obtain ⟨ad, rfl, _, hc⟩ := h.2 (by omega)
  refine ⟨ad, rfl, fun j u hu => ?_⟩
  simp only [cn, List.getElem?_map] at hu
  cases hj : l[j]? with
  | none => rw [hj] at hu; cases hu
  | some x =>
    rw [hj] at hu
    injection hu with hu
    rw [← hu]
    exact hc j x hj
/-- What lies elsewhere than in the block that grew reads as it did. -/
theorem Rd.grownBy {q : IntKind} {w w' : World} {A : Option Addr} {n : Nat} {l : List Nat} {row : Option Nat} (h : Rd q w A n l) (hg : w.grownBy w' row) (hne : ∀ ad, A = some ad → some ad.block ≠ row) : Rd q w' A n l :=
  ⟨h.1, fun hn => by
    obtain ⟨ad, e, hlt, hc⟩ := h.2 hn
    exact ⟨ad, e, Nat.lt_of_lt_of_le hlt hg.size, fun j x hj => hg.cell (hc j x hj) (by rw [block_add]; exact hne ad e)⟩⟩
/-- A block of just these bytes, as a row of one's own. -/
theorem Blk.row {w : World} {g B : Nat} {l : List Nat} (h : Blk w g 5 (cn .u8 l)) (hB : B ≤ g) (m : Nat) (hm : l.length = m) (hm2 : m ≤ 1000000) : Row w B 5 (some ⟨g, 0, none⟩) m m (cn .u8 l) :=
  ⟨by rw [cn_length]; omega, .inr ⟨g, m, (cn .u8 l).toArray, rfl, hB, h, Nat.le_refl _, by unfold maxLen; omega, by simp [cn_length]; omega, by simp [cn_length, hm]; rw [List.take_of_length_le (by rw [cn_length]; omega)]⟩⟩
theorem Row.mono {w : World} {B B' : Nat} {e : TypeId} {A : Option Addr} {n cap : Nat} {xs : List Value} (h : Row w B e A n cap xs) (hb : B' ≤ B) : Row w B' e A n cap xs :=
  ⟨h.1, h.2.imp id fun ⟨g, cap, cur, h1, h2, h3⟩ => ⟨g, cap, cur, h1, Nat.le_trans hb h2, h3⟩⟩

/-- Bytes behind bytes. -/
theorem wpList_appBs {ops : Array Oper} {rest : List Oper} {o : Oper} {a : Act} {w : World} {Q : Exit → Act → World → Prop} (hgd : o.guard = none) (s x : Operand) (ho : o.op = .call { callee := .builtin .append, args := #[s, x], argTypes := #[22, 22] })
    {B : Nat} {w0 : World} (hbel : Below B w0 w) (hB : B ≤ w.heap.size) {A : Option Addr} {n cap : Nat} {l : List Nat} (hs : a.eval s = .slice A n cap) (hrow : Row w B 5 A n cap (cn .u8 l)) {A2 : Option Addr} {m c2 : Nat} {l2 : List Nat} (hx : a.eval x = .slice A2 m c2) (hr : Rd .u8 w A2 m l2) (hm : 1 ≤ m) (hnm : n + m ≤ 1000000) (N : Nat) (hN : n + m = N)
    (h : ∀ A' cap' w', Hid (Row w' B 5 A' N cap' (cn .u8 (l ++ l2))) → Below B w0 w' → B ≤ w'.heap.size → Hid (w.grownBy w' (A.map (·.block))) → wpList Tryd.prog ops Q rest (a.put o.dst (.slice A' N cap')) w') : wpList Tryd.prog ops Q (o :: rest) a w := by
  subst hN
  obtain ⟨i0, hi, hz0, hz1, hz2⟩ := info_parts byteInfo
  obtain ⟨ad, rfl, hc⟩ := hr.src hm
  obtain ⟨v', w', hrun, hown, hg, hnil, hat⟩ := run_append_own_at (P := Tryd.prog) w B 22 o.type 5 i0 _ 1 1 Tryd.underlying22 hi hz0 hz1 hz2 rfl (by omega) _ n _ hrow ad m c2 (cn .u8 l2) (by rw [cn_length, hr.1]; omega) hc (cn_one _ _) (by unfold maxLen; omega) (by omega) hB
  have hform : ∃ A' cap', v' = .slice A' (n + m) cap' := by
    rcases hown.2 with ⟨rfl, h0⟩ | ⟨g, cap', cur, rfl, _⟩
    · exact ⟨none, 0, by rw [h0]⟩
    · exact ⟨_, _, rfl⟩
  obtain ⟨A', cap', rfl⟩ := hform
  have hrowb : (Value.slice A n cap).ownBlock = A.map (·.block) := by cases A <;> rfl
  refine wpList_plain hgd fun K hK => ?_
  unfold Oper.wp
  simp [execOp, ho, resolve, invoke, builtin, hs, hx, hrun, Result.andThen]
  refine hK _ _ (h A' cap' w' ?_ (below_only hbel hg hB (fun j hj => (World.ownsRow.lt hrow j hj).1)) (Nat.le_trans hB hg.size) (by rw [← hrowb]; exact hg))
  show Row _ _ _ _ _ _ _
  rw [cn_append]
  exact hown

/-- A call's answer: bytes of its own. -/
def GivesBs (w : World) (n : Nat) (l : List Nat) (e : Ending) (w' : World) : Prop :=
  ∃ g c, e = .returned (.slice (some ⟨g, 0, none⟩) n c) ∧ w.heap.size ≤ g ∧ Row w' w.heap.size 5 (some ⟨g, 0, none⟩) n c (cn .u8 l) ∧ Below w.heap.size w w'

set_option maxHeartbeats 1000000 in
theorem Clone8_any (A : Option Addr) (n cap : Nat) (l : List Nat) (w : World) (h : Rd .u8 w A n l) (hn1 : 1 ≤ n) (hn : n ≤ 10000) :
    Calls Tryd.prog 33 #[.slice A n cap] w (GivesBs w n l) := by
  obtain ⟨ad, rfl, hlt, hcs⟩ := h.2 (by omega)
  have HR : Hid (Rd .u8 (w.alloc (.cells #[] 5)) (some ad) n l) := h.below ((Below.refl _ _).alloc (Nat.le_refl _) _)
  have HE : Hid (Row (w.alloc (.cells #[] 5)) w.heap.size 5 (some ⟨w.heap.size, 0, none⟩) 0 0 (cn .u8 [])) := own_empty w 5
  clear h hcs hlt
  have q23 : (binOp .eql 22 (.slice (some ad) n cap) (.slice none 0 0)).run Tryd.prog w = .ok (.bool false) w := Lib.run_eql_slice_nil w _ _ _ _ _ _ _ Tryd.underlying22
  go_enter Tryd.func33, Tryd.ntmps33
  go_wp2_with (first
    | ((with_reducible refine at_dst (some 7) ?_); refine wpList_appBs (o := ⟨some 7, _, _, _, _, _⟩) rfl (.tmp 5) (.tmp 6) rfl ((Below.refl w.heap.size w).alloc (Nat.le_refl _) _) (by simp) rfl HE.out rfl HR.out hn1 (by omega) n (by omega) ?_; intro A2 c2 w2 HRow hbe hB HG))
  go_ret
  obtain ⟨g, rfl, hg1, hg2, _⟩ := HRow.out.cells (by omega)
  exact ⟨g, c2, rfl, hg1, HRow.out, hbe⟩

theorem str_toList (l : List Nat) : (str l).toList = l.map UInt8.ofNat := by
  rw [ByteArray.toList_eq]
  show ((l.map fun (x : Nat) => (x : Int)).map fun n => UInt8.ofNat n.toNat) = _
  simp [Function.comp_def]
theorem u8_inj : ∀ {l l' : List Nat}, Fit 256 l → Fit 256 l' → l.map UInt8.ofNat = l'.map UInt8.ofNat → l = l'
  | [], [], _, _, _ => rfl
  | [], _ :: _, _, _, h => by simp at h
  | _ :: _, [], _, _, h => by simp at h
  | a :: l, b :: l', h, h', e => by
    simp only [List.map_cons, List.cons.injEq] at e
    have ha := h a (by simp)
    have hb := h' b (by simp)
    have e1 : a = b := by
      have := congrArg UInt8.toNat e.1
      simp only [UInt8.toNat_ofNat'] at this
      omega
    rw [e1, u8_inj h.cons.2 h'.cons.2 e.2]
theorem str_same {l l' : List Nat} (h : Fit 256 l) (h' : Fit 256 l') : ((str l).toList == (str l').toList) = decide (l = l') := by
  rw [str_toList, str_toList, Bool.eq_iff_iff]
  simp only [beq_iff_eq, decide_eq_true_eq]
  exact ⟨u8_inj h h', fun e => by rw [e]⟩
theorem vbe_cons_ (x : Nat) (l : List Nat) : vbe (x :: l) = x * 256 ^ l.length + vbe l := by
  simp only [vbe, List.reverse_cons, val_append, List.length_reverse]
  simp [val, Nat.mul_comm, Nat.add_comm]
theorem vbe_ltp {l : List Nat} (h : Fit 256 l) : vbe l < 256 ^ l.length := by
  have := val_lt h.reverse
  rwa [List.length_reverse] at this
/-- Of two texts of one length the lesser number is the lesser text. -/
theorem bytes_less : ∀ {l l' : List Nat}, Fit 256 l → Fit 256 l' → l.length = l'.length → Op.bytesLess (l.map UInt8.ofNat) (l'.map UInt8.ofNat) = decide (vbe l < vbe l')
  | [], [], _, _, _ => by simp [Op.bytesLess, vbe, val]
  | [], _ :: _, _, _, h => by simp at h
  | _ :: _, [], _, _, h => by simp at h
  | a :: l, b :: l', h, h', e => by
    have ha := h a (by simp)
    have hb := h' b (by simp)
    have hl : l.length = l'.length := by simpa using e
    have ih := bytes_less h.cons.2 h'.cons.2 hl
    have n1 := vbe_ltp h.cons.2
    have n2 := vbe_ltp h'.cons.2
    rw [hl] at n1
    rw [vbe_cons_, vbe_cons_, hl]
    generalize 256 ^ l'.length = P at n1 n2 ⊢
    simp only [List.map_cons, Op.bytesLess]
    have e1 : decide (UInt8.ofNat a < UInt8.ofNat b) = decide (a < b) := by
      rw [Bool.eq_iff_iff]
      simp only [decide_eq_true_eq, UInt8.lt_iff_toNat_lt, UInt8.toNat_ofNat']
      omega
    have e2 : (UInt8.ofNat a == UInt8.ofNat b) = decide (a = b) := by
      rw [Bool.eq_iff_iff]
      simp only [beq_iff_eq, decide_eq_true_eq, ← UInt8.toNat_inj, UInt8.toNat_ofNat']
      omega
    rw [e1, e2, ih]
    rcases Nat.lt_trichotomy a b with hab | hab | hab
    · have : (a + 1) * P ≤ b * P := Nat.mul_le_mul_right _ (by omega)
      rw [Nat.add_mul, Nat.one_mul] at this
      rw [Bool.eq_iff_iff]; simp [hab]; omega
    · subst hab
      rw [Bool.eq_iff_iff]; simp
    · have : (b + 1) * P ≤ a * P := Nat.mul_le_mul_right _ (by omega)
      rw [Nat.add_mul, Nat.one_mul] at this
      rw [Bool.eq_iff_iff]; simp; omega
theorem str_less {l l' : List Nat} (h : Fit 256 l) (h' : Fit 256 l') (hl : l.length = l'.length) : Op.bytesLess (str l).toList (str l').toList = decide (vbe l < vbe l') := by
  rw [str_toList, str_toList]; exact bytes_less h h' hl

theorem Equal_any (A A' : Option Addr) (n cap n' cap' : Nat) (l l' : List Nat) (w : World) (h : Rd .u8 w A n l) (h' : Rd .u8 w A' n' l') (hf : Fit 256 l) (hf' : Fit 256 l') :
    Calls Tryd.prog 46 #[.slice A n cap, .slice A' n' cap'] w fun e w' => e = .returned (.bool (decide (l = l'))) ∧ w = w' := by
  have e := str_same hf hf'
  have hc := rd_str h cap
  have hc' := rd_str h' cap'
  clear h h' hf hf'
  generalize str l = S at *
  generalize str l' = S' at *
  generalize decide (l = l') = b at *
  go_enter Tryd.func46, Tryd.ntmps46
  go_wp2
  go_ret
  exact ⟨rfl, rfl⟩

/-- A key at block g: its modulus N in k bytes at block gm, its ring at block gr. -/
structure Keyed (w : World) (g k N gm c gr : Nat) : Prop where
  blk : Blk w g 56 [.slice (some ⟨gm, 0, none⟩) k c, .pointer (some ⟨gr, 0, none⟩)]
  rd : Rd .u8 w (some ⟨gm, 0, none⟩) k (bytesOf k N)
  c1 : k ≤ c
  c2 : c ≤ maxLen
  ring : Whole w gr (k / 4) N
  k1 : 64 ≤ k
  k2 : k ≤ 512
  k3 : k % 64 = 0
  room : N < 256 ^ k
/-- The same, with what no caller asks for. -/
def Key (w : World) (g k N gm : Nat) : Prop := ∃ c gr, Keyed w g k N gm c gr
section
variable {w w' : World} {g k N gm c gr : Nat}
theorem Keyed.below (h : Keyed w g k N gm c gr) (hb : Below w.heap.size w w') : Keyed w' g k N gm c gr :=
  ⟨h.blk.below hb h.blk.lt, h.rd.below hb, h.c1, h.c2, Whole.below h.ring hb, h.k1, h.k2, h.k3, h.room⟩
theorem Key.below (h : Key w g k N gm) (hb : Below w.heap.size w w') : Key w' g k N gm := by
  obtain ⟨c, gr, h⟩ := h; exact ⟨c, gr, h.below hb⟩
theorem Keyed.q0 (h : Keyed w g k N gm c gr) : w.cell? ⟨g, 0, none⟩ = some (.slice (some ⟨gm, 0, none⟩) k c) := h.blk.cell 0
theorem Keyed.q1 (h : Keyed w g k N gm c gr) : w.cell? ⟨g, 1, none⟩ = some (.pointer (some ⟨gr, 0, none⟩)) := h.blk.cell 1
end
/-- An answer: a key, and no error. -/
def GivesKey (w : World) (k N : Nat) (e : Ending) (w' : World) : Prop :=
  ∃ g gm, e = .returned (.tuple #[.pointer (some ⟨g, 0, none⟩), .int .i64 0]) ∧ Key w' g k N gm ∧ w.heap.size ≤ gm ∧ Below w.heap.size w w'
/-- An answer: no key, but an error. -/
def NoKey (w : World) (er : Int) (e : Ending) (w' : World) : Prop := e = .returned (.tuple #[.pointer none, .int .i64 er]) ∧ Below w.heap.size w w'

/-- Of what a key is made. -/
def Modul (n : Nat) (l : List Nat) : Prop := 64 ≤ n ∧ n ≤ 512 ∧ n % 64 = 0 ∧ ∃ a z, l[0]? = some a ∧ l[n - 1]? = some z ∧ 128 ≤ a ∧ z % 2 = 1
theorem Modul.odd {n : Nat} {l : List Nat} (h : Modul n l) (hl : l.length = n) : vbe l % 2 = 1 := by
  obtain ⟨h1, h2, h3, a, z, ha, hz, h4, h5⟩ := h
  have e : l = l.take (n - 1) ++ [z] := by
    conv => lhs; rw [← List.take_append_drop (n - 1) l]
    congr 1
    rw [List.drop_eq_getElem_cons (by omega), (List.getElem?_eq_some_iff.1 hz).2, List.drop_eq_nil_of_le (by omega)]
  rw [e, vbe_snoc]
  omega
theorem Modul.gt {n : Nat} {l : List Nat} (h : Modul n l) (hl : l.length = n) : 1 < vbe l := by
  obtain ⟨h1, h2, h3, a, z, ha, hz, h4, h5⟩ := h
  obtain ⟨x, r, rfl⟩ : ∃ x r, l = x :: r := by
    cases l with
    | nil => simp at hl; omega
    | cons x r => exact ⟨x, r, rfl⟩
  simp only [List.getElem?_cons_zero, Option.some.injEq] at ha
  subst ha
  rw [vbe_cons_]
  have : 1 ≤ 256 ^ r.length := Nat.pow_pos (by omega)
  have h6 : 128 * 1 ≤ x * 256 ^ r.length := Nat.mul_le_mul h4 this
  omega
end Go.Proofs.YtojpbfkdkkdpcaaDoor
