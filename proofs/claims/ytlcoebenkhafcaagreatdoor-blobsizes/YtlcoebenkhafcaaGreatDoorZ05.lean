/-
  A key in memory; what Make, Size, Modulus and Bytes of package key answer.
-/
import Derived.Test.YtlcoebenkhafcaaGreatDoorZ01
import Derived.Test.YtlcoebenkhafcaaGreatDoorZ02
import Derived.Test.YtlcoebenkhafcaaGreatDoorZ03
import Derived.Test.YtlcoebenkhafcaaGreatDoorZ04
namespace Go.Proofs.YtlcoebenkhafcaaGreatDoor
open Go.RowKit
set_option linter.unusedVariables false
set_option linter.unusedSimpArgs false
set_option maxRecDepth 100000
theorem bitsRight_yes (z : Int) (w : World) (h1 : 512 ≤ z) (h2 : z ≤ 4096) (h3 : z % 512 = 0) :
    Calls Tryz.prog 96 #[.int .i64 z] w fun e w' => e = .returned (.bool true) ∧ w = w' := by
  have hd : (z % 512 == 0) = true := by simp [h3]
  go_enter Tryz.func96, Tryz.ntmps96
  go_wp2
  go_ret
  exact ⟨rfl, rfl⟩
theorem bitsRight_no (z : Int) (w : World) (h0 : 0 ≤ z) (h : z < 512 ∨ 4096 < z ∨ z % 512 ≠ 0) :
    Calls Tryz.prog 96 #[.int .i64 z] w fun e w' => e = .returned (.bool false) ∧ w = w' := by
  by_cases h1 : z < 512
  · have q : ¬ 512 ≤ z := by omega
    clear h
    go_enter Tryz.func96, Tryz.ntmps96
    go_wp2
    go_ret
    exact ⟨rfl, rfl⟩
  · have q : 512 ≤ z := by omega
    by_cases h2 : 4096 < z
    · have q2 : ¬ z ≤ 4096 := by omega
      clear h
      go_enter Tryz.func96, Tryz.ntmps96
      go_wp2
      go_ret
      exact ⟨rfl, rfl⟩
    · have q2 : z ≤ 4096 := by omega
      have q3 : z % 512 ≠ 0 := by omega
      have hd : (z % 512 == 0) = false := by simp [q3]
      clear h
      go_enter Tryz.func96, Tryz.ntmps96
      go_wp2
      go_ret
      exact ⟨rfl, rfl⟩
set_option maxHeartbeats 400000 in
theorem isModulus_yes (A : Option Addr) (n cap : Nat) (l : List Nat) (w : World) (h : Rd .u8 w A n l) (hf : Fit 256 l) (hs : 64 ≤ n ∧ n ≤ 512) (a z : Nat) (ha : l[0]? = some a) (hz : l[n - 1]? = some z) (hb : 128 ≤ a ∧ z % 2 = 1) :
    Calls Tryz.prog 97 #[.slice A n cap] w fun e w' => e = .returned (.bool true) ∧ w = w' := by
  obtain ⟨k1, k2⟩ := hs
  have HR := Lib.hid h
  obtain ⟨ad, x, rfl, hx, hc⟩ := HR.out.get (j := 0) (by omega)
  obtain ⟨ad2, y, e2, hy, hc2⟩ := HR.out.get (j := n - 1) (by omega)
  cases e2
  rw [add_zero_] at hc
  rw [ha] at hx; cases hx
  rw [hz] at hy; cases hy
  have hab := hf.get ha
  have hzb := hf.get hz
  clear h
  have q1 : ((a : Int) / 128) = 1 := by omega
  have hd1 : ((a : Int) / 128 == 1) = true := by simp [q1]
  have q2 : (z : Int) % 2 = 1 := by omega
  have hd2 : ((z : Int) % 2 == 1) = true := by simp [q2]
  go_enter Tryz.func97, Tryz.ntmps97
  go_wp2
  go_ret
  exact ⟨rfl, rfl⟩
set_option maxHeartbeats 400000 in
theorem isModulus_no (A : Option Addr) (n cap : Nat) (l : List Nat) (w : World) (h : Rd .u8 w A n l) (hf : Fit 256 l) (hs : 64 ≤ n ∧ n ≤ 512) (a z : Nat) (ha : l[0]? = some a) (hz : l[n - 1]? = some z) (hb : a < 128 ∨ z % 2 = 0) :
    Calls Tryz.prog 97 #[.slice A n cap] w fun e w' => e = .returned (.bool false) ∧ w = w' := by
  obtain ⟨k1, k2⟩ := hs
  have HR := Lib.hid h
  obtain ⟨ad, x, rfl, hx, hc⟩ := HR.out.get (j := 0) (by omega)
  obtain ⟨ad2, y, e2, hy, hc2⟩ := HR.out.get (j := n - 1) (by omega)
  cases e2
  rw [add_zero_] at hc
  rw [ha] at hx; cases hx
  rw [hz] at hy; cases hy
  have hab := hf.get ha
  have hzb := hf.get hz
  clear h
  by_cases h1 : a < 128
  · have q1 : ((a : Int) / 128) = 0 := by omega
    have hd1 : ((a : Int) / 128 == 1) = false := by simp [q1]
    clear hb
    go_enter Tryz.func97, Tryz.ntmps97
    go_wp2
    go_ret
    exact ⟨rfl, rfl⟩
  · have q1 : ((a : Int) / 128) = 1 := by omega
    have hd1 : ((a : Int) / 128 == 1) = true := by simp [q1]
    have q2 : (z : Int) % 2 = 0 := by omega
    have hd2 : ((z : Int) % 2 == 1) = false := by simp [q2]
    clear hb
    go_enter Tryz.func97, Tryz.ntmps97
    go_wp2
    go_ret
    exact ⟨rfl, rfl⟩
def str (l : List Nat) : ByteArray := strOfNums (l.map fun (x : Nat) => (x : Int))
theorem rd_str {w : World} {A : Option Addr} {k : Nat} {l : List Nat} (h : Rd .u8 w A k l) (cap : Nat) : (convert 25 9 (.slice A k cap)).run Tryz.prog w = .ok (.string (str l)) w := by
  rcases A with _ | a
  · have hl : l = [] := by
      rcases Nat.eq_zero_or_pos k with h0 | h0
      · exact List.eq_nil_of_length_eq_zero (by rw [h.1]; exact h0)
      · obtain ⟨_, e, _⟩ := h.2 h0; cases e
    subst hl
    rw [run_convert_bytes_nil (P := Tryz.prog) w 25 5 Tryz.underlying25 Tryz.underlying5 k cap 9 Tryz.underlying9]
    rfl
  · have hl : (loadCells a k).run Tryz.prog w = .ok ((l.map fun (x : Nat) => (x : Int)).map (Value.int .u8)).toArray w := by
      have := run_loadCells_list (P := Tryz.prog) w a (cn .u8 l) (fun j v hj => by
        have hjl := (List.getElem?_eq_some_iff.1 hj).1
        rw [cn_length] at hjl
        obtain ⟨x, hx⟩ := get_some hjl
        rw [cn_get hx] at hj
        injection hj with hj
        obtain ⟨ad, e, _, hc⟩ := h.2 (by rw [← h.1]; omega)
        injection e with e
        subst e
        rw [← hj]
        exact hc j x hx)
      rw [cn_length, h.1] at this
      rw [this]
      simp [cn, Function.comp_def]
    rw [run_convert_bytes_string w 25 9 5 _ k cap Tryz.underlying25 Tryz.underlying5 Tryz.underlying9, run_bytesToString w _ k cap (l.map fun (x : Nat) => (x : Int)) hl, foldl_push_bytes]
    simp [str, strOfNums, ByteArray.empty, ByteArray.emptyWithCapacity]
    rfl
end Go.Proofs.YtlcoebenkhafcaaGreatDoor
namespace Go.Proofs.YtlcoebenkhafcaaGreatDoor
open Go.RowKit
set_option linter.unusedVariables false
set_option linter.unusedSimpArgs false
set_option maxRecDepth 100000
theorem Rd.src {w : World} {A : Option Addr} {n : Nat} {l : List Nat} (h : Rd .u8 w A n l) (hn : 1 ≤ n) : ∃ ad, A = some ad ∧ ∀ j u, (cn .u8 l)[j]? = some u → w.cell? (ad.add j) = some u := by
  obtain ⟨ad, rfl, _, hc⟩ := h.2 (by omega)
  refine ⟨ad, rfl, fun j u hu => ?_⟩
  simp only [cn, List.getElem?_map] at hu
  cases hj : l[j]? with
  | none => rw [hj] at hu; cases hu
  | some x =>
    rw [hj] at hu
    injection hu with hu
    rw [← hu]
    exact hc j x hj
theorem Rd.grownBy {q : IntKind} {w w' : World} {A : Option Addr} {n : Nat} {l : List Nat} {row : Option Nat} (h : Rd q w A n l) (hg : w.grownBy w' row) (hne : ∀ ad, A = some ad → some ad.block ≠ row) : Rd q w' A n l :=
  ⟨h.1, fun hn => by
    obtain ⟨ad, e, hlt, hc⟩ := h.2 hn
    exact ⟨ad, e, Nat.lt_of_lt_of_le hlt hg.size, fun j x hj => hg.cell (hc j x hj) (by rw [block_add]; exact hne ad e)⟩⟩
theorem Blk.row {w : World} {g B : Nat} {l : List Nat} (h : Blk w g 5 (cn .u8 l)) (hB : B ≤ g) (m : Nat) (hm : l.length = m) (hm2 : m ≤ 1000000) : Row w B 5 (some ⟨g, 0, none⟩) m m (cn .u8 l) :=
  ⟨by rw [cn_length]; omega, .inr ⟨g, m, (cn .u8 l).toArray, rfl, hB, h, Nat.le_refl _, by unfold maxLen; omega, by simp [cn_length]; omega, by simp [cn_length, hm]; rw [List.take_of_length_le (by rw [cn_length]; omega)]⟩⟩
theorem Row.mono {w : World} {B B' : Nat} {e : TypeId} {A : Option Addr} {n cap : Nat} {xs : List Value} (h : Row w B e A n cap xs) (hb : B' ≤ B) : Row w B' e A n cap xs :=
  ⟨h.1, h.2.imp id fun ⟨g, cap, cur, h1, h2, h3⟩ => ⟨g, cap, cur, h1, Nat.le_trans hb h2, h3⟩⟩
theorem wpList_appBs {ops : Array Oper} {rest : List Oper} {o : Oper} {a : Act} {w : World} {Q : Exit → Act → World → Prop} (hgd : o.guard = none) (s x : Operand) (ho : o.op = .call { callee := .builtin .append, args := #[s, x], argTypes := #[25, 25] })
    {B : Nat} {w0 : World} (hbel : Below B w0 w) (hB : B ≤ w.heap.size) {A : Option Addr} {n cap : Nat} {l : List Nat} (hs : a.eval s = .slice A n cap) (hrow : Row w B 5 A n cap (cn .u8 l)) {A2 : Option Addr} {m c2 : Nat} {l2 : List Nat} (hx : a.eval x = .slice A2 m c2) (hr : Rd .u8 w A2 m l2) (hm : 1 ≤ m) (hnm : n + m ≤ 1000000) (N : Nat) (hN : n + m = N)
    (h : ∀ A' cap' w', Hid (Row w' B 5 A' N cap' (cn .u8 (l ++ l2))) → Below B w0 w' → B ≤ w'.heap.size → Hid (w.grownBy w' (A.map (·.block))) → wpList Tryz.prog ops Q rest (a.put o.dst (.slice A' N cap')) w') : wpList Tryz.prog ops Q (o :: rest) a w := by
  subst hN
  obtain ⟨i0, hi, hz0, hz1, hz2⟩ := info_parts byteInfo
  obtain ⟨ad, rfl, hc⟩ := hr.src hm
  obtain ⟨v', w', hrun, hown, hg, hnil, hat⟩ := run_append_own_at (P := Tryz.prog) w B 25 o.type 5 i0 _ 1 1 Tryz.underlying25 hi hz0 hz1 hz2 rfl (by omega) _ n _ hrow ad m c2 (cn .u8 l2) (by rw [cn_length, hr.1]; omega) hc (cn_one _ _) (by unfold maxLen; omega) (by omega) hB
  have hform : ∃ A' cap', v' = .slice A' (n + m) cap' := by
    rcases hown.2 with ⟨rfl, h0⟩ | ⟨g, cap', cur, rfl, _⟩
    · exact ⟨none, 0, by rw [h0]⟩
    · exact ⟨_, _, rfl⟩
  obtain ⟨A', cap', rfl⟩ := hform
  have hrowb : (Value.slice A n cap).ownBlock = A.map (·.block) := by cases A <;> rfl
  refine wpList_plain hgd fun K hK => ?_
  unfold Oper.wp
  simp [execOp, ho, resolve, invoke, builtin, hs, hx, hrun, Result.andThen]
  refine hK _ _ (h A' cap' w' ?_ (below_only hbel hg hB (fun j hj => (World.ownsRow.lt hrow j hj).1)) (Nat.le_trans hB hg.size) (by rw [← hrowb]; exact hg))
  show Row _ _ _ _ _ _ _
  rw [cn_append]
  exact hown
def GivesBs (w : World) (n : Nat) (l : List Nat) (e : Ending) (w' : World) : Prop :=
  ∃ g c, e = .returned (.slice (some ⟨g, 0, none⟩) n c) ∧ w.heap.size ≤ g ∧ Row w' w.heap.size 5 (some ⟨g, 0, none⟩) n c (cn .u8 l) ∧ Below w.heap.size w w'
set_option maxHeartbeats 1000000 in
theorem Clone8_any (A : Option Addr) (n cap : Nat) (l : List Nat) (w : World) (h : Rd .u8 w A n l) (hn1 : 1 ≤ n) (hn : n ≤ 10000) :
    Calls Tryz.prog 100 #[.slice A n cap] w (GivesBs w n l) := by
  obtain ⟨ad, rfl, hlt, hcs⟩ := h.2 (by omega)
  have HR : Hid (Rd .u8 (w.alloc (.cells #[] 5)) (some ad) n l) := h.below ((Below.refl _ _).alloc (Nat.le_refl _) _)
  have HE : Hid (Row (w.alloc (.cells #[] 5)) w.heap.size 5 (some ⟨w.heap.size, 0, none⟩) 0 0 (cn .u8 [])) := own_empty w 5
  clear h hcs hlt
  have q23 : (binOp .eql 25 (.slice (some ad) n cap) (.slice none 0 0)).run Tryz.prog w = .ok (.bool false) w := Lib.run_eql_slice_nil w _ _ _ _ _ _ _ Tryz.underlying25
  go_enter Tryz.func100, Tryz.ntmps100
  go_wp2_with (first
    | ((with_reducible refine at_dst (some 7) ?_); refine wpList_appBs (o := ⟨some 7, _, _, _, _, _⟩) rfl (.tmp 5) (.tmp 6) rfl ((Below.refl w.heap.size w).alloc (Nat.le_refl _) _) (by simp) rfl HE.out rfl HR.out hn1 (by omega) n (by omega) ?_; intro A2 c2 w2 HRow hbe hB HG))
  go_ret
  obtain ⟨g, rfl, hg1, hg2, _⟩ := HRow.out.cells (by omega)
  exact ⟨g, c2, rfl, hg1, HRow.out, hbe⟩
theorem str_toList (l : List Nat) : (str l).toList = l.map UInt8.ofNat := by
  rw [ByteArray.toList_eq]
  show ((l.map fun (x : Nat) => (x : Int)).map fun n => UInt8.ofNat n.toNat) = _
  simp [Function.comp_def]
theorem u8_inj : ∀ {l l' : List Nat}, Fit 256 l → Fit 256 l' → l.map UInt8.ofNat = l'.map UInt8.ofNat → l = l'
  | [], [], _, _, _ => rfl
  | [], _ :: _, _, _, h => by simp at h
  | _ :: _, [], _, _, h => by simp at h
  | a :: l, b :: l', h, h', e => by
    simp only [List.map_cons, List.cons.injEq] at e
    have ha := h a (by simp)
    have hb := h' b (by simp)
    have e1 : a = b := by
      have := congrArg UInt8.toNat e.1
      simp only [UInt8.toNat_ofNat'] at this
      omega
    rw [e1, u8_inj h.cons.2 h'.cons.2 e.2]
theorem str_same {l l' : List Nat} (h : Fit 256 l) (h' : Fit 256 l') : ((str l).toList == (str l').toList) = decide (l = l') := by
  rw [str_toList, str_toList, Bool.eq_iff_iff]
  simp only [beq_iff_eq, decide_eq_true_eq]
  exact ⟨u8_inj h h', fun e => by rw [e]⟩
theorem vbe_cons_ (x : Nat) (l : List Nat) : vbe (x :: l) = x * 256 ^ l.length + vbe l := by
  simp only [vbe, List.reverse_cons, val_append, List.length_reverse]
  simp [val, Nat.mul_comm, Nat.add_comm]
theorem vbe_ltp {l : List Nat} (h : Fit 256 l) : vbe l < 256 ^ l.length := by
  have := val_lt h.reverse
  rwa [List.length_reverse] at this
theorem Equal_any (A A' : Option Addr) (n cap n' cap' : Nat) (l l' : List Nat) (w : World) (h : Rd .u8 w A n l) (h' : Rd .u8 w A' n' l') (hf : Fit 256 l) (hf' : Fit 256 l') :
    Calls Tryz.prog 47 #[.slice A n cap, .slice A' n' cap'] w fun e w' => e = .returned (.bool (decide (l = l'))) ∧ w = w' := by
  have e := str_same hf hf'
  have hc := rd_str h cap
  have hc' := rd_str h' cap'
  clear h h' hf hf'
  generalize str l = S at *
  generalize str l' = S' at *
  generalize decide (l = l') = b at *
  go_enter Tryz.func47, Tryz.ntmps47
  go_wp2
  go_ret
  exact ⟨rfl, rfl⟩
structure Keyed (w : World) (g k N gm c gr : Nat) : Prop where
  blk : Blk w g 123 [.slice (some ⟨gm, 0, none⟩) k c, .pointer (some ⟨gr, 0, none⟩)]
  rd : Rd .u8 w (some ⟨gm, 0, none⟩) k (bytesOf k N)
  c1 : k ≤ c
  c2 : c ≤ maxLen
  ring : Whole w gr (k / 4) N
  k1 : 64 ≤ k
  k2 : k ≤ 512
  k3 : k % 64 = 0
  room : N < 256 ^ k
def Key (w : World) (g k N gm : Nat) : Prop := ∃ c gr, Keyed w g k N gm c gr
section
variable {w w' : World} {g k N gm c gr : Nat}
theorem Keyed.below (h : Keyed w g k N gm c gr) (hb : Below w.heap.size w w') : Keyed w' g k N gm c gr :=
  ⟨h.blk.below hb h.blk.lt, h.rd.below hb, h.c1, h.c2, Whole.below h.ring hb, h.k1, h.k2, h.k3, h.room⟩
theorem Key.below (h : Key w g k N gm) (hb : Below w.heap.size w w') : Key w' g k N gm := by
  obtain ⟨c, gr, h⟩ := h; exact ⟨c, gr, h.below hb⟩
theorem Keyed.q0 (h : Keyed w g k N gm c gr) : w.cell? ⟨g, 0, none⟩ = some (.slice (some ⟨gm, 0, none⟩) k c) := h.blk.cell 0
theorem Keyed.q1 (h : Keyed w g k N gm c gr) : w.cell? ⟨g, 1, none⟩ = some (.pointer (some ⟨gr, 0, none⟩)) := h.blk.cell 1
end
def GivesKey (w : World) (k N : Nat) (e : Ending) (w' : World) : Prop :=
  ∃ g gm, e = .returned (.tuple #[.pointer (some ⟨g, 0, none⟩), .int .i64 0]) ∧ Key w' g k N gm ∧ w.heap.size ≤ gm ∧ Below w.heap.size w w'
def NoKey (w : World) (er : Int) (e : Ending) (w' : World) : Prop := e = .returned (.tuple #[.pointer none, .int .i64 er]) ∧ Below w.heap.size w w'
def Modul (n : Nat) (l : List Nat) : Prop := 64 ≤ n ∧ n ≤ 512 ∧ n % 64 = 0 ∧ ∃ a z, l[0]? = some a ∧ l[n - 1]? = some z ∧ 128 ≤ a ∧ z % 2 = 1
theorem Modul.odd {n : Nat} {l : List Nat} (h : Modul n l) (hl : l.length = n) : vbe l % 2 = 1 := by
  obtain ⟨h1, h2, h3, a, z, ha, hz, h4, h5⟩ := h
  have e : l = l.take (n - 1) ++ [z] := by
    conv => lhs; rw [← List.take_append_drop (n - 1) l]
    congr 1
    rw [List.drop_eq_getElem_cons (by omega), (List.getElem?_eq_some_iff.1 hz).2, List.drop_eq_nil_of_le (by omega)]
  rw [e, vbe_snoc]
  omega
theorem Modul.gt {n : Nat} {l : List Nat} (h : Modul n l) (hl : l.length = n) : 1 < vbe l := by
  obtain ⟨h1, h2, h3, a, z, ha, hz, h4, h5⟩ := h
  obtain ⟨x, r, rfl⟩ : ∃ x r, l = x :: r := by
    cases l with
    | nil => simp at hl; omega
    | cons x r => exact ⟨x, r, rfl⟩
  simp only [List.getElem?_cons_zero, Option.some.injEq] at ha
  subst ha
  rw [vbe_cons_]
  have : 1 ≤ 256 ^ r.length := Nat.pow_pos (by omega)
  have h6 : 128 * 1 ≤ x * 256 ^ r.length := Nat.mul_le_mul h4 this
  omega
end Go.Proofs.YtlcoebenkhafcaaGreatDoor
namespace Go.Proofs.YtlcoebenkhafcaaGreatDoor
open Go.RowKit
set_option linter.unusedVariables false
set_option linter.unusedSimpArgs false
set_option maxRecDepth 100000
theorem From_okz (A : Option Addr) (n cap : Nat) (l : List Nat) (W : Nat) (z : Int) (hz : z = W) (w : World) (h : Rd .u8 w A n l) (hf : Fit 256 l) (hn : n ≤ cap) (hm : cap ≤ maxLen) (hn2 : n ≤ 10000) (h1 : 1 ≤ W) (h2 : W ≤ 256) (hb : vbe l < 4294967296 ^ W) :
    Calls Tryz.prog 98 #[.slice A n cap, .int .i64 z] w fun e w' => ∃ A1 zs, e = .returned (.tuple #[.slice A1 W W, .int .i64 0]) ∧ Limbs w w' A1 W W zs ∧ val 4294967296 zs = vbe l := by
  subst hz; exact From_ok A n cap l W w h hf hn hm hn2 h1 h2 hb
set_option maxHeartbeats 400000 in
theorem Make_form (A : Option Addr) (n cap : Nat) (l : List Nat) (w : World) (h : Rd .u8 w A n l) (hf : Fit 256 l) (hs : 64 ≤ n ∧ n ≤ 512 ∧ n % 64 = 0) (a z : Nat) (ha : l[0]? = some a) (hz : l[n - 1]? = some z) (hb : a < 128 ∨ z % 2 = 0) :
    Calls Tryz.prog 60 #[.slice A n cap] w (NoKey w 22) := by
  obtain ⟨k1, k2, k3⟩ := hs
  have HR := Lib.hid h
  have HA := Lib.hid ha
  have HZ := Lib.hid hz
  have HB := Lib.hid hb
  clear h ha hz hb
  go_enter Tryz.func60, Tryz.ntmps60
  go_wp2_with fail
  refine (bitsRight_yes _ _ (by omega) (by omega) (by omega)).mono ?_
  rintro e w1 ⟨rfl, rfl⟩
  go_wp2_with fail
  refine (isModulus_no A n cap l w HR.out hf ⟨k1, k2⟩ a z HA.out HZ.out HB.out).mono ?_
  rintro e w1 ⟨rfl, rfl⟩
  go_wp2
  go_ret2
  exact ⟨rfl, below_self⟩
theorem limbs_room {l : List Nat} {n W : Nat} (hf : Fit 256 l) (hl : l.length = n) (hW : n = 4 * W) : vbe l < 4294967296 ^ W := by
  rw [← pow256_32, ← hW, ← hl]; exact vbe_ltp hf
set_option maxHeartbeats 1000000 in
theorem Make_ok (A : Option Addr) (n cap : Nat) (l : List Nat) (w : World) (h : Rd .u8 w A n l) (hf : Fit 256 l) (hn : n ≤ cap) (hm : cap ≤ maxLen) (hM : Modul n l) :
    Calls Tryz.prog 60 #[.slice A n cap] w (GivesKey w n (vbe l)) := by
  have HO := Lib.hid (hM.odd h.1)
  have HG := Lib.hid (hM.gt h.1)
  have HM := Lib.hid hM
  obtain ⟨k1, k2, k3, a, z, ha, hz, hb, hb2⟩ := hM
  have HR := Lib.hid h
  obtain ⟨W, hW⟩ : ∃ W, n = 4 * W := ⟨n / 4, by omega⟩
  have HW := Lib.hid hW
  have HLT := Lib.hid (limbs_room hf h.1 hW)
  have HA := Lib.hid ha
  have HZ := Lib.hid hz
  have HB := Lib.hid (And.intro hb hb2)
  have w1_ : 1 ≤ W := by omega
  have w2_ : W ≤ 128 := by omega
  clear h ha hz hb hb2 hW
  go_enter Tryz.func60, Tryz.ntmps60
  go_wp2_with fail
  refine (bitsRight_yes _ _ (by omega) (by omega) (by omega)).mono ?_
  rintro e w1 ⟨rfl, rfl⟩
  go_wp2_with fail
  refine (isModulus_yes A n cap l w HR.out hf ⟨k1, k2⟩ a z HA.out HZ.out HB.out).mono ?_
  rintro e w1 ⟨rfl, rfl⟩
  go_wp2_with fail
  refine (From_okz A n cap l W _ (by have := HW.out; omega) w HR.out hf hn hm (by omega) w1_ (by omega) HLT.out).mono ?_
  rintro e w1 ⟨A1, zs, rfl, ⟨hr1, hf1, _, _, hb1⟩, hv1⟩
  have HR1 := Lib.hid hr1
  have HV1 := Lib.hid hv1
  clear hr1 hv1
  go_wp2_with fail
  refine (New_ok A1 W W zs w1 HR1.out hf1 w1_ w2_ (by rw [HV1.out]; exact HO.out) (by rw [HV1.out]; exact HG.out)).mono ?_
  rintro e w2 ⟨gr, rfl, hw2, hb2⟩
  rw [HV1.out] at hw2
  have HW2 := Lib.hid hw2
  have bel2 := below_then hb1 hb2
  clear hw2
  go_wp2_with fail
  refine (Clone8_any A n cap l w2 (HR.out.below bel2) (by omega) (by omega)).mono ?_
  rintro e w3 ⟨gm, c3, rfl, hg3, hrow3, hb3⟩
  have HROW := Lib.hid hrow3
  have bel3 := below_then bel2 hb3
  clear hrow3
  go_wp2
  go_ret2
  have hba : Below w3.heap.size w3 (w3.alloc (.cells #[.slice (some ⟨gm, 0, none⟩) n c3, .pointer (some ⟨gr, 0, none⟩)] 123)) := (Below.refl _ _).alloc (Nat.le_refl _) _
  refine ⟨w3.heap.size, gm, rfl, ⟨c3, gr, ⟨Blk.new w3 123 [.slice (some ⟨gm, 0, none⟩) n c3, .pointer (some ⟨gr, 0, none⟩)], ?_, HROW.out.le.1, HROW.out.le.2, ?_, k1, k2, k3, ?_⟩⟩, Nat.le_trans bel2.size hg3, below_then bel3 hba⟩
  · have := HROW.out.rd.below hba
    rw [← bytesOf_eq HR.out.1 hf rfl]
    exact this
  · have e : n / 4 = W := by have := HW.out; omega
    rw [e]
    exact Whole.below (Whole.below HW2.out hb3) hba
  · have := vbe_ltp hf
    rw [HR.out.1] at this
    exact this
theorem Size_any (g k N gm c gr : Nat) (w : World) (h : Keyed w g k N gm c gr) :
    Calls Tryz.prog 62 #[.pointer (some ⟨g, 0, none⟩)] w fun e w' => e = .returned (.int .i64 (k : Int)) ∧ w = w' := by
  have h0 := h.q0
  clear h
  go_enter Tryz.func62, Tryz.ntmps62
  go_wp2
  go_ret
  exact ⟨rfl, rfl⟩
end Go.Proofs.YtlcoebenkhafcaaGreatDoor
namespace Go.Proofs.YtlcoebenkhafcaaGreatDoor
open Go.RowKit
set_option linter.unusedVariables false
set_option linter.unusedSimpArgs false
set_option maxRecDepth 100000
def n0u (low : Nat) : Nat → Nat
  | 0 => 0
  | k + 1 => n0u low k + (n0u low k * low + 1) / 2 ^ k % 2 * 2 ^ k
theorem n0u_ok {low : Nat} (hl : low % 2 = 1) : ∀ k, (n0u low k * low + 1) % 2 ^ k = 0 ∧ n0u low k < 2 ^ k
  | 0 => by simp [n0u, Nat.mod_one]
  | k + 1 => by
    obtain ⟨h1, h2⟩ := n0u_ok hl k
    exact n0_step hl h1 h2 _ rfl
def n0of (N : Nat) : Nat := n0u (N % 4294967296) 32
theorem n0of_lt {N : Nat} (h : N % 2 = 1) : n0of N < 4294967296 := (n0u_ok (by omega : N % 4294967296 % 2 = 1) 32).2
theorem n0of_eq {N x : Nat} (h : N % 2 = 1) (hx : x < 4294967296) (hi : x * N % 4294967296 = 4294967296 - 1) : x = n0of N := by
  have hl : N % 4294967296 % 2 = 1 := by omega
  obtain ⟨h1, h2⟩ := n0u_ok hl 32
  refine n0_one (k := 32) hl hx h2 ?_ h1
  refine n0_forms ?_
  rw [Nat.mul_mod, Nat.mod_mod, ← Nat.mul_mod]
  exact hi
def keyBytes (k N : Nat) : List Nat := bytesOf 4 (8 * k) ++ bytesOf 4 (n0of N) ++ bytesOf k N ++ bytesOf k (256 ^ (2 * k) % N)
theorem keyBytes_length (k N : Nat) : (keyBytes k N).length = 8 + 2 * k := by simp [keyBytes, bytesOf_length]; omega
theorem keyBytes_fit (k N : Nat) : Fit 256 (keyBytes k N) := (((bytesOf_fit _ _).append (bytesOf_fit _ _)).append (bytesOf_fit _ _)).append (bytesOf_fit _ _)
def ints (l : List Nat) : List Int := l.map fun (x : Nat) => (x : Int)
theorem ints_bytes {l : List Nat} (h : Fit 256 l) : YtlcoebenkhafcaaGreatDoorSp.AreBytes (ints l) := by
  intro x hx
  obtain ⟨y, hy, rfl⟩ := List.mem_map.1 hx
  have := h y hy
  exact ⟨by omega, by omega⟩
theorem Rd.seg {w : World} {A : Option Addr} {n : Nat} {l : List Nat} (h : Rd .u8 w A n l) (hf : Fit 256 l) : YtlcoebenkhafcaaGreatDoorSp.Seg w A n (ints l) :=
  ⟨by simp [ints, h.1], ints_bytes hf, fun hn => by
    obtain ⟨ad, e, hlt, hc⟩ := h.2 hn
    refine ⟨ad, e, hlt, fun j hj => ?_⟩
    obtain ⟨x, hx⟩ := get_some (l := l) (i := j) (by rw [h.1]; exact hj)
    rw [hc j x hx]
    simp [ints, List.getD, hx]⟩
theorem own_blk {w : World} {g : Nat} {l : List Nat} (h : YtlcoebenkhafcaaGreatDoorSp.Own w g (ints l)) : Blk w g 5 (cn .u8 l) := by
  have := h.2
  have e : YtlcoebenkhafcaaGreatDoorSp.cellsOfBytes (ints l) = cn .u8 l := by simp [YtlcoebenkhafcaaGreatDoorSp.cellsOfBytes, ints, cn, Function.comp_def]
  rw [e] at this
  exact this
theorem be_bytesOf (s x : Nat) : YtlcoebenkhafcaaGreatDoorSp.be s (x : Int) = ints (bytesOf s x) := by
  apply List.ext_getElem?
  intro i
  by_cases hi : i < s
  · obtain ⟨u, hu⟩ : ∃ u, s = i + u + 1 := ⟨s - i - 1, by omega⟩
    have e1 := bytesOf_get (X := x) hu
    simp only [ints, List.getElem?_map, e1, Option.map_some]
    simp only [YtlcoebenkhafcaaGreatDoorSp.be, List.getElem?_map, List.getElem?_range hi, Option.map_some]
    congr 1
    have e2 : s - 1 - i = u := by omega
    have e3 : (2 : Nat) ^ (8 * u) = 256 ^ u := by rw [Nat.pow_mul]
    have e4 : (2 : Int) ^ (8 * u) = ((256 ^ u : Nat) : Int) := by rw [← e3, Int.natCast_pow]; rfl
    rw [e2, e4, Int.natCast_emod, Int.natCast_ediv]
    rfl
  · rw [List.getElem?_eq_none (by simp [YtlcoebenkhafcaaGreatDoorSp.be]; omega), List.getElem?_eq_none (by simp [ints, bytesOf_length]; omega)]
theorem Put4_any (A : Option Addr) (k cap : Nat) (l : List Nat) (x : Nat) (z : Int) (hz : z = x) (hx : x < 4294967296) (m : Nat) (hm : m = k + 4) (w : World) (h : Rd .u8 w A k l) (hf : Fit 256 l) (hk : k ≤ 90000) :
    Calls Tryz.prog 101 #[.slice A k cap, .int .i64 4, .int .i64 z] w fun e w' => e = .returned (.tuple #[.slice (some ⟨w.heap.size, 0, none⟩) m m, .int .i64 0]) ∧ Blk w' w.heap.size 5 (cn .u8 (l ++ bytesOf 4 x)) ∧ Below w.heap.size w w' := by
  subst hz
  have e0 : ((x : Int) / 2 ^ (8 * (4 : Int)).toNat != 0) = false := by
    have : (x : Int) / 4294967296 = 0 := by omega
    simpa using this
  refine (YtlcoebenkhafcaaGreatDoorSp.Put_ok A k cap (ints l) 4 (x : Int) w (h.seg hf) hk (by omega) (by omega) (by omega) (by omega) e0 m (by omega)).mono ?_
  rintro e w' ⟨he, hl, ho, hb⟩
  refine ⟨he, own_blk (l := l ++ bytesOf 4 x) ?_, hb⟩
  have e1 : ints l ++ YtlcoebenkhafcaaGreatDoorSp.be (4 : Int).toNat (x : Int) = ints (l ++ bytesOf 4 x) := by
    show ints l ++ YtlcoebenkhafcaaGreatDoorSp.be 4 (x : Int) = _
    rw [be_bytesOf]; simp [ints]
  rw [e1] at ho
  exact ho
theorem Whole.ringed {w : World} {g k N : Nat} (h : Whole w g k N) : ∃ n0 A c R ln, Ringed w g k N n0 A c R ln := by
  obtain ⟨n0, A, c, ln, A', c', lr, h1, h2, h3, h4⟩ := h
  exact ⟨n0, A, c, _, ln, h1⟩
theorem Whole.odd {w : World} {g k N : Nat} (h : Whole w g k N) : N % 2 = 1 := by
  obtain ⟨n0, A, c, R, ln, h⟩ := h.ringed; exact h.odd
theorem Whole.gt {w : World} {g k N : Nat} (h : Whole w g k N) : 1 < N := by
  obtain ⟨n0, A, c, R, ln, h⟩ := h.ringed; exact h.gt
theorem KN0_any (g k N : Nat) (w : World) (h : Whole w g k N) :
    Calls Tryz.prog 102 #[.pointer (some ⟨g, 0, none⟩)] w fun e w' => e = .returned (.int .i64 (n0of N : Nat)) ∧ w = w' := by
  obtain ⟨n0, A, c, R, ln, hr⟩ := h.ringed
  rw [← n0of_eq hr.odd hr.n1 hr.inv]
  exact N0_any g k N n0 A c R ln w hr
theorem Bytes_okz (A : Option Addr) (n cap : Nat) (l : List Nat) (size : Nat) (z : Int) (hz : z = size) (w : World) (h : Rd .u32 w A n l) (hf : Fit 4294967296 l) (h1 : 1 ≤ n) (h2 : n ≤ 256) (hs : size ≤ 1024) (hb : val 4294967296 l < 256 ^ size) :
    Calls Tryz.prog 103 #[.slice A n cap, .int .i64 z] w fun e w' => ∃ g, e = .returned (.tuple #[.slice (some ⟨g, 0, none⟩) size size, .int .i64 0]) ∧ w.heap.size ≤ g ∧ Blk w' g 5 (cn .u8 (bytesOf size (val 4294967296 l))) ∧ Below w.heap.size w w' := by
  subst hz; exact Bytes_ok A n cap l size w h hf h1 h2 hs hb
theorem rr_pow {k W N : Nat} (h : k = 4 * W) : 4294967296 ^ (2 * W) % N = 256 ^ (2 * k) % N := by
  rw [h, show 2 * (4 * W) = 4 * (2 * W) by omega, pow256_32]
set_option maxHeartbeats 2000000 in
theorem KBytes_any (g k N gm c gr : Nat) (w : World) (h : Keyed w g k N gm c gr) (M : Nat) (hM : M = 8 + 2 * k) :
    Calls Tryz.prog 61 #[.pointer (some ⟨g, 0, none⟩)] w (GivesBs w M (keyBytes k N)) := by
  have HK := Lib.hid h
  have HM := Lib.hid hM
  have k1 := h.k1
  have k2 := h.k2
  have k3 := h.k3
  obtain ⟨W, hW⟩ : ∃ W, k = 4 * W := ⟨k / 4, by omega⟩
  have HW := Lib.hid hW
  have w1_ : 1 ≤ W := by omega
  have w2_ : W ≤ 128 := by omega
  have hring := h.ring
  rw [show k / 4 = W by omega] at hring
  have HG := Lib.hid hring
  have HN0 := Lib.hid (n0of_lt hring.odd)
  have HN := Lib.hid (Nat.lt_trans (by omega) hring.gt : 0 < N)
  clear h hM hring hW
  have qa := HK.out.q1
  go_enter Tryz.func61, Tryz.ntmps61
  go_wp2_with fail
  refine (Size_any g k N gm c gr w HK.out).mono ?_
  rintro e w1 ⟨rfl, rfl⟩
  go_wp2_with fail
  refine (Put4_any none 0 0 [] (8 * k) _ (by omega) (by omega) 4 rfl w (Rd.nil _ _ _) (Fit.nil _) (by omega)).mono ?_
  rintro e w1 ⟨rfl, hB1, hb1⟩
  have HB1 := Lib.hid hB1
  have q1 := (HK.out.below hb1).q1
  clear hB1
  go_wp2_with fail
  refine (KN0_any gr W N w1 (Whole.below HG.out hb1)).mono ?_
  rintro e w2 ⟨rfl, rfl⟩
  go_wp2_with fail
  refine (Put4_any _ 4 4 _ (n0of N) _ rfl HN0.out 8 rfl w1 (HB1.out.rd 4 rfl) (by simpa using bytesOf_fit 4 (8 * k)) (by omega)).mono ?_
  rintro e w2 ⟨rfl, hB2, hb2⟩
  rw [List.nil_append] at hB2
  have bel2 := below_then hb1 hb2
  have HB2 := Lib.hid hB2
  have q2 := (HK.out.below bel2).q1
  clear hB2 HB1
  go_wp2_with fail
  refine (RR_any gr W N w2 (Whole.below HG.out bel2)).mono ?_
  rintro e w3 ⟨A3, c3, l3, rfl, hr3, hf3, hv3, hb3⟩
  have bel3 := below_then bel2 hb3
  have HR3 := Lib.hid hr3
  have HV3 := Lib.hid hv3
  clear hr3 hv3
  go_wp2_with fail
  refine (Size_any g k N gm c gr w3 (HK.out.below bel3)).mono ?_
  rintro e w4 ⟨rfl, rfl⟩
  go_wp2_with fail
  refine (Bytes_okz A3 W c3 l3 k _ rfl w3 HR3.out hf3 w1_ (by omega) (by omega) (by rw [HV3.out]; exact Nat.lt_trans (Nat.mod_lt _ HN.out) HK.out.room)).mono ?_
  rintro e w4 ⟨g4, rfl, hg4, hB4, hb4⟩
  rw [HV3.out, rr_pow HW.out] at hB4
  have bel4 := below_then bel3 hb4
  have HB4 := Lib.hid hB4
  have hlt2 : w1.heap.size < w3.heap.size := Nat.lt_of_lt_of_le HB2.out.lt hb3.size
  have hne : g4 ≠ w1.heap.size := by omega
  have HROW : Hid (Row w4 w.heap.size 5 (some ⟨w1.heap.size, 0, none⟩) 8 8 (cn .u8 (bytesOf 4 (8 * k) ++ bytesOf 4 (n0of N)))) :=
    Blk.row ((HB2.out.below hb3 HB2.out.lt).below hb4 hlt2) hb1.size 8 (by simp [bytesOf_length]) (by omega)
  have HNE := Lib.hid hne
  have HMR := Lib.hid (HK.out.below bel4).rd
  have q4 := (HK.out.below bel4).q0
  have HBE := Lib.hid bel4
  have HSZ := Lib.hid bel4.size
  clear hB4 HB2 HR3 HV3 hne hlt2 hg4 hb1 hb2 hb3 hb4 bel2 bel3 bel4 q1 q2
  go_wp2_with (first
    | ((with_reducible refine at_dst (some 40) ?_); refine wpList_appBs (o := ⟨some 40, _, _, _, _, _⟩) rfl (.tmp 35) (.tmp 39) rfl HBE.out HSZ.out rfl HROW.out rfl HMR.out (by omega) (by omega) (8 + k) (by omega) ?_; intro A5 c5 w5 HRow5 hbe5 hB5 HG5)
    | ((with_reducible refine at_dst (some 43) ?_); refine wpList_appBs (o := ⟨some 43, _, _, _, _, _⟩) rfl (.tmp 41) (.tmp 42) rfl hbe5 hB5 rfl HRow5.out rfl ((HB4.out.rd k (bytesOf_length _ _)).grownBy HG5.out (fun ad e h => by injection e with e; injection h with h; exact HNE.out (by rw [← e] at h; exact h))) (by omega) (by omega) M (by have := HM.out; omega) ?_; intro A6 c6 w6 HRow6 hbe6 hB6 HG6))
  go_ret
  obtain ⟨g6, rfl, hg6, _, _⟩ := HRow6.out.cells (by have := HM.out; omega)
  exact ⟨g6, c6, rfl, hg6, HRow6.out, hbe6⟩
end Go.Proofs.YtlcoebenkhafcaaGreatDoor
