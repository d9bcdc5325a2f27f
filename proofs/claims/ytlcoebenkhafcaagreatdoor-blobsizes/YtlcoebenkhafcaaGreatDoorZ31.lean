/-
  What Make of package blob answers where a blob is signed with a right modulus. No condition but that the sums' tables hold what their text lays there, and that bytes are bytes. Each of the fixed keys 0 to 2: what is closed is opened as it was. No condition. The whole frame behind a region that draws its order; the fixed keys; what a signature by one of them opens to.
-/
import Derived.Test.YtlcoebenkhafcaaGreatDoorZ30
import Derived.Test.YtlcoebenkhafcaaGreatDoorZ09
import Derived.Test.YtlcoebenkhafcaaGreatDoorZ06
import Derived.Test.YtlcoebenkhafcaaGreatDoorZ25
namespace Go.Proofs.YtlcoebenkhafcaaGreatDoor
open Go.RowKit
set_option linter.unusedVariables false
set_option linter.unusedSimpArgs false
set_option maxRecDepth 100000
def made (b : Bl) (k N : Nat) (h g : List Nat) : Bl := { b with key := keyBytes k N, hash := h, sig := g }
theorem made_head (b : Bl) (k N : Nat) {h h' g g' : List Nat} (e1 : h.length = h'.length) (e2 : g.length = g'.length) : bhead (made b k N h g) = bhead (made b k N h' g') := by
  unfold bhead outl made
  simp only [e1, e2]
theorem made_aux (b : Bl) (k N : Nat) (h h' g g' : List Nat) : baux (made b k N h g) = baux (made b k N h' g') := rfl
theorem made_text (b : Bl) (k N : Nat) {h h' g g' : List Nat} (e1 : h.length = h'.length) (e2 : g.length = g'.length) : btext (made b k N h g) = btext (made b k N h' g') := by
  unfold btext
  rw [made_head b k N e1 e2, made_aux b k N h h' g g']
theorem made_right {b : Bl} {k N z : Nat} {h g : List Nat} (hh : Headed b) (hl : Listed b.ds) (hz : z = 1 ∨ z = 2) (ha : b.alg = (z : Int)) (h1 : h.length = sizeOfAlg z) (h2 : g.length = k) (k1 : 64 ≤ k) (k2 : k ≤ 512) : BRight (made b k N h g) := by
  refine ⟨hh, hl, .inr ⟨?_, ?_, ?_, ?_⟩⟩
  · show b.alg ≠ 0
    omega
  · show (h.length : Int) = szOf b.alg
    rw [h1, szOf_nat, ha]
  · show 1 ≤ (keyBytes k N).length ∧ (keyBytes k N).length ≤ 1032
    rw [keyBytes_length]; omega
  · show 1 ≤ g.length ∧ g.length ≤ 512
    omega
def madeText (b : Bl) (k N z : Nat) : List Nat := btext (made b k N (List.replicate (sizeOfAlg z) 0) (List.replicate k 0))
def madeBl (b : Bl) (k N z D : Nat) : Bl := made b k N (sumOf z (madeText b k N z)) (bytesOf k (vbe (blockOf z (sumOf z (madeText b k N z)) k) ^ D % N))
def kcells (x : BX) (gk M c : Nat) : List Value := hcells x.b ++ [.slice x.sd.A x.sd.n x.sd.cap, .slice (some ⟨gk, 0, none⟩) M c, .slice none 0 0, .slice none 0 0]
theorem kcells_len (x : BX) (gk M c : Nat) : (kcells x gk M c).length = 8 := rfl
theorem kcells_one (x : BX) (gk M c : Nat) : ∀ v ∈ kcells x gk M c, v.oneCell' = true := by
  intro v hv
  rcases List.mem_append.1 hv with hv | hv
  · exact hcells_one x.b v hv
  · simp only [List.mem_cons, List.not_mem_nil, or_false] at hv
    rcases hv with rfl | rfl | rfl | rfl <;> rfl
def R9 (W : World) (g12 : Nat) (cs : List Value) (s k : Nat) (d : Nat → Bool) (u : World) : Prop :=
  Touch [g12] W u ∧ (d 8 = false → Blk u g12 27 cs) ∧ (d 8 = true → d 10 = false → ∃ gh, Blk u g12 27 (cs.set 6 (.slice (some ⟨gh, 0, none⟩) s s)) ∧ Blk u gh 5 (cn .u8 (List.replicate s 0)) ∧ W.heap.size ≤ gh) ∧ (d 10 = true → ∃ gh gs, Blk u g12 27 ((cs.set 6 (.slice (some ⟨gh, 0, none⟩) s s)).set 7 (.slice (some ⟨gs, 0, none⟩) k k)) ∧ Blk u gh 5 (cn .u8 (List.replicate s 0)) ∧ Blk u gs 5 (cn .u8 (List.replicate k 0)) ∧ W.heap.size ≤ gh ∧ W.heap.size ≤ gs)
theorem R9.next {W u u' : World} {g12 : Nat} {cs : List Value} {s k : Nat} {d : Nat → Bool} (h : R9 W g12 cs s k d u) (hb : Below u.heap.size u u') (i : Nat) (h8 : 8 ≠ i) (h10 : 10 ≠ i) : R9 W g12 cs s k (Done.upd d i) u' := by
  obtain ⟨h1, h2, h3, h4⟩ := h
  refine ⟨h1.then_below hb, ?_, ?_, ?_⟩
  · rw [upd_ne h8]; exact fun e => (h2 e).below hb (h2 e).lt
  · rw [upd_ne h8, upd_ne h10]; exact fun e f => by obtain ⟨gh, a, b, c⟩ := h3 e f; exact ⟨gh, a.below hb a.lt, b.below hb b.lt, c⟩
  · rw [upd_ne h10]; exact fun e => by obtain ⟨gh, gs, a, b, c, d⟩ := h4 e; exact ⟨gh, gs, a.below hb a.lt, b.below hb b.lt, c.below hb c.lt, d⟩
theorem st_storeOne {P : Program} {o : Oper} {a : Act} {w : World} {K : Act → World → Prop} {Q : Exit → Act → World → Prop} {E : Prop} {b : Bool} (hw : b = true) (ty : TypeId) (x y : Operand) (ho : o.op = .store ty x y) {g i : Nat} {t : TypeId} {cs : List Value} {v : Value} (hx : a.eval x = .pointer (some ⟨g, i, none⟩)) (hy : a.eval y = v) (hB : Blk w g t cs) (hl : i < cs.length)
    (hv : v.cells = #[v]) (h1 : v.oneCell' = true) (hi : (P.info? ty).map (·.size) = some 1) (h : ∀ w', Blk w' g t (cs.set i v) → Touch [g] w w' → K (a.put o.dst undef) w') : if b = true then o.wp P a w K Q else E := by
  rw [if_pos hw]
  unfold Oper.wp execOp
  have e := run_storeVar_cell (P := P) (w := w) g i ty v hv h1 (by rw [hB.cell, List.getElem?_eq_getElem hl]; rfl) (hB.frozen i) hi
  simp only [ho, hx, hy, Instr.storeAt, Instr.sureAddr, Sem.run_bind, Sem.run_pure, Result.andThen_ok, e]
  exact h _ (hB.set_ i v) ((Touch.refl [g] w).setCell (.inl (by simp)) v)
theorem st_makeB {o : Oper} {a : Act} {w : World} {K : Act → World → Prop} {Q : Exit → Act → World → Prop} {E : Prop} {b : Bool} (hw : b = true) (x : Operand) (ho : o.op = .makeSlice 25 x x) (L : Nat) (hL : L ≤ 100000) (hx : a.eval x = .int .i64 (L : Int))
    (h : ∀ w', Blk w' w.heap.size 5 (cn .u8 (List.replicate L 0)) → Below w.heap.size w w' → K (a.put o.dst (.slice (some ⟨w.heap.size, 0, none⟩) L L)) w') : if b = true then o.wp Tryz.prog a w K Q else E := by
  rw [if_pos hw]
  obtain ⟨i0, hi, hz0, hz1, hz2⟩ := info_parts byteInfo
  have hrun : (Instr.makeSlice 25 (.int .i64 (L : Int)) (.int .i64 (L : Int))).run Tryz.prog w = .ok (.slice (some ⟨w.heap.size, 0, none⟩) L L) (w.alloc (.cells (cn .u8 (List.replicate L 0)).toArray 5)) := by
    have := run_make (P := Tryz.prog) w 25 5 i0 _ Tryz.underlying25 hi hz0 .i64 .i64 (L : Int) (L : Int) (by omega) (by omega) (by rw [hz2]; omega) (by omega)
    rw [hz1, Nat.mul_one, Int.toNat_natCast, madeB] at this
    exact this
  unfold Oper.wp
  simp [execOp, ho, hx, hrun, Result.andThen]
  exact h _ (Blk.new _ _ _) ((Below.refl _ _).alloc (Nat.le_refl _) _)
theorem Row.touch13 {u u' : World} {B g gk n c : Nat} {xs : List Value} (h : Row u B 5 (some ⟨gk, 0, none⟩) n c xs) (ht : Touch [g] u u') (hne : gk ≠ g) : Row u' B 5 (some ⟨gk, 0, none⟩) n c xs := by
  rcases h.2 with ⟨hv, h0⟩ | ⟨g2, cap', cur, hv, h1, h2, h3⟩
  · injection hv with e1; cases e1
  · injection hv with e1 e2 e3
    injection e1 with e1
    injection e1 with e1
    subst e1 e3
    exact ⟨h.1, .inr ⟨gk, c, cur, rfl, h1, (ht.block gk (by
      rcases Nat.lt_or_ge gk u.heap.size with hlt | hge
      · exact hlt
      · rw [Array.getElem?_eq_none hge] at h2; cases h2) (by simpa using hne)).trans h2, h3⟩⟩
theorem Keyed.below_at {w w' : World} {g k N gm c gr : Nat} (h : Keyed w g k N gm c gr) (hb : Below w.heap.size w w') : Keyed w' g k N gm c gr := h.below hb
def MakeP (b : Bl) (k N z D s : Nat) (w : World) (e : Ending) (w' : World) : Prop :=
  (k < 30 + s → e = .returned (.tuple #[.slice none 0 0, .int .i64 21])) ∧ (30 + s ≤ k → ∃ A n c, e = .returned (.tuple #[.slice A n c, .int .i64 0]) ∧ Row w' w.heap.size 5 A n c (cn .u8 (bbytes (madeBl b k N z D)))) ∧ Below w.heap.size w w'
set_option maxHeartbeats 16000000 in
theorem BMake_sig (x : BX) (hbx : Bare x) (z : Nat) (hz : z = 1 ∨ z = 2) (s : Nat) (hs : sizeOfAlg z = s) (Am : Option Addr) (k cm : Nat) (lm : List Nat) (As : Option Addr) (ns cs : Nat) (ls : List Nat) (w : World) (hx : BXOk w x) (hh : Headed x.b) (hl : Listed x.b.ds) (ha : x.b.alg = (z : Int))
    (hm : Bs w Am k cm lm) (hM : Modul k lm) (hse : Bs w As ns cs ls) (hns : ns ≤ 1024) (ht : Both w) : Calls Tryz.prog 23 #[.agg (hcells x.b).toArray, .slice x.sd.A x.sd.n x.sd.cap, .slice Am k cm, .slice As ns cs] w (MakeP x.b k (vbe lm) z (vbe ls) s w) := by
  obtain ⟨dH, huH, hdH⟩ := uH
  obtain ⟨dB, huB, hdB⟩ := uBl
  obtain ⟨dP, huP, hdP⟩ := uPc
  obtain ⟨W, hW⟩ : ∃ W, w.alloc (.cells (hcells x.b).toArray 23) = W := ⟨_, rfl⟩
  have X := Lib.hid (HIn.new hx hW)
  have HDS := Lib.hid hx.ds
  clear hx
  have HR1 := Lib.hid (inRange_any x.b W)
  rw [decide_eq_true hh] at HR1
  have HE : Hid (∀ w', HIn w w.heap.size x w' → Calls Tryz.prog 36 #[.slice x.sd.A x.sd.n x.sd.cap] w' fun e w2 => e = .returned (.bool true) ∧ Below w'.heap.size w' w2) := fun w' h => by
    have := encodes_any x.sd.A x.sd.n x.sd.cap x.xs w' h.ok.dl h.ok.dn h.ok.dc h.ok.dm h.ok.nm
    rw [HDS.out, decide_eq_true hl] at this
    exact this
  have HSG : Hid (∀ w' : World, Calls Tryz.prog 37 #[.agg (hcells x.b).toArray] w' fun e w2 => e = .returned (.bool true) ∧ Below w'.heap.size w' w2) := fun w' => by
    have := signed_any x.b w'
    rwa [show (x.b.alg != 0) = true by simp; omega] at this
  have k1 : 64 ≤ k := hM.1
  have k2 : k ≤ 512 := hM.2.1
  have hs64 : s = 32 ∨ s = 64 := by rw [← hs]; rcases hz with rfl | rfl <;> decide
  obtain ⟨N, hN⟩ : ∃ N, vbe lm = N := ⟨_, rfl⟩
  obtain ⟨D, hD⟩ : ∃ D, vbe ls = D := ⟨_, rfl⟩
  have HRM := Lib.hid (fun h g => made_right (k := k) (N := N) (h := h) (g := g) hh hl hz ha)
  have HZ := Lib.hid (And.intro hz (And.intro ha hs))
  have HMO := Lib.hid (And.intro hm (And.intro hM hN))
  have HSE := Lib.hid (And.intro hse hD)
  have HT := Lib.hid ht
  have HCL := Lib.hid hbx
  have hcmx : cm ≤ maxLen := by have := hm.max; unfold maxLen; omega
  have hsmx : cs ≤ maxLen := by have := hse.max; unfold maxLen; omega
  have hkm := hm.le
  have hsm := hse.le
  rw [hN, hD]
  clear hh hl ha hbx hz hs hm hM hse ht hN hD
  go_enter Tryz.func23, Tryz.ntmps23
  go_wp2_with ((with_reducible refine at_dst (some 18) ?_); refine wpList_loadAt (op := ⟨some 18, _, _, _, _, _⟩) rfl 23 (.tmp 4) rfl ⟨w.heap.size, 0, none⟩ rfl (hcells x.b) dH X.out.blk.at huH hdH iH ?_)
  refine HR1.out.mono ?_
  rintro e w1 ⟨rfl, hb1⟩
  have X1 := Lib.hid (X.out.next hb1)
  clear hb1
  go_wp2_with fail
  refine (HE.out w1 X1.out).mono ?_
  rintro e w2 ⟨rfl, hb2⟩
  have X2 := Lib.hid (X1.out.next hb2)
  clear hb2
  go_wp2_with ((with_reducible refine at_dst (some 26) ?_); refine wpList_loadAt (op := ⟨some 26, _, _, _, _, _⟩) rfl 23 (.tmp 4) rfl ⟨w.heap.size, 0, none⟩ rfl (hcells x.b) dH X2.out.blk.at huH hdH iH ?_)
  refine (HSG.out w2).mono ?_
  rintro e w3 ⟨rfl, hb3⟩
  have X3 := Lib.hid (X2.out.next hb3)
  clear hb3
  have HKM := Lib.hid (Make_ok Am k cm lm w3 (HMO.out.1.below X3.out.below).rd HMO.out.1.fit hkm hcmx HMO.out.2.1)
  rw [HMO.out.2.2] at HKM
  go_wp2_with fail
  refine HKM.out.mono ?_
  rintro e w5 ⟨gK, gm, rfl, hkey, hgm, hb5⟩
  obtain ⟨c0, gr, hkd⟩ := hkey
  have X5 : Hid (HIn w w.heap.size x w5 ∧ Keyed w5 gK k N gm c0 gr) := ⟨X3.out.next hb5, hkd⟩
  obtain ⟨M, hMk⟩ : ∃ M, M = 8 + 2 * k := ⟨_, rfl⟩
  have HMK := Lib.hid hMk
  have HKB : Hid (∀ u, Below w5.heap.size w5 u → Calls Tryz.prog 61 #[.pointer (some ⟨gK, 0, none⟩)] u (GivesBs u M (keyBytes k N))) := fun u hu => KBytes_any gK k N gm c0 gr u (X5.out.2.below_at hu) M HMK.out
  have HSZ : Hid (∀ u : World, Calls Tryz.prog 38 #[.int .i64 (z : Int)] u fun e w' => e = .returned (.int .i64 (s : Int)) ∧ w' = u) := fun u => (SizeS_any (z : Int) u).mono (fun e w' h => ⟨by rw [h.1, szOf_nat, HZ.out.2.2], h.2.symm⟩)
  have HKS : Hid (∀ u, Below w5.heap.size w5 u → Calls Tryz.prog 62 #[.pointer (some ⟨gK, 0, none⟩)] u fun e w' => e = .returned (.int .i64 (k : Int)) ∧ w' = u) := fun u hu => (Size_any gK k N gm c0 gr u (X5.out.2.below_at hu)).mono (fun e w' h => ⟨h.1, h.2.symm⟩)
  clear hkd hgm hb5 hMk HKM HR1
  go_wp2
  rename_i hKx
  refine Done.wp_region_eachA (by kernel_rfl) (by kernel_rfl) (fun d i0 a u u' => (i0 ≠ 6 ∧ Below u.heap.size u u') ∨ (i0 = 6 ∧ ∃ g12 gk c, a.tmps.getD 12 undef = .pointer (some ⟨g12, 0, none⟩) ∧ Blk u' g12 27 (kcells x gk M c) ∧ Row u' w5.heap.size 5 (some ⟨gk, 0, none⟩) M c (cn .u8 (keyBytes k N)))) (fun d iX v u => match iX with
      | 0 => v = .agg (hcells x.b).toArray
      | 1 => v = .slice x.sd.A x.sd.n x.sd.cap
      | 2 => v = .pointer (some ⟨gK, 0, none⟩)
      | 3 => d 6 = true ∨ ∃ gk c, v = .slice (some ⟨gk, 0, none⟩) M c ∧ Row u w5.heap.size 5 (some ⟨gk, 0, none⟩) M c (cn .u8 (keyBytes k N))
      | 4 => d 6 = true ∨ ∃ gk c, v = .agg (kcells x gk M c).toArray ∧ Row u w5.heap.size 5 (some ⟨gk, 0, none⟩) M c (cn .u8 (keyBytes k N))
      | 5 => ∃ g12, v = .pointer (some ⟨g12, 0, none⟩) ∧ w5.heap.size ≤ g12 ∧ (d 6 = false → Blk u g12 27 zeroB) ∧ (d 6 = true → ∃ gk c, Blk u g12 27 (kcells x gk M c) ∧ Row u w5.heap.size 5 (some ⟨gk, 0, none⟩) M c (cn .u8 (keyBytes k N)))
      | 6 => True
      | _ => True) (fun _ u => Below w5.heap.size w5 u) ?e1 (fun _ _ => ⟨rfl, rfl, rfl, Nat.le_refl _, fun _ _ => rfl⟩) ?e2 ?e3
  case e1 =>
    intro d i0 iX o a u u' ho hdi hd0 h hr hb
    rcases hb with ⟨hne, hb⟩ | ⟨rfl, g12, gk, c, hs12, hB1, hB2⟩
    · have hu : Done.upd d i0 6 = d 6 := upd_ne (fun e => hne e.symm)
      rcases iX with _ | _ | _ | _ | _ | _ | _ | iX
      · exact h
      · exact h
      · exact h
      · exact h.elim (fun h => .inl (hu.trans h)) (fun ⟨q, c, e, hB⟩ => .inr ⟨q, c, e, hB.below hb⟩)
      · exact h.elim (fun h => .inl (hu.trans h)) (fun ⟨q, c, e, hB⟩ => .inr ⟨q, c, e, hB.below hb⟩)
      · obtain ⟨q, e, hq, h1, h2⟩ := h
        exact ⟨q, e, hq, fun h => (h1 (hu.symm.trans h)).below hb (h1 (hu.symm.trans h)).lt, fun h => (by obtain ⟨r, c, hA, hB⟩ := h2 (hu.symm.trans h); exact ⟨r, c, hA.below hb hA.lt, hB.below hb⟩)⟩
      · trivial
      · trivial
    · rcases iX with _ | _ | _ | _ | _ | _ | _ | iX
      · exact h
      · exact h
      · exact h
      · exact .inl (upd_eq d 6)
      · exact .inl (upd_eq d 6)
      · obtain rfl := Option.some.inj ho
        obtain ⟨q, e, hq, h1, h2⟩ := h
        have hq6 : q = g12 := by have e2 : a.tmps.getD 12 undef = _ := e; rw [hs12] at e2; injection e2 with e2; injection e2 with e2; injection e2 with e2; exact e2.symm
        subst hq6
        exact ⟨q, e, hq, fun h => (by rw [upd_eq] at h; cases h), fun _ => ⟨gk, c, hB1, hB2⟩⟩
      · trivial
      · trivial
  case e2 =>
    intro iX o ho d aX u hr hdi hsh hall hk hpre K hK
    have e4 : aX.tmps.getD 4 undef = .pointer (some ⟨w.heap.size, 0, none⟩) := hk.slot 4 (by simp)
    have e1 : aX.tmps.getD 1 undef = .slice x.sd.A x.sd.n x.sd.cap := hk.slot 1 (by simp)
    have e10 : aX.tmps.getD 10 undef = .pointer (some ⟨gK, 0, none⟩) := hk.slot 10 (by simp)
    have HU := X5.out.1.next hr
    have rf : Below u.heap.size u u := Below.refl _ _
    rcases iX with _ | _ | _ | _ | _ | _ | _ | iX
    · obtain rfl := Option.some.inj ho
      have y4 : aX.eval (.tmp 4) = .pointer (some ⟨w.heap.size, 0, none⟩) := e4
      refine st_run (want_none rfl) (.agg (hcells x.b).toArray) (w' := u) ?_ (hK _ _ rfl (.inl ⟨by decide, rf⟩) hr)
      simp only [execOp, y4, Instr.loadAt, Instr.sureAddr, Sem.run_bind, Sem.run_pure, Result.andThen_ok, run_loadVar_at (P := Tryz.prog) (w := u) ⟨w.heap.size, 0, none⟩ 23 (hcells x.b) dH HU.blk.at huH hdH iH]
    · obtain rfl := Option.some.inj ho
      exact st_move (.tmp 1) rfl (want_none rfl) _ e1 (hK _ _ rfl (.inl ⟨by decide, rf⟩) hr)
    · obtain rfl := Option.some.inj ho
      exact st_move (.tmp 10) rfl (want_none rfl) _ e10 (hK _ _ rfl (.inl ⟨by decide, rf⟩) hr)
    · obtain rfl := Option.some.inj ho
      have y45 : aX.eval (.tmp 45) = .pointer (some ⟨gK, 0, none⟩) := (hpre 2 _ rfl ⟨⟨2, .data⟩, by simp, rfl, rfl⟩)
      exact st_callN 61 _ _ rfl (want_none rfl) #[.pointer (some ⟨gK, 0, none⟩)] (by simp [y45]) (by kernel_rfl) _ (HKB.out u hr) (by rintro _ u2 ⟨q, c, rfl, hq, hB, hb⟩; exact ⟨_, rfl, hK _ _ (.inr ⟨q, c, rfl, hB.mono hr.size⟩) (.inl ⟨by decide, hb⟩) (hr.trans (hb.mono hr.size))⟩)
    · obtain rfl := Option.some.inj ho
      have n6 : d 6 = false := by
        cases h : d 6 with
        | false => rfl
        | true => have := hsh 6 _ rfl h ⟨4, .data⟩ (by simp) rfl; rw [hdi] at this; cases this
      obtain ⟨gk, c, ev, hB⟩ := (hpre 3 _ rfl ⟨⟨3, .data⟩, by simp, rfl, rfl⟩).resolve_left (fun h => by rw [n6] at h; cases h)
      have y46 : aX.eval (.tmp 46) = _ := ev
      have y43 : aX.eval (.tmp 43) = .agg (hcells x.b).toArray := (hpre 0 _ rfl ⟨⟨0, .data⟩, by simp, rfl, rfl⟩)
      have y44 : aX.eval (.tmp 44) = .slice x.sd.A x.sd.n x.sd.cap := (hpre 1 _ rfl ⟨⟨1, .data⟩, by simp, rfl, rfl⟩)
      exact st_build (want_none rfl) 27 #[(0, .tmp 43), (1, .tmp 44), (2, .tmp 46)] rfl #[(0, .agg (hcells x.b).toArray), (1, .slice x.sd.A x.sd.n x.sd.cap), (2, .slice (some ⟨gk, 0, none⟩) M c)] (by simp [y43, y44, y46]) (.agg (kcells x gk M c).toArray) (by kernel_rfl) (hK _ _ (.inr ⟨gk, c, rfl, hB⟩) (.inl ⟨by decide, rf⟩) hr)
    · obtain rfl := Option.some.inj ho
      have n6 : d 6 = false := by
        cases h : d 6 with
        | false => rfl
        | true => have := hsh 6 _ rfl h ⟨5, .data⟩ (by simp) rfl; rw [hdi] at this; cases this
      have hba : Below u.heap.size u (u.alloc (.cells zeroB.toArray 27)) := (Below.refl _ _).alloc (Nat.le_refl _) _
      refine st_run (want_none rfl) (.pointer (some ⟨u.heap.size, 0, none⟩)) (w' := u.alloc (.cells zeroB.toArray 27)) ?_ (hK _ _ ⟨u.heap.size, rfl, hr.size, fun _ => Blk.new _ _ _, fun h => (by rw [upd_ne (by decide), n6] at h; cases h)⟩ (.inl ⟨by decide, hba⟩) (hr.trans (hba.mono hr.size)))
      first
        | kernel_rfl
        | (simp only [execOp]; go_simp; rfl)
        | (simp only [execOp]; go_simp)
    · obtain rfl := Option.some.inj ho
      obtain ⟨g12, e12, hg12, hz, _⟩ := (hpre 5 _ rfl ⟨⟨5, .data⟩, by simp, rfl, rfl⟩)
      have n6 : d 6 = false := hdi
      obtain ⟨gk, c, ev, hB⟩ := (hpre 4 _ rfl ⟨⟨4, .data⟩, by simp, rfl, rfl⟩).resolve_left (fun h => by rw [n6] at h; cases h)
      have y12 : aX.eval (.tmp 12) = _ := e12
      have y47 : aX.eval (.tmp 47) = _ := ev
      have hz6 := hz n6
      obtain ⟨_, csk, hBk, _⟩ := hB.blk
      have na : gk ≠ g12 := hBk.neT hz6 (by decide)
      exact st_storeBlk (want_none rfl) 27 (.tmp 12) (.tmp 47) rfl y12 y47 hz6 rfl iBl (kcells_one _ _ _ _) (fun u2 hB2 ht2 => hK _ _ trivial (.inr ⟨rfl, g12, gk, c, e12, hB2, hB.touch13 ht2 na⟩) (ht2.belowAt hr hg12 hr.size))
    · cases ho
  case e3 =>
    intro d aX u hd hr hk hv
    obtain ⟨g12, q12, hg12, _, hB12⟩ := hv 5 _ rfl
    obtain ⟨gk, c, hC12, hBk⟩ := hB12 (hd 6 (by decide))
    have q12 : aX.tmps.getD 12 undef = .pointer (some ⟨g12, 0, none⟩) := q12
    have hfr := keeps_frameP (fun s => decide (s = 12 ∨ (43 ≤ s ∧ s ≤ 47))) hk (by simp)
    refine hKx aX u ?_
    rw [hfr]
    generalize hff : (fun s => aX.tmps.getD s undef) = ff
    have hf12 : ff 12 = .pointer (some ⟨g12, 0, none⟩) := by rw [← hff]; exact q12
    simp only [mixP, hf12, decide_eq_true_eq, Nat.reduceAdd, Nat.reduceLeDiff, Nat.reduceEqDiff, false_or, true_or, or_false, or_true, and_true, and_false, true_and, false_and, and_self, if_true, if_false, Nat.zero_le]
    clear hfr hff hf12 q12 hv hk hKx hB12 hd
    have X8 : Hid (HIn w w.heap.size x u ∧ Below w5.heap.size w5 u ∧ Blk u g12 27 (kcells x gk M c) ∧ Row u w5.heap.size 5 (some ⟨gk, 0, none⟩) M c (cn .u8 (keyBytes k N)) ∧ w5.heap.size ≤ g12) := ⟨X5.out.1.next hr, hr, hC12, hBk, hg12⟩
    have hlt12 : g12 < u.heap.size := hC12.lt
    obtain ⟨u8, hu8⟩ : ∃ u8, u = u8 := ⟨_, rfl⟩
    subst hu8
    clear hr hC12 hBk hg12
    go_wp2
    rename_i hKx
    refine Done.wp_region_eachA (by kernel_rfl) (by kernel_rfl) (fun d i0 a q q' => Below q.heap.size q q' ∨ Touch [g12] q q') (fun d iX v q => match iX with
        | 0 => v = .pointer (some ⟨w.heap.size, 0, none⟩)
        | 1 => v = .int .i64 (z : Int)
        | 2 => v = .int .i64 (s : Int)
        | 3 => ∃ gh, v = .slice (some ⟨gh, 0, none⟩) s s ∧ Blk q gh 5 (cn .u8 (List.replicate s 0)) ∧ u.heap.size ≤ gh
        | 4 => v = .pointer (some ⟨gK, 0, none⟩)
        | 5 => v = .int .i64 (k : Int)
        | 6 => ∃ gs, v = .slice (some ⟨gs, 0, none⟩) k k ∧ Blk q gs 5 (cn .u8 (List.replicate k 0)) ∧ u.heap.size ≤ gs
        | 7 => v = .pointer (some ⟨g12, 6, none⟩)
        | 8 => True
        | 9 => v = .pointer (some ⟨g12, 7, none⟩)
        | 10 => True
        | _ => True) (R9 u g12 (kcells x gk M c) s k) ?e1 (fun d hd => ⟨(Touch.refl _ _).drew, fun _ => X8.out.2.2.1, fun h => (by rw [hd 8 (by decide)] at h; cases h), fun h => (by rw [hd 10 (by decide)] at h; cases h)⟩) ?e2 ?e3
    case e1 =>
      intro d i0 iX o a q q' ho hdi hd0 h hr hb
      rcases iX with _ | _ | _ | _ | _ | _ | _ | _ | _ | _ | _ | iX
      · exact h
      · exact h
      · exact h
      · obtain ⟨gh, e, hB, hge⟩ := h
        exact ⟨gh, e, hb.elim (fun hb => hB.below hb hB.lt) (fun ht => hB.touch ht (by simp; omega)), hge⟩
      · exact h
      · exact h
      · obtain ⟨gh, e, hB, hge⟩ := h
        exact ⟨gh, e, hb.elim (fun hb => hB.below hb hB.lt) (fun ht => hB.touch ht (by simp; omega)), hge⟩
      · exact h
      · trivial
      · exact h
      · trivial
      · trivial
    case e2 =>
      intro iX o ho d aX q hr hdi hsh hall hk hpre K hK
      have e4 : aX.tmps.getD 4 undef = .pointer (some ⟨w.heap.size, 0, none⟩) := hk.slot 4 (by simp)
      have e10 : aX.tmps.getD 10 undef = .pointer (some ⟨gK, 0, none⟩) := hk.slot 10 (by simp)
      have e12 : aX.tmps.getD 12 undef = .pointer (some ⟨g12, 0, none⟩) := hk.slot 12 (by simp)
      have hb5 : Below w5.heap.size w5 q := hr.1.belowAt X8.out.2.1 X8.out.2.2.2.2 X8.out.2.1.size
      have HU := X5.out.1.next hb5
      have u0 : q.cell? ⟨w.heap.size, 0, none⟩ = some (.int .i64 (z : Int)) := by rw [← HZ.out.2.1]; exact HU.blk.cell 0
      have hqs : u.heap.size ≤ q.heap.size := hr.1.size
      have rf : Below q.heap.size q q := Below.refl _ _
      rcases iX with _ | _ | _ | _ | _ | _ | _ | _ | _ | _ | _ | iX
      · obtain rfl := Option.some.inj ho
        have y4 : aX.eval (.tmp 4) = .pointer (some ⟨w.heap.size, 0, none⟩) := e4
        refine st_run (want_none rfl) (.pointer (some ⟨w.heap.size, 0, none⟩)) (w' := q) ?_ (hK _ _ rfl (.inl rf) (hr.next rf 0 (by decide) (by decide)))
        simp only [execOp, y4]
        go_simp
      · obtain rfl := Option.some.inj ho
        have y48 : aX.eval (.tmp 48) = .pointer (some ⟨w.heap.size, 0, none⟩) := (hpre 0 _ rfl ⟨⟨0, .data⟩, by simp, rfl, rfl⟩)
        refine st_run (want_none rfl) (.int .i64 (z : Int)) (w' := q) ?_ (hK _ _ rfl (.inl rf) (hr.next rf 1 (by decide) (by decide)))
        simp only [execOp, y48]
        go_simp
      · obtain rfl := Option.some.inj ho
        have y49 : aX.eval (.tmp 49) = .int .i64 (z : Int) := (hpre 1 _ rfl ⟨⟨1, .data⟩, by simp, rfl, rfl⟩)
        exact st_callN 38 _ _ rfl (want_none rfl) #[.int .i64 (z : Int)] (by simp [y49]) (by kernel_rfl) _ (HSZ.out q) (by rintro _ u2 ⟨rfl, rfl⟩; exact ⟨_, rfl, hK _ _ rfl (.inl rf) (hr.next rf 2 (by decide) (by decide))⟩)
      · obtain rfl := Option.some.inj ho
        have y50 : aX.eval (.tmp 50) = .int .i64 (s : Int) := (hpre 2 _ rfl ⟨⟨2, .data⟩, by simp, rfl, rfl⟩)
        exact st_makeB (want_none rfl) (.tmp 50) rfl s (by omega) y50 (fun q2 hB hb => hK _ _ ⟨q.heap.size, rfl, hB, hqs⟩ (.inl hb) (hr.next hb 3 (by decide) (by decide)))
      · obtain rfl := Option.some.inj ho
        exact st_move (.tmp 10) rfl (want_none rfl) _ e10 (hK _ _ rfl (.inl rf) (hr.next rf 4 (by decide) (by decide)))
      · obtain rfl := Option.some.inj ho
        have y52 : aX.eval (.tmp 52) = .pointer (some ⟨gK, 0, none⟩) := (hpre 4 _ rfl ⟨⟨4, .data⟩, by simp, rfl, rfl⟩)
        exact st_callN 62 _ _ rfl (want_none rfl) #[.pointer (some ⟨gK, 0, none⟩)] (by simp [y52]) (by kernel_rfl) _ (HKS.out q hb5) (by rintro _ u2 ⟨rfl, rfl⟩; exact ⟨_, rfl, hK _ _ rfl (.inl rf) (hr.next rf 5 (by decide) (by decide))⟩)
      · obtain rfl := Option.some.inj ho
        have y53 : aX.eval (.tmp 53) = .int .i64 (k : Int) := (hpre 5 _ rfl ⟨⟨5, .data⟩, by simp, rfl, rfl⟩)
        exact st_makeB (want_none rfl) (.tmp 53) rfl k (by omega) y53 (fun q2 hB hb => hK _ _ ⟨q.heap.size, rfl, hB, hqs⟩ (.inl hb) (hr.next hb 6 (by decide) (by decide)))
      · obtain rfl := Option.some.inj ho
        have y12 : aX.eval (.tmp 12) = .pointer (some ⟨g12, 0, none⟩) := e12
        refine st_run (want_none rfl) (.pointer (some ⟨g12, 6, none⟩)) (w' := q) ?_ (hK _ _ rfl (.inl rf) (hr.next rf 7 (by decide) (by decide)))
        simp only [execOp, y12]
        go_simp
      · obtain rfl := Option.some.inj ho
        have n8 : d 8 = false := hdi
        have n10 : d 10 = false := by
          cases h : d 10 with
          | false => rfl
          | true => have := hsh 10 _ rfl h ⟨8, .chain⟩ (by simp) rfl; rw [hdi] at this; cases this
        obtain ⟨gh, e51, hB, hge⟩ := (hpre 3 _ rfl ⟨⟨3, .data⟩, by simp, rfl, rfl⟩)
        have y55 : aX.eval (.tmp 55) = .pointer (some ⟨g12, 6, none⟩) := (hpre 7 _ rfl ⟨⟨7, .data⟩, by simp, rfl, rfl⟩)
        have y51 : aX.eval (.tmp 51) = _ := e51
        exact st_storeOne (want_none rfl) 25 (.tmp 55) (.tmp 51) rfl y55 y51 (hr.2.1 n8) (by rw [kcells_len]; omega) rfl rfl iB1 (fun q2 hB2 ht2 => hK _ _ trivial (.inr ht2) ⟨hr.1.trans ht2, fun h => (by rw [upd_eq] at h; cases h), fun _ _ => ⟨gh, hB2, hB.touch ht2 (by simp; omega), hge⟩, fun h => (by rw [upd_ne (by decide), n10] at h; cases h)⟩)
      · obtain rfl := Option.some.inj ho
        have y12 : aX.eval (.tmp 12) = .pointer (some ⟨g12, 0, none⟩) := e12
        refine st_run (want_none rfl) (.pointer (some ⟨g12, 7, none⟩)) (w' := q) ?_ (hK _ _ rfl (.inl rf) (hr.next rf 9 (by decide) (by decide)))
        simp only [execOp, y12]
        go_simp
      · obtain rfl := Option.some.inj ho
        have n10 : d 10 = false := hdi
        have n8 : d 8 = true := hall ⟨8, .chain⟩ (by simp) rfl
        obtain ⟨gs, e54, hBs, hgs⟩ := (hpre 6 _ rfl ⟨⟨6, .data⟩, by simp, rfl, rfl⟩)
        have y56 : aX.eval (.tmp 56) = .pointer (some ⟨g12, 7, none⟩) := (hpre 9 _ rfl ⟨⟨9, .data⟩, by simp, rfl, rfl⟩)
        have y54 : aX.eval (.tmp 54) = _ := e54
        obtain ⟨gh, hC, hBh, hgh⟩ := hr.2.2.1 n8 n10
        exact st_storeOne (want_none rfl) 25 (.tmp 56) (.tmp 54) rfl y56 y54 hC (by rw [List.length_set, kcells_len]; omega) rfl rfl iB1 (fun q2 hB2 ht2 => hK _ _ trivial (.inr ht2) ⟨hr.1.trans ht2, fun h => (by rw [upd_ne (by decide), n8] at h; cases h), fun _ h => (by rw [upd_eq] at h; cases h), fun _ => ⟨gh, gs, hB2, hBh.touch ht2 (by simp; omega), hBs.touch ht2 (by simp; omega), hgh, hgs⟩⟩)
      · cases ho
    case e3 =>
      intro d aX q hd hr hk hv
      obtain ⟨gh, gs, hC, hBh, hBs, hgh, hgs⟩ := hr.2.2.2 (hd 10 (by decide))
      have hfr := keeps_frameP (fun s => decide ((48 ≤ s ∧ s ≤ 56))) hk (by simp)
      refine hKx aX q ?_
      rw [hfr]
      generalize hff : (fun s => aX.tmps.getD s undef) = fg
      simp only [mixP, decide_eq_true_eq, Nat.reduceAdd, Nat.reduceLeDiff, Nat.reduceEqDiff, false_or, true_or, or_false, or_true, and_true, and_false, true_and, false_and, and_self, if_true, if_false, Nat.zero_le]
      clear hfr hff hv hk hKx hd
      have h5q : Below w5.heap.size w5 q := hr.1.belowAt X8.out.2.1 X8.out.2.2.2.2 X8.out.2.1.size
      obtain ⟨x2, hx2⟩ : ∃ x2 : BX, x2 = ⟨made x.b k N (List.replicate s 0) (List.replicate k 0), x.xs, x.sd, ⟨some ⟨gk, 0, none⟩, M, c⟩, ⟨some ⟨gh, 0, none⟩, s, s⟩, ⟨some ⟨gs, 0, none⟩, k, k⟩⟩ := ⟨_, rfl⟩
      have hcs : ((kcells x gk M c).set 6 (.slice (some ⟨gh, 0, none⟩) s s)).set 7 (.slice (some ⟨gs, 0, none⟩) k k) = x2.cells := by subst hx2; rfl
      rw [hcs] at hC
      have hxb : x2.b = made x.b k N (List.replicate s 0) (List.replicate k 0) := by subst hx2; rfl
      have hok : BXOk q x2 := by
        have hxq := (X5.out.1.next h5q).ok
        have hkr := (X8.out.2.2.2.1.blk)
        obtain ⟨_, csk, hBk, _⟩ := hkr
        have na : gk ≠ g12 := hBk.neT X8.out.2.2.1 (by decide)
        have hrow : Row q w5.heap.size 5 (some ⟨gk, 0, none⟩) M c (cn .u8 (keyBytes k N)) := X8.out.2.2.2.1.touch13 hr.1 na
        have b1 := hBh.bs (Fit.noughts s) (n := s) (by simp) (by omega)
        have b2 := hBs.bs (Fit.noughts k) (n := k) (by simp) (by omega)
        have b3 := hrow.bs (keyBytes_fit k N)
        subst hx2
        exact ⟨hxq.alg, hxq.idx, hxq.flags, hxq.loc, hxq.dl, hxq.ds, hxq.dn, hxq.dc, hxq.dm, hxq.nm, b3, b1, b2⟩
      have hbr : BRight x2.b := by rw [hxb]; exact HRM.out _ _ (by rw [List.length_replicate, HZ.out.2.2]) (List.length_replicate) k1 k2
      have XQ : Hid (HIn w w.heap.size x q ∧ Blk q g12 27 x2.cells ∧ BXOk q x2) := ⟨X5.out.1.next h5q, hC, hok⟩
      have HPI := Lib.hid (pieces_any x2 q hok)
      have HBR2 := Lib.hid hbr
      have HXB := Lib.hid hxb
      clear hr hC hBh hBs hgh hgs h5q hcs hxb hok hbr hx2 hlt12
      go_wp2_with ((with_reducible refine at_dst (some 58) ?_); refine wpList_loadAt (op := ⟨some 58, _, _, _, _, _⟩) rfl 27 (.tmp 12) rfl ⟨g12, 0, none⟩ rfl x2.cells dB XQ.out.2.1.at huB hdB iBl ?_)
      refine HPI.out.mono ?_
      rintro e v2 ⟨pcs, er, rfl, hcl, hco, hyes, hno, hbv2⟩
      obtain ⟨rfl, ph, pa, pu, rfl, hpc⟩ := hyes HBR2.out
      have hb3 : Below v2.heap.size v2 (v2.alloc (.cells (pcells ph pa pu).toArray 57)) := (Below.refl _ _).alloc (Nat.le_refl _) _
      have hk3 : Blk (v2.alloc (.cells (pcells ph pa pu).toArray 57)) v2.heap.size 57 (pcells ph pa pu) := Blk.new _ _ _
      obtain ⟨v3, hv3⟩ : ∃ v3, v2.alloc (.cells (pcells ph pa pu).toArray 57) = v3 := ⟨_, rfl⟩
      rw [hv3] at hb3 hk3
      obtain ⟨g13, hg13⟩ : ∃ g13, v2.heap.size = g13 := ⟨_, rfl⟩
      rw [hg13] at hk3
      have X13 : Hid (HIn w w.heap.size x v3 ∧ Blk v3 g13 57 (pcells ph pa pu) ∧ PcOk v3 x2.b ph pa pu ∧ w.heap.size ≤ g13) := ⟨(XQ.out.1.next hbv2).next hb3, hk3, hpc.below hb3, by rw [← hg13]; exact (XQ.out.1.next hbv2).below.size⟩
      have HLT : Hid ((∀ ad, ph.A = some ad → 0 < ph.n → ad.block < g13) ∧ (∀ ad, pu.A = some ad → 0 < pu.n → ad.block < g13)) := ⟨fun ad e h0 => by rw [← hg13]; exact hpc.head.rd.lt h0 ad e, fun ad e h0 => by rw [← hg13]; exact hpc.aux.rd.lt h0 ad e⟩
      have l1 := X13.out.2.2.1.head.rd.1
      have l2 := X13.out.2.2.1.auth.rd.1
      have l3 := X13.out.2.2.1.aux.rd.1
      have hle := HBR2.out.2.1.le
      have hlb : (bhead x2.b).length = 128 := obytes_length _
      have hla := baux_length x2.b
      have hlk := HBR2.out.2.2.le
      obtain ⟨T, hT⟩ : ∃ T, ph.n + pu.n = T := ⟨_, rfl⟩
      have hph : ph.n = 128 := by omega
      have hpu : pu.n ≤ 49600 := by rw [← l3, hla]; unfold up64; omega
      have hT6 : T ≤ 60000 := by omega
      have HPN := Lib.hid (And.intro hph (And.intro hpu hT))
      have hTl : (btext x2.b).length = T := by unfold btext; rw [List.length_append, l1, l3]; exact hT
      have HTL := Lib.hid hTl
      have HTE := Lib.hid (ptext_any ph pa pu _ _ v3 X13.out.2.2.1.head X13.out.2.2.1.aux T hT (by omega))
      clear hcl hco hyes hno hpc hbv2 hb3 hk3 l1 l2 l3 hle hlb hla hlk hT hTl HPI hph hpu
      go_wp2_with (first
        | ((with_reducible refine at_dst none ?_); refine wpList_storeNew (w := v2) (op := ⟨none, _, _, _, _, _⟩) rfl 57 (.tmp 13) (.tmp 60) rfl zeroP (pcells ph pa pu) (by rw [← hg13]; rfl) rfl rfl iPc (pcells_one _ _ _) ?_; rw [hv3])
        | ((with_reducible refine at_dst (some 65) ?_); refine wpList_loadAt (op := ⟨some 65, _, _, _, _, _⟩) rfl 57 (.tmp 13) rfl ⟨g13, 0, none⟩ rfl (pcells ph pa pu) dP X13.out.2.1.at huP hdP iPc ?_))
      refine HTE.out.mono ?_
      rintro e v4 ⟨A4, c4, rfl, hr4, hb4⟩
      have hrow4 : Row v4 v3.heap.size 5 A4 T c4 (cn .u8 (btext x2.b)) := hr4
      have hft : Fit 256 (btext x2.b) := btext_fit XQ.out.2.2.fits
      have X14 : Hid (HIn w w.heap.size x v4 ∧ Blk v4 g13 57 (pcells ph pa pu) ∧ PcOk v4 x2.b ph pa pu ∧ Bs v4 A4 T c4 (btext x2.b)) := ⟨X13.out.1.next hb4, X13.out.2.1.below hb4 X13.out.2.1.lt, X13.out.2.2.1.below hb4, hrow4.bs hft⟩
      have k0 : v4.cell? ⟨w.heap.size, 0, none⟩ = some (.int .i64 (z : Int)) := by rw [← HZ.out.2.1]; exact X14.out.1.blk.cell 0
      have HTX : Hid (btext x2.b = madeText x.b k N z) := by show _ = _; rw [HXB.out, madeText, HZ.out.2.2]
      have HMB : Hid (Bs v4 Am k cm lm ∧ Bs v4 As ns cs ls) := ⟨HMO.out.1.below X14.out.1.below, HSE.out.1.below X14.out.1.below⟩
      clear hr4 hb4 hrow4 hft
      by_cases hks : k < 30 + s
      · have HSN := Lib.hid (Sign_bits z HZ.out.1 s HZ.out.2.2 Am k cm lm As ns cs A4 T c4 (btext x2.b) v4 HMB.out.1.rd HMB.out.1.fit hkm hcmx HMO.out.2.1 X14.out.2.2.2.rd X14.out.2.2.2.fit X14.out.2.2.2.le hT6 (HT.out.below X14.out.1.below) hks)
        have HKS2 := Lib.hid hks
        clear hks
        go_wp2_with fail
        refine HSN.out.mono ?_
        rintro e v5 ⟨rfl, hb5⟩
        have X15 := Lib.hid (X14.out.1.next hb5)
        clear hb5
        go_wp2
        go_ret2
        exact ⟨fun _ => rfl, fun h => absurd h (by have := HKS2.out; omega), X15.out.below⟩
      · have HSN := Lib.hid (Sign_ok z HZ.out.1 s HZ.out.2.2 Am k cm lm As ns cs ls A4 T c4 (btext x2.b) v4 HMB.out.1.rd HMB.out.1.fit hkm hcmx HMO.out.2.1 HMB.out.2.rd HMB.out.2.fit hsm hsmx hns X14.out.2.2.2.rd X14.out.2.2.2.fit X14.out.2.2.2.le hT6 (HT.out.below X14.out.1.below) (by omega))
        rw [HMO.out.2.2, HSE.out.2, HTX.out] at HSN
        have HKS2 := Lib.hid hks
        clear hks
        go_wp2_with fail
        refine HSN.out.mono ?_
        rintro e v5 ⟨gg, rfl, hgg, hBg, hb5⟩
        have X15 : Hid (HIn w w.heap.size x v5 ∧ Blk v5 g13 57 (pcells ph pa pu) ∧ PcOk v5 x2.b ph pa pu ∧ Bs v5 A4 T c4 (madeText x.b k N z) ∧ Bs v5 (some ⟨gg, 0, none⟩) k k (bytesOf k (vbe (blockOf z (sumOf z (madeText x.b k N z)) k) ^ D % N)) ∧ v4.heap.size ≤ gg) := ⟨X14.out.1.next hb5, X14.out.2.1.below hb5 X14.out.2.1.lt, X14.out.2.2.1.below hb5, (by rw [← HTX.out]; exact X14.out.2.2.2.below hb5), hBg.bs (bytesOf_fit _ _) (bytesOf_length _ _) (by omega), hgg⟩
        have hb6 : Below v5.heap.size v5 (v5.alloc (.cells #[.slice A4 T c4] 25)) := (Below.refl _ _).alloc (Nat.le_refl _) _
        have hpp := parts_one ⟨A4, T, c4, madeText x.b k N z⟩ v5 X15.out.2.2.2.1.part3
        obtain ⟨v6, hv6⟩ : ∃ v6, v5.alloc (.cells #[.slice A4 T c4] 25) = v6 := ⟨_, rfl⟩
        rw [hv6] at hb6 hpp
        have HFLT : Hid (flat [⟨A4, T, c4, madeText x.b k N z⟩] = madeText x.b k N z) := by show _ = _; simp [flat]
        have HDG := Lib.hid (Digest_ok z HZ.out.1 s HZ.out.2.2 none 0 0 [] (some ⟨v5.heap.size, 0, none⟩) 1 1 _ v6 (Rd.nil _ _ _) (Fit.nil _) (Nat.le_refl _) (by omega) hpp (fun e => by cases e) (by omega) (by rw [HFLT.out, ← HTX.out, HTL.out]; exact hT6) (HT.out.below (X15.out.1.next hb6).below))
        rw [HFLT.out, List.nil_append] at HDG
        have k0' : v5.cell? ⟨w.heap.size, 0, none⟩ = some (.int .i64 (z : Int)) := by rw [← HZ.out.2.1]; exact X15.out.1.blk.cell 0
        have X16 : Hid (HIn w w.heap.size x v6 ∧ Below v5.heap.size v5 v6) := ⟨X15.out.1.next hb6, hb6⟩
        clear hgg hBg hb5 hb6 hpp k0
        go_wp2_with fail
        (try rw [hv6])
        refine HDG.out.mono ?_
        rintro e v7 ⟨gd, rfl, hgd, hBd, hb7⟩
        have hsl : (sumOf z (madeText x.b k N z)).length = s := by
          rw [← HZ.out.2.2]
          rcases HZ.out.1 with rfl | rfl
          · rw [sumOf_length1]; rfl
          · rw [sumOf_length2]; rfl
        have hb57 : Below v5.heap.size v5 v7 := X16.out.2.trans (hb7.mono X16.out.2.size)
        have X17 : Hid (HIn w w.heap.size x v7 ∧ Blk v7 g13 57 (pcells ph pa pu) ∧ PcOk v7 x2.b ph pa pu ∧ Bs v7 (some ⟨gd, 0, none⟩) s s (sumOf z (madeText x.b k N z)) ∧ Bs v7 (some ⟨gg, 0, none⟩) k k (bytesOf k (vbe (blockOf z (sumOf z (madeText x.b k N z)) k) ^ D % N))) := ⟨X16.out.1.next hb7, X15.out.2.1.below hb57 X15.out.2.1.lt, X15.out.2.2.1.below hb57, hBd.bs (sumOf_fit _ _) hsl (by omega), X15.out.2.2.2.2.1.below hb57⟩
        have HSL := Lib.hid hsl
        obtain ⟨m, hm⟩ : ∃ m, up64 (s + k) = m := ⟨_, rfl⟩
        have hmb : m ≤ 700 := by rw [← hm]; unfold up64; omega
        have HPD := Lib.hid (padded_any _ _ _ _ _ _ _ _ v7 X17.out.2.2.2.1 X17.out.2.2.2.2 (by omega) m hm)
        have HM7 := Lib.hid hm
        clear hgd hBd hb7 hsl hb57 k0' hm
        go_wp2_with fail
        refine HPD.out.mono ?_
        rintro e v8 ⟨gp, rfl, hgp, hBp, hb8⟩
        have X18 : Hid (HIn w w.heap.size x v8 ∧ Blk v8 g13 57 (pcells ph pa pu) ∧ PcOk v8 x2.b ph pa pu ∧ Blk v8 gp 5 (cn .u8 (pad (sumOf z (madeText x.b k N z) ++ bytesOf k (vbe (blockOf z (sumOf z (madeText x.b k N z)) k) ^ D % N))))) := ⟨X17.out.1.next hb8, X17.out.2.1.below hb8 X17.out.2.1.lt, X17.out.2.2.1.below hb8, hBp⟩
        clear hgp hBp hb8
        go_wp2_with ((with_reducible refine at_dst none ?_); refine stopper ?_)
        refine ⟨?_, trivial⟩
        refine wpList_storeOne (op := ⟨none, _, _, _, _, _⟩) rfl 25 (.tmp 90) (.tmp 89) rfl (g := g13) (i := 1) (t := 57) (v := .slice (some ⟨gp, 0, none⟩) m m) rfl rfl X18.out.2.1 (by show 1 < 3; omega) rfl rfl iB1 ?_
        intro v9 hU9 hT9
        have hU9b : Blk v9 g13 57 (pcells ph ⟨some ⟨gp, 0, none⟩, m, m⟩ pu) := hU9.out
        have hng : gp ≠ g13 := X18.out.2.2.2.neT X18.out.2.1 (by decide)
        have hBp9 := X18.out.2.2.2.touch hT9 (by simpa using hng)
        have hfp : Fit 256 (pad (sumOf z (madeText x.b k N z) ++ bytesOf k (vbe (blockOf z (sumOf z (madeText x.b k N z)) k) ^ D % N))) := pad_fit ((sumOf_fit _ _).append (bytesOf_fit _ _))
        have hbp9 := hBp9.bs hfp (n := m) (by rw [pad_length, List.length_append, HSL.out, bytesOf_length]; exact HM7.out) (by omega)
        have hw9 : Below w.heap.size w v9 := hT9.belowAt X18.out.1.below X13.out.2.2.2 X18.out.1.below.size
        have hhd : Bs v9 ph.A ph.n ph.cap (bhead x2.b) := X18.out.2.2.1.head.touch hT9 (fun h0 ad e hm => by have h1 := HLT.out.1 ad e h0; have h2 : ad.block = g13 := (by simpa using hm); omega)
        have hux : Bs v9 pu.A pu.n pu.cap (baux x2.b) := X18.out.2.2.1.aux.touch hT9 (fun h0 ad e hm => by have h1 := HLT.out.2 ad e h0; have h2 : ad.block = g13 := (by simpa using hm); omega)
        have hph := HPN.out.1
        have hpu := HPN.out.2.1
        have HPB := Lib.hid (pbytes_any ph ⟨some ⟨gp, 0, none⟩, m, m⟩ pu _ _ _ v9 hhd hbp9 hux (ph.n + m + pu.n) rfl (by omega))
        have HBY : Hid (bhead x2.b ++ (pad (sumOf z (madeText x.b k N z) ++ bytesOf k (vbe (blockOf z (sumOf z (madeText x.b k N z)) k) ^ D % N)) ++ baux x2.b) = bbytes (madeBl x.b k N z D)) := by
          show _ = _
          rw [HXB.out]
          unfold bbytes madeBl bauth
          rw [made_head x.b k N (h := List.replicate s 0) (h' := sumOf z (madeText x.b k N z)) (g := List.replicate k 0) (g' := bytesOf k (vbe (blockOf z (sumOf z (madeText x.b k N z)) k) ^ D % N)) (by rw [List.length_replicate, HSL.out]) (by rw [List.length_replicate, bytesOf_length])]
          rfl
        rw [HBY.out] at HPB
        have X19 : Hid (Below w.heap.size w v9 ∧ Blk v9 g13 57 (pcells ph ⟨some ⟨gp, 0, none⟩, m, m⟩ pu)) := ⟨hw9, hU9b⟩
        clear hU9 hT9 hU9b hng hBp9 hfp hbp9 hw9 hhd hux hph hpu
        go_wp2_with ((with_reducible refine at_dst (some 91) ?_); refine wpList_loadAt (op := ⟨some 91, _, _, _, _, _⟩) rfl 57 (.tmp 13) rfl ⟨g13, 0, none⟩ rfl (pcells ph ⟨some ⟨gp, 0, none⟩, m, m⟩ pu) dP X19.out.2.at huP hdP iPc ?_)
        refine HPB.out.mono ?_
        rintro e v10 ⟨A10, c10, rfl, hr10, hb10⟩
        have X20 : Hid (Row v10 w.heap.size 5 A10 (ph.n + m + pu.n) c10 (cn .u8 (bbytes (madeBl x.b k N z D))) ∧ Below w.heap.size w v10) := ⟨hr10.mono X19.out.1.size, X19.out.1.trans (hb10.mono X19.out.1.size)⟩
        clear hr10 hb10
        go_wp2
        go_ret2
        exact ⟨fun h => absurd h HKS2.out, fun _ => ⟨A10, _, c10, rfl, X20.out.1⟩, X20.out.2⟩
end Go.Proofs.YtlcoebenkhafcaaGreatDoor
namespace Go.Proofs.YtlcoebenkhafcaaGreatDoor
set_option linter.unusedVariables false
theorem keyz_ok {z : Nat} (hz : z ≤ 1) : KeyOk (keyN z) keyE (keyD z) := by
  rcases (by omega : z = 0 ∨ z = 1) with rfl | rfl
  · exact key0_ok
  · exact key1_ok
end Go.Proofs.YtlcoebenkhafcaaGreatDoor
namespace Go.Proofs.YtlcoebenkhafcaaGreatDoor
open Go.RowKit
set_option linter.unusedVariables false
set_option linter.unusedSimpArgs false
structure Fixed (z k N D : Nat) : Prop where
  k1 : 64 ≤ k
  k2 : k ≤ 256
  small : z < 2 → k = 64
  great : z = 2 → k = 128
  mo : ∀ w, Calls Tryz.prog 24 #[.int .i64 (z : Int)] w (GivesRow w k (bytesOf k N))
  se : ∀ w, Calls Tryz.prog 25 #[.int .i64 (z : Int)] w (GivesRow w k (bytesOf k D))
  modul : Modul k (bytesOf k N)
  vn : vbe (bytesOf k N) = N
  vd : vbe (bytesOf k D) = D
  room : N < 256 ^ k
  gt : 1 < N
  ok : KeyOk N keyE D
  inj : ∀ s t, s < N → t < N → s ^ keyE % N = t ^ keyE % N → s = t
theorem keyN_gt {z : Nat} (hz : z ≤ 3) : 1 < keyN z := by
  have := (keyN_modul hz).gt (bytesOf_length _ _)
  rwa [bytesOf_val (keyN_room hz)] at this
theorem fixed_of {z : Nat} (hz : z ≤ 1) : ∃ k N D, Fixed z k N D :=
  ⟨keyK z, keyN z, keyD z, (keyK_ok (by omega)).1, (keyK_ok (by omega)).2.1, fun h => by (rcases (by omega : z = 0 ∨ z = 1) with rfl | rfl <;> rfl), fun h => by (subst h; rfl), ModulusOf_any z (by omega), SecretOf_any z (by omega), keyN_modul (by omega), bytesOf_val (keyN_room (by omega)), bytesOf_val (keyD_room (by omega)), keyN_room (by omega), keyN_gt (by omega), keyz_ok hz, fun s t hs ht h => keyz_open hz hs ht h⟩
def sigOf (k N D z : Nat) (l : List Nat) : Nat := vbe (blockOf z (sumOf z l) k) ^ D % N
section
variable {y k N D z s : Nat} {l : List Nat}
theorem Fixed.blk_lt (hF : Fixed y k N D) (hz : z = 1 ∨ z = 2) (hs : sizeOfAlg z = s) (hk : 30 + s ≤ k) (l : List Nat) : vbe (blockOf z (sumOf z l) k) < N := by
  have := block_below (alg := z) hF.modul (bytesOf_length _ _) (sumOf_fit z l) (by rw [sizeAlg hz, hs]; omega)
  rwa [hF.vn] at this
theorem Fixed.sig_lt (hF : Fixed y k N D) (l : List Nat) : sigOf k N D z l < N := Nat.mod_lt _ (Nat.lt_trans Nat.zero_lt_one hF.gt)
theorem Fixed.sig_val (hF : Fixed y k N D) (l : List Nat) : vbe (bytesOf k (sigOf k N D z l)) = sigOf k N D z l := bytesOf_val (Nat.lt_trans (hF.sig_lt l) hF.room)
theorem Fixed.sig_back (hF : Fixed y k N D) (hz : z = 1 ∨ z = 2) (hs : sizeOfAlg z = s) (hk : 30 + s ≤ k) (l : List Nat) : sigOf k N D z l ^ keyE % N = vbe (blockOf z (sumOf z l) k) :=
  hF.ok.back _ (hF.blk_lt hz hs hk l)
theorem blk_bytes (hz : z = 1 ∨ z = 2) (hs : sizeOfAlg z = s) (hk : 30 + s ≤ k) (l : List Nat) : bytesOf k (vbe (blockOf z (sumOf z l) k)) = blockOf z (sumOf z l) k :=
  (bytesOf_eq (blockOf_length (by rw [sizeAlg hz, hs]; omega)) (blockOf_fit (sumOf_fit _ _)) rfl).symm
theorem Fixed.opens (hF : Fixed y k N D) (hz : z = 1 ∨ z = 2) (hs : sizeOfAlg z = s) (hk : 30 + s ≤ k) (l lo : List Nat) : Opens k N (bytesOf k (sigOf k N D z l)) (blockOf z (sumOf z lo) k) ↔ sumOf z l = sumOf z lo := by
  have e : bytesOf k (vbe (bytesOf k (sigOf k N D z l)) ^ keyE % N) = blockOf z (sumOf z l) k := by
    rw [hF.sig_val, hF.sig_back hz hs hk, blk_bytes hz hs hk]
  constructor
  · intro h
    have h2 := h.2.2
    rw [e] at h2
    exact blockOf_inj (by rw [sizeAlg hz, sizeAlg hz]) h2
  · intro h
    refine ⟨bytesOf_length _ _, by rw [hF.sig_val]; exact hF.sig_lt l, ?_⟩
    rw [e, h]
theorem Fixed.only (hF : Fixed y k N D) (hz : z = 1 ∨ z = 2) (hs : sizeOfAlg z = s) (hk : 30 + s ≤ k) (l : List Nat) {ls : List Nat} (hf : Fit 256 ls) (h : Opens k N ls (blockOf z (sumOf z l) k)) : ls = bytesOf k (sigOf k N D z l) := by
  obtain ⟨h1, h2, h3⟩ := h
  have hlt : vbe ls ^ keyE % N < 256 ^ k := Nat.lt_trans (Nat.mod_lt _ (Nat.lt_trans Nat.zero_lt_one hF.gt)) hF.room
  have h4 := congrArg vbe h3
  rw [bytesOf_val hlt, ← hF.sig_back hz hs hk l] at h4
  have h5 := hF.inj _ _ h2 (hF.sig_lt l) h4
  rw [← h5]
  exact bytesOf_eq h1 hf rfl
end
end Go.Proofs.YtlcoebenkhafcaaGreatDoor
