/-
  A step of the laws: an operation of kind 5. No condition.
-/
import Derived.Test.YtonjmbcagdkdiaaT14
import Derived.BigRegion
namespace Go.Proofs.Ytonjmbcagdkdiaa
open Go.RowKit Go.MapKept
set_option linter.unusedVariables false
set_option linter.unusedSimpArgs false
set_option maxRecDepth 100000

theorem own_empty (w : World) (t : TypeId) : Row (w.alloc (.cells #[] t)) w.heap.size t (some ⟨w.heap.size, 0, none⟩) 0 0 [] := World.ownsRow_made w #[] 0 (Nat.le_refl _) (Nat.zero_le _) (by simp)
theorem Row.blkV {w : World} {B : Nat} {e : TypeId} {g n cap : Nat} {xs : List Value} (h : Row w B e (some ⟨g, 0, none⟩) n cap xs) : B ≤ g ∧ ∃ cs, Blk w g e cs ∧ cs.length = cap ∧ cs.take n = xs := by
  rcases h.2 with ⟨e, _⟩ | ⟨g', cap', cur, e, hB, hg, h1, h2, h3, h4⟩
  · cases e
  · injection e with e1 e2 e3
    injection e1 with e1
    injection e1 with e1
    subst e1; subst e3
    refine ⟨hB, cur.toList, ?_, ?_, ?_⟩
    · unfold Blk; simpa using hg
    · simpa using h3
    · simpa using h4
theorem Row.fzV {w : World} {B : Nat} {e : TypeId} {g n cap : Nat} {xs : List Value} (h : Row w B e (some ⟨g, 0, none⟩) n cap xs) (p : Nat) : w.frozen? ⟨g, p, none⟩ = false := by
  obtain ⟨_, cs, hb, _⟩ := h.blkV
  exact hb.frozen p
theorem Row.putV {w : World} {B : Nat} {e : TypeId} {g n cap : Nat} {xs : List Value} (h : Row w B e (some ⟨g, 0, none⟩) n cap xs) (p : Nat) (u : Value) : Row (w.setCell ⟨g, p, none⟩ u) B e (some ⟨g, 0, none⟩) n cap (xs.set p u) := by
  obtain ⟨hB, cs, hb, hc, ht⟩ := h.blkV
  have hl := h.length
  have hle := h.le
  have hb2 := hb.set_ p u
  refine ⟨by rw [List.length_set]; omega, .inr ⟨g, cap, (cs.set p u).toArray, rfl, hB, hb2, hle.1, hle.2, by simp [hc], ?_⟩⟩
  rw [List.toList_toArray, Nat.mul_one, List.take_set, ht]
theorem Row.ss {w : World} {B : Nat} {e : TypeId} {A : Option Addr} {n cap : Nat} {xs : List Value} (h : Row w B e A n cap xs) : Ss w A n cap 1 xs := by
  have hle := h.le
  refine ⟨fun hp => ?_, by have := h.length; omega, hle.1, by have := hle.2; unfold maxLen at this; omega, fun ea => ?_⟩
  · obtain ⟨g, rfl, _, hlt, hc⟩ := h.cells (by have := h.length; omega)
    exact ⟨_, rfl, hlt, fun j u hu => by rw [addr_add, Nat.zero_add]; exact hc j u hu⟩
  · rcases h.2 with ⟨hv, _⟩ | ⟨g', cap', cur, hv, _⟩
    · injection hv
    · subst ea; injection hv with e1; cases e1
theorem Ss.src {w : World} {A : Option Addr} {n c : Nat} {vs : List Value} (h : Ss w A n c 1 vs) : (A = none ∧ c = 0 ∨ ∃ ad, A = some ad ∧ ∀ j u, vs[j]? = some u → w.cell? (ad.add j) = some u) ∧ (A = none → n = 0) := by
  cases A with
  | none => exact ⟨.inl ⟨rfl, h.nil rfl⟩, fun _ => by have := h.le; have := h.nil rfl; omega⟩
  | some ad =>
    refine ⟨.inr ⟨ad, rfl, fun j u hu => ?_⟩, fun e => by cases e⟩
    obtain ⟨ad', e, hc⟩ := h.rs.get hu
    injection e with e
    rw [e]; exact hc
section
variable {T T' : Tv} {D D' : Dv} {w w' w2 : World}
/-- The twin armed anew. -/
def Tv.armT (T : Tv) (n : Int) (ka : Option Addr) (kc : Nat) (kp : List Bool) : Tv := { T with armed := decide (0 ≤ n), left := n, ka := ka, kc := kc, keep := kp }
theorem Tw.armT (h : Tw w T) (n : Int) (ka : Option Addr) (kc : Nat) (kp : List Bool) (t : Touch [T.t] w w') (hb : Blk w' T.t 34 (T.armT n ka kc kp).cells) (hk : Rs w' ka (bcells kp)) (hko : 0 < kp.length → ∀ ad, ka = some ad → ad.block ∉ T.own ∧ ad.block < w'.heap.size) (hkc : kp.length ≤ kc ∧ kc ≤ 9223372036854775807) : Tw w' (T.armT n ka kc kp) :=
  h.upd n (decide (0 ≤ n)) ka kc kp T.off T.count T.told t hb hk hko hkc
/-- What the drive is behind Arm. -/
def Armed (D : Dv) (n : Int) (kp : List Bool) (B : Nat) (D' : Dv) : Prop := D'.own = D.own ∧ D'.pa = D.pa ∧ D'.pts = D.pts ∧ D'.g = D.g ∧ D'.down = D.down ∧ D'.count = D.count ∧ D'.told = D.told ∧ (∀ ad, D'.ka = some ad → B ≤ ad.block) ∧ (0 ≤ D'.left ↔ 0 ≤ n) ∧ (0 ≤ n → D'.left = n ∧ D'.keep = kp)
theorem Arm_both (D : Dv) (w : World) (h : Drv w D) (n : Int) (hn : I64 n) (A : Option Addr) (m c : Nat) (kp : List Bool) (hk : Ss w A m c 1 (bcells kp)) (hko : 0 < m → ∀ ad, A = some ad → ad.block ≠ D.g) (hm : m ≤ 16384) :
    Calls Try.prog 20 #[.pointer (some ⟨D.g, 0, none⟩), .int .i64 n, .slice A m c] w fun e w' => e = .returned (.tuple #[]) ∧ ∃ D', Drv w' D' ∧ Armed D n kp w.heap.size D' ∧ Touch [D.g] w w' := by
  by_cases h0 : n < 0
  · refine (Arm_off D w h n h0 A m c).mono ?_
    rintro e w' ⟨rfl, hd, ht⟩
    exact ⟨rfl, D.unarm, hd, ⟨rfl, rfl, rfl, rfl, rfl, rfl, rfl, (fun ad e => by cases e), ⟨fun h => by have h : (0 : Int) ≤ -1 := h; omega, fun h => by omega⟩, fun h => by omega⟩, ht⟩
  · refine (Arm_on D w h n (by omega) hn.2 A m c kp hk hko hm).mono ?_
    rintro e w' ⟨ka, kc, rfl, hd, hf, ht⟩
    exact ⟨rfl, D.arm n ka kc kp, hd, ⟨rfl, rfl, rfl, rfl, rfl, rfl, rfl, hf, Iff.rfl, fun _ => ⟨rfl, rfl⟩⟩, ht⟩
set_option maxHeartbeats 4000000 in
theorem step_arm (h : Both w T D) (o : OpV) (hk : o.kind = 5) (hn : I64 o.n) (hkp : Ss w o.kA o.kn o.kc 1 (bcells o.kp)) (hkn : o.kn ≤ 30) (hbo : 0 < o.kn → ∀ ad, o.kA = some ad → ad.block ∉ T.own ∧ ad.block ∉ D.own) :
    Calls Try.prog 12 #[.pointer (some ⟨D.g, 0, none⟩), .pointer (some ⟨T.t, 0, none⟩), Tv.op o] w (Stepped w T D) := by
  obtain ⟨kind, off, k, nm, dA, m, dc, bs, on, kA, kn, kc, kp⟩ := o
  simp only [] at hk hn hkp hkn hbo
  subst hk
  unfold Tv.op
  have HB0 : Hid (Below w.heap.size w (w.alloc (.cells #[.int .i64 5, .int .i64 off, .int .i64 k, .string nm, .slice dA m dc, .bool on, .slice kA kn kc] 41))) := (Below.refl _ _).alloc (Nat.le_refl _) _
  have HX0 : Hid (Blk (w.alloc (.cells #[.int .i64 5, .int .i64 off, .int .i64 k, .string nm, .slice dA m dc, .bool on, .slice kA kn kc] 41)) w.heap.size 41 [.int .i64 5, .int .i64 off, .int .i64 k, .string nm, .slice dA m dc, .bool on, .slice kA kn kc]) := Blk.new w _ _
  have H0 := Lib.hid h
  have HKP := Lib.hid hkp
  have HBO := Lib.hid hbo
  have hkc1 := hkp.le
  have hkc2 := hkp.max
  have HKL : Hid (kp.length = kn) := by have := hkp.len; rw [bcells_length] at this; show _ = _; omega
  have HIN := Lib.hid hn
  have hn2 := hn
  unfold I64 at hn2
  obtain ⟨i0, hi, hz0, hz1, hz2⟩ := info_parts boolInfo
  have HW : Hid (∀ (w1 : World), Below w.heap.size w w1 → ∀ {ops : Array Oper} {rest : List Oper} {o : Oper} {a : Act} {Q : Exit → Act → World → Prop} (hgd : o.guard = none) (s x : Operand) (ho : o.op = .call { callee := .builtin .append, args := #[s, x], argTypes := #[32, 32] }) (hs : a.eval s = .slice (some ⟨w1.heap.size, 0, none⟩) 0 0) (hx : a.eval x = .slice kA kn kc)
      (hk : ∀ A' c' w', Hid (Row w' w1.heap.size 4 A' kn c' ([] ++ bcells kp)) → Below w1.heap.size w1 w' → w1.heap.size ≤ w'.heap.size → wpList Try.prog ops Q rest (a.put o.dst (.slice A' kn c')) w'), wpList Try.prog ops Q (o :: rest) a (w1.alloc (.cells #[] 4))) :=
    fun w1 hb1 _ _ _ _ _ hgd s x ho hs hx hk => by
      have hss := ((HKP.out.below hb1).below ((Below.refl w1.heap.size w1).alloc (Nat.le_refl _) (.cells #[] 4))).src
      exact wpList_app hgd s x 32 4 ho Try.underlying32 hi hz0 hz1 hz2 rfl (by omega) ((Below.refl w1.heap.size w1).alloc (Nat.le_refl _) _) (by simp) hs (own_empty w1 4) hx (by rw [bcells_length, HKL.out]) hss.1 (bcells_one _) hss.2 (by omega) kn (by omega) hk
  clear h hkp hbo hn hi hz0 hz1 hz2
  go_enter Try.func12, Try.ntmps12
  go_wp2_with fail
  generalize w.alloc (.cells #[.int .i64 5, .int .i64 off, .int .i64 k, .string nm, .slice dA m dc, .bool on, .slice kA kn kc] 41) = W at *
  refine (tpart_any T _ (H0.out.tw.below HB0.out) nm).mono ?_
  rintro e w2 ⟨r, rfl, hr, hb⟩
  have HB2 := Lib.hid (below_then HB0.out hb)
  have H2 := Lib.hid (H0.out.below HB2.out)
  have HX := Lib.hid (HX0.out.below hb HX0.out.lt)
  have x0 := HX.out.cell 0
  have x6 := HX.out.cell 6
  simp only [List.getElem?_cons_zero, List.getElem?_cons_succ] at x0 x6
  have x6a : ∀ o, (w2.alloc o).cell? ⟨w.heap.size, 6, none⟩ = some (.slice kA kn kc) := fun o => (World.cell?_alloc_lt _ _ _ HX.out.lt).trans x6
  clear hb hr
  go_wp2_with (first
    | ((with_reducible refine at_dst (some 184) ?_); refine HW.out w2 HB2.out (o := ⟨some 184, _, _, _, _, _⟩) rfl (.tmp 181) (.tmp 183) rfl rfl rfl ?_; intro A3 c3 w3 HR3 hb3 hs3; have y2 : w3.cell? ⟨w.heap.size, 2, none⟩ = some (.int .i64 k) := (HX.out.below hb3 HX.out.lt).cell 2))
  have HRow : Hid (Row w3 w2.heap.size 4 A3 kn c3 (bcells kp)) := by have := HR3.out; rwa [List.nil_append] at this
  have HB3 := Lib.hid (below_then HB2.out hb3)
  have H3 := Lib.hid (H2.out.below hb3)
  have HX3 := Lib.hid (HX.out.below hb3 HX.out.lt)
  have HSZ : Hid (w.heap.size ≤ w2.heap.size ∧ w2.heap.size ≤ w3.heap.size) := ⟨HB2.out.size, hb3.size⟩
  have HAB : Hid (∀ ad, A3 = some ad → w2.heap.size ≤ ad.block ∧ ad.block < w3.heap.size) := fun ad e => HRow.out.lt ad e
  have HGL : Hid (∀ b ∈ D.own, b < w2.heap.size) := H2.out.drv.lt
  have HTL : Hid (∀ b ∈ T.own, b < w2.heap.size) := H2.out.tw.lt
  have HARM := Lib.hid (Arm_both D w3 H3.out.drv k HIN.out A3 kn c3 kp HRow.out.ss (fun _ ad e => by have h1 := (HAB.out ad e).1; have h2 := HGL.out D.g (own_g D); omega) (by omega))
  clear HR3 hb3 hs3 x0 x6 x6a HW
  go_wp2_with fail
  refine HARM.out.mono ?_
  rintro e w4 ⟨rfl, D', hD', hA', ht4⟩
  have HD4 := Lib.hid hD'
  have HA4 := Lib.hid hA'
  have HT4 : Hid (Tw w4 T) := H3.out.tw.touchFar ht4 (fun g hg => H3.out.tfar g (by rw [List.mem_singleton.1 hg]; exact own_g D))
  have HTT : Hid (Touch D.own w3 w4) := ht4.wider (fun x hx => by rw [List.mem_singleton.1 hx]; exact own_g D)
  have HNED : Hid (w.heap.size ∉ D.own) := fun hm => absurd (H0.out.drv.lt _ hm) (Nat.lt_irrefl _)
  have HNEW : Hid (w.heap.size ∉ T.own) := fun hm => absurd (H0.out.tw.lt _ hm) (Nat.lt_irrefl _)
  have HX4 := Lib.hid (HX3.out.touch HTT.out HNED.out)
  have HR4 : Hid (0 < kn → ∃ g cs, A3 = some ⟨g, 0, none⟩ ∧ Blk w4 g 4 cs ∧ ∀ j, j < kn → ∃ b : Bool, cs[j]? = some (.bool b)) := fun hpos => by
    obtain ⟨g, hg, hgB, hgl, hc⟩ := HRow.out.cells hpos
    subst hg
    obtain ⟨_, cs, hcs, hcl, hct⟩ := HRow.out.blkV
    refine ⟨g, cs, rfl, hcs.touch HTT.out (fun hm => by have := HGL.out g hm; omega), fun j hj => ?_⟩
    obtain ⟨b, hb⟩ : ∃ b, kp[j]? = some b := ⟨_, List.getElem?_eq_getElem (by rw [HKL.out]; exact hj)⟩
    have e1 := bcells_get hb
    rw [← hct, List.getElem?_take, if_pos hj] at e1
    exact ⟨b, e1⟩
  have HTF0 : Hid (Touch (T.own ++ D.own) w w4) := (Touch.of_below _ HB3.out).trans (HTT.out.wider (fun x hx => List.mem_append.2 (.inr hx)))
  clear hD' hA' ht4 HARM y2
  go_wp2
  go_loopw [192] (fun a wr => ∃ q : Nat, a = .int .i64 (q : Int) ∧ q ≤ kn ∧ Hid (0 < kn → ∃ g cs, A3 = some ⟨g, 0, none⟩ ∧ Blk wr g 4 cs ∧ ∀ j, j < kn → ∃ b : Bool, cs[j]? = some (.bool b)) ∧ Hid (Drv wr D') ∧ Hid (Tw wr T) ∧ Hid (Blk wr w.heap.size 41 [.int .i64 5, .int .i64 off, .int .i64 k, .string nm, .slice dA m dc, .bool on, .slice kA kn kc]) ∧ Hid (Touch (T.own ++ D.own) w wr)) (fun a _ => kn - (intOf a).toNat)
  case atStart => exact ⟨0, rfl, Nat.zero_le _, HR4, HD4, HT4, HX4, HTF0⟩
  case round =>
    obtain ⟨q, rfl, hqm, HQ, HDq, HTq, HXq, HTFq⟩ := hrel
    clear HR4 HD4 HT4 HX4 HTF0
    by_cases hlt : q < kn
    · have zlt : (q : Int) < (kn : Int) := by omega
      obtain ⟨g, cs, rfl, hcs, hall⟩ := HQ.out (by omega)
      obtain ⟨b, hb⟩ := hall q hlt
      have zc : wr.cell? ⟨g, q, none⟩ = some (.bool b) := (hcs.cell q).trans hb
      have zf : wr.frozen? ⟨g, q, none⟩ = false := hcs.frozen q
      have hgB := HAB.out _ rfl
      simp only [] at hgB
      have HGF : Hid (D'.far g ∧ T.far g ∧ w.heap.size ≠ g ∧ w.heap.size ≤ g) := by
        refine ⟨⟨?_, ?_, ?_⟩, ?_, by have := HX.out.lt; omega, by have := HSZ.out.1; omega⟩
        · rw [HA4.out.1]; exact fun hm => by have := HGL.out g hm; omega
        · intro ad e; rw [HA4.out.2.1] at e; have := (H2.out.drv.far_new hgB.1).2.1 ad e; exact this
        · intro ad e; have := HA4.out.2.2.2.2.2.2.2.1 ad e; omega
        · exact H2.out.tw.far_new hgB.1
      have HCS := Lib.hid hcs
      have HALL := Lib.hid hall
      have hlc : q < cs.length := (List.getElem?_eq_some_iff.1 hb).1
      clear hcs hall hb hgB
      go_wp2
      go_roundw
      case rel =>
        have tq : Touch [g] wr (wr.setCell ⟨g, q, none⟩ (.bool !b)) := (Touch.refl _ wr).setCell (p := ⟨g, q, none⟩) (.inl (by simp)) _
        refine ⟨q + 1, by go_num, by omega, fun _ => ⟨g, cs.set q (.bool !b), rfl, HCS.out.set_ q _, fun j hj => ?_⟩, HDq.out.touchFar tq (fun x hx => by rw [List.mem_singleton.1 hx]; exact HGF.out.1), HTq.out.touchFar tq (fun x hx => by rw [List.mem_singleton.1 hx]; exact HGF.out.2.1), HXq.out.touch tq (by simpa using HGF.out.2.2.1), HTFq.out.setCell (p := ⟨g, q, none⟩) (.inr HGF.out.2.2.2) _⟩
        by_cases e : q = j
        · subst e
          exact ⟨!b, List.getElem?_set_self hlc⟩
        · rw [List.getElem?_set_ne e]; exact HALL.out j hj
      case measure => simp [intOf]; omega
    · obtain rfl : q = kn := by omega
      have y2 := HXq.out.cell 2
      have y6 := HXq.out.cell 6
      simp only [List.getElem?_cons_zero, List.getElem?_cons_succ] at y2 y6
      have z3 : wr.frozen? ⟨T.t, 3, none⟩ = false := HTq.out.blk.frozen 3
      have z4 : wr.frozen? ⟨T.t, 4, none⟩ = false := HTq.out.blk.frozen 4
      have z5 : wr.frozen? ⟨T.t, 5, none⟩ = false := HTq.out.blk.frozen 5
      have v3 : wr.cell? ⟨T.t, 3, none⟩ = some (.int .i64 T.left) := HTq.out.blk.cell 3
      have v4 : wr.cell? ⟨T.t, 4, none⟩ = some (.bool T.armed) := HTq.out.blk.cell 4
      have v5 : wr.cell? ⟨T.t, 5, none⟩ = some (.slice T.ka T.keep.length T.kc) := HTq.out.blk.cell 5
      have ne1 : ¬ T.t = w.heap.size := fun e => HNEW.out (by rw [← e]; exact tw_own_t T)
      have ne2 : ¬ w.heap.size = T.t := fun e => ne1 e.symm
      obtain ⟨W5, hW5⟩ : ∃ W5, (((wr.setCell ⟨T.t, 4, none⟩ (.bool (decide (0 ≤ k)))).setCell ⟨T.t, 3, none⟩ (.int .i64 k)).setCell ⟨T.t, 5, none⟩ (.slice kA q kc)).drew = W5 := ⟨_, rfl⟩
      have t5 : Touch [T.t] wr W5 := by
        rw [← hW5]
        exact ((((Touch.refl _ wr).setCell (p := ⟨T.t, 4, none⟩) (.inl (by simp)) _).setCell (p := ⟨T.t, 3, none⟩) (.inl (by simp)) _).setCell (p := ⟨T.t, 5, none⟩) (.inl (by simp)) _).drew
      have b5 : Blk W5 T.t 34 (T.armT k kA kc kp).cells := by
        have := ((((HTq.out.blk.set_ 4 (.bool (decide (0 ≤ k)))).set_ 3 (.int .i64 k)).set_ 5 (.slice kA q kc))).drewN 1
        rw [← hW5]
        unfold Tv.cells Tv.armT
        rw [show (({ T with armed := decide (0 ≤ k), left := k, ka := kA, kc := kc, keep := kp } : Tv).keep.length) = q from HKL.out]
        exact this
      have tF : Touch (T.own ++ D.own) w W5 := HTFq.out.trans (t5.wider (fun x hx => List.mem_append.2 (.inl (by rw [List.mem_singleton.1 hx]; exact tw_own_t T))))
      have hkpos : 0 < kp.length → 0 < q := fun h => by have := HKL.out; omega
      have hout : 0 < kp.length → ∀ ad, kA = some ad → ad.block ∉ T.own ∧ ad.block ∉ D.own ∧ ad.block < W5.heap.size := fun h ad e => ⟨(HBO.out (hkpos h) ad e).1, (HBO.out (hkpos h) ad e).2, Nat.lt_of_lt_of_le (HKP.out.rs.lt (by rw [bcells_length]; exact h) ad e) tF.size⟩
      have hTw : Tw W5 (T.armT k kA kc kp) := HTq.out.armT k kA kc kp t5 b5 (HKP.out.rs.touch0 tF (fun h ad e hm => by
        rw [bcells_length] at h
        rcases List.mem_append.1 hm with hm | hm
        · exact (hout h ad e).1 hm
        · exact (hout h ad e).2.1 hm)) (fun h ad e => ⟨(hout h ad e).1, (hout h ad e).2.2⟩) ⟨by rw [HKL.out]; exact hkc1, hkc2⟩
      have hDf : ∀ b ∈ T.own, D'.far b := fun b hb => by
        have h1 := H2.out.dfar b hb
        refine ⟨by rw [HA4.out.1]; exact h1.1, fun ad e => ?_, fun ad e => ?_⟩
        · rw [HA4.out.2.1] at e; exact h1.2.1 ad e
        · have h2 := HA4.out.2.2.2.2.2.2.2.1 ad e
          have h3 := HTL.out b hb
          have h4 := HSZ.out.2
          omega
      have HF : Hid (Both W5 (T.armT k kA kc kp) D') := by
        refine ⟨HDq.out.touchFar t5 (fun g hg => hDf g (by rw [List.mem_singleton.1 hg]; exact tw_own_t T)), hTw, ⟨?_, ?_, ?_, ?_, ?_, ?_, ?_, ?_⟩, ?_, hDf, hn2.2⟩
        · rw [HA4.out.2.2.1]; exact H2.out.same.rows
        · rw [HA4.out.2.2.1]; exact H2.out.same.bads
        · rw [HA4.out.2.2.2.2.1]; exact H2.out.same.off
        · show decide (0 ≤ k) = true ↔ 0 ≤ D'.left
          rw [decide_eq_true_eq]; exact HA4.out.2.2.2.2.2.2.2.2.1.symm
        · intro ha
          have ha : decide (0 ≤ k) = true := ha
          exact (HA4.out.2.2.2.2.2.2.2.2.2 (of_decide_eq_true ha)).1.symm
        · intro ha
          have ha : decide (0 ≤ k) = true := ha
          exact (HA4.out.2.2.2.2.2.2.2.2.2 (of_decide_eq_true ha)).2.symm
        · rw [HA4.out.2.2.2.2.2.1]; exact H2.out.same.count
        · rw [HA4.out.2.2.2.2.2.2.1]; exact H2.out.same.told
        · intro b hb
          rw [HA4.out.1] at hb
          have h1 := H2.out.tfar b hb
          exact ⟨h1.1, h1.2.1, h1.2.2.1, h1.2.2.2.1, fun h ad e he => (hout h ad e).2.1 (by rw [he]; exact hb)⟩
      have HTF := Lib.hid tF
      clear t5 b5 tF hkpos hout hTw hDf
      go_wp2
      go_region
      go_wp2
      go_ret
      exact ⟨rfl, _, D', HF.out, rfl, HA4.out.2.2.2.1, rfl, HA4.out.1, by show T.count ≤ T.count + 1; omega, by show T.told ≤ T.told + 1000000; omega, Int.le_refl _, Int.le_refl _, HTF.out, rfl⟩
end
end Go.Proofs.Ytonjmbcagdkdiaa
