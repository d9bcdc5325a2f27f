/-
  VaultPlays returns true for every slice of bytes, every bool, every slice of operations and every number: its walk.
-/
import Derived.Test.YtekfjccpcbbgfaaLRises
import Derived.Deep.LoopGhost
import Derived.Deep.CutBlock
import Derived.Deep.DeepCutAuto
namespace Go.Proofs.Ytekfjccpcbbgfaa
open Go.RowKit
set_option linter.unusedVariables false
set_option linter.unusedSimpArgs false
set_option maxRecDepth 100000

/-- What the law keeps of the power: armed or not, how many changes are left, how the torn one goes. -/
def Link (V : Vt) (l : Int) (b13 b14 : Bool) : Prop := (b13 = true ∧ 0 ≤ V.lf ∧ l = V.lf ∧ b14 = V.dd) ∨ (b13 = false ∧ V.lf < 0)
/-- What a call of an operation does to a vault, and its answer. -/
def Eff (o : OpV) (V V' : Vt) (q : Int) : Prop := (o.kind = 1 → V.raise o.a o.b = (V', q)) ∧ (o.kind = 2 → V.lock o.on = (V', q)) ∧ (o.kind ≠ 1 → o.kind ≠ 2 → V' = V ∧ q = 0)
theorem did_off (V : Vt) (lk : Bool) (ix : List Nat) (h : V.lf < 0) : V.did lk ix = ({ V with lk := lk, ix := ix, ch := V.ch + 1 }, 0) := by
  unfold Vt.did; rw [if_neg (by omega), if_neg (by omega)]
theorem did_left (V : Vt) (lk : Bool) (ix : List Nat) (h : 0 < V.lf) : V.did lk ix = ({ V with lk := lk, ix := ix, ch := V.ch + 1, lf := V.lf - 1 }, 0) := by
  unfold Vt.did; rw [if_neg (by omega), if_pos h]
theorem did_torn (V : Vt) (lk : Bool) (ix : List Nat) (h : V.lf = 0) (hd : V.dd = true) : V.did lk ix = ({ V with lk := lk, ix := ix, ch := V.ch + 1, dn := true }, 42) := by
  unfold Vt.did; rw [if_pos h, if_pos hd]
theorem did_lost (V : Vt) (lk : Bool) (ix : List Nat) (h : V.lf = 0) (hd : V.dd = false) : V.did lk ix = ({ V with dn := true }, 42) := by
  unfold Vt.did; rw [if_pos h, if_neg (by rw [hd]; simp)]
theorem raise_range (V : Vt) (h : V.dn = false) (l i : Int) (hn : ¬ (0 ≤ l ∧ l < 32 ∧ 0 ≤ i ∧ i ≤ 281474976710656)) : V.raise l i = (V, 13) := by
  unfold Vt.raise; rw [if_neg (by rw [h]; simp), if_pos hn]
theorem raise_back (V : Vt) (h : V.dn = false) (j x y : Nat) (hj : j < 32) (hx : x ≤ 281474976710656) (hy : V.ix[j]? = some y) (hyx : x < y) : V.raise (j : Int) (x : Int) = (V, 52) := by
  have hgy : V.ix.getD j 0 = y := by simp [List.getD, hy]
  unfold Vt.raise
  rw [if_neg (by rw [h]; simp), if_neg (by omega), Int.toNat_natCast, Int.toNat_natCast, hgy, if_pos (by omega)]
theorem lock_up (V : Vt) (h : V.dn = false) (b : Bool) : V.lock b = V.did b V.ix := by unfold Vt.lock; rw [if_neg (by rw [h]; simp)]
theorem Eff.one {a b : Int} {on : Bool} {V V' : Vt} {q : Int} (h : V.raise a b = (V', q)) : Eff ⟨1, a, b, on⟩ V V' q := ⟨fun _ => h, fun e => absurd (show (1 : Int) = 2 from e) (by decide), fun e => absurd rfl e⟩
theorem Eff.two {a b : Int} {on : Bool} {V V' : Vt} {q : Int} (h : V.lock on = (V', q)) : Eff ⟨2, a, b, on⟩ V V' q := ⟨fun e => absurd (show (2 : Int) = 1 from e) (by decide), fun _ => h, fun _ e => absurd rfl e⟩
theorem raise_root (V : Vt) (l i : Int) : (V.raise l i).1.root = V.root := by
  unfold Vt.raise
  split
  · rfl
  · split
    · rfl
    · split
      · rfl
      · exact did_root _ _ _
theorem lock_root (V : Vt) (b : Bool) : (V.lock b).1.root = V.root := by
  unfold Vt.lock
  split
  · rfl
  · exact did_root _ _ _
theorem arm_root (V : Vt) (n : Int) (b : Bool) : (V.arm n b).root = V.root ∧ (V.arm n b).lk = V.lk ∧ (V.arm n b).dn = V.dn := by
  unfold Vt.arm; split <;> exact ⟨rfl, rfl, rfl⟩
theorem arm_link (V : Vt) (n : Int) (b : Bool) : (n < 0 → Link (V.arm n b) n false b) ∧ (¬ n < 0 → Link (V.arm n b) n true b) := by
  unfold Vt.arm
  refine ⟨fun h => ?_, fun h => ?_⟩
  · rw [if_pos h]; exact .inr ⟨rfl, (show (-1 : Int) < 0 by omega)⟩
  · rw [if_neg h]; exact .inl ⟨rfl, (show 0 ≤ n by omega), rfl, rfl⟩
theorem boot_code (V : Vt) (w : World) (h : Vlt w V) (g : Nat) (hg : V.g = g) : Calls Try.prog 12 #[.pointer (some ⟨g, 0, none⟩)] w (Goes w V { V with dn := false, lf := -1, dd := false } (.tuple #[])) := by
  subst hg
  exact Boot_any V w h
theorem run_loadIx (w : World) (g : Nat) (l : List Nat) (h : Rd .i64 w (some ⟨g, 0, none⟩) 32 l) : (Instr.loadAt 29 (.pointer (some ⟨g, 0, none⟩))).run Try.prog w = .ok (.agg (cn .i64 l).toArray) w := by
  have hlen := h.1
  have hl : (loadCells ⟨g, 0, none⟩ 32).run Try.prog w = .ok (cn .i64 l).toArray w := by
    have := run_loadCells_list (P := Try.prog) w ⟨g, 0, none⟩ (cn .i64 l) (fun j v hj => by
      have hjl := (List.getElem?_eq_some_iff.1 hj).1
      rw [cn_length] at hjl
      obtain ⟨x, hx⟩ := get_some hjl
      rw [cn_get hx] at hj
      injection hj with hj
      obtain ⟨ad', e, _, hc⟩ := h.2 (by omega)
      injection e with e
      subst e
      rw [← hj]
      exact hc j x hx)
    rwa [cn_length, hlen] at this
  have hs : (Try.prog.info? 29).map (·.size) = some 32 := by kernel_rfl
  cases hq : Try.prog.info? 29 with
  | none => simp [hq] at hs
  | some i =>
    have hs : i.size = 32 := by simpa [hq] using hs
    have hagg : (isAgg 29).run Try.prog w = .ok true w := by
      unfold isAgg
      rw [Sem.run_bind, run_underlying Try.underlying29 w]
      rfl
    simp [Instr.loadAt, Instr.sureAddr, loadVar, Sem.run_bind, hagg, sizeOf, typeInfo, hq, hs, hl]
theorem run_index_ix (l : List Nat) (j y : Nat) (hj : j < 32) (hy : l[j]? = some y) (w : World) : (Instr.index 29 (.agg (cn .i64 l).toArray) (.int .i64 (j : Int))).run Try.prog w = .ok (.int .i64 (y : Int)) w := by
  have h1 : (0 : Int) ≤ (j : Int) ∧ (j : Int) < ((32 : Nat) : Int) := ⟨by omega, by omega⟩
  have hv : (cn .i64 l)[j]? = some (.int .i64 (y : Int)) := cn_get hy
  obtain ⟨i0, hi, hz0, hz1, hz2⟩ := info_parts intInfo
  have hag : (isAgg 3).run Try.prog w = .ok false w := by
    unfold isAgg
    rw [Sem.run_bind, run_underlying Try.underlying3 w]
    rfl
  simp [Instr.index, asIntOf, run_underlying Try.underlying29, h1, sizeOf, typeInfo, hi, hz1, part, hag, hv]
  intro; omega

set_option maxHeartbeats 4000000 in
theorem plays_walk (A : Option Addr) (n c : Nat) (root : List Nat) (lk0 : Bool) (Ao : Option Addr) (no co : Nat) (f : Nat → OpV) (ask : Int) (w : World) (hb : Bs w A n c root) (hO : Ops w Ao no co f) (ha : I64 ask) :
    Calls Try.prog 3 #[.slice A n c, .bool lk0, .slice Ao no co, .int .i64 ask] w fun e w' => e = .returned (.bool true) ∧ Below w.heap.size w w' := by
  have HA := Lib.hid hO
  have HB0 := Lib.hid hb
  have hnc := hb.le
  have hcm := hb.max
  have hoc := hO.le
  have hom := hO.max
  unfold I64 at ha
  clear hb hO
  go_enter Try.func3, Try.ntmps3
  go_wp2_with fail
  refine (anchor_any w).mono ?_
  rintro e w1 ⟨rfl, hb1⟩
  have B1 := Lib.hid hb1
  clear hb1
  by_cases n1 : 100 < n
  · have zn : 100 < (n : Int) := by omega
    go_wp2
    go_ret
    exact ⟨rfl, B1.out⟩
  have zn : ¬ 100 < (n : Int) := by omega
  by_cases n2 : 100 < no
  · have zo : 100 < (no : Int) := by omega
    go_wp2
    go_ret
    exact ⟨rfl, B1.out⟩
  have zo : ¬ 100 < (no : Int) := by omega
  have HN : Hid (no ≤ 100) := by show _ ≤ _; omega
  by_cases h32 : n = 32
  case neg =>
    have z32 : ¬ (n : Int) = 32 := by omega
    go_wp2_with fail
    refine (New_no A n c lk0 w1 h32).mono ?_
    rintro e w2 ⟨rfl, rfl⟩
    go_wp2
    go_ret
    exact ⟨rfl, B1.out⟩
  subst h32
  have HRR := Lib.hid (HB0.out.rd.below B1.out)
  go_wp2_with fail
  refine (New_ok A c lk0 root w1 HRR.out).mono ?_
  rintro e w3 ⟨rfl, hV, hb3⟩
  have HV3 := Lib.hid hV
  have B3 : Hid (Below w.heap.size w w3) := B1.out.trans (hb3.mono B1.out.size)
  obtain ⟨g, hg⟩ : ∃ g, w1.heap.size = g := ⟨_, rfl⟩
  have HG : Hid (w.heap.size ≤ g) := by show _ ≤ _; rw [← hg]; exact B1.out.size
  rw [hg] at HV3
  clear hV hb3
  obtain ⟨R, hR⟩ : ∃ R, List.replicate 32 0 = R := ⟨_, rfl⟩
  have HV3' : Hid (Vlt w3 ⟨g, root, lk0, R, false, -1, false, 0⟩) := by
    have := HV3.out
    unfold Vt.new at this
    rw [hR] at this
    exact this
  have HLT : Hid (g < w3.heap.size) := HV3.out.lt
  clear HV3 HRR
  go_wp2
  generalize hW : w3.alloc _ = W4
  have HK4 : Hid (Blk W4 w3.heap.size 29 (cn .i64 R)) := by rw [← hW, ← hR]; exact Blk.new w3 29 (cn .i64 (List.replicate 32 0))
  have HV4 : Hid (Vlt W4 ⟨g, root, lk0, R, false, -1, false, 0⟩) := by rw [← hW]; exact HV3'.out.alloc _
  have B4 : Hid (Below w.heap.size w W4) := by rw [← hW]; exact B3.out.alloc B3.out.size _
  obtain ⟨gi, hgi⟩ : ∃ gi, w3.heap.size = gi := ⟨_, rfl⟩
  rw [hgi] at HK4 HLT ⊢
  have HGI : Hid (w.heap.size ≤ gi ∧ gi ≠ g) := ⟨by rw [← hgi]; exact B3.out.size, by have := HLT.out; omega⟩
  clear hW HV3' B3 hgi hR
  go_loopg [1, 12, 13, 14, 15, 16, 61] no (fun gk s1 s12 s13 s14 s15 s16 s61 wr => ∃ (k : Nat) (V : Vt) (l12 : Int) (b13 b14 : Bool), k ≤ no ∧ gk = no - k ∧ s61 = .int .i64 (k : Int) ∧ s1 = .bool V.lk ∧ s12 = .int .i64 l12 ∧ s13 = .bool b13 ∧ s14 = .bool b14 ∧ s15 = .bool V.dn ∧ s16 = .int .i64 V.ch ∧ Hid (I64 l12) ∧ Hid (Link V l12 b13 b14) ∧ Hid (V.ch ≤ k ∧ V.g = g ∧ V.root = root) ∧ Hid (Vlt wr V) ∧ Hid (Blk wr gi 29 (cn .i64 V.ix)) ∧ Hid (Below w.heap.size w wr))
  case atStart => exact ⟨0, ⟨g, root, lk0, R, false, -1, false, 0⟩, 0, false, false, Nat.zero_le _, rfl, rfl, rfl, rfl, rfl, rfl, rfl, rfl, (show I64 0 from ⟨by omega, by omega⟩), (show Link _ _ _ _ from .inr ⟨rfl, by show (-1 : Int) < 0; omega⟩), ⟨(show (0 : Int) ≤ _ by omega), rfl, rfl⟩, HV4, HK4, B4⟩
  case round =>
    obtain ⟨k, V, l12, b13, b14, hk, rfl, rfl, rfl, rfl, rfl, rfl, rfl, rfl, HI12, HLI, HCG, HV, HK, HB⟩ := hrel
    clear HV4 HK4 B4
    rename World => wo
    by_cases hlt : k < no
    · have zlt : (k : Int) < (no : Int) := by omega
      obtain ⟨ad, rfl, hop⟩ := HA.out.each k hlt
      generalize f k = o at *
      obtain ⟨kind, a, b, on⟩ := o
      obtain ⟨c0, c1, c2, c3, z0, z1, z2, _⟩ := hop.below HB.out
      simp only [] at c0 c1 c2 c3
      have HIA : Hid (I64 a) := z1
      obtain ⟨W5, hW5⟩ : ∃ W5, wo.alloc (.cells #[.int .i64 kind, .int .i64 a, .int .i64 b, .bool on] 31) = W5 := ⟨_, rfl⟩
      have HO5 : Hid (Blk W5 wo.heap.size 31 [.int .i64 kind, .int .i64 a, .int .i64 b, .bool on]) := by rw [← hW5]; exact Blk.new wo 31 [.int .i64 kind, .int .i64 a, .int .i64 b, .bool on]
      have HV5 : Hid (Vlt W5 V) := by rw [← hW5]; exact HV.out.alloc _
      have HK5 : Hid (Blk W5 gi 29 (cn .i64 V.ix)) := by rw [← hW5]; exact HK.out.alloc _
      have B5 : Hid (Below w.heap.size w W5) := by rw [← hW5]; exact HB.out.alloc HB.out.size _
      have HGO : Hid (w.heap.size ≤ wo.heap.size ∧ wo.heap.size ≠ g ∧ wo.heap.size ≠ gi) := ⟨HB.out.size, by have h1 := HV.out.lt; rw [HCG.out.2.1] at h1; omega, by have h1 := HK.out.lt; omega⟩
      have HL5 : Hid (V.ix.length = 32) := HV.out.il
      have HCC : Hid (V.ch + 1 ≤ 1152921504606846976) := by have := HCG.out.1; show _ ≤ _; omega
      have HBI : Hid (∀ x ∈ V.ix, x ≤ 281474976710656) := HV.out.ib
      have HCB : Hid (0 ≤ V.ch ∧ V.ch ≤ 100) := ⟨HV.out.cb, by have := HCG.out.1; have := HN.out; omega⟩
      have HLB : Hid (-1 ≤ V.lf ∧ V.lf ≤ 9223372036854775807) := HV.out.lb
      have d0 : W5.cell? ⟨wo.heap.size, 0, none⟩ = some (.int .i64 kind) := HO5.out.cell 0
      have d1 : W5.cell? ⟨wo.heap.size, 1, none⟩ = some (.int .i64 a) := HO5.out.cell 1
      have d2 : W5.cell? ⟨wo.heap.size, 2, none⟩ = some (.int .i64 b) := HO5.out.cell 2
      have d3 : W5.cell? ⟨wo.heap.size, 3, none⟩ = some (.bool on) := HO5.out.cell 3
      obtain ⟨b72, hb72⟩ : ∃ b72, decide (kind = 1 ∨ kind = 2) = b72 := ⟨_, rfl⟩
      have HB72 := Lib.hid hb72
      clear hop z0 z1 z2 HV HK HB hb72
      go_upto_region 16 with fail
      go_cut [72] (fun s72 wx => W5 = wx ∧ s72 = .bool b72)
      case first =>
        by_cases k1 : kind = 1
        · have e72 : b72 = true := by rw [← HB72.out]; simp [k1]
          have bk1 : (kind == 1) = true := by simpa using k1
          go_wp2_with fail
          go_meet
          exact ⟨rfl, by rw [e72]⟩
        · have bk1 : (kind == 1) = false := by simpa using k1
          by_cases k2 : kind = 2
          · have e72 : b72 = true := by rw [← HB72.out]; simp [k2]
            have bk2 : (kind == 2) = true := by simpa using k2
            go_wp2_with fail
            go_meet
            exact ⟨rfl, by rw [e72]⟩
          · have e72 : b72 = false := by rw [← HB72.out]; simp [k1, k2]
            have bk2 : (kind == 2) = false := by simpa using k2
            go_wp2_with fail
            go_meet
            exact ⟨rfl, by rw [e72]⟩
      case rest =>
        obtain ⟨rfl, rfl⟩ := hcut
        go_upto_if 72 with fail
        go_cut [1, 12, 15, 16, 19, 20] (fun s1 s12 s15 s16 s19 s20 wx => ∃ (V' : Vt) (q l12' : Int), s1 = .bool V'.lk ∧ s12 = .int .i64 l12' ∧ s15 = .bool V'.dn ∧ s16 = .int .i64 V'.ch ∧ s19 = .int .i64 q ∧ Hid (I64 l12') ∧ Hid (Link V' l12' b13 b14) ∧ Hid (Eff ⟨kind, a, b, on⟩ V V' q) ∧ Hid (Vlt wx V) ∧ Hid (Blk wx gi 29 (cn .i64 V'.ix)) ∧ Hid (Blk wx wo.heap.size 31 [.int .i64 kind, .int .i64 a, .int .i64 b, .bool on]) ∧ Hid (Below w.heap.size w wx))
        case first =>
          obtain ⟨vg, vr, vl, vx, vn, vf, vd, vc⟩ := V
          have hcb := HCB.out
          simp only [] at hcb
          have HGV : vg ≠ gi := by have := HCG.out.2.1; have := HGI.out.2; simp only [] at *; omega
          have HLX : Hid (vx.length = 32) := HL5.out
          have hne1 : ¬ wo.heap.size = gi := HGO.out.2.2
          have hne2 : ¬ gi = wo.heap.size := fun e => HGO.out.2.2 e.symm
          cases b72 with
          | false =>
            have k1 : ¬ kind = 1 := fun e => by have := HB72.out; simp [e] at this
            have k2 : ¬ kind = 2 := fun e => by have := HB72.out; simp [e] at this
            as_aux_lemma =>
              go_wp2_with fail
              go_meet
              exact ⟨⟨vg, vr, vl, vx, vn, vf, vd, vc⟩, 0, l12, rfl, rfl, rfl, rfl, rfl, HI12, HLI, (show Eff _ _ _ _ from ⟨fun e => absurd e k1, fun e => absurd e k2, fun _ _ => ⟨rfl, rfl⟩⟩), HV5.out, HK5.out, HO5.out, B5.out⟩
          | true =>
            by_cases k1 : kind = 1
            · subst k1
              cases vn with
              | true =>
                as_aux_lemma =>
                  go_wp2_with fail
                  go_meet
                  exact ⟨⟨vg, vr, vl, vx, true, vf, vd, vc⟩, 42, l12, rfl, rfl, rfl, rfl, rfl, HI12, HLI, Eff.one (raise_down _ rfl _ _), HV5.out, HK5.out, HO5.out, B5.out⟩
              | false =>
                by_cases a0 : a < 0
                · as_aux_lemma =>
                    go_wp2_with fail
                    go_meet
                    exact ⟨⟨vg, vr, vl, vx, false, vf, vd, vc⟩, 13, l12, rfl, rfl, rfl, rfl, rfl, HI12, HLI, Eff.one (raise_range _ rfl _ _ (by omega)), HV5.out, HK5.out, HO5.out, B5.out⟩
                by_cases a1 : 31 < a
                · as_aux_lemma =>
                    go_wp2_with fail
                    go_meet
                    exact ⟨⟨vg, vr, vl, vx, false, vf, vd, vc⟩, 13, l12, rfl, rfl, rfl, rfl, rfl, HI12, HLI, Eff.one (raise_range _ rfl _ _ (by omega)), HV5.out, HK5.out, HO5.out, B5.out⟩
                by_cases b0 : b < 0
                · as_aux_lemma =>
                    go_wp2_with fail
                    go_meet
                    exact ⟨⟨vg, vr, vl, vx, false, vf, vd, vc⟩, 13, l12, rfl, rfl, rfl, rfl, rfl, HI12, HLI, Eff.one (raise_range _ rfl _ _ (by omega)), HV5.out, HK5.out, HO5.out, B5.out⟩
                by_cases b1 : 281474976710656 < b
                · as_aux_lemma =>
                    go_wp2_with fail
                    go_meet
                    exact ⟨⟨vg, vr, vl, vx, false, vf, vd, vc⟩, 13, l12, rfl, rfl, rfl, rfl, rfl, HI12, HLI, Eff.one (raise_range _ rfl _ _ (by omega)), HV5.out, HK5.out, HO5.out, B5.out⟩
                obtain ⟨j, rfl⟩ : ∃ j : Nat, a = j := ⟨a.toNat, by omega⟩
                obtain ⟨x, rfl⟩ : ∃ x : Nat, b = x := ⟨b.toNat, by omega⟩
                have hj : j < 32 := by omega
                have hx : x ≤ 281474976710656 := by omega
                have zj : (j : Int) < 32 := by omega
                obtain ⟨y, hy⟩ := get_some (l := vx) (i := j) (by rw [HLX.out]; exact hj)
                have HY := Lib.hid hy
                have ei : W5.cell? ⟨gi, j, none⟩ = some (.int .i64 (y : Int)) := (HK5.out.cell j).trans (cn_get hy)
                have zi : W5.frozen? ⟨gi, j, none⟩ = false := HK5.out.frozen j
                have HKS : Hid (∀ m, Blk ((W5.drewN m).setCell ⟨gi, j, none⟩ (.int .i64 (x : Int))) gi 29 (cn .i64 (vx.set j x))) := fun m => by
                  have := (HK5.out.drewN m).set_ j (.int .i64 (x : Int))
                  rwa [cn_set] at this
                clear hy
                by_cases hxy : (x : Int) < (y : Int)
                · as_aux_lemma =>
                    go_wp2_with fail
                    go_quiet (fail)
                    go_wp2_with fail
                    go_meet
                    exact ⟨⟨vg, vr, vl, vx, false, vf, vd, vc⟩, 52, l12, rfl, rfl, rfl, rfl, rfl, HI12, HLI, Eff.one (raise_back _ rfl j x y hj hx HY.out (by omega)), HV5.out.drewN _, HK5.out.drewN _, HO5.out.drewN _, below_drewN B5.out _⟩
                · have hyx : y ≤ x := by omega
                  rcases HLI.out with ⟨e13, hp, e12, e14⟩ | ⟨e13, hn⟩
                  · simp only [] at hp e12 e14
                    have e12 := e12.symm
                    have e14 := e14.symm
                    subst e13 e12 e14
                    by_cases h0 : vf = 0
                    · subst h0
                      cases vd with
                      | true =>
                        as_aux_lemma =>
                          go_wp2_with fail
                          go_quiet (fail)
                          go_wp2_with fail
                          go_meet
                          exact ⟨⟨vg, vr, vl, vx.set j x, true, 0, true, vc + 1⟩, 42, 0, rfl, rfl, rfl, rfl, rfl, HI12, .inl ⟨rfl, Int.le_refl _, rfl, rfl⟩, Eff.one ((raise_up _ rfl j x y hj hx HY.out hyx).trans (did_torn _ _ _ rfl rfl)), (HV5.out.drewN _).touch (set_touch gi j _ _) (by simpa using HGV), HKS.out _, (HO5.out.drewN _).far (p := ⟨gi, j, none⟩) HGO.out.2.2 _, (below_drewN B5.out _).setCell (p := ⟨gi, j, none⟩) HGI.out.1 _⟩
                      | false =>
                        as_aux_lemma =>
                          go_wp2_with fail
                          go_quiet (fail)
                          go_wp2_with fail
                          go_meet
                          exact ⟨⟨vg, vr, vl, vx, true, 0, false, vc⟩, 42, 0, rfl, rfl, rfl, rfl, rfl, HI12, .inl ⟨rfl, Int.le_refl _, rfl, rfl⟩, Eff.one ((raise_up _ rfl j x y hj hx HY.out hyx).trans (did_lost _ _ _ rfl rfl)), HV5.out.drewN _, HK5.out.drewN _, HO5.out.drewN _, below_drewN B5.out _⟩
                    · have hq : 0 < vf := by omega
                      have hub : vf ≤ 9223372036854775807 := HLB.out.2
                      as_aux_lemma =>
                        go_wp2_with fail
                        go_quiet (fail)
                        go_wp2_with fail
                        go_meet
                        exact ⟨⟨vg, vr, vl, vx.set j x, false, vf - 1, vd, vc + 1⟩, 0, (vf - 1), rfl, rfl, rfl, rfl, rfl, ⟨by omega, by omega⟩, .inl ⟨rfl, (show 0 ≤ vf - 1 by omega), rfl, rfl⟩, Eff.one ((raise_up _ rfl j x y hj hx HY.out hyx).trans (did_left _ _ _ hq)), (HV5.out.drewN _).touch (set_touch gi j _ _) (by simpa using HGV), HKS.out _, (HO5.out.drewN _).far (p := ⟨gi, j, none⟩) HGO.out.2.2 _, (below_drewN B5.out _).setCell (p := ⟨gi, j, none⟩) HGI.out.1 _⟩
                  · simp only [] at hn
                    subst e13
                    as_aux_lemma =>
                      go_wp2_with fail
                      go_quiet (fail)
                      go_wp2_with fail
                      go_meet
                      exact ⟨⟨vg, vr, vl, vx.set j x, false, vf, vd, vc + 1⟩, 0, l12, rfl, rfl, rfl, rfl, rfl, HI12, .inr ⟨rfl, hn⟩, Eff.one ((raise_up _ rfl j x y hj hx HY.out hyx).trans (did_off _ _ _ hn)), (HV5.out.drewN _).touch (set_touch gi j _ _) (by simpa using HGV), HKS.out _, (HO5.out.drewN _).far (p := ⟨gi, j, none⟩) HGO.out.2.2 _, (below_drewN B5.out _).setCell (p := ⟨gi, j, none⟩) HGI.out.1 _⟩
            · have k2 : kind = 2 := by have := HB72.out; simpa [k1] using this
              subst k2
              clear k1
              cases vn with
              | true =>
                as_aux_lemma =>
                  go_wp2_with fail
                  go_meet
                  exact ⟨⟨vg, vr, vl, vx, true, vf, vd, vc⟩, 42, l12, rfl, rfl, rfl, rfl, rfl, HI12, HLI, Eff.two (lock_down _ rfl _), HV5.out, HK5.out, HO5.out, B5.out⟩
              | false =>
                rcases HLI.out with ⟨e13, hp, e12, e14⟩ | ⟨e13, hn⟩
                · simp only [] at hp e12 e14
                  have e12 := e12.symm
                  have e14 := e14.symm
                  subst e13 e12 e14
                  by_cases h0 : vf = 0
                  · subst h0
                    cases vd with
                    | true =>
                      as_aux_lemma =>
                        go_wp2_with fail
                        go_quiet (fail)
                        go_wp2_with fail
                        go_meet
                        exact ⟨⟨vg, vr, on, vx, true, 0, true, vc + 1⟩, 42, 0, rfl, rfl, rfl, rfl, rfl, HI12, .inl ⟨rfl, Int.le_refl _, rfl, rfl⟩, Eff.two ((lock_up _ rfl on).trans (did_torn _ _ _ rfl rfl)), HV5.out.drewN _, HK5.out.drewN _, HO5.out.drewN _, below_drewN B5.out _⟩
                    | false =>
                      as_aux_lemma =>
                        go_wp2_with fail
                        go_quiet (fail)
                        go_wp2_with fail
                        go_meet
                        exact ⟨⟨vg, vr, vl, vx, true, 0, false, vc⟩, 42, 0, rfl, rfl, rfl, rfl, rfl, HI12, .inl ⟨rfl, Int.le_refl _, rfl, rfl⟩, Eff.two ((lock_up _ rfl on).trans (did_lost _ _ _ rfl rfl)), HV5.out.drewN _, HK5.out.drewN _, HO5.out.drewN _, below_drewN B5.out _⟩
                  · have hq : 0 < vf := by omega
                    have hub : vf ≤ 9223372036854775807 := HLB.out.2
                    as_aux_lemma =>
                      go_wp2_with fail
                      go_quiet (fail)
                      go_wp2_with fail
                      go_meet
                      exact ⟨⟨vg, vr, on, vx, false, vf - 1, vd, vc + 1⟩, 0, (vf - 1), rfl, rfl, rfl, rfl, rfl, ⟨by omega, by omega⟩, .inl ⟨rfl, (show 0 ≤ vf - 1 by omega), rfl, rfl⟩, Eff.two ((lock_up _ rfl on).trans (did_left _ _ _ hq)), HV5.out.drewN _, HK5.out.drewN _, HO5.out.drewN _, below_drewN B5.out _⟩
                · simp only [] at hn
                  subst e13
                  as_aux_lemma =>
                    go_wp2_with fail
                    go_quiet (fail)
                    go_wp2_with fail
                    go_meet
                    exact ⟨⟨vg, vr, on, vx, false, vf, vd, vc + 1⟩, 0, l12, rfl, rfl, rfl, rfl, rfl, HI12, .inr ⟨rfl, hn⟩, Eff.two ((lock_up _ rfl on).trans (did_off _ _ _ hn)), HV5.out.drewN _, HK5.out.drewN _, HO5.out.drewN _, below_drewN B5.out _⟩
        case rest =>
          obtain ⟨V', q, l12', rfl, rfl, rfl, rfl, rfl, HI2, HL2, HE2, HV2, HK2, HO2, HB2⟩ := hcut
          have d0 : wc.cell? ⟨wo.heap.size, 0, none⟩ = some (.int .i64 kind) := HO2.out.cell 0
          have d1 : wc.cell? ⟨wo.heap.size, 1, none⟩ = some (.int .i64 a) := HO2.out.cell 1
          have d2 : wc.cell? ⟨wo.heap.size, 2, none⟩ = some (.int .i64 b) := HO2.out.cell 2
          have d3 : wc.cell? ⟨wo.heap.size, 3, none⟩ = some (.bool on) := HO2.out.cell 3
          go_upto_block 3 with fail
          go_cut [1, 12, 13, 14, 15, 16, 21] (fun s1 s12 s13 s14 s15 s16 s21 wx => ∃ (V2 : Vt) (l2 : Int) (c13 c14 : Bool), s1 = .bool V2.lk ∧ s12 = .int .i64 l2 ∧ s13 = .bool c13 ∧ s14 = .bool c14 ∧ s15 = .bool V2.dn ∧ s16 = .int .i64 V2.ch ∧ s21 = .int .i64 q ∧ Hid (I64 l2) ∧ Hid (Link V2 l2 c13 c14) ∧ Hid (V2.ch ≤ V.ch + 1 ∧ V2.g = g ∧ V2.root = root) ∧ Hid (Vlt wx V2) ∧ Hid (Blk wx gi 29 (cn .i64 V2.ix)) ∧ Hid (Below w.heap.size w wx))
          case first =>
            by_cases k1 : kind = 1
            · subst k1
              as_aux_lemma =>
                have HRS := Lib.hid (raise_code V wc HV2.out HCC.out a b V' q (HE2.out.1 rfl) g HCG.out.2.1)
                have hx := raise_rise V a b on
                have hg := raise_g V a b
                have hrt := raise_root V a b
                have he := HE2.out.1 rfl
                simp only [] at he
                rw [he] at hx hg hrt
                have HX : Hid (V'.ch ≤ V.ch + 1 ∧ V'.g = g ∧ V'.root = root) := ⟨hx.2, hg.trans HCG.out.2.1, hrt.trans HCG.out.2.2⟩
                clear hx hg hrt he
                go_wp2_with fail
                refine HRS.out.mono ?_
                intro e w6 h6
                have B6 := Lib.hid (h6.below HB2.out (by rw [HCG.out.2.1]; exact HG.out) HB2.out.size)
                obtain ⟨rfl, hV6, hT6⟩ := h6
                have HV6 := Lib.hid hV6
                have HK6 := Lib.hid (HK2.out.touch hT6 (by rw [HCG.out.2.1]; simpa using HGI.out.2))
                clear hV6 hT6
                go_wp2_with fail
                go_meet
                exact ⟨V', l12', b13, b14, rfl, rfl, rfl, rfl, rfl, rfl, rfl, HI2, HL2, HX, HV6, HK6, B6⟩
            by_cases k2 : kind = 2
            · subst k2
              as_aux_lemma =>
                have HRS := Lib.hid (lock_code V wc HV2.out HCC.out on V' q (HE2.out.2.1 rfl) g HCG.out.2.1)
                have hx := lock_rise V ⟨2, a, b, on⟩ on
                have hg := lock_g V on
                have hrt := lock_root V on
                have he := HE2.out.2.1 rfl
                simp only [] at he
                rw [he] at hx hg hrt
                have HX : Hid (V'.ch ≤ V.ch + 1 ∧ V'.g = g ∧ V'.root = root) := ⟨hx.2, hg.trans HCG.out.2.1, hrt.trans HCG.out.2.2⟩
                clear hx hg hrt he
                go_wp2_with fail
                refine HRS.out.mono ?_
                intro e w6 h6
                have B6 := Lib.hid (h6.below HB2.out (by rw [HCG.out.2.1]; exact HG.out) HB2.out.size)
                obtain ⟨rfl, hV6, hT6⟩ := h6
                have HV6 := Lib.hid hV6
                have HK6 := Lib.hid (HK2.out.touch hT6 (by rw [HCG.out.2.1]; simpa using HGI.out.2))
                clear hV6 hT6
                go_wp2_with fail
                go_meet
                exact ⟨V', l12', b13, b14, rfl, rfl, rfl, rfl, rfl, rfl, rfl, HI2, HL2, HX, HV6, HK6, B6⟩
            have hsame := HE2.out.2.2 k1 k2
            obtain ⟨rfl, rfl⟩ := hsame
            have HX : Hid (V'.ch ≤ V'.ch + 1 ∧ V'.g = g ∧ V'.root = root) := ⟨(show V'.ch ≤ V'.ch + 1 by omega), HCG.out.2⟩
            by_cases k3 : kind = 3
            · subst k3
              as_aux_lemma =>
                have HRS : Hid (Calls Try.prog 11 #[.pointer (some ⟨g, 0, none⟩), .int .i64 a, .bool on] wc (Goes wc V' (V'.arm a on) (.tuple #[]))) := by
                  have := Arm_any V' wc HV2.out a on HIA.out.2
                  rwa [HCG.out.2.1] at this
                obtain ⟨r1, r2, r3⟩ := arm_root V' a on
                obtain ⟨m1, m2, m3⟩ := arm_same V' a on
                have HX2 : Hid ((V'.arm a on).ch ≤ V'.ch + 1 ∧ (V'.arm a on).g = g ∧ (V'.arm a on).root = root) := ⟨by rw [m2]; omega, m3.trans HCG.out.2.1, r1.trans HCG.out.2.2⟩
                have HM : Hid ((V'.arm a on).lk = V'.lk ∧ (V'.arm a on).dn = V'.dn ∧ (V'.arm a on).ch = V'.ch ∧ (V'.arm a on).ix = V'.ix) := ⟨r2, r3, m2, m1⟩
                have HAL := Lib.hid (arm_link V' a on)
                generalize V'.arm a on = V3 at *
                clear r1 r2 r3 m1 m2 m3
                have HKn : Hid (∀ w6, Touch [V'.g] wc w6 → Blk w6 gi 29 (cn .i64 V3.ix)) := fun w6 t => by rw [HM.out.2.2.2]; exact HK2.out.touch t (by rw [HCG.out.2.1]; simpa using HGI.out.2)
                have HOn : Hid (∀ w6, Touch [V'.g] wc w6 → Blk w6 wo.heap.size 31 [.int .i64 3, .int .i64 a, .int .i64 b, .bool on]) := fun w6 t => HO2.out.touch t (by rw [HCG.out.2.1]; simpa using HGO.out.2.1)
                by_cases a0 : a < 0
                · go_wp2_with fail
                  refine HRS.out.mono ?_
                  intro e w6 h6
                  have B6 := Lib.hid (h6.below HB2.out (by rw [HCG.out.2.1]; exact HG.out) HB2.out.size)
                  obtain ⟨rfl, hV6, hT6⟩ := h6
                  have HV6 := Lib.hid hV6
                  have HK6 := Lib.hid (HKn.out w6 hT6)
                  have HO6 := Lib.hid (HOn.out w6 hT6)
                  have f1 : w6.cell? ⟨wo.heap.size, 1, none⟩ = some (.int .i64 a) := HO6.out.cell 1
                  have f3 : w6.cell? ⟨wo.heap.size, 3, none⟩ = some (.bool on) := HO6.out.cell 3
                  clear hV6 hT6
                  go_wp2_with fail
                  go_quiet (fail)
                  go_wp2_with fail
                  go_meet
                  exact ⟨V3, a, false, on, by rw [HM.out.1], rfl, congrArg Value.bool (decide_eq_false (by omega)), rfl, by rw [HM.out.2.1], by rw [HM.out.2.2.1], rfl, HIA, HAL.out.1 a0, HX2, HV6.out.drewN _, HK6.out.drewN _, below_drewN B6.out _⟩
                · go_wp2_with fail
                  refine HRS.out.mono ?_
                  intro e w6 h6
                  have B6 := Lib.hid (h6.below HB2.out (by rw [HCG.out.2.1]; exact HG.out) HB2.out.size)
                  obtain ⟨rfl, hV6, hT6⟩ := h6
                  have HV6 := Lib.hid hV6
                  have HK6 := Lib.hid (HKn.out w6 hT6)
                  have HO6 := Lib.hid (HOn.out w6 hT6)
                  have f1 : w6.cell? ⟨wo.heap.size, 1, none⟩ = some (.int .i64 a) := HO6.out.cell 1
                  have f3 : w6.cell? ⟨wo.heap.size, 3, none⟩ = some (.bool on) := HO6.out.cell 3
                  clear hV6 hT6
                  go_wp2_with fail
                  go_quiet (fail)
                  go_wp2_with fail
                  go_meet
                  exact ⟨V3, a, true, on, by rw [HM.out.1], rfl, rfl, rfl, by rw [HM.out.2.1], by rw [HM.out.2.2.1], rfl, HIA, HAL.out.2 a0, HX2, HV6.out.drewN _, HK6.out.drewN _, below_drewN B6.out _⟩
            by_cases k4 : kind = 4
            · subst k4
              as_aux_lemma =>
                have HRS := Lib.hid (boot_code V' wc HV2.out g HCG.out.2.1)
                go_wp2_with fail
                refine HRS.out.mono ?_
                intro e w6 h6
                have B6 := Lib.hid (h6.below HB2.out (by rw [HCG.out.2.1]; exact HG.out) HB2.out.size)
                obtain ⟨rfl, hV6, hT6⟩ := h6
                have HV6 := Lib.hid hV6
                have HK6 := Lib.hid (HK2.out.touch hT6 (by rw [HCG.out.2.1]; simpa using HGI.out.2))
                clear hV6 hT6
                go_wp2_with fail
                go_meet
                exact ⟨{ V' with dn := false, lf := -1, dd := false }, l12', false, b14, rfl, rfl, rfl, rfl, rfl, rfl, rfl, HI2, (show Link _ _ _ _ from .inr ⟨rfl, (show (-1 : Int) < 0 by omega)⟩), HX, HV6, HK6, B6⟩
            as_aux_lemma =>
              go_wp2_with fail
              go_meet
              exact ⟨V', l12', b13, b14, rfl, rfl, rfl, rfl, rfl, rfl, rfl, HI2, HL2, HX, HV2, HK2, HB2⟩
          case rest =>
            clear d0 d1 d2 d3 HB2 HK2 HV2 HO2
            obtain ⟨V2, l2, c13, c14, rfl, rfl, rfl, rfl, rfl, rfl, rfl, HI3, HL3, HC3, HV3, HK3, HB3⟩ := hcut
            have HLK : Hid (∀ u, Below wc.heap.size wc u → Calls Try.prog 13 #[.pointer (some ⟨g, 0, none⟩)] u (fun e w' => e = .returned (.bool V2.lk) ∧ u = w')) := fun u hr => by
              have := Locked_any V2 u (HV3.out.below hr); rwa [HC3.out.2.1] at this
            have HDW : Hid (∀ u, Below wc.heap.size wc u → Calls Try.prog 14 #[.pointer (some ⟨g, 0, none⟩)] u (fun e w' => e = .returned (.bool V2.dn) ∧ u = w')) := fun u hr => by
              have := Down_any V2 u (HV3.out.below hr); rwa [HC3.out.2.1] at this
            have HCHG : Hid (∀ u, Below wc.heap.size wc u → Calls Try.prog 15 #[.pointer (some ⟨g, 0, none⟩)] u (fun e w' => e = .returned (.int .i64 V2.ch) ∧ u = w')) := fun u hr => by
              have := Changes_any V2 u (HV3.out.below hr); rwa [HC3.out.2.1] at this
            have HRT : Hid (∀ u, Below wc.heap.size wc u → Calls Try.prog 16 #[.pointer (some ⟨g, 0, none⟩)] u (GivesB u 32 root)) := fun u hr => by
              have := Root_any V2 u (HV3.out.below hr); rwa [HC3.out.2.1, HC3.out.2.2] at this
            have HRA := Lib.hid (HB0.out.rd.below HB3.out)
            go_upto_region 46 with fail
            rename_i hKx
            as_aux_lemma =>
              refine wp_region_eachW (by kernel_rfl) (by kernel_rfl) (fun u u' => Below u.heap.size u u') (fun iX v u => match iX with
                  | 0 => v = .int .i64 q
                  | 1 => v = .int .i64 q
                  | 2 => v = .bool false
                  | 3 => v = .bool false
                  | 4 => v = .pointer (some ⟨g, 0, none⟩)
                  | 5 => v = .bool V2.lk
                  | 6 => v = .bool V2.lk
                  | 7 => v = .bool false
                  | 8 => v = .bool false
                  | 9 => v = .bool false
                  | 10 => v = .pointer (some ⟨g, 0, none⟩)
                  | 11 => v = .bool V2.dn
                  | 12 => v = .bool V2.dn
                  | 13 => v = .bool false
                  | 14 => v = .bool false
                  | 15 => v = .bool false
                  | 16 => v = .pointer (some ⟨g, 0, none⟩)
                  | 17 => v = .int .i64 V2.ch
                  | 18 => v = .int .i64 V2.ch
                  | 19 => v = .bool false
                  | 20 => v = .bool false
                  | 21 => v = .bool false
                  | 22 => v = .pointer (some ⟨g, 0, none⟩)
                  | 23 => ∃ A9 c9, v = .slice A9 32 c9 ∧ Rd .u8 u A9 32 root
                  | 24 => v = .string (str root)
                  | 25 => v = .slice A 32 c
                  | 26 => v = .string (str root)
                  | 27 => v = .bool false
                  | 28 => v = .bool false
                  | _ => True) (fun u => Below wc.heap.size wc u) ?m1 (fun _ _ h1 h2 => h1.trans (h2.mono h1.size)) ⟨rfl, rfl, rfl, Nat.le_refl _, fun _ _ => rfl⟩ ?m2 ?m3
              case m1 =>
                intro iX v u u' h hr hb
                rcases iX with _ | _ | _ | _ | _ | _ | _ | _ | _ | _ | _ | _ | _ | _ | _ | _ | _ | _ | _ | _ | _ | _ | _ | _ | _ | _ | _ | _ | _ | iX
                · exact h
                · exact h
                · exact h
                · exact h
                · exact h
                · exact h
                · exact h
                · exact h
                · exact h
                · exact h
                · exact h
                · exact h
                · exact h
                · exact h
                · exact h
                · exact h
                · exact h
                · exact h
                · exact h
                · exact h
                · exact h
                · exact h
                · exact h
                · obtain ⟨A9, c9, e9, h9⟩ := h; exact ⟨A9, c9, e9, h9.below hb⟩
                · exact h
                · exact h
                · exact h
                · exact h
                · exact h
                · trivial
              case m2 =>
                intro iX o ho aX u hr hk hpre K hK
                have e21 : aX.tmps.getD 21 undef = .int .i64 q := hk.slot 21 (by simp)
                have e19 : aX.tmps.getD 19 undef = .int .i64 q := hk.slot 19 (by simp)
                have e9 : aX.tmps.getD 9 undef = .pointer (some ⟨g, 0, none⟩) := hk.slot 9 (by simp)
                have e1 : aX.tmps.getD 1 undef = .bool V2.lk := hk.slot 1 (by simp)
                have e15 : aX.tmps.getD 15 undef = .bool V2.dn := hk.slot 15 (by simp)
                have e16 : aX.tmps.getD 16 undef = .int .i64 V2.ch := hk.slot 16 (by simp)
                have e0 : aX.tmps.getD 0 undef = .slice A 32 c := hk.slot 0 (by simp)
                have rf : Below u.heap.size u u := Below.refl _ _
                rcases iX with _ | _ | _ | _ | _ | _ | _ | _ | _ | _ | _ | _ | _ | _ | _ | _ | _ | _ | _ | _ | _ | _ | _ | _ | _ | _ | _ | _ | _ | iX
                · obtain rfl := Option.some.inj ho
                  exact st_move (.tmp 21) rfl (want_none rfl) _ e21 (hK _ _ rfl rf)
                · obtain rfl := Option.some.inj ho
                  exact st_move (.tmp 19) rfl (want_none rfl) _ e19 (hK _ _ rfl rf)
                · obtain rfl := Option.some.inj ho
                  have y186 : aX.eval (.tmp 186) = .int .i64 q := (hpre 0 _ rfl ⟨⟨0, .data⟩, by simp, rfl, rfl⟩)
                  have y187 : aX.eval (.tmp 187) = .int .i64 q := (hpre 1 _ rfl ⟨⟨1, .data⟩, by simp, rfl, rfl⟩)
                  refine st_run (want_none rfl) (.bool false) (w' := u) ?_ (hK _ _ rfl rf)
                  simp only [execOp, y186, y187]
                  go_simp
                · obtain rfl := Option.some.inj ho
                  exact st_move (.tmp 188) rfl (want_none rfl) _ (hpre 2 _ rfl ⟨⟨2, .data⟩, by simp, rfl, rfl⟩) (hK _ _ rfl rf)
                · obtain rfl := Option.some.inj ho
                  exact st_move (.tmp 9) rfl (want_some rfl rfl rfl (hpre 3 _ rfl ⟨⟨3, .guard⟩, by simp, rfl, rfl⟩)) _ e9 (hK _ _ rfl rf)
                · obtain rfl := Option.some.inj ho
                  have x0 : aX.eval (.tmp 190) = .pointer (some ⟨g, 0, none⟩) := (hpre 4 _ rfl ⟨⟨4, .data⟩, by simp, rfl, rfl⟩)
                  exact st_callN 13 _ _ rfl (want_some rfl rfl rfl (hpre 3 _ rfl ⟨⟨3, .guard⟩, by simp, rfl, rfl⟩)) #[.pointer (some ⟨g, 0, none⟩)] (by simp [x0]) (by kernel_rfl) _ (HLK.out u hr) (by rintro _ u2 ⟨rfl, rfl⟩; exact ⟨_, rfl, hK _ _ rfl rf⟩)
                · obtain rfl := Option.some.inj ho
                  exact st_move (.tmp 1) rfl (want_some rfl rfl rfl (hpre 3 _ rfl ⟨⟨3, .guard⟩, by simp, rfl, rfl⟩)) _ e1 (hK _ _ rfl rf)
                · obtain rfl := Option.some.inj ho
                  have y191 : aX.eval (.tmp 191) = .bool V2.lk := (hpre 5 _ rfl ⟨⟨5, .data⟩, by simp, rfl, rfl⟩)
                  have y192 : aX.eval (.tmp 192) = .bool V2.lk := (hpre 6 _ rfl ⟨⟨6, .data⟩, by simp, rfl, rfl⟩)
                  refine st_run (want_some rfl rfl rfl (hpre 3 _ rfl ⟨⟨3, .guard⟩, by simp, rfl, rfl⟩)) (.bool false) (w' := u) ?_ (hK _ _ rfl rf)
                  simp only [execOp, y191, y192]
                  go_simp
                · obtain rfl := Option.some.inj ho
                  exact st_pick (.tmp 189) (.const (.bool true)) (.tmp 193) rfl (want_none rfl) false (hpre 3 _ rfl ⟨⟨3, .data⟩, by simp, rfl, rfl⟩) _ ((if_neg (by decide)).trans (hpre 7 _ rfl ⟨⟨7, .data⟩, by simp, rfl, rfl⟩)) (hK _ _ rfl rf)
                · obtain rfl := Option.some.inj ho
                  exact st_move (.tmp 194) rfl (want_none rfl) _ (hpre 8 _ rfl ⟨⟨8, .data⟩, by simp, rfl, rfl⟩) (hK _ _ rfl rf)
                · obtain rfl := Option.some.inj ho
                  exact st_move (.tmp 9) rfl (want_some rfl rfl rfl (hpre 9 _ rfl ⟨⟨9, .guard⟩, by simp, rfl, rfl⟩)) _ e9 (hK _ _ rfl rf)
                · obtain rfl := Option.some.inj ho
                  have x0 : aX.eval (.tmp 196) = .pointer (some ⟨g, 0, none⟩) := (hpre 10 _ rfl ⟨⟨10, .data⟩, by simp, rfl, rfl⟩)
                  exact st_callN 14 _ _ rfl (want_some rfl rfl rfl (hpre 9 _ rfl ⟨⟨9, .guard⟩, by simp, rfl, rfl⟩)) #[.pointer (some ⟨g, 0, none⟩)] (by simp [x0]) (by kernel_rfl) _ (HDW.out u hr) (by rintro _ u2 ⟨rfl, rfl⟩; exact ⟨_, rfl, hK _ _ rfl rf⟩)
                · obtain rfl := Option.some.inj ho
                  exact st_move (.tmp 15) rfl (want_some rfl rfl rfl (hpre 9 _ rfl ⟨⟨9, .guard⟩, by simp, rfl, rfl⟩)) _ e15 (hK _ _ rfl rf)
                · obtain rfl := Option.some.inj ho
                  have y197 : aX.eval (.tmp 197) = .bool V2.dn := (hpre 11 _ rfl ⟨⟨11, .data⟩, by simp, rfl, rfl⟩)
                  have y198 : aX.eval (.tmp 198) = .bool V2.dn := (hpre 12 _ rfl ⟨⟨12, .data⟩, by simp, rfl, rfl⟩)
                  refine st_run (want_some rfl rfl rfl (hpre 9 _ rfl ⟨⟨9, .guard⟩, by simp, rfl, rfl⟩)) (.bool false) (w' := u) ?_ (hK _ _ rfl rf)
                  simp only [execOp, y197, y198]
                  go_simp
                · obtain rfl := Option.some.inj ho
                  exact st_pick (.tmp 195) (.const (.bool true)) (.tmp 199) rfl (want_none rfl) false (hpre 9 _ rfl ⟨⟨9, .data⟩, by simp, rfl, rfl⟩) _ ((if_neg (by decide)).trans (hpre 13 _ rfl ⟨⟨13, .data⟩, by simp, rfl, rfl⟩)) (hK _ _ rfl rf)
                · obtain rfl := Option.some.inj ho
                  exact st_move (.tmp 200) rfl (want_none rfl) _ (hpre 14 _ rfl ⟨⟨14, .data⟩, by simp, rfl, rfl⟩) (hK _ _ rfl rf)
                · obtain rfl := Option.some.inj ho
                  exact st_move (.tmp 9) rfl (want_some rfl rfl rfl (hpre 15 _ rfl ⟨⟨15, .guard⟩, by simp, rfl, rfl⟩)) _ e9 (hK _ _ rfl rf)
                · obtain rfl := Option.some.inj ho
                  have x0 : aX.eval (.tmp 202) = .pointer (some ⟨g, 0, none⟩) := (hpre 16 _ rfl ⟨⟨16, .data⟩, by simp, rfl, rfl⟩)
                  exact st_callN 15 _ _ rfl (want_some rfl rfl rfl (hpre 15 _ rfl ⟨⟨15, .guard⟩, by simp, rfl, rfl⟩)) #[.pointer (some ⟨g, 0, none⟩)] (by simp [x0]) (by kernel_rfl) _ (HCHG.out u hr) (by rintro _ u2 ⟨rfl, rfl⟩; exact ⟨_, rfl, hK _ _ rfl rf⟩)
                · obtain rfl := Option.some.inj ho
                  exact st_move (.tmp 16) rfl (want_some rfl rfl rfl (hpre 15 _ rfl ⟨⟨15, .guard⟩, by simp, rfl, rfl⟩)) _ e16 (hK _ _ rfl rf)
                · obtain rfl := Option.some.inj ho
                  have y203 : aX.eval (.tmp 203) = .int .i64 V2.ch := (hpre 17 _ rfl ⟨⟨17, .data⟩, by simp, rfl, rfl⟩)
                  have y204 : aX.eval (.tmp 204) = .int .i64 V2.ch := (hpre 18 _ rfl ⟨⟨18, .data⟩, by simp, rfl, rfl⟩)
                  refine st_run (want_some rfl rfl rfl (hpre 15 _ rfl ⟨⟨15, .guard⟩, by simp, rfl, rfl⟩)) (.bool false) (w' := u) ?_ (hK _ _ rfl rf)
                  simp only [execOp, y203, y204]
                  go_simp
                · obtain rfl := Option.some.inj ho
                  exact st_pick (.tmp 201) (.const (.bool true)) (.tmp 205) rfl (want_none rfl) false (hpre 15 _ rfl ⟨⟨15, .data⟩, by simp, rfl, rfl⟩) _ ((if_neg (by decide)).trans (hpre 19 _ rfl ⟨⟨19, .data⟩, by simp, rfl, rfl⟩)) (hK _ _ rfl rf)
                · obtain rfl := Option.some.inj ho
                  exact st_move (.tmp 206) rfl (want_none rfl) _ (hpre 20 _ rfl ⟨⟨20, .data⟩, by simp, rfl, rfl⟩) (hK _ _ rfl rf)
                · obtain rfl := Option.some.inj ho
                  exact st_move (.tmp 9) rfl (want_some rfl rfl rfl (hpre 21 _ rfl ⟨⟨21, .guard⟩, by simp, rfl, rfl⟩)) _ e9 (hK _ _ rfl rf)
                · obtain rfl := Option.some.inj ho
                  have x0 : aX.eval (.tmp 208) = .pointer (some ⟨g, 0, none⟩) := (hpre 22 _ rfl ⟨⟨22, .data⟩, by simp, rfl, rfl⟩)
                  exact st_callN 16 _ _ rfl (want_some rfl rfl rfl (hpre 21 _ rfl ⟨⟨21, .guard⟩, by simp, rfl, rfl⟩)) #[.pointer (some ⟨g, 0, none⟩)] (by simp [x0]) (by kernel_rfl) _ (HRT.out u hr) (by rintro _ u2 ⟨g9, c9, rfl, _, hr9, hb9⟩; exact ⟨_, rfl, hK _ _ ⟨_, _, rfl, hr9.rd⟩ hb9⟩)
                · obtain rfl := Option.some.inj ho
                  obtain ⟨A9, c9, e9, h9⟩ := (hpre 23 _ rfl ⟨⟨23, .data⟩, by simp, rfl, rfl⟩)
                  exact st_conv (.tmp 209) rfl (want_some rfl rfl rfl (hpre 21 _ rfl ⟨⟨21, .guard⟩, by simp, rfl, rfl⟩)) _ _ _ _ e9 h9 (hK _ _ rfl rf)
                · obtain rfl := Option.some.inj ho
                  exact st_move (.tmp 0) rfl (want_some rfl rfl rfl (hpre 21 _ rfl ⟨⟨21, .guard⟩, by simp, rfl, rfl⟩)) _ e0 (hK _ _ rfl rf)
                · obtain rfl := Option.some.inj ho
                  exact st_conv (.tmp 211) rfl (want_some rfl rfl rfl (hpre 21 _ rfl ⟨⟨21, .guard⟩, by simp, rfl, rfl⟩)) _ _ _ _ (hpre 25 _ rfl ⟨⟨25, .data⟩, by simp, rfl, rfl⟩) (HRA.out.below hr) (hK _ _ rfl rf)
                · obtain rfl := Option.some.inj ho
                  have h27 := hK (.bool false) u rfl rf
                  exact st_neqStrB (.tmp 210) (.tmp 212) rfl (want_some rfl rfl rfl (hpre 21 _ rfl ⟨⟨21, .guard⟩, by simp, rfl, rfl⟩)) root root HB0.out.fit HB0.out.fit (hpre 24 _ rfl ⟨⟨24, .data⟩, by simp, rfl, rfl⟩) (hpre 26 _ rfl ⟨⟨26, .data⟩, by simp, rfl, rfl⟩) (by rw [decide_eq_true rfl]; exact h27)
                · obtain rfl := Option.some.inj ho
                  exact st_pick (.tmp 207) (.const (.bool true)) (.tmp 213) rfl (want_none rfl) false (hpre 21 _ rfl ⟨⟨21, .data⟩, by simp, rfl, rfl⟩) _ ((if_neg (by decide)).trans (hpre 27 _ rfl ⟨⟨27, .data⟩, by simp, rfl, rfl⟩)) (hK _ _ rfl rf)
                · cases ho
              case m3 =>
                intro aX u hr hk hv
                have q214 : aX.tmps.getD 214 undef = .bool false := hv 28 _ rfl
                have hfr := keeps_frameP (fun s => decide ((186 ≤ s ∧ s ≤ 214))) hk (by simp)
                refine hKx aX u ?_
                rw [hfr]
                generalize hff : (fun s => aX.tmps.getD s undef) = ff
                have hf214 : ff 214 = .bool false := by rw [← hff]; exact q214
                simp only [mixP, hf214, decide_eq_true_eq, Nat.reduceAdd, Nat.reduceLeDiff, Nat.reduceEqDiff, false_or, true_or, or_false, or_true, and_true, and_false, true_and, false_and, and_self, if_true, if_false, Nat.zero_le]
                clear hfr hff hf214 q214 hv hk
                have HB5 := Lib.hid (HB3.out.trans (hr.mono HB3.out.size))
                have HV5 := Lib.hid (HV3.out.below hr)
                have HK5 := Lib.hid (HK3.out.below hr HK3.out.lt)
                have HLX : Hid (V2.ix.length = 32) := HV3.out.il
                have HLD := Lib.hid (run_loadIx u gi V2.ix (HK5.out.rd 32 HLX.out))
                have HIN : Hid (∀ (j y : Nat), j < 32 → V2.ix[j]? = some y → ∀ w, (Instr.index 29 (.agg (cn .i64 V2.ix).toArray) (.int .i64 (j : Int))).run Try.prog w = .ok (.int .i64 (y : Int)) w) := fun j y hj hy w => run_index_ix V2.ix j y hj hy w
                generalize (cn .i64 V2.ix).toArray = Z at HLD HIN
                clear hr hKx HRT HCHG HDW HLK HRA
                go_wp2_with (first
                  | ((with_reducible refine at_dst (some 215) ?_); refine wpList_load_run (o := ⟨some 215, _, _, _, _, _⟩) rfl (.tmp 11) 29 rfl _ _ rfl HLD.out ?_))
                go_loopg [216] 32 (fun gk s216 wr => ∃ i : Nat, i ≤ 32 ∧ gk = 32 - i ∧ s216 = .int .i64 (i : Int) ∧ u = wr)
                case atStart => exact ⟨0, Nat.zero_le _, rfl, rfl, rfl⟩
                case round =>
                  obtain ⟨i, hi, rfl, rfl, rfl⟩ := hrel
                  by_cases hi32 : i < 32
                  · have zi : (i : Int) < 32 := by omega
                    obtain ⟨y, hy⟩ := get_some (l := V2.ix) (i := i) (by rw [HLX.out]; exact hi32)
                    have hix := HIN.out i y hi32 hy
                    have HIX := Lib.hid (index_code V2 u HV5.out g HC3.out.2.1 i y hy)
                    clear hy
                    go_wp2_with fail
                    refine HIX.out.mono ?_
                    rintro e w7 ⟨rfl, rfl⟩
                    go_wp2
                    go_roundg (32 - (i + 1))
                    case measure => omega
                    case rel => exact ⟨i + 1, by omega, rfl, by go_num, rfl⟩
                  · obtain rfl : i = 32 := by omega
                    go_wp2
                    go_roundg (no - (k + 1))
                    case measure => omega
                    case rel => exact ⟨k + 1, V2, l2, c13, c14, by omega, rfl, by go_num, rfl, rfl, rfl, rfl, rfl, rfl, HI3, HL3, ⟨(show V2.ch ≤ ((k + 1 : Nat) : Int) by have h1 := HC3.out.1; have h2 := HCG.out.1; omega), HC3.out.2⟩, HV5, HK5, HB5⟩
    · obtain rfl : k = no := by omega
      as_aux_lemma =>
        by_cases hin : 0 ≤ ask ∧ ask < 32
        · obtain ⟨j, rfl⟩ : ∃ j : Nat, ask = j := ⟨ask.toNat, by omega⟩
          have hj : j < 32 := by omega
          have zj : (j : Int) < 32 := by omega
          obtain ⟨y, hy⟩ := get_some (l := V.ix) (i := j) (by rw [HV.out.il]; exact hj)
          have HIX := Lib.hid (index_code V wo HV.out g HCG.out.2.1 j y hy)
          clear hin hy HK HV
          go_wp2_with fail
          refine HIX.out.mono ?_
          rintro e w7 ⟨rfl, rfl⟩
          go_wp2
          go_ret
          exact ⟨rfl, HB.out⟩
        · have HIX : Hid (Calls Try.prog 17 #[.pointer (some ⟨g, 0, none⟩), .int .i64 ask] wo fun e w' => e = .returned (.tuple #[.int .i64 0, .int .i64 13]) ∧ wo = w') := by
            have := Index_no V wo ask hin
            rwa [HCG.out.2.1] at this
          by_cases a0 : 0 ≤ ask
          · have HA1 : Hid (decide (ask < 32) = false) := decide_eq_false (fun h => hin ⟨a0, h⟩)
            clear hin HK HV
            go_wp2_with fail
            refine HIX.out.mono ?_
            rintro e w7 ⟨rfl, rfl⟩
            go_wp2
            go_ret
            exact ⟨congrArg (fun x => Ending.returned (Value.bool x)) (by rw [HA1.out]; rfl), HB.out⟩
          · clear hin HK HV
            go_wp2_with fail
            refine HIX.out.mono ?_
            rintro e w7 ⟨rfl, rfl⟩
            go_wp2
            go_ret
            exact ⟨rfl, HB.out⟩
end Go.Proofs.Ytekfjccpcbbgfaa
