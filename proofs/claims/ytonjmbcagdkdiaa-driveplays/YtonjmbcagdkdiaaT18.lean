/-
  The twin's made: what is wrong with partitions, or a twin of them. No condition but that lengths are lengths.
-/
import Derived.Test.YtonjmbcagdkdiaaT17
import Derived.Deep.RegionLaw
import Derived.Deep.LoopGhost
import Derived.Deep.CutBlock
import Derived.Deep.DeepCutAuto
namespace Go.Proofs.Ytonjmbcagdkdiaa
open Go.RowKit Go.MapKept
set_option linter.unusedVariables false
set_option linter.unusedSimpArgs false
set_option maxRecDepth 100000

theorem grown_touch {w w' : World} {A : Option Addr} {n c : Nat} (h : w.grownBy w' (Value.slice A n c).ownBlock) : Touch (bl A) w w' :=
  ⟨h.os, h.tape, h.output, h.size, fun k hk hn => h.block k hk (fun e => hn (by
    cases A with
    | none => cases e
    | some ad => injection e with e; exact mem_bl.2 ⟨ad, rfl, e.symm⟩))⟩
theorem run_makeBo (sz : Int) (z : Nat) (hz : sz = z) (hz2 : z ≤ 1048576) (w : World) : (Instr.makeSlice 32 (.int .i64 sz) (.int .i64 sz)).run Try.prog w = .ok (.slice (some ⟨w.heap.size, 0, none⟩) z z) (w.alloc (.cells (bcells (List.replicate z false)).toArray 4)) := by
  subst hz
  obtain ⟨i0, hi, hz0, hz1, hz2'⟩ := info_parts boolInfo
  have hm : madeCells (Value.bool false).cells z = (bcells (List.replicate z false)).toArray := by
    apply Array.ext
    · simp [size_madeCells, bcells]
    · intro i h1 h2
      simp [madeCells, bcells, Value.cells, Nat.mod_one]
  have := run_make (P := Try.prog) w 32 4 i0 _ Try.underlying32 hi hz0 .i64 .i64 (z : Int) (z : Int) (by omega) (by omega) (by rw [hz2']; omega) (by omega)
  rw [hz1, Nat.mul_one, Int.toNat_natCast, hm] at this
  exact this
theorem slInfo : (Try.prog.info? 39).map (fun i => (i.zero, i.size, i.bytes)) = some (some (.slice none 0 0), 1, 24) := by kernel_rfl
theorem slInfo2 : (Try.prog.info? 32).map (fun i => (i.zero, i.size, i.bytes)) = some (some (.slice none 0 0), 1, 24) := by kernel_rfl
theorem wpList_cloneAny {ops : Array Oper} {rest : List Oper} {o : Oper} {a : Act} {w : World} {Q : Exit → Act → World → Prop} (hgd : o.guard = none) (s x : Operand) (t e : TypeId) (ho : o.op = .call { callee := .builtin .append, args := #[s, x], argTypes := #[t, t] })
    {i : TypeInfo} {z : Value} {size bytes : Nat} (ht : Try.prog.underlying t = some (.slice e)) (hi : Try.prog.info? e = some i) (hz : i.zero = some z) (hsize : i.size = size) (hby : i.bytes = bytes) (hzs : z.cells.size = size) (hsz : 0 < size)
    (A : Option Addr) (n cap : Nat) (vs : List Value) (hs : a.eval s = .slice (some ⟨w.heap.size, 0, none⟩) 0 0) (hx : a.eval x = .slice A n cap) (h : Ss w A n cap size vs) (h1 : ∀ u ∈ vs, u.oneCell' = true) (hn : n * bytes ≤ 140737488355328)
    (hk : ∀ A' c' w', Hid (Ss w' A' n c' size vs) → Hid (∀ ad, A' = some ad → w.heap.size ≤ ad.block ∧ ad.block < w'.heap.size) → Below w.heap.size w w' → wpList Try.prog ops Q rest (a.put o.dst (.slice A' n c')) w') : wpList Try.prog ops Q (o :: rest) a (w.alloc (.cells #[] e)) := by
  cases A with
  | some ad => exact wpList_cloneAll hgd s x t e ho ht hi hz hsize hby hzs hsz ad n cap vs hs hx h h1 hn hk
  | none =>
    have hc := h.nil rfl
    subst hc
    have hn0 : n = 0 := by have := h.le; omega
    subst hn0
    have hv : vs = [] := List.eq_nil_of_length_eq_zero (by rw [h.len]; omega)
    subst hv
    have hrow : (w.alloc (.cells #[] e)).ownsRow w.heap.size e size (.slice (some ⟨w.heap.size, 0, none⟩) 0 0) 0 [] := World.ownsRow_made w #[] 0 (Nat.le_refl _) (Nat.zero_le _) (by simp)
    have hrun := run_append_owned_none (P := Try.prog) (w := w.alloc (.cells #[] e)) w.heap.size t o.type e i size ht hi (.slice (some ⟨w.heap.size, 0, none⟩) 0 0) 0 [] hrow
    refine wpList_plain hgd fun K hK => ?_
    unfold Oper.wp
    simp [execOp, ho, resolve, invoke, builtin, hs, hx, hrun, Result.andThen]
    exact hK _ _ (hk _ _ _ ⟨fun hp => absurd hp (by simp), by simp, Nat.le_refl _, by omega, fun e => by cases e⟩ (fun ad e => by injection e with e; rw [← e]; simp) ((Below.refl _ _).alloc (Nat.le_refl _) _))
theorem tmod_ok {z : Int} (h : 64 ≤ z) (b : Bool) (hb : b = decide (z % 64 = 0)) : (Int.tmod z 64 = 0) = (b = true) := by
  rw [hb, decide_eq_true_eq, Int.tmod_eq_emod_of_nonneg (by omega)]
/-- What made leaves. -/
def MadeT (w : World) (t N : Nat) (ps : List (ByteArray × Int)) (er : Int) (e : Ending) (w' : World) : Prop :=
  e = .returned (.int .i64 er) ∧ Touch [t] w w' ∧ (er = 0 → ∃ B pa pc rows ba bc sa sc, Mk w' t B N ps pa pc N rows ba bc sa sc ∧ w.heap.size ≤ B ∧ ∀ x ∈ bl pa, w.heap.size ≤ x)
set_option maxHeartbeats 4000000 in
theorem tmade_any (A : Option Addr) (n c : Nat) (ps : List (ByteArray × Int)) (w : World) (t : Nat) (h : Ss w A n c 2 (pcells ps)) (hs : ∀ p ∈ ps, p.1.size ≤ 9223372036854775807) (hI : ∀ p ∈ ps, I64 p.2) (er : Int) (he : FaultIs ps er) (hz : Blk w t 34 (mkCells 0 none 0 0 none 0 0 none 0)) (hle : er = 0 → ∀ q ∈ ps, q.2 ≤ 1000) (hAt : 0 < n → ∀ ad, A = some ad → ad.block ≠ t) :
    Calls Try.prog 10 #[.pointer (some ⟨t, 0, none⟩), .slice A n c] w (MadeT w t n ps er) := by
  have hl := h.len
  rw [pcells_length] at hl
  have HN : Hid (ps.length = n) := by show _ = _; omega
  have HS := Lib.hid h
  have HSZ := Lib.hid hs
  have HII := Lib.hid hI
  have HE := Lib.hid he
  have HZ := Lib.hid hz
  have HLE := Lib.hid hle
  have HAT := Lib.hid hAt
  unfold FaultIs at HE
  have hnc := h.le
  have hcx := h.max
  clear h hs he hl hz hle hI hAt
  by_cases h16 : 16 < n
  · obtain rfl : er = 40 := by have := HE.out; have := HN.out; omega
    have z : 16 < (n : Int) := by omega
    go_enter Try.func10, Try.ntmps10
    go_wp2
    go_ret
    exact ⟨rfl, Touch.refl _ _, fun e => by omega⟩
  · have z : ¬ 16 < (n : Int) := by omega
    have bad40 : Hid (¬ Right ps → er = 40) := fun hr => by have h1 := HE.out; have h2 := HN.out; rcases h1 with h1 | h1 | h1 | h1 <;> first | exact h1.2.2 | exact absurd h1.2.1 hr | exact h1.2
    go_enter Try.func10, Try.ntmps10
    go_wp2
    go_loopw [5, 17] (fun st si wr => ∃ (k : Nat) (T : Int), st = .int .i64 T ∧ si = .int .i64 (k : Int) ∧ k ≤ n ∧ Hid (Right (ps.take k)) ∧ Hid (total (ps.take k) = T) ∧ Hid (Below w.heap.size w wr)) (fun _ i _ => n - (intOf i).toNat)
    case atStart => exact ⟨0, 0, rfl, rfl, Nat.zero_le _, ⟨by simp, by simp⟩, (by show total (ps.take 0) = 0; simp [total]), Below.refl _ _⟩
    case round =>
      obtain ⟨k, T, rfl, rfl, hkn, HRK, HTK, HB⟩ := hrel
      have htb := total_bd HRK.out
      rw [HTK.out, List.length_take] at htb
      have ht1 : 0 ≤ T := htb.1
      have ht2 : T ≤ 16777216 := by have := htb.2; omega
      clear htb
      rename World => wo
      by_cases hlt : k < n
      · have zlt : (k : Int) < (n : Int) := by omega
        obtain ⟨p, hp⟩ : ∃ p, ps[k]? = some p := ⟨_, List.getElem?_eq_getElem (by rw [HN.out]; exact hlt)⟩
        have HP := Lib.hid hp
        obtain ⟨ad, hA, c0, c1⟩ := (HS.out.rs.below HB.out).part hp
        have HNS := Lib.hid (HSZ.out p (List.mem_of_getElem? hp))
        have HIP := HII.out p (List.mem_of_getElem? hp)
        have HMP : Hid (p ∈ ps) := List.mem_of_getElem? hp
        obtain ⟨nm, sz⟩ := p
        simp only [] at c0 c1 HNS HIP
        unfold I64 at HIP
        subst hA
        obtain ⟨W, hW⟩ : ∃ W, wo.alloc (.cells #[.string nm, .int .i64 sz] 36) = W := ⟨_, rfl⟩
        have HXB : Hid (Blk W wo.heap.size 36 [.string nm, .int .i64 sz]) := by rw [← hW]; exact Blk.new wo 36 [.string nm, .int .i64 sz]
        have x0 : W.cell? ⟨wo.heap.size, 0, none⟩ = some (.string nm) := HXB.out.cell 0
        have x1 : W.cell? ⟨wo.heap.size, 1, none⟩ = some (.int .i64 sz) := HXB.out.cell 1
        have HBW : Hid (Below w.heap.size w W) := by rw [← hW]; exact HB.out.alloc HB.out.size _
        have HGE : Hid (w.heap.size ≤ wo.heap.size) := HB.out.size
        clear hp
        by_cases hn1 : NameOk nm
        · have HLN := Lib.hid (lnamed_any nm W true ⟨fun _ => hn1, fun _ => rfl⟩ HNS.out)
          have HN1 := Lib.hid hn1
          clear hn1
          have no40 : Hid (sizeOk sz = false → er = 40) := fun hz => bad40.out (fun hr => by have := (hr.1 _ HMP.out).2; rw [hz] at this; cases this)
          by_cases s1 : sz < 64
          · obtain rfl : er = 40 := no40.out (decide_eq_false (by omega))
            go_wp2_with fail
            refine HLN.out.mono ?_
            rintro e w2 ⟨rfl, rfl⟩
            go_wp2
            go_ret
            exact ⟨rfl, Touch.of_below _ HBW.out, fun e => by omega⟩
          by_cases s2 : 1048576 < sz
          · obtain rfl : er = 40 := no40.out (decide_eq_false (by omega))
            go_wp2_with fail
            refine HLN.out.mono ?_
            rintro e w2 ⟨rfl, rfl⟩
            go_wp2
            go_ret
            exact ⟨rfl, Touch.of_below _ HBW.out, fun e => by omega⟩
          by_cases s3 : sz % 64 = 0
          case neg =>
            obtain rfl : er = 40 := no40.out (decide_eq_false (by omega))
            have s4 : (sz % 64 != 0) = true := by simpa using s3
            go_wp2_with fail
            refine HLN.out.mono ?_
            rintro e w2 ⟨rfl, rfl⟩
            go_wp2
            go_ret
            exact ⟨rfl, Touch.of_below _ HBW.out, fun e => by omega⟩
          have s4 : (sz % 64 != 0) = false := by simp [s3]
          have HSO : Hid (sizeOk sz = true) := decide_eq_true ⟨by omega, by omega, s3⟩
          have RUN := run_toPA (some ad) n c k (by omega)
          go_wp2_with fail
          refine HLN.out.mono ?_
          rintro e w2 ⟨rfl, rfl⟩
          go_wp2
          clear x0 x1
          go_loopw [46] (fun si wr => ∃ j : Nat, si = .int .i64 (j : Int) ∧ j ≤ k ∧ Hid (∀ i q, ps[i]? = some q → i < j → q.1 ≠ nm) ∧ Hid (Blk wr wo.heap.size 36 [.string nm, .int .i64 sz]) ∧ Hid (Below w.heap.size w wr)) (fun i _ => k - (intOf i).toNat)
          case atStart => exact ⟨0, rfl, Nat.zero_le _, (fun i q _ hi => absurd hi (Nat.not_lt_zero _)), HXB, HBW⟩
          case round =>
            obtain ⟨j, rfl, hjk, HA, HXj, HBj⟩ := hrel
            clear RUN
            by_cases hjlt : j < k
            · have zjlt : (j : Int) < (k : Int) := by omega
              obtain ⟨q, hq⟩ : ∃ q, ps[j]? = some q := ⟨_, List.getElem?_eq_getElem (by rw [HN.out]; omega)⟩
              obtain ⟨ad2, e2, d0, d1⟩ := (HS.out.rs.below HBj.out).part hq
              injection e2 with e2
              subst e2
              have HQ := Lib.hid hq
              have x0 : wr.cell? ⟨wo.heap.size, 0, none⟩ = some (.string nm) := HXj.out.cell 0
              obtain ⟨nm2, sz2⟩ := q
              simp only [] at d0 d1
              have x0a : ∀ o, (wr.alloc o).cell? ⟨wo.heap.size, 0, none⟩ = some (.string nm) := fun o => (World.cell?_alloc_lt _ _ _ HXj.out.lt).trans x0
              have HBn := Lib.hid (HBj.out.alloc HBj.out.size (.cells #[.string nm2, .int .i64 sz2] 36))
              have HXn := Lib.hid (HXj.out.alloc (.cells #[.string nm2, .int .i64 sz2] 36))
              clear hq
              by_cases hs : nm2 = nm
              · have q1 : (nm2.toList == nm.toList) = true := by rw [str_eq, decide_eq_true hs]
                obtain rfl : er = 40 := bad40.out (Right.not_twice HP.out ⟨_, List.mem_of_getElem? (i := j) (by rw [List.getElem?_take, if_pos hjlt]; exact HQ.out), hs⟩)
                clear hs
                go_wp2
                go_ret
                exact ⟨rfl, Touch.of_below _ HBn.out, fun e => by omega⟩
              · have q1 : (nm2.toList == nm.toList) = false := by rw [str_eq, decide_eq_false hs]
                have HNE := Lib.hid hs
                clear hs
                go_wp2
                go_roundw
                case rel =>
                  refine ⟨j + 1, by go_num, by omega, fun i q hi hlt => ?_, HXn, HBn⟩
                  by_cases e : i = j
                  · subst e
                    rw [HQ.out] at hi
                    injection hi with hi
                    rw [← hi]; exact HNE.out
                  · exact HA.out i q hi (by omega)
                case measure => simp [intOf]; omega
            · obtain rfl : j = k := by omega
              have HRN := Lib.hid (HRK.out.snoc HP.out HN1.out HSO.out (by
                rintro ⟨q, hq, e⟩
                obtain ⟨i, hi⟩ := List.mem_iff_getElem?.1 hq
                have hij : i < j := by have := (List.getElem?_eq_some_iff.1 hi).1; rw [List.length_take] at this; omega
                rw [List.getElem?_take, if_pos hij] at hi
                exact HA.out i q hi hij e))
              have HTN : Hid (total (ps.take (j + 1)) = T + sz) := by show _ = _; rw [total_snoc HP.out, HTK.out]
              have x1 : wr.cell? ⟨wo.heap.size, 1, none⟩ = some (.int .i64 sz) := HXj.out.cell 1
              go_wp2
              go_roundw
              case rel => exact ⟨j + 1, T + sz, by go_num, by go_num, by omega, HRN, HTN, HBj⟩
              case measure => simp [intOf]; omega
        · have HLN := Lib.hid (lnamed_any nm W false ⟨(fun e => by cases e), fun e => absurd e hn1⟩ HNS.out)
          obtain rfl : er = 40 := bad40.out (fun hr => hn1 (hr.1 _ HMP.out).1)
          clear hn1
          go_wp2_with fail
          refine HLN.out.mono ?_
          rintro e w2 ⟨rfl, rfl⟩
          go_wp2
          go_ret
          exact ⟨rfl, Touch.of_below _ HBW.out, fun e => by omega⟩
      · obtain rfl : k = n := by omega
        have hall : ps.take k = ps := List.take_of_length_le (by rw [HN.out]; omega)
        have hR : Right ps := by have := HRK.out; rwa [hall] at this
        have hT : total ps = T := by have := HTK.out; rwa [hall] at this
        have HR := Lib.hid hR
        by_cases hbig : 1048576 < T
        · obtain rfl : er = 11 := by
            have h1 := HE.out
            have h2 := HN.out
            rcases h1 with h1 | h1 | h1 | h1
            · omega
            · exact absurd hR h1.2.1
            · exact h1.2.2.2
            · omega
          clear hR hT hall
          go_wp2
          go_ret
          exact ⟨rfl, Touch.of_below _ HB.out, fun e => by omega⟩
        obtain rfl : er = 0 := by
          have h1 := HE.out
          have h2 := HN.out
          rcases h1 with h1 | h1 | h1 | h1
          · omega
          · exact absurd hR h1.2.1
          · omega
          · exact h1.2.2.2
        have HLE2 : Hid (∀ q ∈ ps, q.2 ≤ 1000) := HLE.out rfl
        clear hR hT hall HLE HE bad40
        obtain ⟨i0, hi, hz0, hz1, hz2⟩ := info_parts partInfo
        have HW : Hid (∀ {ops : Array Oper} {rest : List Oper} {o : Oper} {a : Act} {Q : Exit → Act → World → Prop} (hgd : o.guard = none) (s x : Operand) (ho : o.op = .call { callee := .builtin .append, args := #[s, x], argTypes := #[22, 22] }) (hs : a.eval s = .slice (some ⟨wo.heap.size, 0, none⟩) 0 0) (hx : a.eval x = .slice A k c)
          (hk : ∀ A' c' w', Hid (Ss w' A' k c' 2 (pcells ps)) → Hid (∀ ad, A' = some ad → wo.heap.size ≤ ad.block ∧ ad.block < w'.heap.size) → Below wo.heap.size wo w' → wpList Try.prog ops Q rest (a.put o.dst (.slice A' k c')) w'), wpList Try.prog ops Q (o :: rest) a (wo.alloc (.cells #[] 36))) :=
          fun hgd s x ho hs hx hk => wpList_cloneAny hgd s x 22 36 ho Try.underlying22 hi hz0 hz1 hz2 rfl (by omega) A k c (pcells ps) hs hx (HS.out.below HB.out) (pcells_one ps) (by omega) hk
        clear hi hz0 hz1 hz2
        have HTL : Hid (t < w.heap.size) := HZ.out.lt
        go_wp2_with (first
          | ((with_reducible refine at_dst (some 66) ?_); refine HW.out (o := ⟨some 66, _, _, _, _, _⟩) rfl (.tmp 64) (.tmp 65) rfl rfl rfl ?_; intro pa pc w4 HS4 HF4 hb4; have v0 : w4.cell? ⟨t, 0, none⟩ = some (.slice none 0 0) := ((HZ.out.below HB.out HTL.out).below hb4 (Nat.lt_of_lt_of_le HTL.out HB.out.size)).cell 0; have f0 : w4.frozen? ⟨t, 0, none⟩ = false := ((HZ.out.below HB.out HTL.out).below hb4 (Nat.lt_of_lt_of_le HTL.out HB.out.size)).frozen 0))
        have HZ4 := (HZ.out.below HB.out HTL.out).below hb4 (Nat.lt_of_lt_of_le HTL.out HB.out.size)
        have HB4 := Lib.hid (below_then HB.out hb4)
        have HM0 : Hid (Mk (w4.setCell ⟨t, 0, none⟩ (.slice pa k pc)) t w4.heap.size k ps pa pc 0 [] none 0 none 0) := by
          have tq : Touch [t] w4 (w4.setCell ⟨t, 0, none⟩ (.slice pa k pc)) := (Touch.refl _ w4).setCell (p := ⟨t, 0, none⟩) (.inl (by simp)) _
          have hpn : ∀ x ∈ bl pa, wo.heap.size ≤ x ∧ x < w4.heap.size := fun x hx => by
            obtain ⟨ad, e, rfl⟩ := mem_bl.1 hx
            exact HF4.out ad e
          have htw : t < wo.heap.size := Nat.lt_of_lt_of_le HTL.out HB.out.size
          exact
          { blk := HZ4.set_ 0 (.slice pa k pc)
            len := rfl
            parts := HS4.out.rs.touch tq (fun ad e hm => by have := hpn _ (mem_bl.2 ⟨ad, e, rfl⟩); have := List.mem_singleton.1 hm; omega)
            tabB := Row.nil _ _ _
            tabS := Row.nil _ _ _
            bytes := fun p hp => by cases hp
            bads := fun p hp => by cases hp
            same := by simp
            zero := fun p hp => by cases hp
            nod := by simp
            ge := fun p hp => by cases hp
            out := fun p hp => by cases hp
            sep := fun x hx => by cases hx
            tlt := by have := hb4.size; omega
            plt := fun x hx => (hpn x hx).2
            pne := fun x hx e => by have := hpn x hx; omega
            Ble := by simp [World.setCell] }
        have HT0 : Hid (Touch [t] w (w4.setCell ⟨t, 0, none⟩ (.slice pa k pc))) := (Touch.of_below [t] HB4.out).setCell (p := ⟨t, 0, none⟩) (.inl (by simp)) _
        have HPA : Hid (w.heap.size ≤ w4.heap.size ∧ ∀ x ∈ bl pa, w.heap.size ≤ x) := ⟨HB4.out.size, fun x hx => by
          obtain ⟨ad, e, rfl⟩ := mem_bl.1 hx
          have := (HF4.out ad e).1; have := HB.out.size; omega⟩
        obtain ⟨B, hB⟩ : ∃ B, w4.heap.size = B := ⟨_, rfl⟩
        rw [hB] at HM0 HPA
        clear HZ4 hb4 HS4 HF4 v0 f0 HW hB
        go_wp2
        go_loopg [71] k (fun gk si wr => ∃ (j : Nat) (rows : List TRow) (ba : Option Addr) (bc : Nat) (sa : Option Addr) (sc : Nat), gk = k - j ∧ si = .int .i64 (j : Int) ∧ j ≤ k ∧ Hid (Mk wr t B k ps pa pc j rows ba bc sa sc) ∧ Hid (Touch [t] w wr))
        case atStart => exact ⟨0, [], none, 0, none, 0, rfl, rfl, Nat.zero_le _, HM0, HT0⟩
        case round =>
          obtain ⟨j, rows, ba, bc, sa, sc, rfl, rfl, hjk, HM, HT⟩ := hrel
          clear HM0 HT0
          by_cases hlt2 : j < k
          · have zlt2 : (j : Int) < (k : Int) := by omega
            obtain ⟨p, hp⟩ : ∃ p, ps[j]? = some p := ⟨_, List.getElem?_eq_getElem (by rw [HN.out]; exact hlt2)⟩
            have HP := Lib.hid hp
            obtain ⟨ad, hA, c0, c1⟩ := (HS.out.rs.touch0 HT.out (fun hn0 ad e hm => HAT.out (by omega) ad e (List.mem_singleton.1 hm))).part hp
            have hle1 := HLE2.out p (List.mem_of_getElem? hp)
            have hso := sizeOk_bd (HR.out.1 p (List.mem_of_getElem? hp)).2
            obtain ⟨nm, sz⟩ := p
            simp only [] at c0 c1 hle1 hso
            subst hA
            obtain ⟨z, rfl⟩ : ∃ z : Nat, sz = z := ⟨sz.toNat, by omega⟩
            obtain ⟨W, hW⟩ : ∃ W, wr.alloc (.cells #[.string nm, .int .i64 (z : Int)] 36) = W := ⟨_, rfl⟩
            have HXB : Hid (Blk W wr.heap.size 36 [.string nm, .int .i64 (z : Int)]) := by rw [← hW]; exact Blk.new wr 36 [.string nm, .int .i64 (z : Int)]
            have tW : Touch [] wr W := by rw [← hW]; exact (Touch.refl [] wr).alloc _
            have HMW := Lib.hid (HM.out.below tW (fun x hx => by cases hx))
            have HTW : Hid (Touch [t] w W) := HT.out.trans (tW.wider (fun x hx => by cases hx))
            have x1 : W.cell? ⟨wr.heap.size, 1, none⟩ = some (.int .i64 (z : Int)) := HXB.out.cell 1
            have c1t : W.cell? ⟨t, 1, none⟩ = some (.slice ba j bc) := HMW.out.blk.cell 1
            have f1t : W.frozen? ⟨t, 1, none⟩ = false := HMW.out.blk.frozen 1
            have hz1 : 64 ≤ z ∧ z ≤ 1000 ∧ z % 64 = 0 := by omega
            have HM2 : Hid (∀ x ∈ bl ba ++ bl sa, B ≤ x ∧ x < wr.heap.size) := fun x hx => by
              rcases List.mem_append.1 hx with hx | hx
              · exact HM.out.tabB.ge x hx
              · exact HM.out.tabS.ge x hx
            have HTR : Hid (t < wr.heap.size) := HM.out.blk.lt
            clear hp hle1 hso tW HM HT
            obtain ⟨Z, hZ⟩ : ∃ Z, (cn .u8 (List.replicate z 0)).toArray = Z := ⟨_, rfl⟩
            have hmk := run_makeB (z : Int) z rfl (by omega) W.drew
            rw [hZ] at hmk
            have HZZ := Lib.hid hZ
            clear hZ
            obtain ⟨i1, hi, hz0, hz2, hz3⟩ := info_parts slInfo
            have hWA : Touch [] W (((W.alloc (.cells Z 5)).alloc (.cells #[.slice (some ⟨W.heap.size, 0, none⟩) z z] 39)).drew) := (((Touch.refl [] W).alloc _).alloc _).drew
            have HBA : Hid (t ∉ bl ba) := fun hm => by have := (HMW.out.tabB.ge t hm).1; have := HMW.out.tlt; omega
            have HST : Hid (∀ {ops : Array Oper} {o : Oper} {a : Act} {K : Act → World → Prop} {Q : Exit → Act → World → Prop} {E : Prop} (hgd : o.guard = none) (s x : Operand) (ho : o.op = .call { callee := .builtin .append, args := #[s, x], argTypes := #[30, 30] }) (hs : a.eval s = .slice ba j bc) (hx : a.eval x = .slice (some ⟨W.heap.size + 1, 0, none⟩) 1 1)
              (hk : ∀ g cap w', Row w' B 39 (some ⟨g, 0, none⟩) (j + 1) cap (rows.map TRow.bv ++ [.slice (some ⟨W.heap.size, 0, none⟩) z z]) → Touch (bl ba) (((W.alloc (.cells Z 5)).alloc (.cells #[.slice (some ⟨W.heap.size, 0, none⟩) z z] 39)).drew) w' → (g ∈ bl ba ∨ g = W.heap.size + 2) → K (a.put o.dst (.slice (some ⟨g, 0, none⟩) (j + 1) cap)) w'),
              if Region.wanted o (yielded ops a.tmps) = true then Oper.wp Try.prog o a (((W.alloc (.cells Z 5)).alloc (.cells #[.slice (some ⟨W.heap.size, 0, none⟩) z z] 39)).drew) K Q else E) := by
              intro ops o a K Q E hgd s x ho hs hx hk
              refine step_append_lies _ hgd s x 30 ho B 39 i1 _ 1 24 Try.underlying30 hi hz0 hz2 hz3 rfl (by omega) (.slice ba j bc) j (rows.map TRow.bv) hs (HMW.out.tabB.touch hWA (fun x _ => by simp)) ⟨W.heap.size + 1, 0, none⟩ 1 1 [.slice (some ⟨W.heap.size, 0, none⟩) z z] hx rfl ?_ ?_ (by omega) (by unfold maxLen; omega) (by omega) ?_ (W.heap.size + 2) ?_ ?_
              · intro q u hu
                have hb := (Blk.new (W.alloc (.cells Z 5)) 39 [.slice (some ⟨W.heap.size, 0, none⟩) z z]).drewN 1
                rw [World.size_alloc] at hb
                rw [addr_add, Nat.zero_add]
                exact (hb.cell q).trans hu
              · intro u hu
                rw [List.mem_singleton.1 hu]; rfl
              · have := HMW.out.Ble
                show B ≤ (((W.alloc (.cells Z 5)).alloc (.cells #[.slice (some ⟨W.heap.size, 0, none⟩) z z] 39))).heap.size
                rw [World.size_alloc, World.size_alloc]; omega
              · show (((W.alloc (.cells Z 5)).alloc (.cells #[.slice (some ⟨W.heap.size, 0, none⟩) z z] 39))).heap.size = _
                rw [World.size_alloc, World.size_alloc]
              · intro g cap w' hown hgr hg hlt
                refine hk g cap w' hown (grown_touch hgr) ?_
                rcases hg with hg | hg
                · refine .inl ?_
                  cases ba with
                  | none => cases hg
                  | some a0 => injection hg with hg; exact mem_bl.2 ⟨a0, rfl, hg⟩
                · exact .inr hg
            have c1a : (W.alloc (.cells Z 5)).cell? ⟨t, 1, none⟩ = some (.slice ba j bc) := (HMW.out.blk.alloc _).cell 1
            have c1b : ((W.alloc (.cells Z 5)).alloc (.cells #[.slice (some ⟨W.heap.size, 0, none⟩) z z] 39)).cell? ⟨t, 1, none⟩ = some (.slice ba j bc) := ((HMW.out.blk.alloc _).alloc _).cell 1
            clear hi hz0 hz2 hz3
            have HHALF : Hid (∀ g1 cap1 w1, Row w1 B 39 (some ⟨g1, 0, none⟩) (j + 1) cap1 (rows.map TRow.bv ++ [.slice (some ⟨W.heap.size, 0, none⟩) z z]) → Touch (bl ba) (((W.alloc (.cells Z 5)).alloc (.cells #[.slice (some ⟨W.heap.size, 0, none⟩) z z] 39)).drew) w1 → (g1 ∈ bl ba ∨ g1 = W.heap.size + 2) →
                Touch (t :: bl ba) W (w1.setCell ⟨t, 1, none⟩ (.slice (some ⟨g1, 0, none⟩) (j + 1) cap1)) ∧ Blk (w1.setCell ⟨t, 1, none⟩ (.slice (some ⟨g1, 0, none⟩) (j + 1) cap1)) W.heap.size 5 (cn .u8 (List.replicate z 0)) ∧ Row (w1.setCell ⟨t, 1, none⟩ (.slice (some ⟨g1, 0, none⟩) (j + 1) cap1)) B 39 (some ⟨g1, 0, none⟩) (j + 1) cap1 (rows.map TRow.bv ++ [.slice (some ⟨W.heap.size, 0, none⟩) z z]) ∧
                (∀ x ∈ bl (some (⟨g1, 0, none⟩ : Addr)), x ∈ bl ba ∨ (W.heap.size ≤ x ∧ x ≠ W.heap.size)) ∧ Blk (w1.setCell ⟨t, 1, none⟩ (.slice (some ⟨g1, 0, none⟩) (j + 1) cap1)) t 34 (mkCells k pa pc (j + 1) (some ⟨g1, 0, none⟩) cap1 j sa sc) ∧ Blk (w1.setCell ⟨t, 1, none⟩ (.slice (some ⟨g1, 0, none⟩) (j + 1) cap1)) wr.heap.size 36 [.string nm, .int .i64 (z : Int)]) := by
              intro g1 cap1 w1 hrow1 ht1 hg1
              have hBl := HMW.out.Ble
              have htl := HMW.out.tlt
              have tq : Touch [t] w1 (w1.setCell ⟨t, 1, none⟩ (.slice (some ⟨g1, 0, none⟩) (j + 1) cap1)) := (Touch.refl _ w1).setCell (p := ⟨t, 1, none⟩) (.inl (by simp)) _
              have hbaW : ∀ x ∈ bl ba, B ≤ x ∧ x < W.heap.size := HMW.out.tabB.ge
              have htW : t < W.heap.size := HMW.out.blk.lt
              have hzb : Blk (((W.alloc (.cells Z 5)).alloc (.cells #[.slice (some ⟨W.heap.size, 0, none⟩) z z] 39)).drew) W.heap.size 5 (cn .u8 (List.replicate z 0)) := by
                rw [← HZZ.out]
                exact ((Blk.new W 5 (cn .u8 (List.replicate z 0))).alloc _).drewN 1
              have hg1t : g1 ≠ t := by
                rcases hg1 with h1 | h1
                · have := (hbaW g1 h1).1; omega
                · omega
              refine ⟨((hWA.wider (fun x hx => by cases hx)).trans (ht1.wider (fun x hx => List.mem_cons.2 (.inr hx)))).trans (tq.wider (fun x hx => List.mem_cons.2 (.inl (List.mem_singleton.1 hx)))), (hzb.touch ht1 (fun hm => by have := (hbaW _ hm).2; omega)).touch tq (by simp; omega), hrow1.touch tq (fun x hx => by simp [bl] at hx; simp; omega), fun x hx => ?_, ?_, ?_⟩
              · have e : x = g1 := by simpa [bl] using hx
                rcases hg1 with h1 | h1
                · exact .inl (by rw [e]; exact h1)
                · exact .inr (by omega)
              · have := ((HMW.out.blk.touch hWA (by simp)).touch ht1 HBA.out).set_ 1 (.slice (some ⟨g1, 0, none⟩) (j + 1) cap1)
                exact this
              · refine ((HXB.out.touch hWA (by simp)).touch ht1 (fun hm => ?_)).touch tq (by simp; have := HTR.out; omega)
                have := (HM2.out _ (List.mem_append.2 (.inl hm))).2
                omega
            go_upto_region 23 with fail
            go_cut [] (fun wx => ∃ (ba' : Option Addr) (bc' : Nat), Hid (Touch (t :: bl ba) W wx ∧ Blk wx W.heap.size 5 (cn .u8 (List.replicate z 0)) ∧ Row wx B 39 ba' (j + 1) bc' (rows.map TRow.bv ++ [.slice (some ⟨W.heap.size, 0, none⟩) z z]) ∧ (∀ x ∈ bl ba', x ∈ bl ba ∨ (W.heap.size ≤ x ∧ x ≠ W.heap.size)) ∧ Blk wx t 34 (mkCells k pa pc (j + 1) ba' bc' j sa sc) ∧ Blk wx wr.heap.size 36 [.string nm, .int .i64 (z : Int)]))
            case first =>
              go_region_law (refine HST.out rfl (.tmp 79) (.tmp 83) rfl rfl rfl ?_; intro g1 cap1 w1 hrow1 ht1 hg1; have v1 : w1.cell? ⟨t, 1, none⟩ = some (.slice ba j bc) := ((HMW.out.blk.touch hWA (by simp)).touch ht1 HBA.out).cell 1; have v2 : w1.frozen? ⟨t, 1, none⟩ = false := ((HMW.out.blk.touch hWA (by simp)).touch ht1 HBA.out).frozen 1)
              all_goals (try go_wp2_with fail)
              all_goals go_meet
              all_goals exact ⟨some ⟨g1, 0, none⟩, cap1, HHALF.out g1 cap1 w1 hrow1 ht1 hg1⟩
            case rest =>
              obtain ⟨ba', bc', H1⟩ := hcut
              obtain ⟨m, hm⟩ : ∃ m, z / 64 = m := ⟨_, rfl⟩
              have HM64 := Lib.hid hm
              have q64 : (z : Int) / 64 = (m : Int) := by omega
              have t64 : Int.tdiv (z : Int) 64 = (m : Int) := by rw [Int.tdiv_eq_ediv_of_nonneg (by omega)]; exact q64
              have wm : IntKind.i64.wrap (m : Int) = (m : Int) := by rw [IntKind.wrap_i64]; omega
              have c2t : wc.cell? ⟨t, 2, none⟩ = some (.slice sa j sc) := H1.out.2.2.2.2.1.cell 2
              have f2t : wc.frozen? ⟨t, 2, none⟩ = false := H1.out.2.2.2.2.1.frozen 2
              have y1 : wc.cell? ⟨wr.heap.size, 1, none⟩ = some (.int .i64 (z : Int)) := H1.out.2.2.2.2.2.cell 1
              obtain ⟨Z2, hZ2⟩ : ∃ Z2, (bcells (List.replicate m false)).toArray = Z2 := ⟨_, rfl⟩
              have hmk2 := run_makeBo (m : Int) m rfl (by omega) wc.drew
              rw [hZ2] at hmk2
              have HZ2 := Lib.hid hZ2
              clear hZ2 hm c1t f1t c1a c1b x1 hmk
              obtain ⟨i1, hi, hz0, hz2, hz3⟩ := info_parts slInfo2
              have hWB : Touch [] wc (((wc.alloc (.cells Z2 4)).alloc (.cells #[.slice (some ⟨wc.heap.size, 0, none⟩) m m] 32)).drew) := (((Touch.refl [] wc).alloc _).alloc _).drew
              have HSA : Hid (t ∉ bl sa) := fun hm => by have := (HMW.out.tabS.ge t hm).1; have := HMW.out.tlt; omega
              have HRS : Hid (Row wc B 32 sa j sc (rows.map TRow.sv)) := HMW.out.tabS.touch H1.out.1 (fun x hx hm => by
                rcases List.mem_cons.1 hm with e | e
                · have := (HMW.out.tabS.ge x hx).1; have := HMW.out.tlt; omega
                · exact HMW.out.sep x e hx)
              have HBle : Hid (B ≤ wc.heap.size) := Nat.le_trans HMW.out.Ble H1.out.1.size
              have HST2 : Hid (∀ {ops : Array Oper} {o : Oper} {a : Act} {K : Act → World → Prop} {Q : Exit → Act → World → Prop} {E : Prop} (hgd : o.guard = none) (s x : Operand) (ho : o.op = .call { callee := .builtin .append, args := #[s, x], argTypes := #[31, 31] }) (hs : a.eval s = .slice sa j sc) (hx : a.eval x = .slice (some ⟨wc.heap.size + 1, 0, none⟩) 1 1)
                (hk : ∀ g cap w', Row w' B 32 (some ⟨g, 0, none⟩) (j + 1) cap (rows.map TRow.sv ++ [.slice (some ⟨wc.heap.size, 0, none⟩) m m]) → Touch (bl sa) (((wc.alloc (.cells Z2 4)).alloc (.cells #[.slice (some ⟨wc.heap.size, 0, none⟩) m m] 32)).drew) w' → (g ∈ bl sa ∨ g = wc.heap.size + 2) → K (a.put o.dst (.slice (some ⟨g, 0, none⟩) (j + 1) cap)) w'),
                if Region.wanted o (yielded ops a.tmps) = true then Oper.wp Try.prog o a (((wc.alloc (.cells Z2 4)).alloc (.cells #[.slice (some ⟨wc.heap.size, 0, none⟩) m m] 32)).drew) K Q else E) := by
                intro ops o a K Q E hgd s x ho hs hx hk
                refine step_append_lies _ hgd s x 31 ho B 32 i1 _ 1 24 Try.underlying31 hi hz0 hz2 hz3 rfl (by omega) (.slice sa j sc) j (rows.map TRow.sv) hs (HRS.out.touch hWB (fun x _ => by simp)) ⟨wc.heap.size + 1, 0, none⟩ 1 1 [.slice (some ⟨wc.heap.size, 0, none⟩) m m] hx rfl ?_ ?_ (by omega) (by unfold maxLen; omega) (by omega) ?_ (wc.heap.size + 2) ?_ ?_
                · intro q u hu
                  have hb := (Blk.new (wc.alloc (.cells Z2 4)) 32 [.slice (some ⟨wc.heap.size, 0, none⟩) m m]).drewN 1
                  rw [World.size_alloc] at hb
                  rw [addr_add, Nat.zero_add]
                  exact (hb.cell q).trans hu
                · intro u hu
                  rw [List.mem_singleton.1 hu]; rfl
                · have := HBle.out
                  show B ≤ (((wc.alloc (.cells Z2 4)).alloc (.cells #[.slice (some ⟨wc.heap.size, 0, none⟩) m m] 32))).heap.size
                  rw [World.size_alloc, World.size_alloc]; omega
                · show (((wc.alloc (.cells Z2 4)).alloc (.cells #[.slice (some ⟨wc.heap.size, 0, none⟩) m m] 32))).heap.size = _
                  rw [World.size_alloc, World.size_alloc]
                · intro g cap w' hown hgr hg hlt
                  refine hk g cap w' hown (grown_touch hgr) ?_
                  rcases hg with hg | hg
                  · refine .inl ?_
                    cases sa with
                    | none => cases hg
                    | some a0 => injection hg with hg; exact mem_bl.2 ⟨a0, rfl, hg⟩
                  · exact .inr hg
              have c2a : (wc.alloc (.cells Z2 4)).cell? ⟨t, 2, none⟩ = some (.slice sa j sc) := (H1.out.2.2.2.2.1.alloc _).cell 2
              have c2b : ((wc.alloc (.cells Z2 4)).alloc (.cells #[.slice (some ⟨wc.heap.size, 0, none⟩) m m] 32)).cell? ⟨t, 2, none⟩ = some (.slice sa j sc) := ((H1.out.2.2.2.2.1.alloc _).alloc _).cell 2
              clear hi hz0 hz2 hz3
              have HFULL : Hid (∀ g2 cap2 w2, Row w2 B 32 (some ⟨g2, 0, none⟩) (j + 1) cap2 (rows.map TRow.sv ++ [.slice (some ⟨wc.heap.size, 0, none⟩) m m]) → Touch (bl sa) (((wc.alloc (.cells Z2 4)).alloc (.cells #[.slice (some ⟨wc.heap.size, 0, none⟩) m m] 32)).drew) w2 → (g2 ∈ bl sa ∨ g2 = wc.heap.size + 2) →
                  Mk (w2.setCell ⟨t, 2, none⟩ (.slice (some ⟨g2, 0, none⟩) (j + 1) cap2)) t B k ps pa pc (j + 1) (rows ++ [mkRow nm z W.heap.size wc.heap.size]) ba' bc' (some ⟨g2, 0, none⟩) cap2 ∧ Touch [t] w (w2.setCell ⟨t, 2, none⟩ (.slice (some ⟨g2, 0, none⟩) (j + 1) cap2))) := by
                intro g2 cap2 w2 hrow2 ht2 hg2
                have hBl := HBle.out
                have htl := HMW.out.tlt
                have hs1 := H1.out.1.size
                have tq : Touch [t] w2 (w2.setCell ⟨t, 2, none⟩ (.slice (some ⟨g2, 0, none⟩) (j + 1) cap2)) := (Touch.refl _ w2).setCell (p := ⟨t, 2, none⟩) (.inl (by simp)) _
                have hsaW : ∀ x ∈ bl sa, B ≤ x ∧ x < W.heap.size := HMW.out.tabS.ge
                have hzb : Blk (((wc.alloc (.cells Z2 4)).alloc (.cells #[.slice (some ⟨wc.heap.size, 0, none⟩) m m] 32)).drew) wc.heap.size 4 (bcells (List.replicate m false)) := by
                  rw [← HZ2.out]
                  exact ((Blk.new wc 4 (bcells (List.replicate m false))).alloc _).drewN 1
                have hg2t : g2 ≠ t := by
                  rcases hg2 with h1 | h1
                  · have := (hsaW g2 h1).1; omega
                  · omega
                have t2 : Touch (t :: bl sa) wc (w2.setCell ⟨t, 2, none⟩ (.slice (some ⟨g2, 0, none⟩) (j + 1) cap2)) := ((hWB.wider (fun x hx => by cases hx)).trans (ht2.wider (fun x hx => List.mem_cons.2 (.inr hx)))).trans (tq.wider (fun x hx => List.mem_cons.2 (.inl (List.mem_singleton.1 hx))))
                refine ⟨HMW.out.next nm z HP.out H1.out.1 W.heap.size (Nat.le_refl _) H1.out.2.1 H1.out.2.2.1 H1.out.2.2.2.1 t2 wc.heap.size (Nat.le_refl _) ?_ ?_ ?_ ?_, ?_⟩
                · rw [HM64.out]
                  exact (hzb.touch ht2 (fun hm => by have := (hsaW _ hm).2; omega)).touch tq (by simp; omega)
                · rw [HM64.out]
                  exact hrow2.touch tq (fun x hx => by simp [bl] at hx; simp; omega)
                · intro x hx
                  have e : x = g2 := by simpa [bl] using hx
                  rcases hg2 with h1 | h1
                  · exact .inl (by rw [e]; exact h1)
                  · exact .inr (by omega)
                · have := ((H1.out.2.2.2.2.1.touch hWB (by simp)).touch ht2 HSA.out).set_ 2 (.slice (some ⟨g2, 0, none⟩) (j + 1) cap2)
                  exact this
                · have g1 : ∀ x ∈ t :: bl ba, x ∈ [t] ∨ w.heap.size ≤ x := fun x hx => by
                    rcases List.mem_cons.1 hx with e | e
                    · exact .inl (by simp [e])
                    · have := (HMW.out.tabB.ge x e).1; have := HPA.out.1; exact .inr (by omega)
                  have g2' : ∀ x ∈ t :: bl sa, x ∈ [t] ∨ w.heap.size ≤ x := fun x hx => by
                    rcases List.mem_cons.1 hx with e | e
                    · exact .inl (by simp [e])
                    · have := (hsaW x e).1; have := HPA.out.1; exact .inr (by omega)
                  exact (HTW.out.then H1.out.1 g1).then t2 g2'
              go_upto_region 24 with fail
              go_region_law (refine HST2.out rfl (.tmp 91) (.tmp 96) rfl rfl rfl ?_; intro g2 cap2 w2 hrow2 ht2 hg2; have v1 : w2.cell? ⟨t, 2, none⟩ = some (.slice sa j sc) := ((H1.out.2.2.2.2.1.touch hWB (by simp)).touch ht2 HSA.out).cell 2; have v2 : w2.frozen? ⟨t, 2, none⟩ = false := ((H1.out.2.2.2.2.1.touch hWB (by simp)).touch ht2 HSA.out).frozen 2)
              all_goals
                have HF := Lib.hid (HFULL.out g2 cap2 w2 hrow2 ht2 hg2)
                clear HFULL HST2 HST HHALF hWA hWB c2a c2b c2t f2t y1 hmk2 hrow2 ht2 v1 v2
                go_wp2
                go_roundg (k - (j + 1))
                case measure => omega
                case rel => exact ⟨j + 1, _, ba', bc', _, _, rfl, by go_num, by omega, HF.out.1, HF.out.2⟩
          · obtain rfl : j = k := by omega
            go_wp2
            go_ret
            exact ⟨rfl, HT.out, fun _ => ⟨B, pa, pc, rows, ba, bc, sa, sc, HM.out, HPA.out.1, HPA.out.2⟩⟩
end Go.Proofs.Ytonjmbcagdkdiaa
