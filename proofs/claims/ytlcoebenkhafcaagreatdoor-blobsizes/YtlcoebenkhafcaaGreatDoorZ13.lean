/-
  What bytes.Join without a separator answers; numbers and lists. No condition but that the parts are bytes. What empty and Right answer. No condition but that the texts are bytes that fit.
-/
import Derived.Test.YtlcoebenkhafcaaGreatDoorZ09
import Derived.Test.YtlcoebenkhafcaaGreatDoorZ12
import Derived.Lib.SlBuf
import Derived.Lib.MakeNoZero
import Derived.Lib.ConvBytes
import Derived.Laws.Externs
import Derived.Laws.Strings2
namespace Go.Proofs.YtlcoebenkhafcaaGreatDoor
open Go.RowKit
set_option linter.unusedVariables false
set_option linter.unusedSimpArgs false
set_option maxRecDepth 100000
theorem noZero_any (w : World) (T : Nat) (hT : T ≤ 1000000) : ∃ cs : Array Value, (callFunc 184 #[.int .i64 (T : Int)]).run Tryz.prog w = .ok (.value (.slice (some ⟨w.heap.size, 0, none⟩) T cs.size)) ((w.alloc (.cells cs 5)).drewN 2) ∧ T ≤ cs.size := by
  obtain ⟨cs, hrun, hle, _⟩ := Lib.run_makeNoZero (P := Tryz.prog) w #[3] 25 5 Tryz.underlying25 T (by omega)
  refine ⟨cs, ?_, hle⟩
  rw [run_callFunc_extern Tryz.func184 (by kernel_rfl) (by kernel_rfl) (by kernel_rfl) (e := Extern.BytealgMakeNoZero.makeNoZero #[3] #[25]) (by kernel_rfl), hrun]
  rfl
theorem Buf.drew {w wr : World} {h N : Nat} {acc : List UInt8} (b : Lib.Buf w wr h N acc) : Lib.Buf w wr.drew h N acc :=
  ⟨⟨b.below.os, b.below.tape, b.below.output, b.below.size, b.below.block⟩, b.there, b.free, b.holds, b.fits⟩
theorem Rd.holds {w : World} {A : Option Addr} {n cap : Nat} {l : List Nat} (h : Rd .u8 w A n l) (hf : Fit 256 l) : Lib.HoldsBytes w (.slice A n cap) (l.map UInt8.ofNat) := by
  refine ⟨A, cap, by rw [List.length_map, h.1], fun e => ?_, fun a e j x hx => ?_⟩
  · rcases Nat.eq_zero_or_pos n with h0 | h0
    · rw [List.map_eq_nil_iff]; exact List.eq_nil_of_length_eq_zero (by rw [h.1, h0])
    · obtain ⟨ad, e2, _⟩ := h.2 h0
      rw [e] at e2; cases e2
  · have hj := (List.getElem?_eq_some_iff.1 hx).1
    rw [List.length_map, h.1] at hj
    obtain ⟨ad, e2, _, hc⟩ := h.2 (by omega)
    rw [e] at e2
    injection e2 with e2
    subst e2
    rw [List.getElem?_map] at hx
    cases hy : l[j]? with
    | none => rw [hy] at hx; cases hx
    | some y =>
      rw [hy] at hx
      injection hx with hx
      have := hf y (List.mem_of_getElem? hy)
      rw [hc j y hy, ← hx]
      simp only [UInt8.toNat_ofNat']
      congr 2
      omega
theorem Buf.rd {w wr : World} {h N : Nat} {l : List Nat} (b : Lib.Buf w wr h N (l.map UInt8.ofNat)) (hf : Fit 256 l) (hl : l.length = N) : Rd .u8 wr (some ⟨h, 0, none⟩) N l := by
  refine ⟨hl, fun hn => ⟨_, rfl, ?_, fun j x hx => ?_⟩⟩
  · have := b.there 0 hn
    cases hc : wr.cell? ⟨h, 0, none⟩ with
    | none => rw [hc] at this; cases this
    | some v => exact World.block_lt_of_cell? wr _ hc
  · rw [addr_add, Nat.zero_add, b.holds j (UInt8.ofNat x) (by rw [List.getElem?_map, hx]; rfl)]
    have := hf x (List.mem_of_getElem? hx)
    simp only [UInt8.toNat_ofNat']
    congr 2
    omega
theorem byteSize : (Tryz.prog.info? 5).map (·.size) = some 1 := by kernel_rfl
theorem byteSz (w : World) : (Go.sizeOf 5).run Tryz.prog w = .ok 1 w := by kernel_rfl
def GivesOwn (w : World) (n : Nat) (l : List Nat) (e : Ending) (w' : World) : Prop := ∃ g, e = .returned (.slice (some ⟨g, 0, none⟩) n n) ∧ w.heap.size ≤ g ∧ Rd .u8 w' (some ⟨g, 0, none⟩) n l ∧ Below w.heap.size w w'
structure Bt where
  A : Option Addr
  n : Nat
  cap : Nat
  l : List Nat
def flat (ps : List Bt) : List Nat := ps.flatMap (·.l)
def PartsR (w : World) (A : Option Addr) (n : Nat) (ps : List Bt) : Prop :=
  ps.length = n ∧ (0 < n → ∃ ad, A = some ad ∧ ad.block < w.heap.size ∧ ∀ j p, ps[j]? = some p → w.cell? (ad.add j) = some (.slice p.A p.n p.cap)) ∧ ∀ p ∈ ps, Rd .u8 w p.A p.n p.l ∧ Fit 256 p.l ∧ p.n ≤ p.cap
theorem PartsR.below {w w' : World} {A : Option Addr} {n : Nat} {ps : List Bt} (h : PartsR w A n ps) (hb : Below w.heap.size w w') : PartsR w' A n ps :=
  ⟨h.1, fun hn => by
    obtain ⟨ad, e, hlt, hc⟩ := h.2.1 hn
    exact ⟨ad, e, Nat.lt_of_lt_of_le hlt hb.size, fun j p hp => (hb.cell (p := ad.add j) (by rw [block_add]; exact hlt)).trans (hc j p hp)⟩,
   fun p hp => ⟨(h.2.2 p hp).1.below hb, (h.2.2 p hp).2⟩⟩
theorem PartsR.nil (w : World) (A : Option Addr) : PartsR w A 0 [] := ⟨rfl, fun h => absurd h (Nat.lt_irrefl _), fun p hp => by cases hp⟩
theorem flat_fit {ps : List Bt} (h : ∀ p ∈ ps, Fit 256 p.l) : Fit 256 (flat ps) := by
  intro x hx
  obtain ⟨p, hp, hx⟩ := List.mem_flatMap.1 hx
  exact h p hp x hx
theorem flat_snoc (ps : List Bt) (i : Nat) (p : Bt) (h : ps[i]? = some p) : flat (ps.take (i + 1)) = flat (ps.take i) ++ p.l := by
  obtain ⟨hi, rfl⟩ := List.getElem?_eq_some_iff.1 h
  rw [List.take_succ_eq_append_getElem hi]
  simp only [flat, List.flatMap_append, List.flatMap_cons, List.flatMap_nil, List.append_nil]
theorem flat_take_le (ps : List Bt) (i : Nat) : (flat (ps.take i)).length ≤ (flat ps).length := by
  have : flat ps = flat (ps.take i) ++ flat (ps.drop i) := by
    simp only [flat]
    rw [← List.flatMap_append, List.take_append_drop]
  rw [this, List.length_append]; omega
def took (ps : List Bt) (i : Nat) : List UInt8 := (flat (ps.take i)).map UInt8.ofNat
theorem took_length (ps : List Bt) (i : Nat) : (took ps i).length = (flat (ps.take i)).length := by rw [took, List.length_map]
set_option maxHeartbeats 1000000 in
theorem Join_any (b n cap : Nat) (ps : List Bt) (w : World) (hP : PartsR w (some ⟨b, 0, none⟩) n ps) (h2 : 2 ≤ n) (hn : n ≤ 100) (hcap : n ≤ cap) (hcm : cap ≤ 1000) (T : Nat) (hT : (flat ps).length = T) (hTm : T ≤ 900000) :
    Calls Tryz.prog 154 #[.slice (some ⟨b, 0, none⟩) n cap, .slice none 0 0] w (GivesOwn w T (flat ps)) := by
  have HP := Lib.hid hP
  have f0 : ((n : Int) == 0) = false := beq_eq_false_iff_ne.2 (by omega)
  have f1 : ((n : Int) == 1) = false := beq_eq_false_iff_ne.2 (by omega)
  have HTT := Lib.hid hT
  obtain ⟨cs, hcall, hle⟩ := noZero_any w T (by omega)
  have i0 : (0 : Int) ≤ (T : Int) := by omega
  have i1 : (T : Int) ≤ (cs.size : Int) := by omega
  have HB0 := Lib.hid (Lib.Buf.start w cs 5 T 2 hle)
  have HCALL := Lib.hid hcall
  clear hP hT hcall
  go_enter Tryz.func154, Tryz.ntmps154
  go_wp2
  go_loopw [5, 44] (fun a o wr => ∃ i : Nat, i ≤ n ∧ o = .int .i64 (i : Int) ∧ a = .int .i64 ((flat (ps.take i)).length : Int) ∧ w = wr) (fun _ o _ => n - (intOf o).toNat)
  case atStart => exact ⟨0, by omega, rfl, rfl, rfl⟩
  case round =>
    obtain ⟨i, hi, rfl, rfl, rfl⟩ := hrel
    by_cases hin : i < n
    · obtain ⟨p, hpi⟩ : ∃ p, ps[i]? = some p := ⟨_, List.getElem?_eq_getElem (by rw [HP.out.1]; exact hin)⟩
      obtain ⟨ad, hA, had, hcell⟩ := HP.out.2.1 (by omega)
      injection hA with hA
      subst hA
      have hc := hcell i p hpi
      rw [addr_add, Nat.zero_add] at hc
      have hpm := HP.out.2.2 p (List.mem_of_getElem? hpi)
      have hlen := hpm.1.1
      have e1 := flat_snoc ps i p hpi
      have e2 := flat_take_le ps (i + 1)
      rw [HTT.out] at e2
      have e3 := congrArg List.length e1
      rw [List.length_append, hlen] at e3
      have HE3 := Lib.hid e3
      obtain ⟨m, hm⟩ : ∃ m, (flat (ps.take i)).length = m := ⟨_, rfl⟩
      obtain ⟨k, hk⟩ : ∃ k, (flat (ps.take (i + 1))).length = k := ⟨_, rfl⟩
      rw [hm, hk] at e3
      rw [hk] at e2
      rw [hm]
      have hb : ¬ (9223372036854775807 - (m : Int) < (p.n : Int)) := by omega
      have hbw : (9223372036854775807 : Int) - (m : Int) ≤ 9223372036854775807 := by omega
      have hkk : ((flat (ps.take (i + 1))).length : Int) = (m : Int) + (p.n : Int) := by rw [hk]; omega
      have HKK := Lib.hid hkk
      have hmb : m + p.n ≤ 900000 := by omega
      clear hcell hpm hlen e1 e2 e3 hm hk hkk hpi
      go_wp2
      go_roundw
      case rel => exact ⟨i + 1, by omega, by go_num, by rw [HKK.out], trivial⟩
      case measure => simp [intOf]; omega
    · obtain rfl : i = n := by omega
      have hall : (flat (ps.take i)).length = T := by rw [List.take_of_length_le (by rw [HP.out.1]; omega)]; exact HTT.out
      rw [hall]
      have hcall := HCALL.out
      obtain ⟨p0, hp0⟩ : ∃ p, ps[0]? = some p := ⟨_, List.getElem?_eq_getElem (by rw [HP.out.1]; omega)⟩
      obtain ⟨ad, hA, had, hcell⟩ := HP.out.2.1 (by omega)
      injection hA with hA
      subst hA
      have HCELL := Lib.hid hcell
      have hc := hcell 0 p0 hp0
      rw [addr_add, Nat.zero_add] at hc
      have hpm := HP.out.2.2 p0 (List.mem_of_getElem? hp0)
      have hc0 : ((w.alloc (.cells cs 5)).drewN 2).cell? ⟨b, 0, none⟩ = some (.slice p0.A p0.n p0.cap) := Lib.Below.cellOf HB0.out.below hc (Nat.le_refl _)
      have e1 := flat_snoc ps 0 p0 hp0
      have e2 := flat_take_le ps (0 + 1)
      have el : p0.l.length ≤ T := by
        rw [← HTT.out]
        rw [e1] at e2
        simpa [flat] using e2
      obtain ⟨w1, hr1, B1⟩ := Lib.copy_part (P := Tryz.prog) w _ w.heap.size T [] (p0.l.map UInt8.ofNat) (.slice p0.A p0.n p0.cap) 25 3 5 Tryz.underlying25 byteSize (Nat.le_refl _) HB0.out (hpm.1.holds hpm.2.1) (by simpa using el)
      rw [List.length_nil, Lib.tailV_zero, List.length_map, hpm.1.1] at hr1
      have HB1 : Hid (Lib.Buf w w1 w.heap.size T (took ps 1)) := by
        show Lib.Buf _ _ _ _ _
        rw [took, e1]
        simpa [flat] using B1
      have hl0 : ((took ps 1).length : Int) = (p0.n : Int) := by
        rw [took_length, e1]
        simp [flat, hpm.1.1]
      have HL0 := Lib.hid hl0
      clear hcell hpm e1 e2 el B1 hl0 hp0
      go_wp2_with (at_builtin; refine Lib.wpList_copy_run _ rfl _ _ 25 25 rfl _ _ rfl rfl hr1 ?_)
      clear hcall hr1 hc hc0
      go_loopw [9, 72] (fun a o wr => ∃ j : Nat, j ≤ i - 1 ∧ o = .int .i64 (j : Int) ∧ a = .int .i64 ((took ps (1 + j)).length : Int) ∧ Hid (Lib.Buf w wr w.heap.size T (took ps (1 + j)))) (fun _ o _ => i - 1 - (intOf o).toNat)
      case atStart => exact ⟨0, by omega, rfl, by rw [HL0.out], HB1⟩
      case round =>
        obtain ⟨j, hj, rfl, rfl, HB⟩ := hrel
        obtain ⟨q, hq⟩ : ∃ q, (took ps (1 + j)).length = q := ⟨_, rfl⟩
        have hqT : q ≤ T := by rw [← hq]; exact HB.out.fits
        by_cases hjn : j < i - 1
        · have hjz : (j : Int) < ((i - 1 : Nat) : Int) := by omega
          obtain ⟨p, hpi⟩ : ∃ p, ps[1 + j]? = some p := ⟨_, List.getElem?_eq_getElem (by rw [HP.out.1]; omega)⟩
          have hc := HCELL.out (1 + j) p hpi
          rw [addr_add, Nat.zero_add] at hc
          have hcw : wr.cell? ⟨b, 1 + j, none⟩ = some (.slice p.A p.n p.cap) := Lib.Below.cellOf HB.out.below hc (Nat.le_refl _)
          have hpm := HP.out.2.2 p (List.mem_of_getElem? hpi)
          have e1 := flat_snoc ps (1 + j) p hpi
          have e2 := flat_take_le ps (1 + j + 1)
          rw [HTT.out, e1, List.length_append, ← took_length, hq, hpm.1.1] at e2
          have hsl1 : ∀ W, (Instr.slice 25 (.slice (some ⟨w.heap.size, 0, none⟩) T T) (some (.int .i64 (q : Int))) none none).run Tryz.prog W = .ok (Lib.tailV w.heap.size T q) W := fun W => Lib.run_slice_tailV W 25 5 Tryz.underlying25 byteSz _ T q (by omega)
          have hr2 : (Builtin.copy_ #[25, 25] 3 #[Lib.tailV w.heap.size T q, .slice none 0 0]).run Tryz.prog wr = .ok (.int .i64 0) wr := run_copy_none (P := Tryz.prog) wr 25 25 3 5 _ _ _ _ _ _ Tryz.underlying25 byteSize (Nat.zero_min _)
          obtain ⟨w3, hr3, B3⟩ := Lib.copy_part (P := Tryz.prog) w wr w.heap.size T (took ps (1 + j)) (p.l.map UInt8.ofNat) (.slice p.A p.n p.cap) 25 3 5 Tryz.underlying25 byteSize (Nat.le_refl _) HB.out (hpm.1.holds hpm.2.1) (by rw [hq, List.length_map, hpm.1.1]; exact e2)
          rw [hq, List.length_map, hpm.1.1] at hr3
          have HB3 : Hid (Lib.Buf w w3 w.heap.size T (took ps (1 + (j + 1)))) := by
            show Lib.Buf _ _ _ _ _
            rw [took, show 1 + (j + 1) = 1 + j + 1 by omega, e1, List.map_append]
            exact B3
          have HLL : Hid (((took ps (1 + (j + 1))).length : Int) = (q : Int) + (p.n : Int)) := by
            show _ = _
            rw [took_length, show 1 + (j + 1) = 1 + j + 1 by omega, e1, List.length_append, ← took_length, hq, hpm.1.1]
            omega
          have hwr : IntKind.i64.wrap ((q : Int) + (p.n : Int)) = (q : Int) + (p.n : Int) := by rw [IntKind.wrap_i64]; omega
          rw [hq]
          clear hc hpm e1 e2 B3 hpi hq
          go_wp2_with (at_builtin; first | refine Lib.wpList_copy_run _ rfl _ _ 25 25 rfl _ _ rfl rfl hr2 ?_ | refine Lib.wpList_copy_run _ rfl _ _ 25 25 rfl _ _ rfl rfl hr3 ?_)
          go_roundw
          case rel => exact ⟨j + 1, by omega, by go_num, by rw [HLL.out], HB3⟩
          case measure => simp [intOf]; omega
        · obtain rfl : j = i - 1 := by omega
          have hjz : ¬ ((i - 1 : Nat) : Int) < ((i - 1 : Nat) : Int) := by omega
          have ht : took ps (1 + (i - 1)) = (flat ps).map UInt8.ofNat := by
            rw [took, List.take_of_length_le (by rw [HP.out.1]; omega)]
          have hb := HB.out
          rw [ht] at hb
          have HB4 := Lib.hid hb
          clear hb ht HB hq
          go_wp2
          go_ret
          have hfit : Fit 256 (flat ps) := flat_fit (fun p hp => (HP.out.2.2 p hp).2.1)
          exact ⟨_, rfl, Nat.le_refl _, Buf.rd HB4.out hfit HTT.out, HB4.out.below⟩
theorem rd_bytesWorld (w : World) (l : List Nat) (hf : Fit 256 l) : Rd .u8 (Lib.bytesWorld w 5 (str l)) (some ⟨w.heap.size, 0, none⟩) l.length l :=
  ⟨rfl, fun hn => ⟨_, rfl, by rw [Lib.bytesWorld_size]; exact Nat.lt_succ_self _, fun j x hx => by
    have hj := (List.getElem?_eq_some_iff.1 hx).1
    have hd : (str l).data.toList = l.map UInt8.ofNat := by
      show ((l.map fun (x : Nat) => (x : Int)).map fun n => UInt8.ofNat n.toNat) = _
      simp [Function.comp_def]
    have hsz : j < (str l).size := by
      show j < (str l).data.size
      rw [← Array.length_toList, hd, List.length_map]; exact hj
    rw [addr_add, Nat.zero_add, Lib.bytesWorld_cell w 5 (str l) j hsz, hd]
    have hb := hf x (List.mem_of_getElem? hx)
    simp only [List.getD_eq_getElem?_getD, List.getElem?_map, hx, Option.map_some, Option.getD_some, UInt8.toNat_ofNat']
    congr 2
    omega⟩⟩
def numCells (g : Nat) : List Value := [.pointer (some ⟨g, 1, none⟩), .int .i64 4, .pointer (some ⟨g, 2, none⟩), .int .i64 8, .pointer (some ⟨g, 3, none⟩), .int .i64 4, .pointer (some ⟨g, 4, none⟩), .int .i64 8, .pointer (some ⟨g, 5, none⟩), .int .i64 4]
theorem numbers_any (g : Nat) (w : World) : Calls Tryz.prog 152 #[.pointer (some ⟨g, 0, none⟩)] w fun e w' => ∃ b, e = .returned (.slice (some ⟨b, 0, none⟩) 5 5) ∧ w.heap.size ≤ b ∧ Blk w' b 173 (numCells g) ∧ Below w.heap.size w w' := by
  go_enter Tryz.func152, Tryz.ntmps152
  go_wp2
  go_still_tail 20, (by kernel_rfl)
  change wpList _ _ _ _ _ w.drew
  go_wp2
  go_ret
  refine ⟨w.heap.size, rfl, Nat.le_refl _, ?_, ?_⟩
  · exact Blk.new w.drew _ (numCells g)
  · exact (below_drew1 (Below.refl _ _)).alloc (Nat.le_refl _) _
structure PartsOf (x : Dx) (ps : List Bt) : Prop where
  len : ps.length = 5
  ls : ps.map (·.l) = [x.d.name, x.d.salt, x.d.digest, x.d.key, x.d.value]
theorem PartsOf.flat {x : Dx} {ps : List Bt} (h : PartsOf x ps) : flat ps = texts x.d := by
  have : Go.Proofs.YtlcoebenkhafcaaGreatDoor.flat ps = (ps.map (·.l)).flatten := by simp [Go.Proofs.YtlcoebenkhafcaaGreatDoor.flat, List.flatMap_def]
  rw [this, h.ls]
  simp [texts]
theorem PartsOf.lens {x : Dx} {ps : List Bt} (h : PartsOf x ps) : ps.map (·.l.length) = [x.d.name.length, x.d.salt.length, x.d.digest.length, x.d.key.length, x.d.value.length] := by
  have := congrArg (List.map List.length) h.ls
  simpa [Function.comp_def] using this
set_option maxHeartbeats 1000000 in
theorem lists_any (x : Dx) (w : World) (hx : DxOk w x) (hn : x.d.name.length ≤ 100000) : Calls Tryz.prog 153 #[x.val] w fun e w' => ∃ b ps, e = .returned (.slice (some ⟨b, 0, none⟩) 5 5) ∧ w.heap.size ≤ b ∧ PartsOf x ps ∧ PartsR w' (some ⟨b, 0, none⟩) 5 ps ∧ Below w.heap.size w w' := by
  unfold Dx.val
  obtain ⟨W, hW⟩ : ∃ W, w.alloc (.cells x.cells.toArray 71) = W := ⟨_, rfl⟩
  have X := Lib.hid (Bx.new hW)
  have HX := Lib.hid hx
  have c6 : W.cell? ⟨w.heap.size, 6, none⟩ = some (.string (str x.d.name)) := X.out.blk.cell 6
  have hcv := Lib.run_convert_string_bytes (P := Tryz.prog) W 9 25 5 (str x.d.name) Tryz.underlying9 Tryz.underlying25 Tryz.underlying5
  have hrq := rd_bytesWorld W x.d.name hx.name
  rw [str_size] at hcv
  have hq1 := grownCap_ge W x.d.name.length 0 5
  have hb9 := below_bytesWorld W (str x.d.name)
  generalize hw9 : Lib.bytesWorld W 5 (str x.d.name) = w9 at hcv hrq hb9
  generalize grownCap W x.d.name.length 0 5 = cq at hcv hq1
  have X9 := Lib.hid (X.out.next hb9)
  have c7 : w9.cell? ⟨w.heap.size, 7, none⟩ = some (.slice x.s1.A x.s1.n x.s1.cap) := X9.out.blk.cell 7
  have c8 : w9.cell? ⟨w.heap.size, 8, none⟩ = some (.slice x.s2.A x.s2.n x.s2.cap) := X9.out.blk.cell 8
  have c9 : w9.cell? ⟨w.heap.size, 9, none⟩ = some (.slice x.s3.A x.s3.n x.s3.cap) := X9.out.blk.cell 9
  have c10 : w9.cell? ⟨w.heap.size, 10, none⟩ = some (.slice x.s4.A x.s4.n x.s4.cap) := X9.out.blk.cell 10
  have HR := Lib.hid hrq
  have HQ := Lib.hid hq1
  have HB9 := Lib.hid hb9
  clear hx hrq hq1 hb9 hw9
  go_enter Tryz.func153, Tryz.ntmps153
  go_wp2
  go_ret
  have bel : Below w.heap.size w (w9.alloc (.cells #[.slice (some ⟨W.heap.size, 0, none⟩) x.d.name.length cq, .slice x.s1.A x.s1.n x.s1.cap, .slice x.s2.A x.s2.n x.s2.cap, .slice x.s3.A x.s3.n x.s3.cap, .slice x.s4.A x.s4.n x.s4.cap] 25)) := X9.out.below.alloc X9.out.below.size _
  have bel9 : Below w9.heap.size w9 (w9.alloc (.cells #[.slice (some ⟨W.heap.size, 0, none⟩) x.d.name.length cq, .slice x.s1.A x.s1.n x.s1.cap, .slice x.s2.A x.s2.n x.s2.cap, .slice x.s3.A x.s3.n x.s3.cap, .slice x.s4.A x.s4.n x.s4.cap] 25)) := (Below.refl _ _).alloc (Nat.le_refl _) _
  refine ⟨w9.heap.size, [⟨some ⟨W.heap.size, 0, none⟩, x.d.name.length, cq, x.d.name⟩, ⟨x.s1.A, x.s1.n, x.s1.cap, x.d.salt⟩, ⟨x.s2.A, x.s2.n, x.s2.cap, x.d.digest⟩, ⟨x.s3.A, x.s3.n, x.s3.cap, x.d.key⟩, ⟨x.s4.A, x.s4.n, x.s4.cap, x.d.value⟩], rfl, X9.out.below.size, ⟨rfl, rfl⟩, ⟨rfl, fun _ => ⟨_, rfl, by simp, fun j p hj => ?_⟩, fun p hp => ?_⟩, bel⟩
  · rw [addr_add, Nat.zero_add, (Blk.new w9 25 [.slice (some ⟨W.heap.size, 0, none⟩) x.d.name.length cq, .slice x.s1.A x.s1.n x.s1.cap, .slice x.s2.A x.s2.n x.s2.cap, .slice x.s3.A x.s3.n x.s3.cap, .slice x.s4.A x.s4.n x.s4.cap]).cell j]
    rcases j with _ | _ | _ | _ | _ | j
    all_goals first | (injection hj with hj; subst hj; rfl) | (simp at hj)
  · have hwn : Below w.heap.size w (w9.alloc (.cells #[.slice (some ⟨W.heap.size, 0, none⟩) x.d.name.length cq, .slice x.s1.A x.s1.n x.s1.cap, .slice x.s2.A x.s2.n x.s2.cap, .slice x.s3.A x.s3.n x.s3.cap, .slice x.s4.A x.s4.n x.s4.cap] 25)) := bel
    have hok := HX.out.below hwn
    simp only [List.mem_cons, List.not_mem_nil, or_false] at hp
    rcases hp with rfl | rfl | rfl | rfl | rfl
    · exact ⟨(HR.out.below bel9), HX.out.name, HQ.out⟩
    · exact ⟨hok.salt.rd, hok.salt.fit, hok.salt.le⟩
    · exact ⟨hok.digest.rd, hok.digest.fit, hok.digest.le⟩
    · exact ⟨hok.key.rd, hok.key.fit, hok.key.le⟩
    · exact ⟨hok.value.rd, hok.value.fit, hok.value.le⟩
end Go.Proofs.YtlcoebenkhafcaaGreatDoor
namespace Go.Proofs.YtlcoebenkhafcaaGreatDoor
open Go.RowKit
set_option linter.unusedVariables false
set_option linter.unusedSimpArgs false
set_option maxRecDepth 100000
def nv (d : De) : Nat → Int
  | 0 => d.alg
  | 1 => d.size
  | 2 => d.block
  | 3 => d.off
  | _ => d.loc
def szi : Nat → Nat
  | 0 => 4
  | 1 => 8
  | 2 => 4
  | 3 => 8
  | _ => 4
theorem num_get (g : Nat) {i : Nat} (h : i < 5) : (numCells g)[i * 2]? = some (.pointer (some ⟨g, i + 1, none⟩)) ∧ (numCells g)[i * 2 + 1]? = some (.int .i64 (szi i : Nat)) := by
  rcases (by omega : i = 0 ∨ i = 1 ∨ i = 2 ∨ i = 3 ∨ i = 4) with rfl | rfl | rfl | rfl | rfl <;> exact ⟨rfl, rfl⟩
theorem cells_nv (x : Dx) {i : Nat} (h : i < 5) : x.cells[i + 1]? = some (.int .i64 (nv x.d i)) := by
  rcases (by omega : i = 0 ∨ i = 1 ∨ i = 2 ∨ i = 3 ∨ i = 4) with rfl | rfl | rfl | rfl | rfl <;> rfl
def Emp (d : De) : Prop := d.alg = 0 ∧ d.size = 0 ∧ d.block = 0 ∧ d.off = 0 ∧ d.loc = 0 ∧ d.name.length = 0 ∧ d.salt.length = 0 ∧ d.digest.length = 0 ∧ d.key.length = 0 ∧ d.value.length = 0
instance (d : De) : Decidable (Emp d) := by unfold Emp; exact inferInstance
theorem emp_nv {d : De} (h : Emp d) {i : Nat} (hi : i < 5) : nv d i = 0 := by
  unfold Emp at h
  rcases (by omega : i = 0 ∨ i = 1 ∨ i = 2 ∨ i = 3 ∨ i = 4) with rfl | rfl | rfl | rfl | rfl <;> simp [nv, h]
theorem PartsOf.get {x : Dx} {ps : List Bt} (h : PartsOf x ps) {j : Nat} {p : Bt} (hj : ps[j]? = some p) : [x.d.name, x.d.salt, x.d.digest, x.d.key, x.d.value][j]? = some p.l := by
  rw [← h.ls, List.getElem?_map, hj]; rfl
theorem emp_parts {x : Dx} {ps : List Bt} (h : PartsOf x ps) (he : Emp x.d) {j : Nat} {p : Bt} (hj : ps[j]? = some p) : p.l.length = 0 := by
  have := h.get hj
  unfold Emp at he
  rcases j with _ | _ | _ | _ | _ | j <;> simp at this <;> rw [← this] <;> simp [he]
theorem emp_of {x : Dx} {ps : List Bt} (h : PartsOf x ps) (h1 : ∀ i, i < 5 → nv x.d i = 0) (h2 : ∀ (j : Nat) (p : Bt), ps[j]? = some p → p.l.length = 0) : Emp x.d := by
  have g : ∀ (j : Nat) l, [x.d.name, x.d.salt, x.d.digest, x.d.key, x.d.value][j]? = some l → l.length = 0 := by
    intro j l hl
    rw [← h.ls, List.getElem?_map] at hl
    cases hp : ps[j]? with
    | none => rw [hp] at hl; cases hl
    | some p =>
      rw [hp] at hl
      injection hl with hl
      rw [← hl]; exact h2 j p hp
  exact ⟨h1 0 (by omega), h1 1 (by omega), h1 2 (by omega), h1 3 (by omega), h1 4 (by omega), g 0 _ rfl, g 1 _ rfl, g 2 _ rfl, g 3 _ rfl, g 4 _ rfl⟩
set_option maxHeartbeats 2000000 in
theorem empty_any (x : Dx) (w : World) (hx : DxOk w x) (hn : x.d.name.length ≤ 100000) : Calls Tryz.prog 150 #[x.val] w fun e w' => e = .returned (.bool (decide (Emp x.d))) ∧ Below w.heap.size w w' := by
  obtain ⟨d0, hu0, hd0⟩ := uD
  unfold Dx.val
  obtain ⟨W, hW⟩ : ∃ W, w.alloc (.cells x.cells.toArray 71) = W := ⟨_, rfl⟩
  have X := Lib.hid (Bx.new hW)
  have HX := Lib.hid hx
  clear hx
  go_enter Tryz.func150, Tryz.ntmps150
  go_wp2_with fail
  refine (numbers_any w.heap.size W).mono ?_
  rintro e w1 ⟨b, rfl, hb, hB, hb1⟩
  have I0 : Hid (Bx w w.heap.size 71 x w1 ∧ Blk w1 b 173 (numCells w.heap.size) ∧ w.heap.size < b) := ⟨X.out.next hb1, hB, Nat.lt_of_lt_of_le X.out.lt hb⟩
  clear hB hb hb1
  go_wp2
  go_loopw [9] (fun o wr => ∃ i : Nat, i ≤ 5 ∧ o = .int .i64 (i : Int) ∧ (∀ j, j < i → nv x.d j = 0) ∧ Hid (Bx w w.heap.size 71 x wr ∧ Blk wr b 173 (numCells w.heap.size) ∧ w.heap.size < b)) (fun o _ => 5 - (intOf o).toNat)
  case atStart => exact ⟨0, by omega, rfl, fun j h => absurd h (Nat.not_lt_zero j), I0⟩
  case round =>
    obtain ⟨i, hi, rfl, hall, HI⟩ := hrel
    have HA := Lib.hid hall
    clear hall
    by_cases hin : i < 5
    · have hin2 : (i : Int) < 5 := by omega
      have g0 : wr.cell? ⟨b, i * 2, none⟩ = some (.pointer (some ⟨w.heap.size, i + 1, none⟩)) := (HI.out.2.1.cell _).trans (num_get _ hin).1
      have g1 : wr.cell? ⟨b, i * 2 + 1, none⟩ = some (.int .i64 (szi i : Nat)) := (HI.out.2.1.cell _).trans (num_get _ hin).2
      have g2 : wr.cell? ⟨w.heap.size, i + 1, none⟩ = some (.int .i64 (nv x.d i)) := (HI.out.1.blk.cell _).trans (cells_nv x hin)
      obtain ⟨z, hz⟩ : ∃ z, nv x.d i = z := ⟨_, rfl⟩
      have HZ := Lib.hid hz
      rw [hz] at g2
      clear hz
      have hlt := HI.out.1.lt
      by_cases h0 : z = 0
      · subst h0
        have HN : Hid (Bx w w.heap.size 71 x (wr.alloc (.cells #[.pointer (some ⟨w.heap.size, i + 1, none⟩), .int .i64 (szi i : Nat)] 173)) ∧ Blk (wr.alloc (.cells #[.pointer (some ⟨w.heap.size, i + 1, none⟩), .int .i64 (szi i : Nat)] 173)) b 173 (numCells w.heap.size) ∧ w.heap.size < b) :=
          ⟨HI.out.1.next ((Below.refl _ _).alloc (Nat.le_refl _) _), HI.out.2.1.alloc _, HI.out.2.2⟩
        go_wp2
        go_roundw
        case rel =>
          refine ⟨i + 1, by omega, by go_num, fun j hj => ?_, HN⟩
          by_cases e : j = i
          · rw [e]; exact HZ.out
          · exact HA.out j (by omega)
        case measure => simp [intOf]; omega
      · have e0 : (z != 0) = true := by simp [h0]
        have HN : Hid (Bx w w.heap.size 71 x (wr.alloc (.cells #[.pointer (some ⟨w.heap.size, i + 1, none⟩), .int .i64 (szi i : Nat)] 173))) := HI.out.1.next ((Below.refl _ _).alloc (Nat.le_refl _) _)
        have E : Hid (decide (Emp x.d) = false) := decide_eq_false (fun h => h0 (by rw [← HZ.out]; exact emp_nv h hin))
        clear h0
        go_wp2
        go_ret
        exact ⟨by rw [E.out]; rfl, HN.out.below⟩
    · obtain rfl : i = 5 := by omega
      go_wp2_with ((with_reducible refine at_dst (some 19) ?_); refine wpList_loadAt (op := ⟨some 19, _, _, _, _, _⟩) rfl 71 (.tmp 1) rfl ⟨w.heap.size, 0, none⟩ rfl x.cells d0 HI.out.1.blk.at hu0 hd0 iD ?_)
      refine (lists_any x wr (HX.out.below HI.out.1.below) hn).mono ?_
      rintro e w2 ⟨b2, ps, rfl, hb2, hP, hR, hbe⟩
      have I2 : Hid (Bx w w.heap.size 71 x w2 ∧ PartsOf x ps ∧ PartsR w2 (some ⟨b2, 0, none⟩) 5 ps) := ⟨HI.out.1.next hbe, hP, hR⟩
      clear hb2 hP hR hbe
      go_wp2
      go_loopw [22] (fun o wx => ∃ j : Nat, j ≤ 5 ∧ o = .int .i64 (j : Int) ∧ (∀ (k : Nat) (p : Bt), k < j → ps[k]? = some p → p.l.length = 0) ∧ w2 = wx) (fun o _ => 5 - (intOf o).toNat)
      case atStart => exact ⟨0, by omega, rfl, fun k p h => absurd h (Nat.not_lt_zero k), rfl⟩
      case round =>
        obtain ⟨j, hj, rfl, hall2, rfl⟩ := hrel
        have HA2 := Lib.hid hall2
        clear hall2
        by_cases hjn : j < 5
        · have hjn2 : (j : Int) < 5 := by omega
          obtain ⟨p, hp⟩ : ∃ p, ps[j]? = some p := ⟨_, List.getElem?_eq_getElem (by rw [I2.out.2.1.len]; exact hjn)⟩
          obtain ⟨ad, hA, had, hcell⟩ := I2.out.2.2.2.1 (by omega)
          injection hA with hA
          subst hA
          have hc := hcell j p hp
          rw [addr_add, Nat.zero_add] at hc
          have hl := (I2.out.2.2.2.2 p (List.mem_of_getElem? hp)).1.1
          have HPP := Lib.hid hp
          have HL := Lib.hid hl
          clear hcell hp hl
          by_cases h0 : p.n = 0
          · have e0 : ((p.n : Int) != 0) = false := by simp [h0]
            have H0 := Lib.hid h0
            clear h0
            go_wp2
            go_roundw
            case rel =>
              refine ⟨j + 1, by omega, by go_num, fun k q hk hq => ?_, trivial⟩
              by_cases e : k = j
              · subst e
                rw [HPP.out] at hq
                injection hq with hq
                rw [← hq, HL.out]; exact H0.out
              · exact HA2.out k q (by omega) hq
            case measure => simp [intOf]; omega
          · have e0 : ((p.n : Int) != 0) = true := by simp [h0]
            have E : Hid (decide (Emp x.d) = false) := decide_eq_false (fun h => h0 (by rw [← HL.out]; exact emp_parts I2.out.2.1 h HPP.out))
            clear h0
            go_wp2
            go_ret
            exact ⟨by rw [E.out]; rfl, I2.out.1.below⟩
        · obtain rfl : j = 5 := by omega
          have E : Hid (decide (Emp x.d) = true) := decide_eq_true (emp_of I2.out.2.1 HA.out (fun k p hk => HA2.out k p (by have := (List.getElem?_eq_some_iff.1 hk).1; rw [I2.out.2.1.len] at this; exact this) hk))
          go_wp2
          go_ret
          exact ⟨by rw [E.out]; rfl, I2.out.1.below⟩
theorem unx_cases (x : Dx) : (x.d.kind = 0 ∧ unx x = un0 x) ∨ (x.d.kind = 1 ∧ unx x = un1 x) ∨ (x.d.kind = 2 ∧ unx x = un2 x) ∨ (x.d.kind = 3 ∧ unx x = un3 x) ∨ (x.d.kind = 4 ∧ unx x = un4 x) ∨ (¬ (0 ≤ x.d.kind ∧ x.d.kind ≤ 4) ∧ unx x = x) := by
  by_cases h : 0 ≤ x.d.kind ∧ x.d.kind ≤ 4
  · rcases (by omega : x.d.kind = 0 ∨ x.d.kind = 1 ∨ x.d.kind = 2 ∨ x.d.kind = 3 ∨ x.d.kind = 4) with h | h | h | h | h
    · exact .inl ⟨h, by unfold unx; rw [if_pos h]⟩
    · exact .inr (.inl ⟨h, by unfold unx; rw [h]; rfl⟩)
    · exact .inr (.inr (.inl ⟨h, by unfold unx; rw [h]; rfl⟩))
    · exact .inr (.inr (.inr (.inl ⟨h, by unfold unx; rw [h]; rfl⟩)))
    · exact .inr (.inr (.inr (.inr (.inl ⟨h, by unfold unx; rw [h]; rfl⟩))))
  · exact .inr (.inr (.inr (.inr (.inr ⟨h, by unfold unx; rw [if_neg (by omega), if_neg (by omega), if_neg (by omega), if_neg (by omega), if_neg (by omega)]⟩))))
theorem i64_zero : I64 0 := by unfold I64; omega
theorem unx_ok {w : World} {x : Dx} (h : DxOk w x) : DxOk w (unx x) ∧ (unx x).d.name.length ≤ x.d.name.length := by
  rcases unx_cases x with ⟨_, e⟩ | ⟨_, e⟩ | ⟨_, e⟩ | ⟨_, e⟩ | ⟨_, e⟩ | ⟨_, e⟩ <;> rw [e]
  · exact ⟨{ h with name := Fit.nil _, value := Bs.none _ }, by simp [un0]⟩
  · exact ⟨{ h with name := Fit.nil _, alg := i64_zero, size := i64_zero, block := i64_zero, off := i64_zero, salt := Bs.none _, digest := Bs.none _ }, by simp [un1]⟩
  · exact ⟨{ h with name := Fit.nil _, alg := i64_zero, size := i64_zero, salt := Bs.none _, digest := Bs.none _ }, by simp [un2]⟩
  · exact ⟨{ h with value := Bs.none _ }, by simp [un3]⟩
  · exact ⟨{ h with name := Fit.nil _, key := Bs.none _, loc := i64_zero }, by simp [un4]⟩
  · exact ⟨h, Nat.le_refl _⟩
theorem right_iff (x : Dx) : Right x.d ↔ NRight x.d ∧ Emp (unx x).d := by
  have hs := szOf_cases x.d.alg
  rcases unx_cases x with ⟨hk, e⟩ | ⟨hk, e⟩ | ⟨hk, e⟩ | ⟨hk, e⟩ | ⟨hk, e⟩ | ⟨hk, e⟩ <;> rw [e] <;> simp only [Right, NRight, Emp, NoSum, NoShape, NoChain, TreeOk, Rgt, un0, un1, un2, un3, un4, hk, List.length_nil]
  all_goals first | grind | (constructor <;> intro h <;> exfalso <;> omega)
set_option maxHeartbeats 1000000 in
theorem Right_any (x : Dx) (w : World) (hx : DxOk w x) (hn : x.d.name.length ≤ 100000) : Calls Tryz.prog 109 #[x.val] w fun e w' => e = .returned (.bool (decide (Right x.d))) ∧ Below w.heap.size w w' := by
  obtain ⟨d0, hu0, hd0⟩ := uD
  have hr := right_iff x
  unfold Dx.val
  obtain ⟨W, hW⟩ : ∃ W, w.alloc (.cells x.cells.toArray 71) = W := ⟨_, rfl⟩
  have X := Lib.hid (Bx.new hW)
  have HX := Lib.hid hx
  have HR := Lib.hid hr
  clear hx hr
  by_cases h1 : NRight x.d
  · have E1 := Lib.hid (decide_eq_true h1)
    go_enter Tryz.func109, Tryz.ntmps109
    go_wp2_with ((with_reducible refine at_dst (some 3) ?_); refine wpList_loadAt (op := ⟨some 3, _, _, _, _, _⟩) rfl 71 (.tmp 1) rfl ⟨w.heap.size, 0, none⟩ rfl x.cells d0 X.out.blk.at hu0 hd0 iD ?_)
    refine (namedRight_any x HX.out.hds HX.out.name W).mono ?_
    rintro e w2 ⟨rfl, hb2⟩
    rw [E1.out]
    have X2 := Lib.hid (X.out.next hb2)
    clear hb2
    go_wp2_with ((with_reducible refine at_dst (some 6) ?_); refine wpList_loadAtG (op := ⟨some 6, _, _, _, _, _⟩) (want_some rfl rfl rfl rfl) 71 (.tmp 1) rfl ⟨w.heap.size, 0, none⟩ rfl x.cells d0 X2.out.blk.at hu0 hd0 iD ?_)
    refine (unnamed_any x w2).mono ?_
    rintro e w3 ⟨rfl, hb3⟩
    have X3 := Lib.hid (X2.out.next hb3)
    clear hb3
    have HU := Lib.hid (unx_ok (HX.out.below X3.out.below))
    obtain ⟨v, hv⟩ : ∃ v, (unx x).val = v := ⟨_, rfl⟩
    have HE := Lib.hid (empty_any (unx x) w3 HU.out.1 (Nat.le_trans HU.out.2 hn))
    rw [hv] at HE ⊢
    clear hv
    go_wp2_with fail
    refine HE.out.mono ?_
    rintro e w4 ⟨rfl, hb4⟩
    have X4 := Lib.hid (X3.out.next hb4)
    clear hb4
    by_cases h2 : Emp (unx x).d
    · have E2 := Lib.hid (decide_eq_true h2)
      have E3 := Lib.hid (decide_eq_true (HR.out.2 ⟨h1, h2⟩))
      clear h1 h2
      rw [E2.out]
      go_wp2
      go_ret
      exact ⟨by rw [E3.out]; rfl, X4.out.below⟩
    · have E2 := Lib.hid (decide_eq_false h2)
      have E3 : Hid (decide (Right x.d) = false) := decide_eq_false (fun h => h2 (HR.out.1 h).2)
      clear h1 h2
      rw [E2.out]
      go_wp2
      go_ret
      exact ⟨by rw [E3.out]; rfl, X4.out.below⟩
  · have E1 := Lib.hid (decide_eq_false h1)
    have E3 : Hid (decide (Right x.d) = false) := decide_eq_false (fun h => h1 (HR.out.1 h).1)
    clear h1
    go_enter Tryz.func109, Tryz.ntmps109
    go_wp2_with ((with_reducible refine at_dst (some 3) ?_); refine wpList_loadAt (op := ⟨some 3, _, _, _, _, _⟩) rfl 71 (.tmp 1) rfl ⟨w.heap.size, 0, none⟩ rfl x.cells d0 X.out.blk.at hu0 hd0 iD ?_)
    refine (namedRight_any x HX.out.hds HX.out.name W).mono ?_
    rintro e w2 ⟨rfl, hb2⟩
    rw [E1.out]
    have X2 := Lib.hid (X.out.next hb2)
    clear hb2
    go_wp2
    go_ret
    exact ⟨by rw [E3.out]; rfl, X2.out.below⟩
end Go.Proofs.YtlcoebenkhafcaaGreatDoor
