/-
  What bytes.Join without a separator answers; numbers and lists. No condition but that the parts are bytes.
-/
import Derived.Test.YtfeihdmjcppbaaaDoorR3
import Derived.Lib.SlBuf
import Derived.Lib.MakeNoZero
import Derived.Lib.ConvBytes
import Derived.Laws.Externs
import Derived.Laws.Strings2
namespace Go.Proofs.YtfeihdmjcppbaaaDoor
open Go.RowKit
set_option linter.unusedVariables false
set_option linter.unusedSimpArgs false
set_option maxRecDepth 100000

/-- A new buffer, of whatever bytes. -/
theorem noZero_any (w : World) (T : Nat) (hT : T ≤ 1000000) : ∃ cs : Array Value, (callFunc 67 #[.int .i64 (T : Int)]).run Tryd.prog w = .ok (.value (.slice (some ⟨w.heap.size, 0, none⟩) T cs.size)) ((w.alloc (.cells cs 5)).drewN 2) ∧ T ≤ cs.size := by
  obtain ⟨cs, hrun, hle, _⟩ := Lib.run_makeNoZero (P := Tryd.prog) w #[3] 25 5 Tryd.underlying25 T (by omega)
  refine ⟨cs, ?_, hle⟩
  rw [run_callFunc_extern Tryd.func67 (by kernel_rfl) (by kernel_rfl) (by kernel_rfl) (e := Extern.BytealgMakeNoZero.makeNoZero #[3] #[25]) (by kernel_rfl), hrun]
  rfl
theorem Buf.drew {w wr : World} {h N : Nat} {acc : List UInt8} (b : Lib.Buf w wr h N acc) : Lib.Buf w wr.drew h N acc :=
  ⟨⟨b.below.os, b.below.tape, b.below.output, b.below.size, b.below.block⟩, b.there, b.free, b.holds, b.fits⟩
theorem Rd.holds {w : World} {A : Option Addr} {n cap : Nat} {l : List Nat} (h : Rd .u8 w A n l) (hf : Fit 256 l) : Lib.HoldsBytes w (.slice A n cap) (l.map UInt8.ofNat) := by
  refine ⟨A, cap, by rw [List.length_map, h.1], fun e => ?_, fun a e j x hx => ?_⟩
  · rcases Nat.eq_zero_or_pos n with h0 | h0
    · rw [List.map_eq_nil_iff]; exact List.eq_nil_of_length_eq_zero (by rw [h.1, h0])
    · obtain ⟨ad, e2, _⟩ := h.2 h0
      rw [e] at e2; cases e2
  · have hj := (List.getElem?_eq_some_iff.1 hx).1
    rw [List.length_map, h.1] at hj
    obtain ⟨ad, e2, _, hc⟩ := h.2 (by omega)
    rw [e] at e2
    injection e2 with e2
    subst e2
    rw [List.getElem?_map] at hx
    cases hy : l[j]? with
    | none => rw [hy] at hx; cases hx
    | some y =>
      rw [hy] at hx
      injection hx with hx
      have := hf y (List.mem_of_getElem? hy)
      rw [hc j y hy, ← hx]
      simp only [UInt8.toNat_ofNat']
      congr 2
      omega
theorem Buf.rd {w wr : World} {h N : Nat} {l : List Nat} (b : Lib.Buf w wr h N (l.map UInt8.ofNat)) (hf : Fit 256 l) (hl : l.length = N) : Rd .u8 wr (some ⟨h, 0, none⟩) N l := by
  refine ⟨hl, fun hn => ⟨_, rfl, ?_, fun j x hx => ?_⟩⟩
  · have := b.there 0 hn
    cases hc : wr.cell? ⟨h, 0, none⟩ with
    | none => rw [hc] at this; cases this
    | some v => exact World.block_lt_of_cell? wr _ hc
  · rw [addr_add, Nat.zero_add, b.holds j (UInt8.ofNat x) (by rw [List.getElem?_map, hx]; rfl)]
    have := hf x (List.mem_of_getElem? hx)
    simp only [UInt8.toNat_ofNat']
    congr 2
    omega
theorem byteSize : (Tryd.prog.info? 5).map (·.size) = some 1 := by kernel_rfl
theorem byteSz (w : World) : (Go.sizeOf 5).run Tryd.prog w = .ok 1 w := by kernel_rfl
def GivesOwn (w : World) (n : Nat) (l : List Nat) (e : Ending) (w' : World) : Prop := ∃ g, e = .returned (.slice (some ⟨g, 0, none⟩) n n) ∧ w.heap.size ≤ g ∧ Rd .u8 w' (some ⟨g, 0, none⟩) n l ∧ Below w.heap.size w w'
/-- One of the parts of a text: where it lies, how long it is, how much room it has, and its bytes. -/
structure Bt where
  A : Option Addr
  n : Nat
  cap : Nat
  l : List Nat
/-- All bytes of the parts, one behind the other. -/
def flat (ps : List Bt) : List Nat := ps.flatMap (·.l)
/-- The slice at A reads as these parts. -/
def PartsR (w : World) (A : Option Addr) (n : Nat) (ps : List Bt) : Prop :=
  ps.length = n ∧ (0 < n → ∃ ad, A = some ad ∧ ad.block < w.heap.size ∧ ∀ j p, ps[j]? = some p → w.cell? (ad.add j) = some (.slice p.A p.n p.cap)) ∧ ∀ p ∈ ps, Rd .u8 w p.A p.n p.l ∧ Fit 256 p.l ∧ p.n ≤ p.cap
theorem PartsR.below {w w' : World} {A : Option Addr} {n : Nat} {ps : List Bt} (h : PartsR w A n ps) (hb : Below w.heap.size w w') : PartsR w' A n ps :=
  ⟨h.1, fun hn => by
    obtain ⟨ad, e, hlt, hc⟩ := h.2.1 hn
    exact ⟨ad, e, Nat.lt_of_lt_of_le hlt hb.size, fun j p hp => (hb.cell (p := ad.add j) (by rw [block_add]; exact hlt)).trans (hc j p hp)⟩,
   fun p hp => ⟨(h.2.2 p hp).1.below hb, (h.2.2 p hp).2⟩⟩
theorem PartsR.nil (w : World) (A : Option Addr) : PartsR w A 0 [] := ⟨rfl, fun h => absurd h (Nat.lt_irrefl _), fun p hp => by cases hp⟩
theorem flat_fit {ps : List Bt} (h : ∀ p ∈ ps, Fit 256 p.l) : Fit 256 (flat ps) := by
  intro x hx
  obtain ⟨p, hp, hx⟩ := List.mem_flatMap.1 hx
  exact h p hp x hx
theorem flat_snoc (ps : List Bt) (i : Nat) (p : Bt) (h : ps[i]? = some p) : flat (ps.take (i + 1)) = flat (ps.take i) ++ p.l := by
  obtain ⟨hi, rfl⟩ := List.getElem?_eq_some_iff.1 h
  rw [List.take_succ_eq_append_getElem hi]
  simp only [flat, List.flatMap_append, List.flatMap_cons, List.flatMap_nil, List.append_nil]
theorem flat_take_le (ps : List Bt) (i : Nat) : (flat (ps.take i)).length ≤ (flat ps).length := by
  have : flat ps = flat (ps.take i) ++ flat (ps.drop i) := by
    simp only [flat]
    rw [← List.flatMap_append, List.take_append_drop]
  rw [this, List.length_append]; omega
/-- What was taken of the parts, as bytes. -/
def took (ps : List Bt) (i : Nat) : List UInt8 := (flat (ps.take i)).map UInt8.ofNat
theorem took_length (ps : List Bt) (i : Nat) : (took ps i).length = (flat (ps.take i)).length := by rw [took, List.length_map]
set_option maxHeartbeats 1000000 in
theorem Join_any (b n cap : Nat) (ps : List Bt) (w : World) (hP : PartsR w (some ⟨b, 0, none⟩) n ps) (h2 : 2 ≤ n) (hn : n ≤ 100) (hcap : n ≤ cap) (hcm : cap ≤ 1000) (T : Nat) (hT : (flat ps).length = T) (hTm : T ≤ 900000) :
    Calls Tryd.prog 55 #[.slice (some ⟨b, 0, none⟩) n cap, .slice none 0 0] w (GivesOwn w T (flat ps)) := by
  have HP := Lib.hid hP
  have f0 : ((n : Int) == 0) = false := beq_eq_false_iff_ne.2 (by omega)
  have f1 : ((n : Int) == 1) = false := beq_eq_false_iff_ne.2 (by omega)
  have HTT := Lib.hid hT
  obtain ⟨cs, hcall, hle⟩ := noZero_any w T (by omega)
  have i0 : (0 : Int) ≤ (T : Int) := by omega
  have i1 : (T : Int) ≤ (cs.size : Int) := by omega
  have HB0 := Lib.hid (Lib.Buf.start w cs 5 T 2 hle)
  have HCALL := Lib.hid hcall
  clear hP hT hcall
  go_enter Tryd.func55, Tryd.ntmps55
  go_wp2
  go_loopw [5, 44] (fun a o wr => ∃ i : Nat, i ≤ n ∧ o = .int .i64 (i : Int) ∧ a = .int .i64 ((flat (ps.take i)).length : Int) ∧ w = wr) (fun _ o _ => n - (intOf o).toNat)
  case atStart => exact ⟨0, by omega, rfl, rfl, rfl⟩
  case round =>
    obtain ⟨i, hi, rfl, rfl, rfl⟩ := hrel
    by_cases hin : i < n
    · obtain ⟨p, hpi⟩ : ∃ p, ps[i]? = some p := ⟨_, List.getElem?_eq_getElem (by rw [HP.out.1]; exact hin)⟩
      obtain ⟨ad, hA, had, hcell⟩ := HP.out.2.1 (by omega)
      injection hA with hA
      subst hA
      have hc := hcell i p hpi
      rw [addr_add, Nat.zero_add] at hc
      have hpm := HP.out.2.2 p (List.mem_of_getElem? hpi)
      have hlen := hpm.1.1
      have e1 := flat_snoc ps i p hpi
      have e2 := flat_take_le ps (i + 1)
      rw [HTT.out] at e2
      have e3 := congrArg List.length e1
      rw [List.length_append, hlen] at e3
      have HE3 := Lib.hid e3
      obtain ⟨m, hm⟩ : ∃ m, (flat (ps.take i)).length = m := ⟨_, rfl⟩
      obtain ⟨k, hk⟩ : ∃ k, (flat (ps.take (i + 1))).length = k := ⟨_, rfl⟩
      rw [hm, hk] at e3
      rw [hk] at e2
      rw [hm]
      have hb : ¬ (9223372036854775807 - (m : Int) < (p.n : Int)) := by omega
      have hbw : (9223372036854775807 : Int) - (m : Int) ≤ 9223372036854775807 := by omega
      have hkk : ((flat (ps.take (i + 1))).length : Int) = (m : Int) + (p.n : Int) := by rw [hk]; omega
      have HKK := Lib.hid hkk
      have hmb : m + p.n ≤ 900000 := by omega
      clear hcell hpm hlen e1 e2 e3 hm hk hkk hpi
      go_wp2
      go_roundw
      case rel => exact ⟨i + 1, by omega, by go_num, by rw [HKK.out], trivial⟩
      case measure => simp [intOf]; omega
    · obtain rfl : i = n := by omega
      have hall : (flat (ps.take i)).length = T := by rw [List.take_of_length_le (by rw [HP.out.1]; omega)]; exact HTT.out
      rw [hall]
      have hcall := HCALL.out
      obtain ⟨p0, hp0⟩ : ∃ p, ps[0]? = some p := ⟨_, List.getElem?_eq_getElem (by rw [HP.out.1]; omega)⟩
      obtain ⟨ad, hA, had, hcell⟩ := HP.out.2.1 (by omega)
      injection hA with hA
      subst hA
      have HCELL := Lib.hid hcell
      have hc := hcell 0 p0 hp0
      rw [addr_add, Nat.zero_add] at hc
      have hpm := HP.out.2.2 p0 (List.mem_of_getElem? hp0)
      have hc0 : ((w.alloc (.cells cs 5)).drewN 2).cell? ⟨b, 0, none⟩ = some (.slice p0.A p0.n p0.cap) := Lib.Below.cellOf HB0.out.below hc (Nat.le_refl _)
      have e1 := flat_snoc ps 0 p0 hp0
      have e2 := flat_take_le ps (0 + 1)
      have el : p0.l.length ≤ T := by
        rw [← HTT.out]
        rw [e1] at e2
        simpa [flat] using e2
      obtain ⟨w1, hr1, B1⟩ := Lib.copy_part (P := Tryd.prog) w _ w.heap.size T [] (p0.l.map UInt8.ofNat) (.slice p0.A p0.n p0.cap) 25 3 5 Tryd.underlying25 byteSize (Nat.le_refl _) HB0.out (hpm.1.holds hpm.2.1) (by simpa using el)
      rw [List.length_nil, Lib.tailV_zero, List.length_map, hpm.1.1] at hr1
      have HB1 : Hid (Lib.Buf w w1 w.heap.size T (took ps 1)) := by
        show Lib.Buf _ _ _ _ _
        rw [took, e1]
        simpa [flat] using B1
      have hl0 : ((took ps 1).length : Int) = (p0.n : Int) := by
        rw [took_length, e1]
        simp [flat, hpm.1.1]
      have HL0 := Lib.hid hl0
      clear hcell hpm e1 e2 el B1 hl0 hp0
      go_wp2_with (at_builtin; refine Lib.wpList_copy_run _ rfl _ _ 25 25 rfl _ _ rfl rfl hr1 ?_)
      clear hcall hr1 hc hc0
      go_loopw [9, 72] (fun a o wr => ∃ j : Nat, j ≤ i - 1 ∧ o = .int .i64 (j : Int) ∧ a = .int .i64 ((took ps (1 + j)).length : Int) ∧ Hid (Lib.Buf w wr w.heap.size T (took ps (1 + j)))) (fun _ o _ => i - 1 - (intOf o).toNat)
      case atStart => exact ⟨0, by omega, rfl, by rw [HL0.out], HB1⟩
      case round =>
        obtain ⟨j, hj, rfl, rfl, HB⟩ := hrel
        obtain ⟨q, hq⟩ : ∃ q, (took ps (1 + j)).length = q := ⟨_, rfl⟩
        have hqT : q ≤ T := by rw [← hq]; exact HB.out.fits
        by_cases hjn : j < i - 1
        · have hjz : (j : Int) < ((i - 1 : Nat) : Int) := by omega
          obtain ⟨p, hpi⟩ : ∃ p, ps[1 + j]? = some p := ⟨_, List.getElem?_eq_getElem (by rw [HP.out.1]; omega)⟩
          have hc := HCELL.out (1 + j) p hpi
          rw [addr_add, Nat.zero_add] at hc
          have hcw : wr.cell? ⟨b, 1 + j, none⟩ = some (.slice p.A p.n p.cap) := Lib.Below.cellOf HB.out.below hc (Nat.le_refl _)
          have hpm := HP.out.2.2 p (List.mem_of_getElem? hpi)
          have e1 := flat_snoc ps (1 + j) p hpi
          have e2 := flat_take_le ps (1 + j + 1)
          rw [HTT.out, e1, List.length_append, ← took_length, hq, hpm.1.1] at e2
          have hsl1 : ∀ W, (Instr.slice 25 (.slice (some ⟨w.heap.size, 0, none⟩) T T) (some (.int .i64 (q : Int))) none none).run Tryd.prog W = .ok (Lib.tailV w.heap.size T q) W := fun W => Lib.run_slice_tailV W 25 5 Tryd.underlying25 byteSz _ T q (by omega)
          have hr2 : (Builtin.copy_ #[25, 25] 3 #[Lib.tailV w.heap.size T q, .slice none 0 0]).run Tryd.prog wr = .ok (.int .i64 0) wr := run_copy_none (P := Tryd.prog) wr 25 25 3 5 _ _ _ _ _ _ Tryd.underlying25 byteSize (Nat.zero_min _)
          obtain ⟨w3, hr3, B3⟩ := Lib.copy_part (P := Tryd.prog) w wr w.heap.size T (took ps (1 + j)) (p.l.map UInt8.ofNat) (.slice p.A p.n p.cap) 25 3 5 Tryd.underlying25 byteSize (Nat.le_refl _) HB.out (hpm.1.holds hpm.2.1) (by rw [hq, List.length_map, hpm.1.1]; exact e2)
          rw [hq, List.length_map, hpm.1.1] at hr3
          have HB3 : Hid (Lib.Buf w w3 w.heap.size T (took ps (1 + (j + 1)))) := by
            show Lib.Buf _ _ _ _ _
            rw [took, show 1 + (j + 1) = 1 + j + 1 by omega, e1, List.map_append]
            exact B3
          have HLL : Hid (((took ps (1 + (j + 1))).length : Int) = (q : Int) + (p.n : Int)) := by
            show _ = _
            rw [took_length, show 1 + (j + 1) = 1 + j + 1 by omega, e1, List.length_append, ← took_length, hq, hpm.1.1]
            omega
          have hwr : IntKind.i64.wrap ((q : Int) + (p.n : Int)) = (q : Int) + (p.n : Int) := by rw [IntKind.wrap_i64]; omega
          rw [hq]
          clear hc hpm e1 e2 B3 hpi hq
          go_wp2_with (at_builtin; first | refine Lib.wpList_copy_run _ rfl _ _ 25 25 rfl _ _ rfl rfl hr2 ?_ | refine Lib.wpList_copy_run _ rfl _ _ 25 25 rfl _ _ rfl rfl hr3 ?_)
          go_roundw
          case rel => exact ⟨j + 1, by omega, by go_num, by rw [HLL.out], HB3⟩
          case measure => simp [intOf]; omega
        · obtain rfl : j = i - 1 := by omega
          have hjz : ¬ ((i - 1 : Nat) : Int) < ((i - 1 : Nat) : Int) := by omega
          have ht : took ps (1 + (i - 1)) = (flat ps).map UInt8.ofNat := by
            rw [took, List.take_of_length_le (by rw [HP.out.1]; omega)]
          have hb := HB.out
          rw [ht] at hb
          have HB4 := Lib.hid hb
          clear hb ht HB hq
          go_wp2
          go_ret
          have hfit : Fit 256 (flat ps) := flat_fit (fun p hp => (HP.out.2.2 p hp).2.1)
          exact ⟨_, rfl, Nat.le_refl _, Buf.rd HB4.out hfit HTT.out, HB4.out.below⟩

theorem below_bytesWorld (w : World) (s : ByteArray) : Below w.heap.size w (Lib.bytesWorld w 5 s) :=
  ⟨rfl, rfl, rfl, by rw [Lib.bytesWorld_size]; omega, fun i hi => Lib.bytesWorld_at_old w 5 s i hi⟩
/-- The bytes of a string, just made. -/
theorem rd_bytesWorld (w : World) (l : List Nat) (hf : Fit 256 l) : Rd .u8 (Lib.bytesWorld w 5 (str l)) (some ⟨w.heap.size, 0, none⟩) l.length l :=
  ⟨rfl, fun hn => ⟨_, rfl, by rw [Lib.bytesWorld_size]; exact Nat.lt_succ_self _, fun j x hx => by
    have hj := (List.getElem?_eq_some_iff.1 hx).1
    have hd : (str l).data.toList = l.map UInt8.ofNat := by
      show ((l.map fun (x : Nat) => (x : Int)).map fun n => UInt8.ofNat n.toNat) = _
      simp [Function.comp_def]
    have hsz : j < (str l).size := by
      show j < (str l).data.size
      rw [← Array.length_toList, hd, List.length_map]; exact hj
    rw [addr_add, Nat.zero_add, Lib.bytesWorld_cell w 5 (str l) j hsz, hd]
    have hb := hf x (List.mem_of_getElem? hx)
    simp only [List.getD_eq_getElem?_getD, List.getElem?_map, hx, Option.map_some, Option.getD_some, UInt8.toNat_ofNat']
    congr 2
    omega⟩⟩
def numCells (g : Nat) : List Value := [.pointer (some ⟨g, 1, none⟩), .int .i64 4, .pointer (some ⟨g, 2, none⟩), .int .i64 8, .pointer (some ⟨g, 3, none⟩), .int .i64 4, .pointer (some ⟨g, 4, none⟩), .int .i64 8, .pointer (some ⟨g, 5, none⟩), .int .i64 4]
theorem numbers_any (g : Nat) (w : World) : Calls Tryd.prog 42 #[.pointer (some ⟨g, 0, none⟩)] w fun e w' => ∃ b, e = .returned (.slice (some ⟨b, 0, none⟩) 5 5) ∧ w.heap.size ≤ b ∧ Blk w' b 66 (numCells g) ∧ Below w.heap.size w w' := by
  go_enter Tryd.func42, Tryd.ntmps42
  go_wp2
  go_still_tail 20, (by kernel_rfl)
  change wpList _ _ _ _ _ w.drew
  go_wp2
  go_ret
  refine ⟨w.heap.size, rfl, Nat.le_refl _, ?_, ?_⟩
  · exact Blk.new w.drew _ (numCells g)
  · exact (below_drew1 (Below.refl _ _)).alloc (Nat.le_refl _) _
/-- The texts of a descriptor as parts. -/
structure PartsOf (x : Dx) (ps : List Bt) : Prop where
  len : ps.length = 5
  ls : ps.map (·.l) = [x.d.name, x.d.salt, x.d.digest, x.d.key, x.d.value]
theorem PartsOf.flat {x : Dx} {ps : List Bt} (h : PartsOf x ps) : flat ps = texts x.d := by
  have : Go.Proofs.YtfeihdmjcppbaaaDoor.flat ps = (ps.map (·.l)).flatten := by simp [Go.Proofs.YtfeihdmjcppbaaaDoor.flat, List.flatMap_def]
  rw [this, h.ls]
  simp [texts]
theorem PartsOf.lens {x : Dx} {ps : List Bt} (h : PartsOf x ps) : ps.map (·.l.length) = [x.d.name.length, x.d.salt.length, x.d.digest.length, x.d.key.length, x.d.value.length] := by
  have := congrArg (List.map List.length) h.ls
  simpa [Function.comp_def] using this
set_option maxHeartbeats 1000000 in
theorem lists_any (x : Dx) (w : World) (hx : DxOk w x) (hn : x.d.name.length ≤ 100000) : Calls Tryd.prog 43 #[x.val] w fun e w' => ∃ b ps, e = .returned (.slice (some ⟨b, 0, none⟩) 5 5) ∧ w.heap.size ≤ b ∧ PartsOf x ps ∧ PartsR w' (some ⟨b, 0, none⟩) 5 ps ∧ Below w.heap.size w w' := by
  unfold Dx.val
  obtain ⟨W, hW⟩ : ∃ W, w.alloc (.cells x.cells.toArray 27) = W := ⟨_, rfl⟩
  have X := Lib.hid (Bx.new hW)
  have HX := Lib.hid hx
  have c6 : W.cell? ⟨w.heap.size, 6, none⟩ = some (.string (str x.d.name)) := X.out.blk.cell 6
  have hcv := Lib.run_convert_string_bytes (P := Tryd.prog) W 9 25 5 (str x.d.name) Tryd.underlying9 Tryd.underlying25 Tryd.underlying5
  have hrq := rd_bytesWorld W x.d.name hx.name
  rw [str_size] at hcv
  have hq1 := grownCap_ge W x.d.name.length 0 5
  have hb9 := below_bytesWorld W (str x.d.name)
  generalize hw9 : Lib.bytesWorld W 5 (str x.d.name) = w9 at hcv hrq hb9
  generalize grownCap W x.d.name.length 0 5 = cq at hcv hq1
  have X9 := Lib.hid (X.out.next hb9)
  have c7 : w9.cell? ⟨w.heap.size, 7, none⟩ = some (.slice x.s1.A x.s1.n x.s1.cap) := X9.out.blk.cell 7
  have c8 : w9.cell? ⟨w.heap.size, 8, none⟩ = some (.slice x.s2.A x.s2.n x.s2.cap) := X9.out.blk.cell 8
  have c9 : w9.cell? ⟨w.heap.size, 9, none⟩ = some (.slice x.s3.A x.s3.n x.s3.cap) := X9.out.blk.cell 9
  have c10 : w9.cell? ⟨w.heap.size, 10, none⟩ = some (.slice x.s4.A x.s4.n x.s4.cap) := X9.out.blk.cell 10
  have HR := Lib.hid hrq
  have HQ := Lib.hid hq1
  have HB9 := Lib.hid hb9
  clear hx hrq hq1 hb9 hw9
  go_enter Tryd.func43, Tryd.ntmps43
  go_wp2
  go_ret
  have bel : Below w.heap.size w (w9.alloc (.cells #[.slice (some ⟨W.heap.size, 0, none⟩) x.d.name.length cq, .slice x.s1.A x.s1.n x.s1.cap, .slice x.s2.A x.s2.n x.s2.cap, .slice x.s3.A x.s3.n x.s3.cap, .slice x.s4.A x.s4.n x.s4.cap] 25)) := X9.out.below.alloc X9.out.below.size _
  have bel9 : Below w9.heap.size w9 (w9.alloc (.cells #[.slice (some ⟨W.heap.size, 0, none⟩) x.d.name.length cq, .slice x.s1.A x.s1.n x.s1.cap, .slice x.s2.A x.s2.n x.s2.cap, .slice x.s3.A x.s3.n x.s3.cap, .slice x.s4.A x.s4.n x.s4.cap] 25)) := (Below.refl _ _).alloc (Nat.le_refl _) _
  refine ⟨w9.heap.size, [⟨some ⟨W.heap.size, 0, none⟩, x.d.name.length, cq, x.d.name⟩, ⟨x.s1.A, x.s1.n, x.s1.cap, x.d.salt⟩, ⟨x.s2.A, x.s2.n, x.s2.cap, x.d.digest⟩, ⟨x.s3.A, x.s3.n, x.s3.cap, x.d.key⟩, ⟨x.s4.A, x.s4.n, x.s4.cap, x.d.value⟩], rfl, X9.out.below.size, ⟨rfl, rfl⟩, ⟨rfl, fun _ => ⟨_, rfl, by simp, fun j p hj => ?_⟩, fun p hp => ?_⟩, bel⟩
  · rw [addr_add, Nat.zero_add, (Blk.new w9 25 [.slice (some ⟨W.heap.size, 0, none⟩) x.d.name.length cq, .slice x.s1.A x.s1.n x.s1.cap, .slice x.s2.A x.s2.n x.s2.cap, .slice x.s3.A x.s3.n x.s3.cap, .slice x.s4.A x.s4.n x.s4.cap]).cell j]
    rcases j with _ | _ | _ | _ | _ | j
    all_goals first | (injection hj with hj; subst hj; rfl) | (simp at hj)
  · have hwn : Below w.heap.size w (w9.alloc (.cells #[.slice (some ⟨W.heap.size, 0, none⟩) x.d.name.length cq, .slice x.s1.A x.s1.n x.s1.cap, .slice x.s2.A x.s2.n x.s2.cap, .slice x.s3.A x.s3.n x.s3.cap, .slice x.s4.A x.s4.n x.s4.cap] 25)) := bel
    have hok := HX.out.below hwn
    simp only [List.mem_cons, List.not_mem_nil, or_false] at hp
    rcases hp with rfl | rfl | rfl | rfl | rfl
    · exact ⟨(HR.out.below bel9), HX.out.name, HQ.out⟩
    · exact ⟨hok.salt.rd, hok.salt.fit, hok.salt.le⟩
    · exact ⟨hok.digest.rd, hok.digest.fit, hok.digest.le⟩
    · exact ⟨hok.key.rd, hok.key.fit, hok.key.le⟩
    · exact ⟨hok.value.rd, hok.value.fit, hok.value.le⟩
end Go.Proofs.YtfeihdmjcppbaaaDoor
