/-
  The statements' own anchor: the document's example holds. No condition.
-/
import Derived.Test.YthepbadecpnepaaEq
namespace Go.Proofs.Ythepbadecpnepaa
open Go.RowKit Go.MapKept
set_option linter.unusedVariables false
set_option linter.unusedSimpArgs false
set_option maxRecDepth 100000

set_option maxHeartbeats 4000000 in
theorem anchor_any (w : World) : Calls Try.prog 9 #[] w fun e w' => e = .returned (.bool true) ∧ Below w.heap.size w w' := by
  have hmk := run_makeB 100 100 rfl (by omega)
  obtain ⟨Z, hZ⟩ : ∃ Z, (cn .u8 (List.replicate 100 0)).toArray = Z := ⟨_, rfl⟩
  rw [hZ] at hmk
  have HZ := Lib.hid hZ
  clear hZ
  go_enter Try.func9, Try.ntmps9
  go_wp2_with fail
  refine (made_yes 512 w (by decide)).mono ?_
  rintro e w1 ⟨g, O, rfl, hD, hO, hb1⟩
  have HD := Lib.hid hD
  have HO := Lib.hid hO
  have HB1 := Lib.hid hb1
  have HGW : Hid (g ∈ O) := by obtain ⟨D, p, _, rfl, rfl, _⟩ := hD; exact own_g D
  clear hD hb1 hO
  have HB2 := Lib.hid (HB1.out.alloc HB1.out.size (.cells Z 5))
  have HD2 := Lib.hid (HD.out.below ((Below.refl _ _).alloc (Nat.le_refl _) (.cells Z 5)))
  have HR2 : Hid (Rd .u8 (w1.alloc (.cells Z 5)) (some ⟨w1.heap.size, 0, none⟩) 100 (List.replicate 100 0)) := by rw [← HZ.out]; exact (Blk.new w1 5 (cn .u8 (List.replicate 100 0))).rd 100 (by simp)
  have HF2 : Hid (∀ ad, some (⟨w1.heap.size, 0, none⟩ : Addr) = some ad → ad.block ∉ O) := fun ad e hm => by
    injection e with e
    have := HD.out.lt ad.block hm
    rw [← e] at this
    exact absurd this (Nat.lt_irrefl _)
  have HSZ2 : Hid (w1.heap.size ≤ (w1.alloc (.cells Z 5)).heap.size) := by show _ ≤ _; simp
  go_wp2_with fail
  generalize w1.alloc (.cells Z 5) = W2 at *
  refine (HD2.out.store_ok (by omega) _ 100 100 (List.replicate 100 0) HR2.out (Fit.noughts _) (by omega) (by omega) (fun _ => HF2.out) (by omega) (by omega) 10 64 rfl (by simp)).mono ?_
  rintro e w3 ⟨rfl, hD3, hT3⟩
  obtain ⟨L, hL⟩ : ∃ L, stored (List.replicate (Int.toNat 512) 0) 64 (List.replicate 100 0) 10 = L := ⟨_, rfl⟩
  have hst : lastOf L = tbytes 10 64 100 := by rw [← hL]; have := stored_last (l := List.replicate (Int.toNat 512) 0) (bs := List.replicate 100 0) (U := 64) (a := 10) (by simp) (by simp); simpa using this
  have hlen : L.length = 512 := by rw [← hL, stored_length (by simp) (by simp)]; simp
  have hro : TOk (10 : Nat) (64 : Nat) (100 : Nat) := by unfold TOk; omega
  have HLV := Lib.hid (vals_of hst hro)
  have HLY : Hid (∀ er, LoadL (fun _ => false) L er → er = 0) := fun er h => load_yes hst hro (by omega) h
  rw [hL] at hD3
  have HD3 := Lib.hid hD3
  have HB3 := Lib.hid (below_touch HB2.out hT3 HO.out HB2.out.size)
  have HM : Hid ((L.drop 448).take 4 = mag) := by
    show _ = _
    have h1 : L.drop 448 = tbytes 10 64 100 := by rw [← hst]; unfold lastOf; rw [hlen]
    rw [h1, tbytes_mag]
  have HLN := Lib.hid hlen
  have HSZ3 : Hid (w1.heap.size ≤ w3.heap.size) := Nat.le_trans HSZ2.out hT3.size
  clear hst hro hlen hL hD3 hT3
  go_wp2_with fail
  refine (HD3.out.load (by omega) (by omega)).mono ?_
  rintro e w4 ⟨c2, t2, hD4, hc2, ht2, hT4, (⟨er, hne, hl, rfl⟩ | ⟨g2, hl, rfl, hg2, hB4⟩)⟩
  · exact absurd (HLY.out er hl) hne
  · have HD4 := Lib.hid hD4
    have HB4 := Lib.hid (below_touch HB3.out hT4 HO.out HB3.out.size)
    have HSZ4 : Hid (w1.heap.size ≤ w4.heap.size) := Nat.le_trans HSZ3.out hT4.size
    have HGN : Hid (w4.heap.size ∉ [g]) := by have := hD4.lt g HGW.out; show _ ∉ _; simp; omega
    rw [HLV.out.1, HLV.out.2.1, HLV.out.2.2]
    have H3 : Hid (Below w4.heap.size w4 (w4.alloc (.cells #[.int .i64 0, .int .i64 0, .int .i64 0] 23)) ∧ Blk (w4.alloc (.cells #[.int .i64 0, .int .i64 0, .int .i64 0] 23)) w4.heap.size 23 tz) := ⟨(Below.refl _ _).alloc (Nat.le_refl _) _, Blk.new w4 _ tz⟩
    clear hD4 hT4 hl hg2 hB4
    go_wp2_with ((with_reducible refine at_dst none ?_); refine wpList_storeBlk (op := ⟨none, _, _, _, _, _⟩) rfl 23 (.tmp 3) (.tmp 20) rfl (g := w4.heap.size) (t := 23) (old := tz) (cs := tcells (10 : Nat) (64 : Nat) (100 : Nat)) rfl rfl H3.out.2 rfl iT (tcells_one _ _ _) ?_; intro u0 hU0 hT0; have HT0 := Lib.hid hT0; clear hT0)
    have HBU : Hid (Below w.heap.size w u0) := (HB4.out.trans (H3.out.1.mono HB4.out.size)).trans (HT0.out.below (fun y hy => by rw [List.mem_singleton.1 hy]; exact HB4.out.size) (Nat.le_trans HB4.out.size H3.out.1.size))
    have HDU := Lib.hid ((HD4.out.below H3.out.1).touch HT0.out (fun b hb => by rw [List.mem_singleton.1 hb]; exact HSZ4.out))
    refine (HDU.out.read_ok 448 4 (by rw [HLN.out]; omega) (no_bad _ _) (by omega) (by omega)).mono ?_
    rintro e w5 ⟨h, rfl, hh, hB5, hD5, hT5⟩
    rw [HM.out] at hB5
    have hx := hU0.out.touch hT5 HGN.out
    have c0 : w5.cell? ⟨w4.heap.size, 0, none⟩ = some (.int .i64 (10 : Nat)) := hx.cell 0
    have c1 : w5.cell? ⟨w4.heap.size, 1, none⟩ = some (.int .i64 (64 : Nat)) := hx.cell 1
    have c2 : w5.cell? ⟨w4.heap.size, 2, none⟩ = some (.int .i64 (100 : Nat)) := hx.cell 2
    have hstr := rd_str (hB5.rd 4 rfl) 4
    have hsm : str mag = ⟨#[65, 86, 66, 102]⟩ := rfl
    rw [hsm] at hstr
    have heq := fun w => eqlTT 10 64 100 w
    have HBF : Hid (Below w.heap.size w w5) := below_touch HBU.out hT5 (fun b hb => by rw [List.mem_singleton.1 hb]; exact HO.out g HGW.out) HBU.out.size
    clear hx hB5 hD5 hT5 hh
    go_wp2
    go_ret
    exact ⟨rfl, HBF.out⟩
end Go.Proofs.Ythepbadecpnepaa
