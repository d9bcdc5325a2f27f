/-
  A drive that is new. No condition but that lengths are lengths.
-/
import Derived.Test.YthepbadecpnepaaD10
import Derived.Deep.RegionLaw
namespace Go.Proofs.Ythepbadecpnepaa
open Go.RowKit Go.MapKept
set_option linter.unusedVariables false
set_option linter.unusedSimpArgs false
set_option maxRecDepth 100000

/-- Partitions laid so far: their stores in the map mb; all from block B on. -/
structure Built (w : World) (B mb : Nat) (ps : List (ByteArray × Int)) (pts : List Pt) : Prop where
  same : pts.map (fun p => (p.nm, p.l, p.bad)) = ps.map (fun x => (x.1, List.replicate x.2.toNat 0, fun _ => false))
  map : MapAt w mb (pts.map Pt.ent)
  bytes : ∀ p ∈ pts, Blk w p.bb 5 (cn .u8 p.l)
  bads : ∀ p ∈ pts, SetAt w p.mm p.bad
  apart : (mb :: pts.flatMap fun p => [p.bb, p.mm]).Nodup
  above : ∀ b ∈ mb :: pts.flatMap (fun p => [p.bb, p.mm]), B ≤ b
section
variable {w w' : World} {B mb : Nat} {ps : List (ByteArray × Int)} {pts : List Pt}
theorem Built.lt (h : Built w B mb ps pts) : ∀ b ∈ mb :: pts.flatMap (fun p => [p.bb, p.mm]), b < w.heap.size := by
  intro b hb
  simp only [List.mem_cons, List.mem_flatMap] at hb
  rcases hb with rfl | ⟨p, hp, hb⟩
  · exact h.map.lt
  · simp at hb
    rcases hb with rfl | rfl
    · exact (h.bytes p hp).lt
    · exact (h.bads p hp).lt
theorem Built.below (h : Built w B mb ps pts) (hb : Below w.heap.size w w') : Built w' B mb ps pts :=
  ⟨h.same, h.map.touch (Touch.of_below [] hb) (by simp), fun p hp => (h.bytes p hp).touch (Touch.of_below [] hb) (by simp), fun p hp => (h.bads p hp).touch (Touch.of_below [] hb) (by simp), h.apart, h.above⟩
/-- One partition more. -/
theorem Built.snoc {x : ByteArray × Int} (h : Built w B mb ps pts) (g m z : Nat) (hz : x.2.toNat = z) (hgm : g ≠ m) (hg : w.heap.size ≤ g) (hm : w.heap.size ≤ m) (hB : B ≤ w.heap.size) (t : Touch [mb] w w') (hM : MapAt w' mb (pts.map Pt.ent ++ [(.string x.1, .agg #[.slice (some ⟨g, 0, none⟩) z z, .map (some m)])])) (hG : Blk w' g 5 (cn .u8 (List.replicate z 0))) (hS : SetAt w' m (fun _ => false)) :
    Built w' B mb (ps ++ [x]) (pts ++ [⟨x.1, g, m, List.replicate z 0, fun _ => false⟩]) := by
  have hlt := h.lt
  have ha := List.nodup_cons.1 h.apart
  have hout : ∀ p ∈ pts, p.bb ∉ [mb] ∧ p.mm ∉ [mb] := fun p hp => ⟨fun hm => ha.1 (by rw [← List.mem_singleton.1 hm]; exact List.mem_flatMap.2 ⟨p, hp, by simp⟩), fun hm => ha.1 (by rw [← List.mem_singleton.1 hm]; exact List.mem_flatMap.2 ⟨p, hp, by simp⟩)⟩
  refine ⟨?_, ?_, fun p hp => ?_, fun p hp => ?_, ?_, fun b hb => ?_⟩
  · rw [List.map_append, h.same, List.map_append]; simp [hz]
  · rw [List.map_append]
    have e : Pt.ent ⟨x.1, g, m, List.replicate z 0, fun _ => false⟩ = (.string x.1, .agg #[.slice (some ⟨g, 0, none⟩) z z, .map (some m)]) := by simp [Pt.ent, Pt.val]
    simpa [e] using hM
  · rcases List.mem_append.1 hp with hp | hp
    · exact (h.bytes p hp).touch t (hout p hp).1
    · rw [List.mem_singleton.1 hp]; exact hG
  · rcases List.mem_append.1 hp with hp | hp
    · exact (h.bads p hp).touch t (hout p hp).2
    · rw [List.mem_singleton.1 hp]; exact hS
  · rw [List.flatMap_append, ← List.cons_append, List.nodup_append]
    refine ⟨h.apart, by simp [hgm], fun a ha' b hb e => ?_⟩
    have := hlt a ha'
    simp at hb
    rcases hb with rfl | rfl <;> omega
  · rw [List.flatMap_append, ← List.cons_append, List.mem_append] at hb
    rcases hb with hb | hb
    · exact h.above b hb
    · simp at hb
      rcases hb with rfl | rfl <;> omega
end
theorem run_makeB (sz : Int) (z : Nat) (hz : sz = z) (hz2 : z ≤ 1048576) (w : World) : (Instr.makeSlice 25 (.int .i64 sz) (.int .i64 sz)).run Try.prog w = .ok (.slice (some ⟨w.heap.size, 0, none⟩) z z) (w.alloc (.cells (cn .u8 (List.replicate z 0)).toArray 5)) := by
  subst hz
  obtain ⟨i0, hi, hz0, hz1, hz2'⟩ := info_parts byteInfo
  have := run_make (P := Try.prog) w 25 5 i0 _ Try.underlying25 hi hz0 .i64 .i64 (z : Int) (z : Int) (by omega) (by omega) (by rw [hz2']; omega) (by omega)
  rw [hz1, Nat.mul_one, Int.toNat_natCast, madeB] at this
  exact this
/-- A new drive of these partitions. -/
structure Fresh (B : Nat) (ps : List (ByteArray × Int)) (D : Dv) : Prop where
  same : D.pts.map (fun p => (p.nm, p.l, p.bad)) = ps.map (fun x => (x.1, List.replicate x.2.toNat 0, fun _ => false))
  down : D.down = false
  left : D.left = -1
  keep : D.keep = []
  count : D.count = 0
  told : D.told = 0
  above : ∀ b ∈ D.own, B ≤ b
  pa : ∀ ad, D.pa = some ad → B ≤ ad.block
  ka : D.ka = none
def GivesNew (w : World) (ps : List (ByteArray × Int)) (e : Ending) (w' : World) : Prop := ∃ D, e = .returned (.tuple #[.pointer (some ⟨D.g, 0, none⟩), .int .i64 0]) ∧ Drv w' D ∧ Fresh w.heap.size ps D ∧ Below w.heap.size w w'
theorem New_bad (A : Option Addr) (n c : Nat) (ps : List (ByteArray × Int)) (w : World) (h : Ss w A n c 2 (pcells ps)) (hs : ∀ p ∈ ps, p.1.size ≤ 9223372036854775807) (er : Int) (he : FaultIs ps er) (h0 : er ≠ 0) :
    Calls Try.prog 22 #[.slice A n c] w (Fails w (.tuple #[.pointer none, .int .i64 er])) := by
  have HF := Lib.hid (fault_any A n c ps w h hs er he)
  have z : (er != 0) = true := by simp [h0]
  clear h hs he h0
  go_enter Try.func22, Try.ntmps22
  go_wp2_with fail
  refine HF.out.mono ?_
  rintro e w2 ⟨rfl, hb⟩
  have HB := Lib.hid hb
  clear hb
  go_wp2
  go_ret2
  exact ⟨rfl, HB.out⟩
set_option maxHeartbeats 4000000 in
theorem New_ok (A : Option Addr) (n c : Nat) (ps : List (ByteArray × Int)) (w : World) (h : Ss w A n c 2 (pcells ps)) (hs : ∀ p ∈ ps, p.1.size ≤ 9223372036854775807) (he : FaultIs ps 0) :
    Calls Try.prog 22 #[.slice A n c] w (GivesNew w ps) := by
  have hl := h.len
  rw [pcells_length] at hl
  have HN : Hid (ps.length = n) := by show _ = _; omega
  have HF := Lib.hid (fault_any A n c ps w h hs 0 he)
  have HS := Lib.hid h
  have HR : Hid (n ≤ 16 ∧ Right ps) := by
    have := HN.out
    rcases he with h1 | h1 | h1 | h1
    · exact absurd h1.2 (by decide)
    · exact absurd h1.2.2 (by decide)
    · exact absurd h1.2.2.2 (by decide)
    · exact ⟨by omega, h1.2.1⟩
  have hmm := @run_makeMap Try.prog
  have hn16 : n ≤ 16 := HR.out.1
  clear h hs he hl
  go_enter Try.func22, Try.ntmps22
  go_wp2_with fail
  refine HF.out.mono ?_
  rintro e w2 ⟨rfl, hb⟩
  have HB := Lib.hid hb
  have HB0 : Hid (Below w.heap.size w (w2.alloc (.map #[] 0))) := hb.alloc hb.size _
  have HBU : Hid (Built (w2.alloc (.map #[] 0)) w.heap.size w2.heap.size (ps.take 0) []) := ⟨rfl, MapAt.made w2, by simp, by simp, by simp, by simpa using hb.size⟩
  clear hb
  go_wp2
  generalize w2.heap.size = mb at *
  go_loopw [16] (fun si wr => ∃ (k : Nat) (pts : List Pt), si = .int .i64 (k : Int) ∧ k ≤ n ∧ Hid (Built wr w.heap.size mb (ps.take k) pts) ∧ Hid (Below w.heap.size w wr)) (fun i _ => n - (intOf i).toNat)
  case atStart => exact ⟨0, [], rfl, Nat.zero_le _, HBU, HB0⟩
  case round =>
    obtain ⟨k, pts, rfl, hkn, HBK, HBW⟩ := hrel
    clear HB0 HBU
    by_cases hlt : k < n
    · have zlt : (k : Int) < (n : Int) := by omega
      obtain ⟨p, hp⟩ : ∃ p, ps[k]? = some p := ⟨_, List.getElem?_eq_getElem (by rw [HN.out]; exact hlt)⟩
      have HP := Lib.hid hp
      obtain ⟨ad, rfl, c0, c1⟩ := (HS.out.rs.below HBW.out).part hp
      have hsz := sizeOk_bd (HR.out.2.1 p (List.mem_of_getElem? hp)).2
      obtain ⟨nm, sz⟩ := p
      simp only [] at c0 c1 hsz
      obtain ⟨z, rfl⟩ : ∃ z : Nat, sz = z := ⟨sz.toNat, by omega⟩
      have hmk := run_makeB (z : Int) z rfl (by omega)
      clear hp hsz
      go_wp2_with fail
      have X0 := (Blk.new wr 50 [.string nm, .int .i64 (z : Int)]).cell 0
      have X1 := (Blk.new wr 50 [.string nm, .int .i64 (z : Int)]).cell 1
      simp only [List.getElem?_cons_zero, List.getElem?_cons_succ] at X0 X1
      have HBW1 := Lib.hid (HBW.out.alloc HBW.out.size (.cells #[.string nm, .int .i64 (z : Int)] 50))
      have HBK1 := Lib.hid (HBK.out.below ((Below.refl _ _).alloc (Nat.le_refl _) (.cells #[.string nm, .int .i64 (z : Int)] 50)))
      have hgl : wr.heap.size < (wr.alloc (.cells #[.string nm, .int .i64 (z : Int)] 50)).heap.size := by simp
      clear c0 c1
      generalize wr.alloc (.cells #[.string nm, .int .i64 (z : Int)] 50) = W at *
      generalize wr.heap.size = G at *
      have hfresh : ∀ x ∈ pts.map Pt.ent, x.1 ≠ Value.string nm := fun x hx e => by
        obtain ⟨q, hq, rfl⟩ := List.mem_map.1 hx
        have e2 : q.nm = nm := by injection e
        obtain ⟨j, hj⟩ := List.mem_iff_getElem?.1 hq
        have hs := congrArg (fun l => l[j]?) HBK1.out.same
        simp only [List.getElem?_map, hj, Option.map_some] at hs
        cases hx2 : (ps.take k)[j]? with
        | none => rw [hx2] at hs; cases hs
        | some y =>
          rw [hx2] at hs
          injection hs with hs
          have e3 : y.1 = nm := by rw [← e2]; exact (congrArg (·.1) hs).symm
          exact Right.not_twice HP.out ⟨y, List.mem_of_getElem? hx2, e3⟩ HR.out.2
      have hB1 : Below W.heap.size W (((W.alloc (.cells (cn .u8 (List.replicate z 0)).toArray 5)).alloc (.map #[] 0)).drew) := (((Below.refl _ _).alloc (Nat.le_refl _) _).alloc (by simp) _).drew
      have hB2 : Below W.heap.size W (((W.alloc (.map #[] 0)).alloc (.cells (cn .u8 (List.replicate z 0)).toArray 5)).drew) := (((Below.refl _ _).alloc (Nat.le_refl _) _).alloc (by simp) _).drew
      obtain ⟨w3, hr3, hm3, ht3⟩ := run_update_new Try.underlying69 Try.underlying9 (HBK1.out.below hB1).map (k := .string nm) (v := .agg #[.slice (some ⟨W.heap.size, 0, none⟩) z z, .map (some (W.heap.size + 1))]) trivial (ents_keys pts) hfresh
      obtain ⟨w4, hr4, hm4, ht4⟩ := run_update_new Try.underlying69 Try.underlying9 (HBK1.out.below hB2).map (k := .string nm) (v := .agg #[.slice (some ⟨W.heap.size + 1, 0, none⟩) z z, .map (some W.heap.size)]) trivial (ents_keys pts) hfresh
      have hmbW : mb < W.heap.size := HBK1.out.map.lt
      have F3 : Hid (Built w3 w.heap.size mb (ps.take (k + 1)) (pts ++ [⟨nm, W.heap.size, W.heap.size + 1, List.replicate z 0, fun _ => false⟩]) ∧ Below w.heap.size w w3) := by
        have hG : Blk (((W.alloc (.cells (cn .u8 (List.replicate z 0)).toArray 5)).alloc (.map #[] 0)).drew) W.heap.size 5 (cn .u8 (List.replicate z 0)) := (((Blk.new W 5 (cn .u8 (List.replicate z 0))).alloc _).drewN 1)
        have hS : SetAt (((W.alloc (.cells (cn .u8 (List.replicate z 0)).toArray 5)).alloc (.map #[] 0)).drew) (W.heap.size + 1) (fun _ => false) := by
          have := SetAt.made (W.alloc (.cells (cn .u8 (List.replicate z 0)).toArray 5))
          rw [World.size_alloc] at this
          exact this.touch (Touch.of_below [] ((Below.refl _ _).drew)) (by simp)
        refine ⟨?_, (HBW1.out.trans (hB1.mono HBW1.out.size)).trans (ht3.below (B := w.heap.size) (fun x hx => by rw [List.mem_singleton.1 hx]; exact HBK1.out.above mb (by simp)) (Nat.le_trans HBW1.out.size hB1.size))⟩
        rw [take_snoc HP.out]
        exact HBK1.out.snoc (x := (nm, (z : Int))) W.heap.size (W.heap.size + 1) z (by simp) (by omega) (Nat.le_refl _) (by omega) HBW1.out.size ((Touch.of_below [mb] hB1).trans ht3) hm3 (hG.touch ht3 (by simp; omega)) (hS.touch ht3 (by simp; omega))
      have F4 : Hid (Built w4 w.heap.size mb (ps.take (k + 1)) (pts ++ [⟨nm, W.heap.size + 1, W.heap.size, List.replicate z 0, fun _ => false⟩]) ∧ Below w.heap.size w w4) := by
        have hG : Blk (((W.alloc (.map #[] 0)).alloc (.cells (cn .u8 (List.replicate z 0)).toArray 5)).drew) (W.heap.size + 1) 5 (cn .u8 (List.replicate z 0)) := by
          have := Blk.new (W.alloc (.map #[] 0)) 5 (cn .u8 (List.replicate z 0))
          rw [World.size_alloc] at this
          exact this.drewN 1
        have hS : SetAt (((W.alloc (.map #[] 0)).alloc (.cells (cn .u8 (List.replicate z 0)).toArray 5)).drew) W.heap.size (fun _ => false) := ((SetAt.made W).touch (Touch.of_below [] ((Below.refl _ _).alloc (Nat.le_refl _) _)) (by simp)).touch (Touch.of_below [] ((Below.refl _ _).drew)) (by simp)
        refine ⟨?_, (HBW1.out.trans (hB2.mono HBW1.out.size)).trans (ht4.below (B := w.heap.size) (fun x hx => by rw [List.mem_singleton.1 hx]; exact HBK1.out.above mb (by simp)) (Nat.le_trans HBW1.out.size hB2.size))⟩
        rw [take_snoc HP.out]
        exact HBK1.out.snoc (x := (nm, (z : Int))) (W.heap.size + 1) W.heap.size z (by simp) (by omega) (by omega) (Nat.le_refl _) HBW1.out.size ((Touch.of_below [mb] hB2).trans ht4) hm4 (hG.touch ht4 (by simp; omega)) (hS.touch ht4 (by simp; omega))
      clear hm3 ht3 hm4 ht4 hfresh hB1 hB2 hmbW
      go_region_law (fail)
      all_goals
        clear hr3 hr4
        go_wp2
        go_roundw
        case rel => first | exact ⟨k + 1, _, by go_num, by omega, F3.out.1, F3.out.2⟩ | exact ⟨k + 1, _, by go_num, by omega, F4.out.1, F4.out.2⟩
        case measure => simp [intOf]; omega
    · have hall : ps.take k = ps := List.take_of_length_le (by rw [HN.out]; omega)
      rw [hall] at HBK
      have HS2 := Lib.hid (HS.out.below HBW.out)
      clear hmm
      go_wp2_with fail
      refine (CloneP_any A n c ps wr HS2.out (by have := HR.out.1; omega)).mono ?_
      rintro e w3 ⟨A3, c3, rfl, hs3, hf3, hb3⟩
      have HF3 := Lib.hid hf3
      have HS3 := Lib.hid hs3
      have HB3 := Lib.hid (HBW.out.trans (hb3.mono HBW.out.size))
      have HBK3 := Lib.hid (HBK.out.below hb3)
      have hws : Hid (w.heap.size ≤ wr.heap.size) := HBW.out.size
      have hws3 : Hid (wr.heap.size ≤ w3.heap.size) := hb3.size
      have HLT := Lib.hid HBK.out.lt
      clear hb3 hs3 hf3
      go_wp2
      go_ret2
      have hlen : pts.length = n := by
        have := congrArg List.length HBK3.out.same
        rw [List.length_map, List.length_map] at this
        rw [this]; exact HN.out
      have hps : pts.map (fun p => (p.nm, (p.l.length : Int))) = ps := by
        have h1 := congrArg (List.map (fun x : ByteArray × List Nat × (Int → Bool) => (x.1, (x.2.1.length : Int)))) HBK3.out.same
        rw [List.map_map, List.map_map] at h1
        have e2 : ps.map ((fun x : ByteArray × List Nat × (Int → Bool) => (x.1, (x.2.1.length : Int))) ∘ fun x => (x.1, List.replicate x.2.toNat 0, fun _ => false)) = ps := by
          conv => rhs; rw [← List.map_id ps]
          apply List.map_congr_left
          intro x hx
          have := sizeOk_bd (HR.out.2.1 x hx).2
          simp
          ext <;> simp
          omega
        rw [e2] at h1
        exact h1
      have hb4 : Below w3.heap.size w3 (w3.alloc (.cells #[.slice A3 n c3, .map (some mb), .bool false, .int .i64 (-1), .slice none 0 0, .int .i64 0, .int .i64 0] 71)) := (Below.refl _ _).alloc (Nat.le_refl _) _
      have hK := HBK3.out.below hb4
      have hlt := HBK3.out.lt
      have hown : ∀ b ∈ ({ g := w3.heap.size, mb := mb, pts := pts, pa := A3, pc := c3, down := false, left := -1, ka := none, kc := 0, keep := [], count := 0, told := 0 } : Dv).own, b = w3.heap.size ∨ b ∈ mb :: pts.flatMap (fun p => [p.bb, p.mm]) := fun b hb => List.mem_cons.1 hb
      have hz : ∀ p ∈ pts, ∃ x ∈ ps, p.nm = x.1 ∧ p.l = List.replicate x.2.toNat 0 := fun p hp => by
        obtain ⟨j, hj⟩ := List.mem_iff_getElem?.1 hp
        have hs := congrArg (fun l => l[j]?) HBK3.out.same
        simp only [List.getElem?_map, hj, Option.map_some] at hs
        cases hx2 : ps[j]? with
        | none => rw [hx2] at hs; cases hs
        | some y =>
          rw [hx2] at hs
          injection hs with hs
          exact ⟨y, List.mem_of_getElem? hx2, congrArg (·.1) hs, congrArg (·.2.1) hs⟩
      refine ⟨{ g := w3.heap.size, mb := mb, pts := pts, pa := A3, pc := c3, down := false, left := -1, ka := none, kc := 0, keep := [], count := 0, told := 0 }, rfl, ?_, ⟨HBK3.out.same, rfl, rfl, rfl, rfl, rfl, ?_, ?_, rfl⟩, HB3.out.trans (hb4.mono HB3.out.size)⟩
      · have hs4 := HS3.out.below hb4
        refine ⟨?_, hK.map, hK.bytes, hK.bads, ?_, ?_, ?_, ?_, by rw [hlen]; omega, ?_, ?_, ?_, Rs.nil _ _, (fun _ e => by cases e), (by simp), (fun ad e => Nat.lt_of_lt_of_le (HF3.out ad e).2 hb4.size), (fun _ e => by cases e), (by simp)⟩
        · have := Blk.new w3 71 [.slice A3 n c3, .map (some mb), .bool false, .int .i64 (-1), .slice none 0 0, .int .i64 0, .int .i64 0]
          rw [Dv.cells, hlen]
          exact this
        · have e : pts.map (·.nm) = ps.map (·.1) := by
            have h1 := congrArg (List.map (·.1)) hps
            rw [List.map_map] at h1
            exact h1
          rw [e]; exact HR.out.2.2
        · refine List.nodup_cons.2 ⟨fun hm => ?_, HBK3.out.apart⟩
          exact absurd (hlt _ hm) (Nat.lt_irrefl _)
        · intro p hp
          obtain ⟨x, hx, _, hl⟩ := hz p hp
          have := sizeOk_bd (HR.out.2.1 x hx).2
          rw [hl, List.length_replicate]
          omega
        · intro p hp
          obtain ⟨x, hx, _, hl⟩ := hz p hp
          rw [hl]; exact Fit.replicate _ _ _ (by omega)
        · rw [Dv.ps, hps]; exact hs4.rs
        · intro ad e hm
          have h1 := HF3.out ad e
          rcases hown _ hm with h2 | h2
          · omega
          · have h3 := HLT.out _ h2
            omega
        · rw [hlen]; exact ⟨HS3.out.le, HS3.out.max, HS3.out.nil⟩
      · intro b hb
        rcases hown b hb with rfl | hb
        · exact Nat.le_trans hws.out hws3.out
        · exact HBK3.out.above b hb
      · intro ad e
        have := (HF3.out ad e).1
        have := hws.out
        omega
end Go.Proofs.Ythepbadecpnepaa
