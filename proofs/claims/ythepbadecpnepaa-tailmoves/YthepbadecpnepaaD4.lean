/-
  What a drive tells of itself; Boot and Arm. No condition but that lengths are lengths.
-/
import Derived.Test.YthepbadecpnepaaD3
namespace Go.Proofs.Ythepbadecpnepaa
open Go.RowKit Go.MapKept
set_option linter.unusedVariables false
set_option linter.unusedSimpArgs false
set_option maxRecDepth 100000

section
variable {w : World} {D : Dv}
theorem Drv.c0 (h : Drv w D) : w.cell? ⟨D.g, 0, none⟩ = some (.slice D.pa D.pts.length D.pc) := h.blk.cell 0
theorem Drv.c1 (h : Drv w D) : w.cell? ⟨D.g, 1, none⟩ = some (.map (some D.mb)) := h.blk.cell 1
theorem Drv.c2 (h : Drv w D) : w.cell? ⟨D.g, 2, none⟩ = some (.bool D.down) := h.blk.cell 2
theorem Drv.c3 (h : Drv w D) : w.cell? ⟨D.g, 3, none⟩ = some (.int .i64 D.left) := h.blk.cell 3
theorem Drv.c4 (h : Drv w D) : w.cell? ⟨D.g, 4, none⟩ = some (.slice D.ka D.keep.length D.kc) := h.blk.cell 4
theorem Drv.c5 (h : Drv w D) : w.cell? ⟨D.g, 5, none⟩ = some (.int .i64 D.count) := h.blk.cell 5
theorem Drv.c6 (h : Drv w D) : w.cell? ⟨D.g, 6, none⟩ = some (.int .i64 D.told) := h.blk.cell 6
theorem Drv.z (h : Drv w D) (i : Nat) : w.frozen? ⟨D.g, i, none⟩ = false := h.blk.frozen i
end

/-- The first part of Arm. -/
def Dv.unarm (D : Dv) : Dv := { D with left := -1, ka := none, kc := 0, keep := [] }
theorem Drv.unarm {w : World} {D : Dv} (h : Drv w D) : Drv ((w.setCell ⟨D.g, 3, none⟩ (.int .i64 (-1))).setCell ⟨D.g, 4, none⟩ (.slice none 0 0)) D.unarm := by
  have t : Touch [D.g] w ((w.setCell ⟨D.g, 3, none⟩ (.int .i64 (-1))).setCell ⟨D.g, 4, none⟩ (.slice none 0 0)) := ((Touch.refl _ w).setCell (p := ⟨D.g, 3, none⟩) (.inl (by simp)) _).setCell (p := ⟨D.g, 4, none⟩) (.inl (by simp)) _
  exact h.upd D.down (-1) none 0 [] D.count D.told t ((h.blk.set_ 3 _).set_ 4 _) (Rs.nil _ _) (fun ad e => by cases e) (fun ad e => by cases e) (by simp) ⟨by omega, by omega, h.nums.2.2⟩
theorem unarm_touch (D : Dv) (w : World) : Touch [D.g] w ((w.setCell ⟨D.g, 3, none⟩ (.int .i64 (-1))).setCell ⟨D.g, 4, none⟩ (.slice none 0 0)) := ((Touch.refl _ w).setCell (p := ⟨D.g, 3, none⟩) (.inl (by simp)) _).setCell (p := ⟨D.g, 4, none⟩) (.inl (by simp)) _
theorem results_none {fn : Func} (h : fn.results = #[]) (tmps : Array Value) (P : Program) (w : World) : (results fn tmps).run P w = .ok (.tuple #[]) w := by
  simp [results, h]
theorem Arm_off (D : Dv) (w : World) (h : Drv w D) (n : Int) (hn : n < 0) (A : Option Addr) (m c : Nat) : Calls Try.prog 23 #[.pointer (some ⟨D.g, 0, none⟩), .int .i64 n, .slice A m c] w fun e w' => e = .returned (.tuple #[]) ∧ Drv w' D.unarm ∧ Touch [D.g] w w' := by
  have HU := Lib.hid h.unarm
  have HT := Lib.hid (unarm_touch D w)
  have c3 := h.c3
  have c4 := h.c4
  have z := h.z 3
  have z4 := h.z 4
  clear h
  go_enter Try.func23, Try.ntmps23
  go_wp2
  exact bodyPost_end (v := .tuple #[]) (results_none Try.results23 _ _ _) rfl ⟨rfl, HU.out, HT.out⟩
/-- Armed: a copy of keep is kept. -/
def Dv.arm (D : Dv) (n : Int) (ka : Option Addr) (kc : Nat) (kp : List Bool) : Dv := { D with left := n, ka := ka, kc := kc, keep := kp }
def Arms (w : World) (D : Dv) (n : Int) (kp : List Bool) (e : Ending) (w' : World) : Prop := ∃ ka kc, e = .returned (.tuple #[]) ∧ Drv w' (D.arm n ka kc kp) ∧ (∀ ad, ka = some ad → w.heap.size ≤ ad.block) ∧ Touch [D.g] w w'
theorem bcells_length (l : List Bool) : (bcells l).length = l.length := by simp [bcells]
theorem armed_drv {D : Dv} {w w2 : World} (h : Drv w D) (n : Int) (hn : 0 ≤ n) (hn2 : n ≤ 9223372036854775807) (hb : Below ((w.setCell ⟨D.g, 3, none⟩ (.int .i64 (-1))).setCell ⟨D.g, 4, none⟩ (.slice none 0 0)).heap.size ((w.setCell ⟨D.g, 3, none⟩ (.int .i64 (-1))).setCell ⟨D.g, 4, none⟩ (.slice none 0 0)) w2)
    (A2 : Option Addr) (c2 m : Nat) (kp : List Bool) (hs : Ss w2 A2 m c2 1 (bcells kp)) (hm : m ≤ 16384) (hf : ∀ ad, A2 = some ad → w.heap.size ≤ ad.block ∧ ad.block < w2.heap.size) :
    Drv ((w2.setCell ⟨D.g, 3, none⟩ (.int .i64 n)).setCell ⟨D.g, 4, none⟩ (.slice A2 m c2)) (D.arm n A2 c2 kp) ∧ Touch [D.g] w ((w2.setCell ⟨D.g, 3, none⟩ (.int .i64 n)).setCell ⟨D.g, 4, none⟩ (.slice A2 m c2)) := by
  have hu := h.unarm.below hb
  have hl := hs.len
  rw [bcells_length, Nat.mul_one] at hl
  have t : Touch [D.g] w2 ((w2.setCell ⟨D.g, 3, none⟩ (.int .i64 n)).setCell ⟨D.g, 4, none⟩ (.slice A2 m c2)) := ((Touch.refl _ w2).setCell (p := ⟨D.g, 3, none⟩) (.inl (by simp)) _).setCell (p := ⟨D.g, 4, none⟩) (.inl (by simp)) _
  have hlt := h.lt
  subst hl
  refine ⟨hu.upd D.down n A2 c2 kp D.count D.told t ((hu.blk.set_ 3 _).set_ 4 _) ((hs.rs).touch t (fun ad e he => ?_)) (fun ad e he => ?_) (fun ad e => Nat.lt_of_lt_of_le (hf ad e).2 t.size) hm ⟨by omega, hn2, h.nums.2.2⟩, ((unarm_touch D w).then_below hb).trans t⟩
  · have h1 := (hf ad e).1
    have h2 := hlt D.g (own_g D)
    rw [List.mem_singleton.1 he] at h1
    have : D.unarm.g = D.g := rfl
    omega
  · have h1 := (hf ad e).1
    have h2 := hlt ad.block he
    omega
set_option maxHeartbeats 1000000 in
theorem Arm_on (D : Dv) (w : World) (h : Drv w D) (n : Int) (hn : 0 ≤ n) (hn2 : n ≤ 9223372036854775807) (A : Option Addr) (m c : Nat) (kp : List Bool) (hk : Ss w A m c 1 (bcells kp)) (hko : 0 < m → ∀ ad, A = some ad → ad.block ≠ D.g) (hm : m ≤ 16384) :
    Calls Try.prog 23 #[.pointer (some ⟨D.g, 0, none⟩), .int .i64 n, .slice A m c] w (Arms w D n kp) := by
  have hmc := hk.le
  have hcx := hk.max
  have HD := Lib.hid h
  have c3 := h.c3
  have c4 := h.c4
  have z := h.z 3
  have z4 := h.z 4
  have HSL : Hid (Ss ((w.setCell ⟨D.g, 3, none⟩ (.int .i64 (-1))).setCell ⟨D.g, 4, none⟩ (.slice none 0 0)) A m c 1 (bcells kp)) := { hk with rs := hk.rs.touch0 (unarm_touch D w) (fun hp ad e he => hko (by have := hk.len; omega) ad e (List.mem_singleton.1 he)) }
  have mz : (m : Int) ≤ 16384 := by omega
  clear h hk
  go_enter Try.func23, Try.ntmps23
  go_wp2_with fail
  refine (CloneB_any A m c kp _ HSL.out (by omega)).mono ?_
  rintro e w2 ⟨A2, c2, rfl, hs, hf, hb⟩
  have HE := Lib.hid (armed_drv HD.out n hn hn2 hb A2 c2 m kp hs hm (fun ad e => ⟨by have := (hf ad e).1; simpa [World.setCell] using this, (hf ad e).2⟩))
  have hu := HD.out.unarm.below hb
  have d3 : w2.cell? ⟨D.g, 3, none⟩ = some (.int .i64 (-1)) := hu.c3
  have d4 : w2.cell? ⟨D.g, 4, none⟩ = some (.slice none 0 0) := hu.c4
  have y3 : w2.frozen? ⟨D.g, 3, none⟩ = false := hu.z 3
  have y4 : w2.frozen? ⟨D.g, 4, none⟩ = false := hu.z 4
  have HF : Hid (∀ ad, A2 = some ad → w.heap.size ≤ ad.block) := fun ad e => by have := (hf ad e).1; simpa [World.setCell] using this
  clear hs hf hb hu c3 c4 z z4
  go_wp2
  exact bodyPost_end (v := .tuple #[]) (results_none Try.results23 _ _ _) rfl ⟨A2, c2, rfl, HE.out.1, HF.out, HE.out.2⟩
theorem Boot_any (D : Dv) (w : World) (h : Drv w D) : Calls Try.prog 24 #[.pointer (some ⟨D.g, 0, none⟩)] w fun e w' => e = .returned (.tuple #[]) ∧ Drv w' { D.unarm with down := false } ∧ Touch [D.g] w w' := by
  have t : Touch [D.g] w (w.setCell ⟨D.g, 2, none⟩ (.bool false)) := (Touch.refl _ w).setCell (p := ⟨D.g, 2, none⟩) (.inl (by simp)) _
  have h1 : Drv (w.setCell ⟨D.g, 2, none⟩ (.bool false)) { D with down := false } := h.upd false D.left D.ka D.kc D.keep D.count D.told t (h.blk.set_ 2 _) (h.kept.touch t (fun ad e he => h.keptOwn ad e (by rw [List.mem_singleton.1 he]; exact own_g D))) h.keptOwn (fun ad e => Nat.lt_of_lt_of_le (h.keptLt ad e) t.size) h.short h.nums
  have H1 := Lib.hid h1
  have HT := Lib.hid t
  have c2 := h.c2
  have z := h.z 2
  clear h h1 t
  go_enter Try.func24, Try.ntmps24
  go_wp2_with fail
  refine (Arm_off { D with down := false } _ H1.out (-1) (by omega) none 0 0).mono ?_
  rintro e w2 ⟨rfl, hd, ht⟩
  have HD := Lib.hid hd
  have HT2 : Hid (Touch [D.g] w w2) := HT.out.trans ht
  clear hd ht
  go_wp2
  exact bodyPost_end (v := .tuple #[]) (results_none Try.results24 _ _ _) rfl ⟨rfl, HD.out, HT2.out⟩
theorem Size_yes (D : Dv) (w : World) (h : Drv w D) (p : Pt) (hp : p ∈ D.pts) (s : ByteArray) (hs : p.nm = s) : Calls Try.prog 38 #[.pointer (some ⟨D.g, 0, none⟩), .string s] w fun e w' => e = .returned (.tuple #[.int .i64 (p.l.length : Int), .int .i64 0]) ∧ Below w.heap.size w w' := by
  have hl := look_yes h.map h.names hp s hs
  have c1 := h.c1
  unfold Pt.val at hl
  clear h
  go_enter Try.func38, Try.ntmps38
  go_wp2_with (first
    | (at_lookup; refine wpList_lookup_run (o := ⟨some 14, _, _, _, _, _⟩) rfl (.tmp 12) (.tmp 13) 69 rfl _ _ _ rfl rfl hl ?_))
  go_ret2
  exact ⟨rfl, (Below.refl _ _).alloc (Nat.le_refl _) _⟩
theorem Size_no (D : Dv) (w : World) (h : Drv w D) (s : ByteArray) (hs : ∀ p ∈ D.pts, p.nm ≠ s) : Calls Try.prog 38 #[.pointer (some ⟨D.g, 0, none⟩), .string s] w fun e w' => e = .returned (.tuple #[.int .i64 0, .int .i64 40]) ∧ Below w.heap.size w w' := by
  have hl := look_no h.map s hs
  have c1 := h.c1
  clear h hs
  go_enter Try.func38, Try.ntmps38
  go_wp2_with (first
    | (at_lookup; refine wpList_lookup_run (o := ⟨some 14, _, _, _, _, _⟩) rfl (.tmp 12) (.tmp 13) 69 rfl _ _ _ rfl rfl hl ?_))
  go_ret2
  exact ⟨rfl, (Below.refl _ _).alloc (Nat.le_refl _) _⟩
end Go.Proofs.Ythepbadecpnepaa
