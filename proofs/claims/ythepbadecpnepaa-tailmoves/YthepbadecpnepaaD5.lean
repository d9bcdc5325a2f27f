/-
  The partition of a name, if a stretch lies within it; bad sectors; a torn write. No condition but that lengths are lengths.
-/
import Derived.Test.YthepbadecpnepaaD4
namespace Go.Proofs.Ythepbadecpnepaa
open Go.RowKit Go.MapKept
set_option linter.unusedVariables false
set_option linter.unusedSimpArgs false
set_option maxRecDepth 100000

theorem reach_no (D : Dv) (w : World) (h : Drv w D) (s : ByteArray) (hs : ∀ p ∈ D.pts, p.nm ≠ s) (off len : Int) : Calls Try.prog 33 #[.pointer (some ⟨D.g, 0, none⟩), .string s, .int .i64 off, .int .i64 len] w fun e w' => e = .returned (.tuple #[.agg #[.slice none 0 0, .map none], .int .i64 40]) ∧ Below w.heap.size w w' := by
  have hl : ∀ o : Obj, (Instr.lookup 69 (.map (some D.mb)) (.string s) true).run Try.prog (w.alloc o) = .ok (.tuple #[.agg #[.slice none 0 0, .map none], .bool false]) (w.alloc o) := fun o => look_no (h.below ((Below.refl _ _).alloc (Nat.le_refl _) o)).map s hs
  have c1 : ∀ o : Obj, (w.alloc o).cell? ⟨D.g, 1, none⟩ = some (.map (some D.mb)) := fun o => (h.below ((Below.refl _ _).alloc (Nat.le_refl _) o)).c1
  have HL := Lib.hid hl
  clear h hs hl
  go_enter Try.func33, Try.ntmps33
  go_wp2_with (first
    | (at_lookup; refine wpList_lookup_run (o := ⟨some 18, _, _, _, _, _⟩) rfl (.tmp 16) (.tmp 17) 69 rfl _ _ _ rfl rfl (HL.out _) ?_))
  refine bodyPost_ret (v := .tuple #[.agg #[.slice none 0 0, .map none], .int .i64 40]) ?_ rfl ⟨rfl, ((Below.refl _ _).alloc (Nat.le_refl _) _).alloc (by simp) _⟩
  rw [results_cell_tmp rfl]
  go_simp
theorem reach_end (D : Dv) (w : World) (h : Drv w D) (p : Pt) (hp : p ∈ D.pts) (s : ByteArray) (hs : p.nm = s) (off len : Int) (hn : ¬ Lies off len p.l.length) (h1 : off ≤ 9223372036854775807) (h2 : len ≤ 9223372036854775807) :
    Calls Try.prog 33 #[.pointer (some ⟨D.g, 0, none⟩), .string s, .int .i64 off, .int .i64 len] w fun e w' => e = .returned (.tuple #[.agg #[.slice none 0 0, .map none], .int .i64 10]) ∧ Below w.heap.size w w' := by
  have hl : ∀ o : Obj, (Instr.lookup 69 (.map (some D.mb)) (.string s) true).run Try.prog (w.alloc o) = .ok (.tuple #[p.val, .bool true]) (w.alloc o) := fun o => look_yes (h.below ((Below.refl _ _).alloc (Nat.le_refl _) o)).map h.names hp s hs
  have c1 : ∀ o : Obj, (w.alloc o).cell? ⟨D.g, 1, none⟩ = some (.map (some D.mb)) := fun o => (h.below ((Below.refl _ _).alloc (Nat.le_refl _) o)).c1
  have hsz := (h.size p hp).2.1
  have HL := Lib.hid hl
  unfold Pt.val at HL
  generalize p.l.length = n at HL hn hsz
  have HN := Lib.hid hn
  clear h hs hl hn hp
  go_enter Try.func33, Try.ntmps33
  go_wp2_with (first
    | (at_lookup; refine wpList_lookup_run (o := ⟨some 18, _, _, _, _, _⟩) rfl (.tmp 16) (.tmp 17) 69 rfl _ _ _ rfl rfl (HL.out _) ?_)
    | (go_at_call 49; refine (Within_no off len n _ HN.out h1 h2 (by omega)).mono ?_; rintro e w2 ⟨rfl, rfl⟩))
  refine bodyPost_ret (v := .tuple #[.agg #[.slice none 0 0, .map none], .int .i64 10]) ?_ rfl ⟨rfl, ((Below.refl _ _).alloc (Nat.le_refl _) _).alloc (by simp) _⟩
  rw [results_cell_tmp rfl]
  go_simp
theorem reach_ok (D : Dv) (w : World) (h : Drv w D) (p : Pt) (hp : p ∈ D.pts) (s : ByteArray) (hs : p.nm = s) (off m : Nat) (hn : off + m ≤ p.l.length) :
    Calls Try.prog 33 #[.pointer (some ⟨D.g, 0, none⟩), .string s, .int .i64 (off : Int), .int .i64 (m : Int)] w fun e w' => e = .returned (.tuple #[p.val, .int .i64 0]) ∧ Below w.heap.size w w' := by
  have hl : ∀ o : Obj, (Instr.lookup 69 (.map (some D.mb)) (.string s) true).run Try.prog (w.alloc o) = .ok (.tuple #[p.val, .bool true]) (w.alloc o) := fun o => look_yes (h.below ((Below.refl _ _).alloc (Nat.le_refl _) o)).map h.names hp s hs
  have c1 : ∀ o : Obj, (w.alloc o).cell? ⟨D.g, 1, none⟩ = some (.map (some D.mb)) := fun o => (h.below ((Below.refl _ _).alloc (Nat.le_refl _) o)).c1
  have hsz := (h.size p hp).2.1
  have HL := Lib.hid hl
  unfold Pt.val at HL ⊢
  generalize p.l.length = n at HL hn hsz ⊢
  generalize p.bb = bb at HL ⊢
  generalize p.mm = mm at HL ⊢
  clear h hs hl hp
  go_enter Try.func33, Try.ntmps33
  go_wp2_with (first
    | (at_lookup; refine wpList_lookup_run (o := ⟨some 18, _, _, _, _, _⟩) rfl (.tmp 16) (.tmp 17) 69 rfl _ _ _ rfl rfl (HL.out _) ?_)
    | (go_at_call 49; refine (Within_yes off m n _ hn (by omega)).mono ?_; rintro e w2 ⟨rfl, rfl⟩))
  refine bodyPost_ret (v := .tuple #[.agg #[.slice (some ⟨bb, 0, none⟩) n n, .map (some mm)], .int .i64 0]) ?_ rfl ⟨rfl, ((Below.refl _ _).alloc (Nat.le_refl _) _).alloc (by simp) _⟩
  rw [results_cell_tmp rfl]
  go_simp

/-- Is a byte of the stretch in one of these sectors? -/
def Spoilt (S : Int → Bool) (off m : Nat) : Prop := ∃ k : Nat, off ≤ k ∧ k < off + m ∧ S ((k / 64 : Nat) : Int) = true
set_option maxHeartbeats 1000000 in
theorem spoilt_any (bb mm n : Nat) (S : Int → Bool) (w : World) (h : SetAt w mm S) (off m : Nat) (hm : off + m ≤ 100000000) (b : Bool) (hb : b = true ↔ Spoilt S off m) :
    Calls Try.prog 35 #[.agg #[.slice (some ⟨bb, 0, none⟩) n n, .map (some mm)], .int .i64 (off : Int), .int .i64 (m : Int)] w fun e w' => e = .returned (.bool b) ∧ Below w.heap.size w w' := by
  have HB := Lib.hid hb
  have HS := Lib.hid h
  have hb0 : Hid (Below w.heap.size w (w.alloc (.cells #[.slice (some ⟨bb, 0, none⟩) n n, .map (some mm)] 74))) := (Below.refl _ w).alloc (Nat.le_refl _) _
  have hbk : Hid (Blk (w.alloc (.cells #[.slice (some ⟨bb, 0, none⟩) n n, .map (some mm)] 74)) w.heap.size 74 [.slice (some ⟨bb, 0, none⟩) n n, .map (some mm)]) := Blk.new w _ _
  clear h hb
  go_enter Try.func35, Try.ntmps35
  go_wp2
  go_loopw [7] (fun a wr => ∃ k : Nat, a = .int .i64 (k : Int) ∧ off ≤ k ∧ k ≤ off + m + 64 ∧ Hid (∀ j, off ≤ j → j < k → j < off + m → S ((j / 64 : Nat) : Int) = false) ∧ Hid (Below w.heap.size w wr) ∧ Hid (Blk wr w.heap.size 74 [.slice (some ⟨bb, 0, none⟩) n n, .map (some mm)])) (fun a _ => off + m + 64 - (intOf a).toNat)
  case atStart => exact ⟨off, rfl, Nat.le_refl _, by omega, (fun j h1 h2 => by omega), hb0, hbk⟩
  case round =>
    obtain ⟨k, rfl, h1, h2, HN, HW, HK⟩ := hrel
    clear hb0 hbk
    have c1 : wr.cell? ⟨w.heap.size, 1, none⟩ = some (.map (some mm)) := HK.out.cell 1
    by_cases hk : k < off + m
    · have zk : (k : Int) < (off : Int) + (m : Int) := by omega
      obtain ⟨q, hq⟩ : ∃ q, k / 64 = q := ⟨_, rfl⟩
      have qz : (k : Int) / 64 = (q : Int) := by omega
      have hl := ((HS.out).touch (Touch.of_below [] HW.out) (by simp)).look (q : Int)
      have HQ := Lib.hid hq
      clear hq
      have HL := Lib.hid hl
      clear hl
      cases hs : S (q : Int) with
      | true =>
        rw [hs] at HL
        obtain rfl : b = true := HB.out.2 ⟨k, h1, hk, by rw [HQ.out]; exact hs⟩
        clear hs
        go_wp2_with (first
          | (at_lookup; refine wpList_lookup_run (o := ⟨some 23, _, _, _, _, _⟩) rfl (.tmp 20) (.tmp 22) 72 rfl _ _ _ rfl rfl HL.out ?_))
        go_ret
        exact ⟨rfl, HW.out.alloc HW.out.size _⟩
      | false =>
        rw [hs] at HL
        have HSF := Lib.hid hs
        clear hs
        obtain ⟨t, ht⟩ : ∃ t, k / 64 * 64 + 64 = t := ⟨_, rfl⟩
        have HT := Lib.hid ht
        clear ht
        go_wp2_with (first
          | (at_lookup; refine wpList_lookup_run (o := ⟨some 23, _, _, _, _, _⟩) rfl (.tmp 20) (.tmp 22) 72 rfl _ _ _ rfl rfl HL.out ?_)
          | (go_at_call 51; refine (sectorEnd_any k _ (by omega) t HT.out).mono ?_; rintro e w2 ⟨rfl, rfl⟩))
        go_roundw
        case rel =>
          have e1 := HT.out
          refine ⟨t, rfl, by omega, by omega, fun j j1 j2 j3 => ?_, HW.out.alloc HW.out.size _, HK.out.alloc _⟩
          by_cases hj : j < k
          · exact HN.out j j1 hj j3
          · have : j / 64 = q := by have := HQ.out; omega
            rw [this]; exact HSF.out
        case measure =>
          have e1 := HT.out
          simp [intOf]; omega
    · have zk : ¬ (k : Int) < (off : Int) + (m : Int) := by omega
      obtain rfl : b = false := by
        cases b with
        | false => rfl
        | true =>
          obtain ⟨j, j1, j2, j3⟩ := HB.out.1 rfl
          have := HN.out j j1 (by omega) j2
          rw [this] at j3
          cases j3
      go_wp2
      go_ret
      exact ⟨rfl, HW.out⟩
end Go.Proofs.Ythepbadecpnepaa
