/-
  Names, clones, and what a drive tells of itself; Boot and Arm. No condition but that lengths are lengths.
-/
import Derived.Test.YthepbadecpnepaaD2
import Derived.Lib.OthersKept
import Derived.Lib.SliceRun
namespace Go.Proofs.Ythepbadecpnepaa
open Go.RowKit Go.MapKept
set_option linter.unusedVariables false
set_option linter.unusedSimpArgs false
set_option maxRecDepth 100000

/-- A name is right. -/
def NameOk (s : ByteArray) : Prop := 1 ≤ s.size ∧ s.size ≤ 24 ∧ ∀ i (h : i < s.size), letter ((s[i]'h).toNat : Int) = true
theorem letter_small {r : Int} (h : letter r = true) : 0 ≤ r ∧ r < 128 := by
  unfold letter at h
  have := of_decide_eq_true h
  omega
theorem decode_large (s : ByteArray) (pos : Nat) (h : pos < s.size) (hb : ¬ (s[pos]'h).toNat < 128) : 128 ≤ (Utf8.decode s pos).1 := by
  have e : s.get! (pos + 0) = s[pos]'h := by
    show s.get! pos = _
    simp [ByteArray.get!, getElem!_pos, h]
    rfl
  simp only [Utf8.decode, e]
  rw [if_neg hb]
  split
  · split
    · assumption
    · decide
  · split
    · split
      · rename_i h2
        simp only [Bool.and_eq_true, decide_eq_true_eq, ge_iff_le] at h2
        exact Nat.le_trans (by decide) h2.1
      · decide
    · split
      · split
        · rename_i h2
          simp only [Bool.and_eq_true, decide_eq_true_eq, ge_iff_le] at h2
          exact Nat.le_trans (by decide) h2.1
        · decide
      · decide
theorem letter_decode (s : ByteArray) (pos : Nat) (h : pos < s.size) (hl : letter ((s[pos]'h).toNat : Int) = false) : letter ((Utf8.decode s pos).1 : Int) = false := by
  by_cases hb : (s[pos]'h).toNat < 128
  · rw [decode_ascii s pos h hb]; exact hl
  · have := decode_large s pos h hb
    cases hq : letter ((Utf8.decode s pos).1 : Int) with
    | false => rfl
    | true => have := letter_small hq; omega
set_option maxHeartbeats 1000000 in
theorem nameRight_any (s : ByteArray) (w : World) (b : Bool) (hb : b = true ↔ NameOk s) (hs : s.size ≤ 9223372036854775807) : Calls Try.prog 53 #[.string s] w fun e w' => e = .returned (.bool b) ∧ Below w.heap.size w w' := by
  have HB := Lib.hid hb
  unfold NameOk at HB
  clear hb
  by_cases h1 : s.size < 1
  · obtain rfl : b = false := by cases b with | false => rfl | true => have := HB.out.1 rfl; omega
    have z1 : (s.size : Int) < 1 := by omega
    go_enter Try.func53, Try.ntmps53
    go_wp2
    go_ret
    exact ⟨rfl, Below.refl _ _⟩
  · by_cases h2 : 24 < s.size
    · obtain rfl : b = false := by cases b with | false => rfl | true => have := HB.out.1 rfl; omega
      have z1 : ¬ (s.size : Int) < 1 := by omega
      have z2 : 24 < (s.size : Int) := by omega
      go_enter Try.func53, Try.ntmps53
      go_wp2
      go_ret
      exact ⟨rfl, Below.refl _ _⟩
    · have z1 : ¬ (s.size : Int) < 1 := by omega
      have z2 : ¬ 24 < (s.size : Int) := by omega
      have H1 := Lib.hid h1
      have H2 := Lib.hid h2
      clear h1 h2
      have hk0 : Hid ((w.iter s 0).heap[w.heap.size]? = some (.stringIter s 0)) := World.iter_heap w s 0
      have hb0 : Hid (Below w.heap.size w (w.iter s 0)) := (Below.refl _ w).alloc (Nat.le_refl _) _
      go_enter Try.func53, Try.ntmps53
      go_wp2
      go_loopw [] (fun wr => ∃ pos : Nat, pos ≤ s.size ∧ wr.heap[w.heap.size]? = some (.stringIter s pos) ∧ (∀ i (h : i < s.size), i < pos → letter ((s[i]'h).toNat : Int) = true) ∧ Below w.heap.size w wr) (fun wr => s.size - wr.iterPos w.heap.size)
      case atStart => exact ⟨0, Nat.zero_le _, hk0.out, fun i _ h => absurd h (Nat.not_lt_zero _), hb0.out⟩
      case round =>
        obtain ⟨pos, hps, hk, hall, hbel⟩ := hrel
        have HALL := Lib.hid hall
        clear hall hk0 hb0
        have hmu : Hid (wr.iterPos w.heap.size = pos) := by show _ = _; simp [World.iterPos, hk]
        by_cases hp : pos < s.size
        · have hnext : ∀ ty, (Instr.next (.pointer (some ⟨w.heap.size, 0, none⟩)) true ty).run Try.prog wr = _ := fun ty => Lib.run_next_any_at wr w.heap.size s pos ty hk hp
          have HK := Lib.hid hk
          clear hk
          by_cases hl : letter ((s[pos]'hp).toNat : Int) = true
          · have h128 : (s[pos]'hp).toNat < 128 := by have := letter_small hl; omega
            have hd := decode_ascii s pos hp h128
            have HL := Lib.hid hl
            rw [hd] at hnext
            have hk1 := Lib.hid (Lib.iterAt_heap wr w.heap.size s pos (pos + 1) HK.out)
            have hnx1 := Lib.hid (Lib.below_iterAt hbel (Nat.le_refl _) s (pos + 1))
            generalize wr.iterAt w.heap.size s (pos + 1) = W1 at hnext hk1 hnx1
            generalize hr : (s[pos]'hp).toNat = r at hnext HL h128
            have HR := Lib.hid hr
            clear hd hl hr hbel
            go_wp2_with (go_at_call 56; refine (letterRight_any _ _).mono ?_; rintro e w2 ⟨rfl, rfl⟩; rw [HL.out])
            go_roundw
            case rel =>
              refine ⟨pos + 1, by omega, hk1.out, fun i hi hlt => ?_, hnx1.out⟩
              by_cases e : i = pos
              · subst e; rw [HR.out]; exact HL.out
              · exact HALL.out i hi (by omega)
            case measure =>
              have hmu2 : W1.iterPos w.heap.size = pos + 1 := by simp [World.iterPos, hk1.out]
              rw [hmu.out, hmu2]
              omega
          · obtain rfl : b = false := by cases b with | false => rfl | true => exact absurd ((HB.out.1 rfl).2.2 pos hp) hl
            have hl2 : letter ((Utf8.decode s pos).1 : Int) = false := letter_decode s pos hp (by simpa using hl)
            have HL2 := Lib.hid hl2
            have hnx1 := Lib.hid (Lib.below_iterAt hbel (Nat.le_refl _) s (pos + (Utf8.decode s pos).2))
            generalize wr.iterAt w.heap.size s (pos + (Utf8.decode s pos).2) = W1 at hnext hnx1
            generalize (Utf8.decode s pos).1 = r at hnext HL2
            clear hl hl2 hbel
            go_wp2_with (go_at_call 56; refine (letterRight_any _ _).mono ?_; rintro e w2 ⟨rfl, rfl⟩; rw [HL2.out])
            go_ret
            exact ⟨rfl, hnx1.out⟩
        · have hnext : ∀ ty, (Instr.next (.pointer (some ⟨w.heap.size, 0, none⟩)) true ty).run Try.prog wr = _ := fun ty => Lib.run_next_end_at wr w.heap.size s pos ty hk hp
          obtain rfl : b = true := HB.out.2 ⟨by have := H1.out; omega, by have := H2.out; omega, fun i hi => HALL.out i hi (by omega)⟩
          clear hk
          go_wp2
          go_ret
          exact ⟨rfl, hbel⟩

/-- A slice of cells, with its capacity. -/
structure Ss (w : World) (A : Option Addr) (n c size : Nat) (vs : List Value) : Prop where
  rs : Rs w A vs
  len : vs.length = n * size
  le : n ≤ c
  max : c ≤ 9223372036854775807
  nil : A = none → c = 0
theorem Ss.below {w w' : World} {A : Option Addr} {n c size : Nat} {vs : List Value} (h : Ss w A n c size vs) (hb : Below w.heap.size w w') : Ss w' A n c size vs := { h with rs := h.rs.below hb }
theorem Ss.touch {F : List Nat} {w w' : World} {A : Option Addr} {n c size : Nat} {vs : List Value} (h : Ss w A n c size vs) (t : Touch F w w') (hF : ∀ ad, A = some ad → ad.block ∉ F) : Ss w' A n c size vs := { h with rs := h.rs.touch t hF }
/-- An answer: a slice in new memory that reads as these cells. -/
def GivesS (w : World) (n size : Nat) (vs : List Value) (e : Ending) (w' : World) : Prop := ∃ A c, e = .returned (.slice A n c) ∧ Ss w' A n c size vs ∧ (∀ ad, A = some ad → w.heap.size ≤ ad.block ∧ ad.block < w'.heap.size) ∧ Below w.heap.size w w'
theorem run_cloneAll {t ty e : TypeId} {i : TypeInfo} {z : Value} {size bytes : Nat} (ht : Try.prog.underlying t = some (.slice e)) (hi : Try.prog.info? e = some i) (hz : i.zero = some z) (hsize : i.size = size) (hby : i.bytes = bytes) (hzs : z.cells.size = size) (hsz : 0 < size)
    (ad : Addr) (n cap : Nat) (vs : List Value) (w : World) (h : Ss w (some ad) n cap size vs) (h1 : ∀ u ∈ vs, u.oneCell' = true) (hn : n * bytes ≤ 140737488355328) :
    ∃ A' c' w', (Builtin.append_ #[t, t] ty #[.slice (some ⟨w.heap.size, 0, none⟩) 0 0, .slice (some ad) n cap]).run Try.prog (w.alloc (.cells #[] e)) = .ok (.slice A' n c') w' ∧ Ss w' A' n c' size vs ∧ (∀ ad, A' = some ad → w.heap.size ≤ ad.block ∧ ad.block < w'.heap.size) ∧ Below w.heap.size w w' := by
  have hb1 : Below w.heap.size w (w.alloc (.cells #[] e)) := (Below.refl _ _).alloc (Nat.le_refl _) _
  have hr := h.rs.below hb1
  have hemp : (w.alloc (.cells #[] e)).ownsRow w.heap.size e size (.slice (some ⟨w.heap.size, 0, none⟩) 0 0) 0 [] := World.ownsRow_made w #[] 0 (Nat.le_refl _) (Nat.zero_le _) (by simp)
  obtain ⟨v', w', hrun, hown, hg, hnil, hat⟩ := run_append_own_at (P := Try.prog) (w.alloc (.cells #[] e)) w.heap.size t ty e i z size bytes ht hi hz hsize hby hzs hsz _ 0 _ hemp ad n cap vs h.len (fun j u hu => by
    obtain ⟨ad', e', hc⟩ := hr.get hu
    injection e' with e'
    rw [e']; exact hc) h1 (by have := h.le; have := h.max; unfold maxLen; omega) (by rw [Nat.zero_add]; exact hn) (by simp)
  rw [Nat.zero_add] at hown
  rw [List.nil_append] at hown
  have hbl : Below w.heap.size w w' := below_only hb1 hg (by simp) (fun j hj => (World.ownsRow.lt hemp j hj).1)
  rcases hown.2 with ⟨rfl, h0⟩ | ⟨g, cap', cur, rfl, hB, hh, hnc, hm, hr4⟩
  · obtain rfl : n = 0 := h0
    exact ⟨none, 0, w', hrun, ⟨fun hp => by rw [h.len] at hp; simp at hp, h.len, Nat.le_refl _, by simp, fun _ => rfl⟩, (fun _ e => by cases e), hbl⟩
  · refine ⟨_, cap', w', hrun, ⟨fun hp => ⟨_, rfl, (World.ownsRow.lt hown g rfl).2, fun j u hu => World.ownsRow.cells hown (g := g) rfl j u hu⟩, h.len, hnc, (by unfold maxLen at hm; omega), (fun e => by cases e)⟩, ?_, hbl⟩
    intro ad' e'
    injection e' with e'
    rw [← e']; exact ⟨hB, (World.ownsRow.lt hown g rfl).2⟩
theorem wpList_cloneAll {ops : Array Oper} {rest : List Oper} {o : Oper} {a : Act} {w : World} {Q : Exit → Act → World → Prop} (hgd : o.guard = none) (s x : Operand) (t e : TypeId) (ho : o.op = .call { callee := .builtin .append, args := #[s, x], argTypes := #[t, t] })
    {i : TypeInfo} {z : Value} {size bytes : Nat} (ht : Try.prog.underlying t = some (.slice e)) (hi : Try.prog.info? e = some i) (hz : i.zero = some z) (hsize : i.size = size) (hby : i.bytes = bytes) (hzs : z.cells.size = size) (hsz : 0 < size)
    (ad : Addr) (n cap : Nat) (vs : List Value) (hs : a.eval s = .slice (some ⟨w.heap.size, 0, none⟩) 0 0) (hx : a.eval x = .slice (some ad) n cap) (h : Ss w (some ad) n cap size vs) (h1 : ∀ u ∈ vs, u.oneCell' = true) (hn : n * bytes ≤ 140737488355328)
    (hk : ∀ A' c' w', Hid (Ss w' A' n c' size vs) → Hid (∀ ad, A' = some ad → w.heap.size ≤ ad.block ∧ ad.block < w'.heap.size) → Below w.heap.size w w' → wpList Try.prog ops Q rest (a.put o.dst (.slice A' n c')) w') : wpList Try.prog ops Q (o :: rest) a (w.alloc (.cells #[] e)) := by
  obtain ⟨A', cap', w', hrun, hp, hf, hb⟩ := run_cloneAll (ty := o.type) ht hi hz hsize hby hzs hsz ad n cap vs w h h1 hn
  refine wpList_plain hgd fun K hK => ?_
  unfold Oper.wp
  simp [execOp, ho, resolve, invoke, builtin, hs, hx, hrun, Result.andThen]
  exact hK _ _ (hk A' cap' w' hp hf hb)
theorem boolInfo : (Try.prog.info? 4).map (fun i => (i.zero, i.size, i.bytes)) = some (some (.bool false), 1, 1) := by kernel_rfl
theorem partInfo : (Try.prog.info? 50).map (fun i => (i.zero, i.size, i.bytes)) = some (some (.agg #[.string ⟨#[]⟩, .int .i64 0]), 2, 24) := by kernel_rfl
theorem bcells_one (l : List Bool) : ∀ u ∈ bcells l, u.oneCell' = true := fun u hu => by
  obtain ⟨b, _, rfl⟩ := List.mem_map.1 hu
  rfl
theorem pcells_one (l : List (ByteArray × Int)) : ∀ u ∈ pcells l, u.oneCell' = true := fun u hu => by
  obtain ⟨b, _, hb⟩ := List.mem_flatMap.1 hu
  simp at hb
  rcases hb with rfl | rfl <;> rfl
theorem pcells_length (l : List (ByteArray × Int)) : (pcells l).length = l.length * 2 := by
  induction l with
  | nil => rfl
  | cons x r ih => rw [pcells, List.flatMap_cons, List.length_append, ← pcells, ih]; simp; omega
set_option maxHeartbeats 1000000 in
theorem CloneB_any (A : Option Addr) (n cap : Nat) (l : List Bool) (w : World) (h : Ss w A n cap 1 (bcells l)) (hn : n ≤ 1000000) : Calls Try.prog 43 #[.slice A n cap] w (GivesS w n 1 (bcells l)) := by
  rcases A with _ | ad
  · have hc := h.nil rfl
    subst hc
    have hn0 : n = 0 := by have := h.le; omega
    subst hn0
    have q23 : (binOp .eql 53 (.slice none 0 0) (.slice none 0 0)).run Try.prog w = .ok (.bool true) w := Lib.run_eql_slice_nil w _ _ _ _ _ _ _ Try.underlying53
    have HH := Lib.hid h
    clear h
    go_enter Try.func43, Try.ntmps43
    go_wp2
    go_ret
    exact ⟨none, 0, rfl, HH.out, (fun _ e => by cases e), Below.refl _ _⟩
  · have HR := Lib.hid h
    obtain ⟨i0, hi, hz0, hz1, hz2⟩ := info_parts boolInfo
    have q23 : (binOp .eql 53 (.slice (some ad) n cap) (.slice none 0 0)).run Try.prog w = .ok (.bool false) w := Lib.run_eql_slice_nil w _ _ _ _ _ _ _ Try.underlying53
    have HW : Hid (∀ {ops : Array Oper} {rest : List Oper} {o : Oper} {a : Act} {Q : Exit → Act → World → Prop} (hgd : o.guard = none) (s x : Operand) (ho : o.op = .call { callee := .builtin .append, args := #[s, x], argTypes := #[53, 53] }) (hs : a.eval s = .slice (some ⟨w.heap.size, 0, none⟩) 0 0) (hx : a.eval x = .slice (some ad) n cap)
      (hk : ∀ A' c' w', Hid (Ss w' A' n c' 1 (bcells l)) → Hid (∀ ad, A' = some ad → w.heap.size ≤ ad.block ∧ ad.block < w'.heap.size) → Below w.heap.size w w' → wpList Try.prog ops Q rest (a.put o.dst (.slice A' n c')) w'), wpList Try.prog ops Q (o :: rest) a (w.alloc (.cells #[] 4))) :=
      fun hgd s x ho hs hx hk => wpList_cloneAll hgd s x 53 4 ho Try.underlying53 hi hz0 hz1 hz2 rfl (by omega) ad n cap (bcells l) hs hx HR.out (bcells_one l) (by omega) hk
    clear h hi hz0 hz1 hz2
    go_enter Try.func43, Try.ntmps43
    go_wp2_with (first
      | ((with_reducible refine at_dst (some 7) ?_); refine HW.out (o := ⟨some 7, _, _, _, _, _⟩) rfl (.tmp 5) (.tmp 6) rfl rfl rfl ?_; intro A2 c2 w2 HB HF hbe))
    go_ret
    exact ⟨A2, c2, rfl, HB.out, HF.out, hbe⟩
set_option maxHeartbeats 1000000 in
theorem CloneP_any (A : Option Addr) (n cap : Nat) (l : List (ByteArray × Int)) (w : World) (h : Ss w A n cap 2 (pcells l)) (hn : n ≤ 1000000) : Calls Try.prog 42 #[.slice A n cap] w (GivesS w n 2 (pcells l)) := by
  rcases A with _ | ad
  · have hc := h.nil rfl
    subst hc
    have hn0 : n = 0 := by have := h.le; omega
    subst hn0
    have q23 : (binOp .eql 51 (.slice none 0 0) (.slice none 0 0)).run Try.prog w = .ok (.bool true) w := Lib.run_eql_slice_nil w _ _ _ _ _ _ _ Try.underlying51
    have HH := Lib.hid h
    clear h
    go_enter Try.func42, Try.ntmps42
    go_wp2
    go_ret
    exact ⟨none, 0, rfl, HH.out, (fun _ e => by cases e), Below.refl _ _⟩
  · have HR := Lib.hid h
    obtain ⟨i0, hi, hz0, hz1, hz2⟩ := info_parts partInfo
    have q23 : (binOp .eql 51 (.slice (some ad) n cap) (.slice none 0 0)).run Try.prog w = .ok (.bool false) w := Lib.run_eql_slice_nil w _ _ _ _ _ _ _ Try.underlying51
    have HW : Hid (∀ {ops : Array Oper} {rest : List Oper} {o : Oper} {a : Act} {Q : Exit → Act → World → Prop} (hgd : o.guard = none) (s x : Operand) (ho : o.op = .call { callee := .builtin .append, args := #[s, x], argTypes := #[51, 51] }) (hs : a.eval s = .slice (some ⟨w.heap.size, 0, none⟩) 0 0) (hx : a.eval x = .slice (some ad) n cap)
      (hk : ∀ A' c' w', Hid (Ss w' A' n c' 2 (pcells l)) → Hid (∀ ad, A' = some ad → w.heap.size ≤ ad.block ∧ ad.block < w'.heap.size) → Below w.heap.size w w' → wpList Try.prog ops Q rest (a.put o.dst (.slice A' n c')) w'), wpList Try.prog ops Q (o :: rest) a (w.alloc (.cells #[] 50))) :=
      fun hgd s x ho hs hx hk => wpList_cloneAll hgd s x 51 50 ho Try.underlying51 hi hz0 hz1 hz2 rfl (by omega) ad n cap (pcells l) hs hx HR.out (pcells_one l) (by omega) hk
    clear h hi hz0 hz1 hz2
    go_enter Try.func42, Try.ntmps42
    go_wp2_with (first
      | ((with_reducible refine at_dst (some 7) ?_); refine HW.out (o := ⟨some 7, _, _, _, _, _⟩) rfl (.tmp 5) (.tmp 6) rfl rfl rfl ?_; intro A2 c2 w2 HB HF hbe))
    go_ret
    exact ⟨A2, c2, rfl, HB.out, HF.out, hbe⟩
end Go.Proofs.Ythepbadecpnepaa
