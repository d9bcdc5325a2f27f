/-
  What empty and Right answer. No condition but that the texts are bytes that fit.
-/
import Derived.Test.YtfeihdmjcppbaaaDoorJn
namespace Go.Proofs.YtfeihdmjcppbaaaDoor
open Go.RowKit
set_option linter.unusedVariables false
set_option linter.unusedSimpArgs false
set_option maxRecDepth 100000

/-- The numbers, in order, and how many bytes each has. -/
def nv (d : De) : Nat → Int
  | 0 => d.alg
  | 1 => d.size
  | 2 => d.block
  | 3 => d.off
  | _ => d.loc
def szi : Nat → Nat
  | 0 => 4
  | 1 => 8
  | 2 => 4
  | 3 => 8
  | _ => 4
theorem num_get (g : Nat) {i : Nat} (h : i < 5) : (numCells g)[i * 2]? = some (.pointer (some ⟨g, i + 1, none⟩)) ∧ (numCells g)[i * 2 + 1]? = some (.int .i64 (szi i : Nat)) := by
  rcases (by omega : i = 0 ∨ i = 1 ∨ i = 2 ∨ i = 3 ∨ i = 4) with rfl | rfl | rfl | rfl | rfl <;> exact ⟨rfl, rfl⟩
theorem cells_nv (x : Dx) {i : Nat} (h : i < 5) : x.cells[i + 1]? = some (.int .i64 (nv x.d i)) := by
  rcases (by omega : i = 0 ∨ i = 1 ∨ i = 2 ∨ i = 3 ∨ i = 4) with rfl | rfl | rfl | rfl | rfl <;> rfl
def Emp (d : De) : Prop := d.alg = 0 ∧ d.size = 0 ∧ d.block = 0 ∧ d.off = 0 ∧ d.loc = 0 ∧ d.name.length = 0 ∧ d.salt.length = 0 ∧ d.digest.length = 0 ∧ d.key.length = 0 ∧ d.value.length = 0
instance (d : De) : Decidable (Emp d) := by unfold Emp; exact inferInstance
theorem emp_nv {d : De} (h : Emp d) {i : Nat} (hi : i < 5) : nv d i = 0 := by
  unfold Emp at h
  rcases (by omega : i = 0 ∨ i = 1 ∨ i = 2 ∨ i = 3 ∨ i = 4) with rfl | rfl | rfl | rfl | rfl <;> simp [nv, h]
theorem PartsOf.get {x : Dx} {ps : List Bt} (h : PartsOf x ps) {j : Nat} {p : Bt} (hj : ps[j]? = some p) : [x.d.name, x.d.salt, x.d.digest, x.d.key, x.d.value][j]? = some p.l := by
  rw [← h.ls, List.getElem?_map, hj]; rfl
theorem emp_parts {x : Dx} {ps : List Bt} (h : PartsOf x ps) (he : Emp x.d) {j : Nat} {p : Bt} (hj : ps[j]? = some p) : p.l.length = 0 := by
  have := h.get hj
  unfold Emp at he
  rcases j with _ | _ | _ | _ | _ | j <;> simp at this <;> rw [← this] <;> simp [he]
theorem emp_of {x : Dx} {ps : List Bt} (h : PartsOf x ps) (h1 : ∀ i, i < 5 → nv x.d i = 0) (h2 : ∀ (j : Nat) (p : Bt), ps[j]? = some p → p.l.length = 0) : Emp x.d := by
  have g : ∀ (j : Nat) l, [x.d.name, x.d.salt, x.d.digest, x.d.key, x.d.value][j]? = some l → l.length = 0 := by
    intro j l hl
    rw [← h.ls, List.getElem?_map] at hl
    cases hp : ps[j]? with
    | none => rw [hp] at hl; cases hl
    | some p =>
      rw [hp] at hl
      injection hl with hl
      rw [← hl]; exact h2 j p hp
  exact ⟨h1 0 (by omega), h1 1 (by omega), h1 2 (by omega), h1 3 (by omega), h1 4 (by omega), g 0 _ rfl, g 1 _ rfl, g 2 _ rfl, g 3 _ rfl, g 4 _ rfl⟩
set_option maxHeartbeats 2000000 in
theorem empty_any (x : Dx) (w : World) (hx : DxOk w x) (hn : x.d.name.length ≤ 100000) : Calls Tryd.prog 22 #[x.val] w fun e w' => e = .returned (.bool (decide (Emp x.d))) ∧ Below w.heap.size w w' := by
  obtain ⟨d0, hu0, hd0⟩ := uD
  unfold Dx.val
  obtain ⟨W, hW⟩ : ∃ W, w.alloc (.cells x.cells.toArray 27) = W := ⟨_, rfl⟩
  have X := Lib.hid (Bx.new hW)
  have HX := Lib.hid hx
  clear hx
  go_enter Tryd.func22, Tryd.ntmps22
  go_wp2_with fail
  refine (numbers_any w.heap.size W).mono ?_
  rintro e w1 ⟨b, rfl, hb, hB, hb1⟩
  have I0 : Hid (Bx w w.heap.size 27 x w1 ∧ Blk w1 b 66 (numCells w.heap.size) ∧ w.heap.size < b) := ⟨X.out.next hb1, hB, Nat.lt_of_lt_of_le X.out.lt hb⟩
  clear hB hb hb1
  go_wp2
  go_loopw [9] (fun o wr => ∃ i : Nat, i ≤ 5 ∧ o = .int .i64 (i : Int) ∧ (∀ j, j < i → nv x.d j = 0) ∧ Hid (Bx w w.heap.size 27 x wr ∧ Blk wr b 66 (numCells w.heap.size) ∧ w.heap.size < b)) (fun o _ => 5 - (intOf o).toNat)
  case atStart => exact ⟨0, by omega, rfl, fun j h => absurd h (Nat.not_lt_zero j), I0⟩
  case round =>
    obtain ⟨i, hi, rfl, hall, HI⟩ := hrel
    have HA := Lib.hid hall
    clear hall
    by_cases hin : i < 5
    · have hin2 : (i : Int) < 5 := by omega
      have g0 : wr.cell? ⟨b, i * 2, none⟩ = some (.pointer (some ⟨w.heap.size, i + 1, none⟩)) := (HI.out.2.1.cell _).trans (num_get _ hin).1
      have g1 : wr.cell? ⟨b, i * 2 + 1, none⟩ = some (.int .i64 (szi i : Nat)) := (HI.out.2.1.cell _).trans (num_get _ hin).2
      have g2 : wr.cell? ⟨w.heap.size, i + 1, none⟩ = some (.int .i64 (nv x.d i)) := (HI.out.1.blk.cell _).trans (cells_nv x hin)
      obtain ⟨z, hz⟩ : ∃ z, nv x.d i = z := ⟨_, rfl⟩
      have HZ := Lib.hid hz
      rw [hz] at g2
      clear hz
      have hlt := HI.out.1.lt
      by_cases h0 : z = 0
      · subst h0
        have HN : Hid (Bx w w.heap.size 27 x (wr.alloc (.cells #[.pointer (some ⟨w.heap.size, i + 1, none⟩), .int .i64 (szi i : Nat)] 66)) ∧ Blk (wr.alloc (.cells #[.pointer (some ⟨w.heap.size, i + 1, none⟩), .int .i64 (szi i : Nat)] 66)) b 66 (numCells w.heap.size) ∧ w.heap.size < b) :=
          ⟨HI.out.1.next ((Below.refl _ _).alloc (Nat.le_refl _) _), HI.out.2.1.alloc _, HI.out.2.2⟩
        go_wp2
        go_roundw
        case rel =>
          refine ⟨i + 1, by omega, by go_num, fun j hj => ?_, HN⟩
          by_cases e : j = i
          · rw [e]; exact HZ.out
          · exact HA.out j (by omega)
        case measure => simp [intOf]; omega
      · have e0 : (z != 0) = true := by simp [h0]
        have HN : Hid (Bx w w.heap.size 27 x (wr.alloc (.cells #[.pointer (some ⟨w.heap.size, i + 1, none⟩), .int .i64 (szi i : Nat)] 66))) := HI.out.1.next ((Below.refl _ _).alloc (Nat.le_refl _) _)
        have E : Hid (decide (Emp x.d) = false) := decide_eq_false (fun h => h0 (by rw [← HZ.out]; exact emp_nv h hin))
        clear h0
        go_wp2
        go_ret
        exact ⟨by rw [E.out]; rfl, HN.out.below⟩
    · obtain rfl : i = 5 := by omega
      go_wp2_with ((with_reducible refine at_dst (some 19) ?_); refine wpList_loadAt (op := ⟨some 19, _, _, _, _, _⟩) rfl 27 (.tmp 1) rfl ⟨w.heap.size, 0, none⟩ rfl x.cells d0 HI.out.1.blk.at hu0 hd0 iD ?_)
      refine (lists_any x wr (HX.out.below HI.out.1.below) hn).mono ?_
      rintro e w2 ⟨b2, ps, rfl, hb2, hP, hR, hbe⟩
      have I2 : Hid (Bx w w.heap.size 27 x w2 ∧ PartsOf x ps ∧ PartsR w2 (some ⟨b2, 0, none⟩) 5 ps) := ⟨HI.out.1.next hbe, hP, hR⟩
      clear hb2 hP hR hbe
      go_wp2
      go_loopw [22] (fun o wx => ∃ j : Nat, j ≤ 5 ∧ o = .int .i64 (j : Int) ∧ (∀ (k : Nat) (p : Bt), k < j → ps[k]? = some p → p.l.length = 0) ∧ w2 = wx) (fun o _ => 5 - (intOf o).toNat)
      case atStart => exact ⟨0, by omega, rfl, fun k p h => absurd h (Nat.not_lt_zero k), rfl⟩
      case round =>
        obtain ⟨j, hj, rfl, hall2, rfl⟩ := hrel
        have HA2 := Lib.hid hall2
        clear hall2
        by_cases hjn : j < 5
        · have hjn2 : (j : Int) < 5 := by omega
          obtain ⟨p, hp⟩ : ∃ p, ps[j]? = some p := ⟨_, List.getElem?_eq_getElem (by rw [I2.out.2.1.len]; exact hjn)⟩
          obtain ⟨ad, hA, had, hcell⟩ := I2.out.2.2.2.1 (by omega)
          injection hA with hA
          subst hA
          have hc := hcell j p hp
          rw [addr_add, Nat.zero_add] at hc
          have hl := (I2.out.2.2.2.2 p (List.mem_of_getElem? hp)).1.1
          have HPP := Lib.hid hp
          have HL := Lib.hid hl
          clear hcell hp hl
          by_cases h0 : p.n = 0
          · have e0 : ((p.n : Int) != 0) = false := by simp [h0]
            have H0 := Lib.hid h0
            clear h0
            go_wp2
            go_roundw
            case rel =>
              refine ⟨j + 1, by omega, by go_num, fun k q hk hq => ?_, trivial⟩
              by_cases e : k = j
              · subst e
                rw [HPP.out] at hq
                injection hq with hq
                rw [← hq, HL.out]; exact H0.out
              · exact HA2.out k q (by omega) hq
            case measure => simp [intOf]; omega
          · have e0 : ((p.n : Int) != 0) = true := by simp [h0]
            have E : Hid (decide (Emp x.d) = false) := decide_eq_false (fun h => h0 (by rw [← HL.out]; exact emp_parts I2.out.2.1 h HPP.out))
            clear h0
            go_wp2
            go_ret
            exact ⟨by rw [E.out]; rfl, I2.out.1.below⟩
        · obtain rfl : j = 5 := by omega
          have E : Hid (decide (Emp x.d) = true) := decide_eq_true (emp_of I2.out.2.1 HA.out (fun k p hk => HA2.out k p (by have := (List.getElem?_eq_some_iff.1 hk).1; rw [I2.out.2.1.len] at this; exact this) hk))
          go_wp2
          go_ret
          exact ⟨by rw [E.out]; rfl, I2.out.1.below⟩
theorem unx_cases (x : Dx) : (x.d.kind = 0 ∧ unx x = un0 x) ∨ (x.d.kind = 1 ∧ unx x = un1 x) ∨ (x.d.kind = 2 ∧ unx x = un2 x) ∨ (x.d.kind = 3 ∧ unx x = un3 x) ∨ (x.d.kind = 4 ∧ unx x = un4 x) ∨ (¬ (0 ≤ x.d.kind ∧ x.d.kind ≤ 4) ∧ unx x = x) := by
  by_cases h : 0 ≤ x.d.kind ∧ x.d.kind ≤ 4
  · rcases (by omega : x.d.kind = 0 ∨ x.d.kind = 1 ∨ x.d.kind = 2 ∨ x.d.kind = 3 ∨ x.d.kind = 4) with h | h | h | h | h
    · exact .inl ⟨h, by unfold unx; rw [if_pos h]⟩
    · exact .inr (.inl ⟨h, by unfold unx; rw [h]; rfl⟩)
    · exact .inr (.inr (.inl ⟨h, by unfold unx; rw [h]; rfl⟩))
    · exact .inr (.inr (.inr (.inl ⟨h, by unfold unx; rw [h]; rfl⟩)))
    · exact .inr (.inr (.inr (.inr (.inl ⟨h, by unfold unx; rw [h]; rfl⟩))))
  · exact .inr (.inr (.inr (.inr (.inr ⟨h, by unfold unx; rw [if_neg (by omega), if_neg (by omega), if_neg (by omega), if_neg (by omega), if_neg (by omega)]⟩))))
theorem i64_zero : I64 0 := by unfold I64; omega
theorem unx_ok {w : World} {x : Dx} (h : DxOk w x) : DxOk w (unx x) ∧ (unx x).d.name.length ≤ x.d.name.length := by
  rcases unx_cases x with ⟨_, e⟩ | ⟨_, e⟩ | ⟨_, e⟩ | ⟨_, e⟩ | ⟨_, e⟩ | ⟨_, e⟩ <;> rw [e]
  · exact ⟨{ h with name := Fit.nil _, value := Bs.none _ }, by simp [un0]⟩
  · exact ⟨{ h with name := Fit.nil _, alg := i64_zero, size := i64_zero, block := i64_zero, off := i64_zero, salt := Bs.none _, digest := Bs.none _ }, by simp [un1]⟩
  · exact ⟨{ h with name := Fit.nil _, alg := i64_zero, size := i64_zero, salt := Bs.none _, digest := Bs.none _ }, by simp [un2]⟩
  · exact ⟨{ h with value := Bs.none _ }, by simp [un3]⟩
  · exact ⟨{ h with name := Fit.nil _, key := Bs.none _, loc := i64_zero }, by simp [un4]⟩
  · exact ⟨h, Nat.le_refl _⟩
theorem right_iff (x : Dx) : Right x.d ↔ NRight x.d ∧ Emp (unx x).d := by
  have hs := szOf_cases x.d.alg
  rcases unx_cases x with ⟨hk, e⟩ | ⟨hk, e⟩ | ⟨hk, e⟩ | ⟨hk, e⟩ | ⟨hk, e⟩ | ⟨hk, e⟩ <;> rw [e] <;> simp only [Right, NRight, Emp, NoSum, NoShape, NoChain, TreeOk, Rgt, un0, un1, un2, un3, un4, hk, List.length_nil]
  all_goals first | grind | (constructor <;> intro h <;> exfalso <;> omega)
set_option maxHeartbeats 1000000 in
theorem Right_any (x : Dx) (w : World) (hx : DxOk w x) (hn : x.d.name.length ≤ 100000) : Calls Tryd.prog 10 #[x.val] w fun e w' => e = .returned (.bool (decide (Right x.d))) ∧ Below w.heap.size w w' := by
  obtain ⟨d0, hu0, hd0⟩ := uD
  have hr := right_iff x
  unfold Dx.val
  obtain ⟨W, hW⟩ : ∃ W, w.alloc (.cells x.cells.toArray 27) = W := ⟨_, rfl⟩
  have X := Lib.hid (Bx.new hW)
  have HX := Lib.hid hx
  have HR := Lib.hid hr
  clear hx hr
  by_cases h1 : NRight x.d
  · have E1 := Lib.hid (decide_eq_true h1)
    go_enter Tryd.func10, Tryd.ntmps10
    go_wp2_with ((with_reducible refine at_dst (some 3) ?_); refine wpList_loadAt (op := ⟨some 3, _, _, _, _, _⟩) rfl 27 (.tmp 1) rfl ⟨w.heap.size, 0, none⟩ rfl x.cells d0 X.out.blk.at hu0 hd0 iD ?_)
    refine (namedRight_any x HX.out.hds HX.out.name W).mono ?_
    rintro e w2 ⟨rfl, hb2⟩
    rw [E1.out]
    have X2 := Lib.hid (X.out.next hb2)
    clear hb2
    go_wp2_with ((with_reducible refine at_dst (some 6) ?_); refine wpList_loadAtG (op := ⟨some 6, _, _, _, _, _⟩) (want_some rfl rfl rfl rfl) 27 (.tmp 1) rfl ⟨w.heap.size, 0, none⟩ rfl x.cells d0 X2.out.blk.at hu0 hd0 iD ?_)
    refine (unnamed_any x w2).mono ?_
    rintro e w3 ⟨rfl, hb3⟩
    have X3 := Lib.hid (X2.out.next hb3)
    clear hb3
    have HU := Lib.hid (unx_ok (HX.out.below X3.out.below))
    obtain ⟨v, hv⟩ : ∃ v, (unx x).val = v := ⟨_, rfl⟩
    have HE := Lib.hid (empty_any (unx x) w3 HU.out.1 (Nat.le_trans HU.out.2 hn))
    rw [hv] at HE ⊢
    clear hv
    go_wp2_with fail
    refine HE.out.mono ?_
    rintro e w4 ⟨rfl, hb4⟩
    have X4 := Lib.hid (X3.out.next hb4)
    clear hb4
    by_cases h2 : Emp (unx x).d
    · have E2 := Lib.hid (decide_eq_true h2)
      have E3 := Lib.hid (decide_eq_true (HR.out.2 ⟨h1, h2⟩))
      clear h1 h2
      rw [E2.out]
      go_wp2
      go_ret
      exact ⟨by rw [E3.out]; rfl, X4.out.below⟩
    · have E2 := Lib.hid (decide_eq_false h2)
      have E3 : Hid (decide (Right x.d) = false) := decide_eq_false (fun h => h2 (HR.out.1 h).2)
      clear h1 h2
      rw [E2.out]
      go_wp2
      go_ret
      exact ⟨by rw [E3.out]; rfl, X4.out.below⟩
  · have E1 := Lib.hid (decide_eq_false h1)
    have E3 : Hid (decide (Right x.d) = false) := decide_eq_false (fun h => h1 (HR.out.1 h).1)
    clear h1
    go_enter Tryd.func10, Tryd.ntmps10
    go_wp2_with ((with_reducible refine at_dst (some 3) ?_); refine wpList_loadAt (op := ⟨some 3, _, _, _, _, _⟩) rfl 27 (.tmp 1) rfl ⟨w.heap.size, 0, none⟩ rfl x.cells d0 X.out.blk.at hu0 hd0 iD ?_)
    refine (namedRight_any x HX.out.hds HX.out.name W).mono ?_
    rintro e w2 ⟨rfl, hb2⟩
    rw [E1.out]
    have X2 := Lib.hid (X.out.next hb2)
    clear hb2
    go_wp2
    go_ret
    exact ⟨by rw [E3.out]; rfl, X2.out.below⟩
end Go.Proofs.YtfeihdmjcppbaaaDoor
