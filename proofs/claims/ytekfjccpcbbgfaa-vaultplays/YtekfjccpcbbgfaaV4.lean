/-
  Lock and Raise of a vault. No condition but that lengths are lengths and no count of changes passes 2 to the 60.
-/
import Derived.Test.YtekfjccpcbbgfaaV3
namespace Go.Proofs.Ytekfjccpcbbgfaa
open Go.RowKit
set_option linter.unusedVariables false
set_option linter.unusedSimpArgs false
set_option maxRecDepth 100000

theorem alloc_size (w : World) (o : Obj) : (w.alloc o).heap.size = w.heap.size + 1 := by simp
theorem Goes.after {w w0 w' : World} {V V' : Vt} {v : Value} {e : Ending} (hb : Below w.heap.size w w0) (h : Goes w0 V V' v e w') : Goes w V V' v e w' := ⟨h.1, h.2.1, ((Touch.of_below [V.g] hb)).trans h.2.2⟩
theorem Goes.same {w w' : World} {V : Vt} (v : Value) (h : Vlt w V) (hb : Below w.heap.size w w') : Goes w V V v (.returned v) w' := ⟨rfl, h.below hb, Touch.of_below _ hb⟩
/-- A vault behind Lock, and what Lock answers. -/
def Vt.lock (V : Vt) (b : Bool) : Vt × Int := if V.dn = true then (V, 42) else V.did b V.ix
/-- A location, an index that may be. -/
def LocOk (l i : Int) : Prop := 0 ≤ l ∧ l < 32 ∧ 0 ≤ i ∧ i ≤ 281474976710656
def Vt.raise (V : Vt) (l i : Int) : Vt × Int := if V.dn = true then (V, 42) else if ¬ (0 ≤ l ∧ l < 32 ∧ 0 ≤ i ∧ i ≤ 281474976710656) then (V, 13) else if i < ((V.ix.getD l.toNat 0 : Nat) : Int) then (V, 52) else V.did V.lk (V.ix.set l.toNat i.toNat)

theorem Lock_any (V : Vt) (w : World) (h : Vlt w V) (hc : V.ch + 1 ≤ 1152921504606846976) (b : Bool) : Calls Try.prog 10 #[.pointer (some ⟨V.g, 0, none⟩), .bool b] w (Goes w V (V.lock b).1 (.int .i64 (V.lock b).2)) := by
  obtain ⟨W2, hW⟩ : ∃ W2, (w.alloc (.cells #[.pointer (some ⟨V.g, 0, none⟩)] 25)).alloc (.cells #[.bool b] 4) = W2 := ⟨_, rfl⟩
  have hb : Below w.heap.size w W2 := by rw [← hW]; exact ((Below.refl _ w).alloc (Nat.le_refl _) _).alloc (by simp) _
  have hV := h.below hb
  have b0 : W2.cell? ⟨w.heap.size, 0, none⟩ = some (.pointer (some ⟨V.g, 0, none⟩)) := by
    rw [← hW]; exact (((Blk.new w 25 [.pointer (some ⟨V.g, 0, none⟩)]).alloc _).cell 0)
  have b1 : W2.cell? ⟨w.heap.size + 1, 0, none⟩ = some (.bool b) := by
    have := (Blk.new (w.alloc (.cells #[.pointer (some ⟨V.g, 0, none⟩)] 25)) 4 [.bool b]).cell 0
    rw [alloc_size] at this
    rw [← hW]; exact this
  have HP : Hid (V.lock b = if V.dn = true then (V, 42) else V.did b V.ix) := rfl
  have HB := Lib.hid hb
  have HV := Lib.hid hV
  have H0 := Lib.hid h
  have HC := Lib.hid hc
  have c := hV.cdn
  clear h hb hV hc
  generalize V.lock b = R at *
  cases hdn : V.dn with
  | true =>
    obtain rfl : R = (V, 42) := by rw [HP.out, if_pos hdn]
    rw [hdn] at c
    clear hdn HP
    go_enter Try.func10, Try.ntmps10
    go_wp2
    go_ret
    exact Goes.same _ H0.out HB.out
  | false =>
    obtain rfl : R = V.did b V.ix := by rw [HP.out, if_neg (by rw [hdn]; simp)]
    rw [hdn] at c
    have HCH := Lib.hid (change_lock V W2 HV.out HC.out b V.ix (w.heap.size + 1) w.heap.size (LockL_any V W2 HV.out b (w.heap.size + 1) w.heap.size b1 b0))
    generalize V.did b V.ix = R at *
    clear hdn HP
    go_enter Try.func10, Try.ntmps10
    go_wp2_with fail
    refine HCH.out.mono ?_
    rintro e w3 ⟨rfl, hV3, hT3⟩
    have HE : Hid (Goes w V R.1 (.int .i64 R.2) (.returned (.int .i64 R.2)) w3) := Goes.after HB.out ⟨rfl, hV3, hT3⟩
    clear hV3 hT3 HCH
    go_wp2
    go_ret
    exact HE.out

theorem Raise_any (V : Vt) (w : World) (h : Vlt w V) (hc : V.ch + 1 ≤ 1152921504606846976) (l i : Int) : Calls Try.prog 9 #[.pointer (some ⟨V.g, 0, none⟩), .int .i64 l, .int .i64 i] w (Goes w V (V.raise l i).1 (.int .i64 (V.raise l i).2)) := by
  obtain ⟨W2, hW⟩ : ∃ W2, ((w.alloc (.cells #[.pointer (some ⟨V.g, 0, none⟩)] 25)).alloc (.cells #[.int .i64 l] 3)).alloc (.cells #[.int .i64 i] 3) = W2 := ⟨_, rfl⟩
  have hb : Below w.heap.size w W2 := by rw [← hW]; exact (((Below.refl _ w).alloc (Nat.le_refl _) _).alloc (by simp) _).alloc (by simp; omega) _
  have hV := h.below hb
  have b0 : W2.cell? ⟨w.heap.size, 0, none⟩ = some (.pointer (some ⟨V.g, 0, none⟩)) := by
    rw [← hW]; exact ((((Blk.new w 25 [.pointer (some ⟨V.g, 0, none⟩)]).alloc _).alloc _).cell 0)
  have b1 : W2.cell? ⟨w.heap.size + 1, 0, none⟩ = some (.int .i64 l) := by
    have := ((Blk.new (w.alloc (.cells #[.pointer (some ⟨V.g, 0, none⟩)] 25)) 3 [.int .i64 l]).alloc (.cells #[.int .i64 i] 3)).cell 0
    rw [alloc_size] at this
    rw [← hW]; exact this
  have b2 : W2.cell? ⟨w.heap.size + 2, 0, none⟩ = some (.int .i64 i) := by
    have := (Blk.new ((w.alloc (.cells #[.pointer (some ⟨V.g, 0, none⟩)] 25)).alloc (.cells #[.int .i64 l] 3)) 3 [.int .i64 i]).cell 0
    rw [alloc_size, alloc_size] at this
    rw [← hW]; exact this
  have HP : Hid (V.raise l i = if V.dn = true then (V, 42) else if ¬ (0 ≤ l ∧ l < 32 ∧ 0 ≤ i ∧ i ≤ 281474976710656) then (V, 13) else if i < ((V.ix.getD l.toNat 0 : Nat) : Int) then (V, 52) else V.did V.lk (V.ix.set l.toNat i.toNat)) := rfl
  have HB := Lib.hid hb
  have HV := Lib.hid hV
  have H0 := Lib.hid h
  have HC := Lib.hid hc
  have c := hV.cdn
  clear h hb hV hc
  generalize V.raise l i = R at *
  cases hdn : V.dn with
  | true =>
    obtain rfl : R = (V, 42) := by rw [HP.out, if_pos hdn]
    rw [hdn] at c
    clear hdn HP
    go_enter Try.func9, Try.ntmps9
    go_wp2
    go_ret
    exact Goes.same _ H0.out HB.out
  | false =>
    have HD : Hid (V.dn = false) := hdn
    rw [hdn] at c
    clear hdn
    by_cases hl : 0 ≤ l ∧ l < 32
    · by_cases i0 : i < 0
      · obtain rfl : R = (V, 13) := by rw [HP.out, if_neg (by rw [HD.out]; simp), if_pos (by omega)]
        have HL := Lib.hid (isLocation_any W2 l true (by simp [hl]))
        clear HP hl
        go_enter Try.func9, Try.ntmps9
        go_wp2_with fail
        refine HL.out.mono ?_
        rintro e w3 ⟨rfl, rfl⟩
        go_wp2
        go_ret
        exact Goes.same _ H0.out HB.out
      · by_cases i1 : 281474976710656 < i
        · obtain rfl : R = (V, 13) := by rw [HP.out, if_neg (by rw [HD.out]; simp), if_pos (by omega)]
          have HL := Lib.hid (isLocation_any W2 l true (by simp [hl]))
          clear HP hl
          go_enter Try.func9, Try.ntmps9
          go_wp2_with fail
          refine HL.out.mono ?_
          rintro e w3 ⟨rfl, rfl⟩
          go_wp2
          go_ret
          exact Goes.same _ H0.out HB.out
        · obtain ⟨j, rfl⟩ : ∃ j : Nat, l = j := ⟨l.toNat, by omega⟩
          obtain ⟨x, rfl⟩ : ∃ x : Nat, i = x := ⟨i.toNat, by omega⟩
          have hj : j < 32 := by omega
          have hx : x ≤ 281474976710656 := by omega
          obtain ⟨y, hy⟩ : ∃ y, V.ix[j]? = some y := ⟨_, List.getElem?_eq_getElem (by rw [H0.out.il]; exact hj)⟩
          have hgy : V.ix.getD j 0 = y := by simp [List.getD, hy]
          have cy := HV.out.cix hy
          have zy := HV.out.z (33 + j)
          have HL := Lib.hid (isLocation_any W2 (j : Int) true (by simp; omega))
          have zj : (j : Int) < 32 := by omega
          have zj0 : (0 : Int) ≤ (j : Int) := by omega
          have HR0 : Hid (R = if (x : Int) < ((y : Nat) : Int) then (V, 52) else V.did V.lk (V.ix.set j x)) := by
            show _ = _
            rw [HP.out, if_neg (by rw [HD.out]; simp), if_neg (by omega), Int.toNat_natCast, Int.toNat_natCast, hgy]
          clear HP hl hgy hy
          by_cases hxy : (x : Int) < (y : Int)
          · obtain rfl : R = (V, 52) := by rw [HR0.out, if_pos hxy]
            clear HR0
            go_enter Try.func9, Try.ntmps9
            go_wp2_with fail
            refine HL.out.mono ?_
            rintro e w3 ⟨rfl, rfl⟩
            go_wp2
            go_quiet (fail)
            go_wp2
            go_ret
            exact Goes.same _ H0.out (below_drewN HB.out _)
          · obtain rfl : R = V.did V.lk (V.ix.set j x) := by rw [HR0.out, if_neg hxy]
            have HCH : Hid (∀ n, Calls Try.prog 19 #[.pointer (some ⟨V.g, 0, none⟩), .func (.func 20) #[] #[.pointer (some ⟨w.heap.size + 2, 0, none⟩), .pointer (some ⟨w.heap.size, 0, none⟩), .pointer (some ⟨w.heap.size + 1, 0, none⟩)]] (W2.drewN n) (Goes (W2.drewN n) V (V.did V.lk (V.ix.set j x)).1 (.int .i64 (V.did V.lk (V.ix.set j x)).2))) :=
              fun n => change_raise V (W2.drewN n) (HV.out.drewN n) HC.out V.lk (V.ix.set j x) (w.heap.size + 2) w.heap.size (w.heap.size + 1) (RaiseL_any V (W2.drewN n) (HV.out.drewN n) x j hj hx _ _ _ b2 b0 b1)
            generalize V.did V.lk (V.ix.set j x) = R at *
            clear HR0
            go_enter Try.func9, Try.ntmps9
            go_wp2_with fail
            refine HL.out.mono ?_
            rintro e w3 ⟨rfl, rfl⟩
            go_wp2
            go_quiet (fail)
            go_wp2_with fail
            refine (HCH.out _).mono ?_
            rintro e w3 ⟨rfl, hV3, hT3⟩
            have HE : Hid (Goes w V R.1 (.int .i64 R.2) (.returned (.int .i64 R.2)) w3) := Goes.after (below_drewN HB.out _) ⟨rfl, hV3, hT3⟩
            clear hV3 hT3 HCH
            go_wp2
            go_ret
            exact HE.out
    · obtain rfl : R = (V, 13) := by rw [HP.out, if_neg (by rw [HD.out]; simp), if_pos (by omega)]
      have HL := Lib.hid (isLocation_any W2 l false (by simp [hl]))
      clear HP hl
      go_enter Try.func9, Try.ntmps9
      go_wp2_with fail
      refine HL.out.mono ?_
      rintro e w3 ⟨rfl, rfl⟩
      go_wp2
      go_ret
      exact Goes.same _ H0.out HB.out
end Go.Proofs.Ytekfjccpcbbgfaa
