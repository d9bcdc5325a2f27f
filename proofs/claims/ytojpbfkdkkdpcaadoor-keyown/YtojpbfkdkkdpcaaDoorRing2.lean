/-
  A ring in memory; the program's has, one and below.
-/
import Derived.Test.YtojpbfkdkkdpcaaDoorRing1
import Derived.Test.YtojpbfkdkkdpcaaDoorComp
import Derived.Test.YtojpbfkdkkdpcaaDoorBits
namespace Go.Proofs.YtojpbfkdkkdpcaaDoor
set_option maxRecDepth 100000
open Go.RowKit
set_option linter.unusedVariables false
set_option linter.unusedSimpArgs false

/-- A ring at block g: its number N of k limbs, what is against it, and a third cell. -/
structure Ringed (w : World) (g k N n0 : Nat) (A : Option Addr) (c : Nat) (R : Value) (ln : List Nat) : Prop where
  blk : Blk w g 78 [.slice A k c, .int .u32 (n0 : Int), R]
  rd : Rd .u32 w A k ln
  fit : Fit 4294967296 ln
  num : val 4294967296 ln = N
  k1 : 1 ≤ k
  k2 : k ≤ 128
  odd : N % 2 = 1
  gt : 1 < N
  n1 : n0 < 4294967296
  inv : n0 * N % 4294967296 = 4294967296 - 1
section
variable {w w' : World} {g k N n0 : Nat} {A : Option Addr} {c : Nat} {R : Value} {ln : List Nat}
theorem Ringed.below (h : Ringed w g k N n0 A c R ln) (hb : Below w.heap.size w w') : Ringed w' g k N n0 A c R ln :=
  ⟨h.blk.below hb h.blk.lt, h.rd.below hb, h.fit, h.num, h.k1, h.k2, h.odd, h.gt, h.n1, h.inv⟩
theorem Ringed.c0 (h : Ringed w g k N n0 A c R ln) : w.cell? ⟨g, 0, none⟩ = some (.slice A k c) := h.blk.cell 0
theorem Ringed.c1 (h : Ringed w g k N n0 A c R ln) : w.cell? ⟨g, 1, none⟩ = some (.int .u32 (n0 : Int)) := h.blk.cell 1
theorem Ringed.c2 (h : Ringed w g k N n0 A c R ln) : w.cell? ⟨g, 2, none⟩ = some R := h.blk.cell 2
theorem Ringed.lt (h : Ringed w g k N n0 A c R ln) : N < 4294967296 ^ k := by
  have := val_lt h.fit
  rw [h.rd.1, h.num] at this
  exact this
end

set_option maxHeartbeats 1000000 in
theorem has_yes (g k N n0 : Nat) (A : Option Addr) (c : Nat) (R : Value) (ln : List Nat) (Aa : Option Addr) (ca : Nat) (la : List Nat) (w : World) (hr : Ringed w g k N n0 A c R ln) (h : Rd .u32 w Aa k la) (hf : Fit 4294967296 la) (hlt : val 4294967296 la < N) :
    Calls Tryd.prog 57 #[.pointer (some ⟨g, 0, none⟩), .slice Aa k ca] w fun e w' => e = .returned (.bool true) ∧ Below w.heap.size w w' := by
  have hc0 := hr.c0
  have k1 := hr.k1
  have k2 := hr.k2
  have HR := Lib.hid h
  have HRR := Lib.hid hr
  have HLT := Lib.hid hlt
  clear h hr hlt
  go_enter Tryd.func57, Tryd.ntmps57
  go_wp2_with fail
  refine (Compare_ok Aa A k ca k c la ln w HR.out HRR.out.rd hf HRR.out.fit k1 (by omega) k1 (by omega)).mono ?_
  rintro e w1 ⟨rfl, hb1⟩
  have ho : ord (val 4294967296 la) (val 4294967296 ln) < 0 := (ord_lt _ _).2 (by rw [HRR.out.num]; exact HLT.out)
  generalize ord (val 4294967296 la) (val 4294967296 ln) = z at *
  have hd : decide (z < 0) = true := decide_eq_true ho
  go_wp2
  go_ret
  exact ⟨rfl, hb1⟩

set_option maxHeartbeats 1000000 in
theorem has_no (g k N n0 : Nat) (A : Option Addr) (c : Nat) (R : Value) (ln : List Nat) (Aa : Option Addr) (n ca : Nat) (la : List Nat) (w : World) (hr : Ringed w g k N n0 A c R ln) (h : Rd .u32 w Aa n la) (hf : Fit 4294967296 la) (hno : ¬ (n = k ∧ val 4294967296 la < N)) :
    Calls Tryd.prog 57 #[.pointer (some ⟨g, 0, none⟩), .slice Aa n ca] w fun e w' => e = .returned (.bool false) ∧ Below w.heap.size w w' := by
  have hc0 := hr.c0
  have k1 := hr.k1
  have k2 := hr.k2
  have HR := Lib.hid h
  have HRR := Lib.hid hr
  clear h hr
  by_cases hnk : n = k
  · subst hnk
    have HGE : Hid (N ≤ val 4294967296 la) := Nat.not_lt.1 fun h => hno ⟨rfl, h⟩
    clear hno
    go_enter Tryd.func57, Tryd.ntmps57
    go_wp2_with fail
    refine (Compare_ok Aa A n ca n c la ln w HR.out HRR.out.rd hf HRR.out.fit k1 (by omega) k1 (by omega)).mono ?_
    rintro e w1 ⟨rfl, hb1⟩
    have ho : 0 ≤ ord (val 4294967296 la) (val 4294967296 ln) := (ord_ge _ _).2 (by rw [HRR.out.num]; exact HGE.out)
    generalize ord (val 4294967296 la) (val 4294967296 ln) = z at *
    have hd : decide (z < 0) = false := decide_eq_false (by omega)
    go_wp2
    go_ret
    exact ⟨rfl, hb1⟩
  · have h1 : ((n : Int) == (k : Int)) = false := by simp; omega
    have h2 : (n == k) = false := by simp [hnk]
    clear hno
    go_enter Tryd.func57, Tryd.ntmps57
    go_wp2
    go_ret
    exact ⟨rfl, below_self⟩

theorem val_one (k : Nat) (hk : 1 ≤ k) : val 4294967296 ((List.replicate k 0).set 0 1) = 1 := by
  obtain ⟨p, rfl⟩ : ∃ p, k = p + 1 := ⟨k - 1, by omega⟩
  rw [List.replicate_succ, List.set_cons_zero, val, val_replicate]

theorem first_zero {w : World} {g k : Nat} (h : Blk w g 73 (cn .u32 (List.replicate k 0))) (hk : 1 ≤ k) : w.cell? ⟨g, 0, none⟩ = some (.int .u32 0) :=
  (h.cell 0).trans (cn_get (x := 0) (by rw [List.getElem?_replicate, if_pos (by omega)]))
set_option maxHeartbeats 1000000 in
theorem one_any (g k N n0 : Nat) (A : Option Addr) (c : Nat) (R : Value) (ln : List Nat) (w : World) (hr : Ringed w g k N n0 A c R ln) :
    Calls Tryd.prog 89 #[.pointer (some ⟨g, 0, none⟩)] w (Elem w k 1) := by
  have hc0 := hr.c0
  have k1 := hr.k1
  have k2 := hr.k2
  have k0 : 0 < k := by omega
  have HRR := Lib.hid hr
  clear hr
  go_enter Tryd.func89, Tryd.ntmps89
  go_wp2_with (first
    | ((with_reducible refine at_dst (some 9) ?_); refine wpList_makeNums (o := ⟨some 9, _, _, _, _, _⟩) rfl (.tmp 8) (.tmp 8) 45 73 rfl .u32 4 Tryd.underlying45 wordInfo (by omega) _ _ rfl rfl k rfl (by omega) ?_; intro w1 hb1 hbel1 hs1; have hoc := first_zero hb1.out k1; have hof := hb1.out.frozen 0))
  go_ret
  have hb2 := hb1.out.set_ 0 (.int .u32 ((1 : Nat) : Int))
  rw [cn_set] at hb2
  exact ⟨_, k, (List.replicate k 0).set 0 1, rfl, hb2.rd k (by simp), (Fit.replicate _ _ _ (by omega)).set _ _ (by omega), val_one k k1, hbel1.setCell (Nat.le_refl _) _⟩

set_option maxHeartbeats 1000000 in
theorem below_any (g k N n0 : Nat) (A : Option Addr) (c : Nat) (R : Value) (ln : List Nat) (Aa : Option Addr) (ca : Nat) (la : List Nat) (b : Bool) (o V : Nat) (w : World) (hr : Ringed w g k N n0 A c R ln) (h : Rd .u32 w Aa k la) (hf : Fit 4294967296 la) (hbo : b = false ∧ o = 0 ∨ b = true ∧ o = 1) (hV : val 4294967296 la + 4294967296 ^ k * o = V) (hV2 : V < 2 * N) :
    Calls Tryd.prog 81 #[.pointer (some ⟨g, 0, none⟩), .slice Aa k ca, .bool b] w (Elem w k (V % N)) := by
  have hc0 := hr.c0
  have k1 := hr.k1
  have k2 := hr.k2
  have HR := Lib.hid h
  have HRR := Lib.hid hr
  have HV := Lib.hid hV
  have HV2 := Lib.hid hV2
  clear h hr hV hV2
  have fin : ∀ (zs : List Nat) (cc : Nat), cc ≤ 1 → zs.length = k → Fit 4294967296 zs → val 4294967296 zs + val 4294967296 ln = val 4294967296 la + 4294967296 ^ k * cc → N ≤ V → val 4294967296 zs = V % N := by
    intro zs cc hcc hl hfz he hge
    have hz := val_lt hfz
    rw [hl] at hz
    rw [HRR.out.num] at he
    exact below_val HRR.out.lt HV.out HV2.out (by omega) hz hcc he hge
  have FIN := Lib.hid fin
  clear fin
  rcases hbo with ⟨rfl, rfl⟩ | ⟨rfl, rfl⟩
  · by_cases hlt : val 4294967296 la < N
    · have HLT := Lib.hid hlt
      clear hlt
      go_enter Tryd.func81, Tryd.ntmps81
      go_wp2_with fail
      refine (Compare_ok Aa A k ca k c la ln w HR.out HRR.out.rd hf HRR.out.fit k1 (by omega) k1 (by omega)).mono ?_
      rintro e w1 ⟨rfl, hb1⟩
      have ho : ord (val 4294967296 la) (val 4294967296 ln) < 0 := (ord_lt _ _).2 (by rw [HRR.out.num]; exact HLT.out)
      generalize ord (val 4294967296 la) (val 4294967296 ln) = z at *
      have hd : decide (z < 0) = true := decide_eq_true ho
      go_wp2
      go_ret
      have hv := HV.out
      rw [Nat.mul_zero, Nat.add_zero] at hv
      exact ⟨Aa, ca, la, rfl, HR.out.below hb1, hf, by rw [← hv, Nat.mod_eq_of_lt HLT.out], hb1⟩
    · have HGE : Hid (N ≤ val 4294967296 la) := Nat.not_lt.1 hlt
      clear hlt
      go_enter Tryd.func81, Tryd.ntmps81
      go_wp2_with fail
      refine (Compare_ok Aa A k ca k c la ln w HR.out HRR.out.rd hf HRR.out.fit k1 (by omega) k1 (by omega)).mono ?_
      rintro e w1 ⟨rfl, hb1⟩
      have ho : 0 ≤ ord (val 4294967296 la) (val 4294967296 ln) := (ord_ge _ _).2 (by rw [HRR.out.num]; exact HGE.out)
      generalize ord (val 4294967296 la) (val 4294967296 ln) = z at *
      have hd : decide (z < 0) = false := decide_eq_false (by omega)
      have hc1 := (HRR.out.below hb1).c0
      go_wp2_with fail
      refine (Sub_ok Aa A k ca c la ln w1 (HR.out.below hb1) (HRR.out.rd.below hb1) hf HRR.out.fit k1 (by omega)).mono ?_
      rintro e w2 ⟨A2, cc, zs, rfl, hcc, ⟨hr2, hf2, _, _, hb2⟩, he⟩
      have HE := Lib.hid he
      have HR2 := Lib.hid hr2
      clear he hr2
      go_wp2
      go_ret
      have hv := HV.out
      rw [Nat.mul_zero, Nat.add_zero] at hv
      exact ⟨A2, k, zs, rfl, HR2.out, hf2, FIN.out zs cc hcc HR2.out.1 hf2 HE.out (by rw [← hv]; exact HGE.out), below_then hb1 hb2⟩
  · go_enter Tryd.func81, Tryd.ntmps81
    go_wp2_with fail
    refine (Sub_ok Aa A k ca c la ln w HR.out HRR.out.rd hf HRR.out.fit k1 (by omega)).mono ?_
    rintro e w2 ⟨A2, cc, zs, rfl, hcc, ⟨hr2, hf2, _, _, hb2⟩, he⟩
    have HE := Lib.hid he
    have HR2 := Lib.hid hr2
    clear he hr2
    go_wp2
    go_ret
    have hge : N ≤ V := by
      have := HV.out
      have := HRR.out.lt
      omega
    exact ⟨A2, k, zs, rfl, HR2.out, hf2, FIN.out zs cc hcc HR2.out.1 hf2 HE.out hge, hb2⟩
end Go.Proofs.YtojpbfkdkkdpcaaDoor
