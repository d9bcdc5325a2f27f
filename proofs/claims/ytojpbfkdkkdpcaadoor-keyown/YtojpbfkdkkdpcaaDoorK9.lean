/-
  What Name of package key, and the document's, answer: the short sum of the key's bytes.
-/
import Derived.Test.YtojpbfkdkkdpcaaDoorK6
import Derived.Test.YtojpbfkdkkdpcaaDoorR3
import Derived.Test.YtojpbfkdkkdpcaaDoorShB
namespace Go.Proofs.YtojpbfkdkkdpcaaDoor
open Go.RowKit
set_option linter.unusedVariables false
set_option linter.unusedSimpArgs false
set_option maxRecDepth 100000

theorem cb_of {l : List Nat} (h : Fit 256 l) : YtojpbfkdkkdpcaaDoorSh.cb (l.map UInt8.ofNat) = cn .u8 l := by
  simp only [YtojpbfkdkkdpcaaDoorSh.cb, cn, List.map_map]
  apply List.map_congr_left
  intro x hx
  have := h x hx
  simp only [Function.comp_apply, YtojpbfkdkkdpcaaDoorSh.ub, UInt8.toNat_ofNat']
  congr 1
  omega
theorem cb_to (L : List UInt8) : YtojpbfkdkkdpcaaDoorSh.cb L = cn .u8 (L.map UInt8.toNat) := by
  simp [YtojpbfkdkkdpcaaDoorSh.cb, cn, YtojpbfkdkkdpcaaDoorSh.ub, Function.comp_def]
/-- A key's name. -/
def nameOf (k N : Nat) : List Nat := (YtojpbfkdkkdpcaaDoorSh.sha ((keyBytes k N).map UInt8.ofNat)).map UInt8.toNat
theorem nameOf_fit (k N : Nat) : Fit 256 (nameOf k N) := by
  intro x hx
  obtain ⟨y, _, rfl⟩ := List.mem_map.1 hx
  exact y.toNat_lt
theorem nameOf_length (k N : Nat) : (nameOf k N).length = 32 := by
  simp only [nameOf, List.length_map, YtojpbfkdkkdpcaaDoorSh.sha]
  exact YtojpbfkdkkdpcaaDoorSh.out_length _
theorem Rd.seg8 {w : World} {A : Option Addr} {n : Nat} {l : List Nat} (h : Rd .u8 w A n l) (hf : Fit 256 l) : YtojpbfkdkkdpcaaDoorSh.Seg w A n (l.map UInt8.ofNat) :=
  ⟨by simp [h.1], fun hn => by
    obtain ⟨ad, e, hlt, hc⟩ := h.2 hn
    refine ⟨ad, e, hlt, fun j v hv => ?_⟩
    rw [cb_of hf] at hv
    have hj := (List.getElem?_eq_some_iff.1 hv).1
    rw [cn_length] at hj
    obtain ⟨x, hx⟩ := get_some hj
    rw [cn_get hx] at hv
    injection hv with hv
    rw [← hv]
    exact hc j x hx⟩
/-- An answer: 32 bytes of its own. -/
def GivesName (w : World) (l : List Nat) (e : Ending) (w' : World) : Prop :=
  ∃ g, e = .returned (.slice (some ⟨g, 0, none⟩) 32 32) ∧ w.heap.size ≤ g ∧ Blk w' g 5 (cn .u8 l) ∧ Below w.heap.size w w'
set_option maxHeartbeats 1000000 in
theorem Name_any (g k N gm c gr : Nat) (w : World) (h : Keyed w g k N gm c gr) (ht : YtojpbfkdkkdpcaaDoorSh.Tabs w) :
    Calls Tryd.prog 17 #[.pointer (some ⟨g, 0, none⟩)] w (GivesName w (nameOf k N)) := by
  have HK := Lib.hid h
  have HT := Lib.hid ht
  have k2 := h.k2
  obtain ⟨M, hM⟩ : ∃ M, M = 8 + 2 * k := ⟨_, rfl⟩
  have HM := Lib.hid hM
  clear h ht hM
  go_enter Tryd.func17, Tryd.ntmps17
  go_wp2_with fail
  refine (KBytes_any g k N gm c gr w HK.out M HM.out).mono ?_
  rintro e w1 ⟨g1, c1, rfl, hg1, hrow1, hb1⟩
  have hc1 := hrow1.le.1
  have hseg := hrow1.rd.seg8 (keyBytes_fit k N)
  clear hrow1 hg1
  have hx2 : Below w1.heap.size w1 (w1.alloc (.cells #[.slice (some ⟨g1, 0, none⟩) M c1] 22)) := (Below.refl _ _).alloc (Nat.le_refl _) _
  have bel2 := below_then hb1 hx2
  have hP : YtojpbfkdkkdpcaaDoorSh.Parts (w1.alloc (.cells #[.slice (some ⟨g1, 0, none⟩) M c1] 22)) (some ⟨w1.heap.size, 0, none⟩) 1 [⟨some ⟨g1, 0, none⟩, M, c1, (keyBytes k N).map UInt8.ofNat⟩] := by
    refine ⟨rfl, fun _ => ⟨_, rfl, by simp, fun j p hp => ?_⟩, fun p hp => ?_⟩
    · match j, hp with
      | 0, hp =>
        simp only [List.getElem?_cons_zero, Option.some.injEq] at hp
        subst hp
        exact (Blk.new w1 22 [.slice (some ⟨g1, 0, none⟩) M c1]).cell 0
      | j + 1, hp => simp at hp
    · rw [List.mem_singleton] at hp
      subst hp
      exact ⟨hseg.below hx2, hc1, Nat.zero_le _⟩
  have HP := Lib.hid hP
  have HT2 := Lib.hid (HT.out.below bel2)
  have HB2 := Lib.hid bel2
  clear hP hx2 bel2 hseg
  go_wp2_with fail
  refine (YtojpbfkdkkdpcaaDoorSh.Of_any _ 1 1 _ _ HP.out (by omega) (by simp [YtojpbfkdkkdpcaaDoorSh.textOf, keyBytes_length]; omega) HT2.out).mono ?_
  rintro e w3 ⟨g3, rfl, hg3, hB3, hb3⟩
  have e3 : YtojpbfkdkkdpcaaDoorSh.textOf [⟨some ⟨g1, 0, none⟩, M, c1, (keyBytes k N).map UInt8.ofNat⟩] = (keyBytes k N).map UInt8.ofNat := by simp [YtojpbfkdkkdpcaaDoorSh.textOf]
  rw [e3, cb_to] at hB3
  have HB3 : Hid (Blk w3 g3 5 (cn .u8 (nameOf k N))) := hB3
  have bel3 := below_then HB2.out hb3
  have hsz := Nat.le_trans HB2.out.size hg3
  clear hB3 e3 hg3 hb3
  go_wp2
  go_ret
  exact ⟨g3, rfl, hsz, HB3.out, bel3⟩
set_option maxHeartbeats 1000000 in
theorem RefName_any (A : Option Addr) (n cap : Nat) (l : List Nat) (w : World) (h : Rd .u8 w A n l) (hf : Fit 256 l) (hM : Modul n l) :
    Calls Tryd.prog 18 #[.slice A n cap] w fun e w' => ∃ A' c', e = .returned (.slice A' 32 c') ∧ Rd .u8 w' A' 32 (nameOf n (vbe l)) ∧ Below w.heap.size w w' := by
  have HR := Lib.hid h
  have HM := Lib.hid hM
  have k2 := hM.2.1
  obtain ⟨M, hMM⟩ : ∃ M, M = 8 + 2 * n := ⟨_, rfl⟩
  have HMM := Lib.hid hMM
  clear h hM hMM
  go_enter Tryd.func18, Tryd.ntmps18
  go_wp2_with fail
  refine (RefBytes_any A n cap l w HR.out hf HM.out M HMM.out).mono ?_
  rintro e w1 ⟨A1, c1, rfl, hrow1, hb1⟩
  have hA1 : A1 = none → c1 = 0 := fun e => by
    obtain ⟨ad, e2, _⟩ := hrow1.rd.2 (by have := HMM.out; omega)
    rw [e] at e2; cases e2
  have HSEG := Lib.hid (hrow1.rd.seg8 (keyBytes_fit n (vbe l)))
  clear hrow1
  go_wp2_with fail
  refine (YtojpbfkdkkdpcaaDoorSh.refSum_any A1 M c1 _ w1 HSEG.out hA1 (by have := HMM.out; omega)).mono ?_
  rintro e w2 ⟨A2, c2, rfl, hrow2, hb2⟩
  rw [cb_to] at hrow2
  have hrow3 : Row w2 w1.heap.size 5 A2 32 c2 (cn .u8 (nameOf n (vbe l))) := hrow2
  have HRD := Lib.hid hrow3.rd
  clear hrow2 hrow3
  go_wp2
  go_ret
  exact ⟨A2, c2, rfl, HRD.out, below_then hb1 hb2⟩
end Go.Proofs.YtojpbfkdkkdpcaaDoor
