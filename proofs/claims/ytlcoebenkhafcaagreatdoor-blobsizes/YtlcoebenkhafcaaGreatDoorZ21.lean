/-
  What read and fault of package blob answer. No condition but that the bytes are a head's at least.
-/
import Derived.Test.YtlcoebenkhafcaaGreatDoorZ19
import Derived.Test.YtlcoebenkhafcaaGreatDoorZ20
namespace Go.Proofs.YtlcoebenkhafcaaGreatDoor
open Go.RowKit
set_option linter.unusedVariables false
set_option linter.unusedSimpArgs false
set_option maxRecDepth 100000
def capn (n : Nat) : Nat := if n ≤ 281474976710657 then n else 281474976710657
theorem capn_le (n : Nat) : capn n ≤ 281474976710657 := by unfold capn; split <;> omega
theorem capn_of {n : Nat} (h : n ≤ 281474976710657) : capn n = n := by unfold capn; rw [if_pos h]
def capO (o : Ol) : Ol := ⟨capn o.ver, capn o.auth, capn o.aux, capn o.alg, capn o.hash, capn o.sig, capn o.key, capn o.list, capn o.idx, capn o.flags, capn o.loc⟩
def xrO (l : List Nat) : Nat → List Value
  | 0 => zeroO
  | i + 1 => (xrO l i).set (opos i) (.int .i64 ((capn (num (sl l (ooff i) (osz i))) : Nat) : Int))
theorem xrO_len (l : List Nat) : ∀ i, (xrO l i).length = 11
  | 0 => rfl
  | i + 1 => by rw [xrO, List.length_set]; exact xrO_len l i
structure RdSO (w : World) (gd b : Nat) (cs : List Value) (wr : World) : Prop where
  below : Below w.heap.size w wr
  res : Blk wr w.heap.size 65 zeroO
  d : Blk wr gd 65 cs
  ns : Blk wr b 98 (onumCells gd)
  lt : w.heap.size < gd
  lt2 : gd < b
theorem RdSO.next {w : World} {gd b : Nat} {cs : List Value} {wr w2 : World} (h : RdSO w gd b cs wr) (hb : Below wr.heap.size wr w2) : RdSO w gd b cs w2 :=
  ⟨h.below.trans (hb.mono h.below.size), h.res.below hb h.res.lt, h.d.below hb h.d.lt, h.ns.below hb h.ns.lt, h.lt, h.lt2⟩
theorem RdSO.put {w : World} {gd b : Nat} {cs cs' : List Value} {wr w2 : World} (h : RdSO w gd b cs wr) (ht : Touch [gd] wr w2) (hd : Blk w2 gd 65 cs') : RdSO w gd b cs' w2 :=
  ⟨h.below.trans (ht.below (fun y hy => by rw [List.mem_singleton.1 hy]; exact Nat.le_of_lt h.lt) h.below.size), h.res.touch ht (by have := h.lt; simp; omega), hd, h.ns.touch ht (by have := h.lt2; simp; omega), h.lt, h.lt2⟩
theorem iInt13 : (Tryz.prog.info? 3).map (·.size) = some 1 := by kernel_rfl
set_option maxHeartbeats 8000000 in
theorem bread_any (A : Option Addr) (n cap : Nat) (l : List Nat) (w : World) (hb : Bs w A n cap l) (hn : n ≤ 100000) (h128 : 128 ≤ n) : Calls Tryz.prog 44 #[.slice A n cap] w fun e w' => e = .returned (.agg (ocells (capO (rdo l))).toArray) ∧ Below w.heap.size w w' := by
  obtain ⟨d0, hu0, hd0⟩ := uOl
  have HB := Lib.hid hb
  have hl := hb.rd.1
  have HL := Lib.hid hl
  have hnc := hb.le
  have hcm := hb.max
  clear hb hl
  have hb1 : Below w.heap.size w (w.alloc (.cells zeroO.toArray 65)) := (Below.refl _ _).alloc (Nat.le_refl _) _
  have hk1 : Blk (w.alloc (.cells zeroO.toArray 65)) w.heap.size 65 zeroO := Blk.new _ _ _
  obtain ⟨W, hW⟩ : ∃ W, w.alloc (.cells zeroO.toArray 65) = W := ⟨_, rfl⟩
  rw [hW] at hb1 hk1
  have hb2 : Below W.heap.size W (W.alloc (.cells zeroO.toArray 65)) := (Below.refl _ _).alloc (Nat.le_refl _) _
  have hk2 : Blk (W.alloc (.cells zeroO.toArray 65)) W.heap.size 65 zeroO := Blk.new _ _ _
  obtain ⟨W2, hW2⟩ : ∃ W2, W.alloc (.cells zeroO.toArray 65) = W2 := ⟨_, rfl⟩
  rw [hW2] at hb2 hk2
  have hz : zeroO.toArray = #[.int .i64 0, .int .i64 0, .int .i64 0, .int .i64 0, .int .i64 0, .int .i64 0, .int .i64 0, .int .i64 0, .int .i64 0, .int .i64 0, .int .i64 0] := rfl
  rw [hz] at hW hW2
  clear hz
  obtain ⟨gd, hgd⟩ : ∃ gd, W.heap.size = gd := ⟨_, rfl⟩
  have I0 : Hid (Below w.heap.size w W2 ∧ Blk W2 w.heap.size 65 zeroO ∧ w.heap.size < gd ∧ Blk W2 gd 65 zeroO) :=
    ⟨hb1.trans (hb2.mono hb1.size), hk1.below hb2 hk1.lt, by rw [← hgd]; exact hk1.lt, by rw [← hgd]; exact hk2⟩
  clear hb1 hk1 hb2 hk2
  go_enter Tryz.func44, Tryz.ntmps44
  go_wp2_with fail
  (try rw [hgd])
  refine (onumbers_any gd W2).mono ?_
  rintro e w1 ⟨b, rfl, hbb, hB, hbe⟩
  have I1 : Hid (RdSO w gd b (xrO l 0) w1) := ⟨I0.out.1.trans (hbe.mono I0.out.1.size), I0.out.2.1.below hbe I0.out.2.1.lt, I0.out.2.2.2.below hbe I0.out.2.2.2.lt, hB, I0.out.2.2.1, Nat.lt_of_lt_of_le I0.out.2.2.2.lt hbb⟩
  clear hbb hB hbe
  go_wp2
  go_loopw [4, 11] (fun a o wr => ∃ i : Nat, i ≤ 11 ∧ o = .int .i64 (i : Int) ∧ a = .int .i64 ((ooff i : Nat) : Int) ∧ Hid (RdSO w gd b (xrO l i) wr)) (fun _ o _ => 11 - (intOf o).toNat)
  case atStart => exact ⟨0, by omega, rfl, rfl, I1⟩
  case round =>
    obtain ⟨i, hi, rfl, rfl, HS⟩ := hrel
    by_cases hin : i < 11
    · have hin2 : (i : Int) < 11 := by omega
      have g0 : wr.cell? ⟨b, i * 2, none⟩ = some (.pointer (some ⟨gd, opos i, none⟩)) := (HS.out.ns.cell _).trans (onum_get _ hin).1
      have g1 : wr.cell? ⟨b, i * 2 + 1, none⟩ = some (.int .i64 (osz i : Nat)) := (HS.out.ns.cell _).trans (onum_get _ hin).2
      have HXN : Hid (xrO l (i + 1) = (xrO l i).set (opos i) (.int .i64 ((capn (num (sl l (ooff i) (osz i))) : Nat) : Int))) := rfl
      have HOS : Hid (ooff (i + 1) = ooff i + osz i) := rfl
      have hfit : ooff (i + 1) ≤ 76 := ooff_le (by omega)
      rw [HOS.out] at hfit
      have hpl : Hid (opos i < 11) := opos_lt i
      obtain ⟨hs1, hs8⟩ := osz_bd i
      obtain ⟨P, hP⟩ : ∃ P, opos i = P := ⟨_, rfl⟩
      obtain ⟨s, hs⟩ : ∃ s, osz i = s := ⟨_, rfl⟩
      obtain ⟨o, ho⟩ : ∃ o, ooff i = o := ⟨_, rfl⟩
      rw [hP] at g0 HXN hpl
      rw [hs] at g1 HXN HOS hfit hs1 hs8
      rw [ho] at HXN HOS hfit
      rw [ho]
      clear hP hs ho
      have hzb : Below wr.heap.size wr (wr.alloc (.cells #[.pointer (some ⟨gd, P, none⟩), .int .i64 (s : Nat)] 98)) := (Below.refl _ _).alloc (Nat.le_refl _) _
      have hzk : Blk (wr.alloc (.cells #[.pointer (some ⟨gd, P, none⟩), .int .i64 (s : Nat)] 98)) wr.heap.size 98 [.pointer (some ⟨gd, P, none⟩), .int .i64 (s : Nat)] := Blk.new _ _ _
      obtain ⟨wz, hwz⟩ : ∃ wz, wr.alloc (.cells #[.pointer (some ⟨gd, P, none⟩), .int .i64 (s : Nat)] 98) = wz := ⟨_, rfl⟩
      rw [hwz] at hzb hzk
      have q0 : wz.cell? ⟨wr.heap.size, 0, none⟩ = some (.pointer (some ⟨gd, P, none⟩)) := hzk.cell 0
      have q1 : wz.cell? ⟨wr.heap.size, 1, none⟩ = some (.int .i64 (s : Nat)) := hzk.cell 1
      have HZ := Lib.hid (HS.out.next hzb)
      have HZL : Hid (wr.heap.size < wz.heap.size ∧ gd < wr.heap.size) := ⟨hzk.lt, HS.out.d.lt⟩
      clear hzb hzk
      obtain ⟨v, hv⟩ : ∃ v, num (sl l o s) = v := ⟨_, rfl⟩
      rw [hv] at HXN
      have hoN : o + s ≤ n := by omega
      by_cases hvb : v ≤ 9223372036854775807
      · have HG := Lib.hid (Get_ok A n cap l o s o s rfl rfl hs1 hs8 wz (HB.out.rd.below HZ.out.below) HB.out.fit hn hnc hcm hoN (by rw [hv]; exact hvb))
        rw [hv] at HG
        clear hv
        have HCP : Hid (((capn v : Nat) : Int) = min (v : Int) 281474976710657) := by show _ = _; unfold capn; split <;> omega
        rw [HCP.out] at HXN
        clear hvb HCP
        go_wp2_with fail
        refine HG.out.mono ?_
        rintro e w3 ⟨rfl, rfl⟩
        go_wp2_with ((with_reducible refine at_dst none ?_); refine stopper ?_)
        refine ⟨?_, trivial⟩
        refine wpList_storeOne (op := ⟨none, _, _, _, _, _⟩) rfl 3 (.tmp 29) (.tmp 28) rfl (g := gd) (i := P) (t := 65) (v := .int .i64 (min (v : Int) 281474976710657)) rfl rfl HZ.out.d (by rw [xrO_len]; exact hpl.out) rfl rfl iInt13 ?_
        intro w4 hU hT
        have q1' : w4.cell? ⟨wr.heap.size, 1, none⟩ = some (.int .i64 (s : Nat)) := (hT.cell (p := ⟨wr.heap.size, 1, none⟩) HZL.out.1 (by have := HZL.out.2; simp; omega)).trans q1
        go_wp2
        go_roundw
        case rel => exact ⟨i + 1, by omega, by go_num, by rw [HOS.out]; go_num, by rw [HXN.out]; exact HZ.out.put hT hU.out⟩
        case measure => simp [intOf]; omega
      · have HG := Lib.hid (Get_big A n cap l o s o s rfl rfl hs1 hs8 wz (HB.out.rd.below HZ.out.below) HB.out.fit hn hnc hcm hoN (by rw [hv]; exact hvb))
        have HCP : Hid (capn v = 281474976710657) := by show _ = _; unfold capn; rw [if_neg (by omega)]
        rw [HCP.out] at HXN
        clear hv hvb HCP
        go_wp2_with fail
        refine HG.out.mono ?_
        rintro e w3 ⟨rfl, rfl⟩
        go_wp2_with ((with_reducible refine at_dst none ?_); refine stopper ?_)
        refine ⟨?_, trivial⟩
        refine wpList_storeOne (op := ⟨none, _, _, _, _, _⟩) rfl 3 (.tmp 29) (.tmp 28) rfl (g := gd) (i := P) (t := 65) (v := .int .i64 281474976710657) rfl rfl HZ.out.d (by rw [xrO_len]; exact hpl.out) rfl rfl iInt13 ?_
        intro w4 hU hT
        have q1' : w4.cell? ⟨wr.heap.size, 1, none⟩ = some (.int .i64 (s : Nat)) := (hT.cell (p := ⟨wr.heap.size, 1, none⟩) HZL.out.1 (by have := HZL.out.2; simp; omega)).trans q1
        go_wp2
        go_roundw
        case rel => exact ⟨i + 1, by omega, by go_num, by rw [HOS.out]; go_num, by rw [HXN.out]; exact HZ.out.put hT hU.out⟩
        case measure => simp [intOf]; omega
    · obtain rfl : i = 11 := by omega
      have HF : Hid (Blk wr gd 65 (ocells (capO (rdo l)))) := HS.out.d
      go_wp2_with (first
        | ((with_reducible refine at_dst (some 35) ?_); refine wpList_loadAt (op := ⟨some 35, _, _, _, _, _⟩) rfl 65 (.tmp 3) rfl ⟨gd, 0, none⟩ rfl (ocells (capO (rdo l))) d0 HF.out.at hu0 hd0 iOl ?_)
        | ((with_reducible refine at_dst none ?_); refine wpList_storeBlk (op := ⟨none, _, _, _, _, _⟩) rfl 65 (.tmp 2) (.tmp 35) rfl (g := w.heap.size) (t := 65) (old := zeroO) (cs := ocells (capO (rdo l))) rfl rfl HS.out.res rfl iOl (ocells_one _) ?_; intro w9 hB9 ht9))
      exact ret_cell rfl rfl hB9.out.at hu0 hd0 iOl rfl ⟨rfl, ht9.belowAt HS.out.below (Nat.le_refl _) HS.out.below.size⟩
end Go.Proofs.YtlcoebenkhafcaaGreatDoor
