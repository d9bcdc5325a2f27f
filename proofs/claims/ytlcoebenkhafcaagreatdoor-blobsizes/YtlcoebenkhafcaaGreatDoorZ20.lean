/-
  What bytes.Equal and read answer. No condition but that bytes fit.
-/
import Derived.Test.YtlcoebenkhafcaaGreatDoorZ19
import Derived.BigRegion
namespace Go.Proofs.YtlcoebenkhafcaaGreatDoor
open Go.RowKit
set_option linter.unusedVariables false
set_option linter.unusedSimpArgs false
set_option maxRecDepth 100000
theorem EqualB_any (A : Option Addr) (n c : Nat) (l : List Nat) (A2 : Option Addr) (n2 c2 : Nat) (l2 : List Nat) (w : World) (h : Rd .u8 w A n l) (hf : Fit 256 l) (h2 : Rd .u8 w A2 n2 l2) (hf2 : Fit 256 l2) : Calls Tryz.prog 47 #[.slice A n c, .slice A2 n2 c2] w fun e w' => e = .returned (.bool (decide (l = l2))) ∧ w = w' := by
  have r1 := rd_str h c
  have r2 := rd_str h2 c2
  have hss := str_same hf hf2
  obtain ⟨b, hb⟩ : ∃ b, decide (l = l2) = b := ⟨_, rfl⟩
  rw [hb] at hss ⊢
  generalize str l = S1 at r1 hss
  generalize str l2 = S2 at r2 hss
  clear hb h hf h2 hf2
  go_enter Tryz.func47, Tryz.ntmps47
  go_wp2
  go_ret
  exact ⟨by first | rfl | simp [*], rfl⟩
def x0 (k : Int) : Dx := ⟨⟨k, 0, 0, 0, 0, 0, [], [], [], [], []⟩, nilS, nilS, nilS, nilS⟩
def setN (x : Dx) (i : Nat) (v : Int) : Dx := match i with
  | 0 => { x with d := { x.d with alg := v } }
  | 1 => { x with d := { x.d with size := v } }
  | 2 => { x with d := { x.d with block := v } }
  | 3 => { x with d := { x.d with off := v } }
  | _ => { x with d := { x.d with loc := v } }
def offs : Nat → Nat
  | 0 => 0
  | i + 1 => offs i + szi i
def xr (k : Int) (l : List Nat) : Nat → Dx
  | 0 => x0 k
  | i + 1 => setN (xr k l i) i (num (sl l (offs i) (szi i)) : Nat)
theorem setN_cells (x : Dx) {i : Nat} (h : i < 5) (v : Int) : (setN x i v).cells = x.cells.set (i + 1) (.int .i64 v) := by
  rcases (by omega : i = 0 ∨ i = 1 ∨ i = 2 ∨ i = 3 ∨ i = 4) with rfl | rfl | rfl | rfl | rfl <;> rfl
theorem offs_le {i : Nat} (h : i ≤ 5) : offs i ≤ 28 := by
  rcases (by omega : i = 0 ∨ i = 1 ∨ i = 2 ∨ i = 3 ∨ i = 4 ∨ i = 5) with rfl | rfl | rfl | rfl | rfl | rfl <;> simp [offs, szi]
theorem szi_bd (i : Nat) : 1 ≤ szi i ∧ szi i ≤ 8 := by
  rcases i with _ | _ | _ | _ | i <;> simp [szi]
def xs5 (k : Nat) (l : List Nat) (g0 g1 g2 g3 g4 : Nat) : Dx := ⟨said k l, ⟨some ⟨g1, 0, none⟩, ln l 1, ln l 1⟩, ⟨some ⟨g2, 0, none⟩, ln l 2, ln l 2⟩, ⟨some ⟨g3, 0, none⟩, ln l 3, ln l 3⟩, ⟨some ⟨g4, 0, none⟩, ln l 4, ln l 4⟩⟩
theorem big_not {k : Nat} {l : List Nat} {i : Nat} (hi : i < 5) (h : ¬ num (sl l (offs i) (szi i)) ≤ 9223372036854775807) : dec k l = none := by
  have hnr : ¬ Right (said k l) := fun hr => by
    have b := hr.bds
    have b1 := b.alg
    have b2 := b.size
    have b3 := b.block
    have b4 := b.off
    have b5 := b.loc
    unfold said at b1 b2 b3 b4 b5
    rcases (by omega : i = 0 ∨ i = 1 ∨ i = 2 ∨ i = 3 ∨ i = 4) with rfl | rfl | rfl | rfl | rfl <;> simp [offs, szi] at h b1 b2 b3 b4 b5 <;> omega
  unfold dec
  rw [if_neg (fun h => hnr h.2.2.1)]
theorem short_not {k : Nat} {l : List Nat} (h : cutOk l = false) : dec k l = none := by
  unfold dec
  rw [if_neg (fun hh => by rw [cutOk, decide_eq_true ⟨hh.1, hh.2.1⟩] at h; cases h)]
theorem short_not2 {k : Nat} {l : List Nat} (h : l.length < 48) : dec k l = none := short_not (decide_eq_false (fun hh => by omega))
def ReadOk (w : World) (k : Nat) (l : List Nat) (x : Dx) (w' : World) : Prop :=
  x.d = said k l ∧ DxOk w' x ∧ (∀ s, s = x.s1 ∨ s = x.s2 ∨ s = x.s3 ∨ s = x.s4 → ∃ g, s.A = some ⟨g, 0, none⟩ ∧ w.heap.size ≤ g)
def ReadP (w : World) (k : Nat) (l : List Nat) (e : Ending) (w' : World) : Prop :=
  ∃ cs : List Value, e = .returned (.tuple #[.agg cs.toArray, .bool (dec k l).isSome]) ∧ cs.length = 11 ∧ (∀ v ∈ cs, v.oneCell' = true) ∧ ((dec k l).isSome = true → ∃ x : Dx, cs = x.cells ∧ ReadOk w k l x w') ∧ Below w.heap.size w w'
theorem zeroD_one : ∀ v ∈ zeroD, v.oneCell' = true := by decide
structure RdSt (w : World) (gd b : Nat) (cs : List Value) (wr : World) : Prop where
  below : Below w.heap.size w wr
  res : Blk wr w.heap.size 71 zeroD
  d : Blk wr gd 71 cs
  ns : Blk wr b 173 (numCells gd)
  lt : w.heap.size < gd
  lt2 : gd < b
theorem RdSt.next {w : World} {gd b : Nat} {cs : List Value} {wr w2 : World} (h : RdSt w gd b cs wr) (hb : Below wr.heap.size wr w2) : RdSt w gd b cs w2 :=
  ⟨h.below.trans (hb.mono h.below.size), h.res.below hb h.res.lt, h.d.below hb h.d.lt, h.ns.below hb h.ns.lt, h.lt, h.lt2⟩
theorem RdSt.put {w : World} {gd b : Nat} {cs cs' : List Value} {wr w2 : World} (h : RdSt w gd b cs wr) (ht : Touch [gd] wr w2) (hd : Blk w2 gd 71 cs') : RdSt w gd b cs' w2 :=
  ⟨h.below.trans (ht.below (fun y hy => by rw [List.mem_singleton.1 hy]; exact Nat.le_of_lt h.lt) h.below.size), h.res.touch ht (by have := h.lt; simp; omega), hd, h.ns.touch ht (by have := h.lt2; simp; omega), h.lt, h.lt2⟩
theorem cut_len {l : List Nat} (h : cutOk l = true) {i : Nat} (hi : i < 5) : (sl l (en l i) (ln l i)).length = ln l i := by
  have h6 := of_decide_eq_true h
  have h7 := en_mono l (i + 1) 5 (by omega)
  have h8 : en l (i + 1) = en l i + ln l i := rfl
  exact sl_length (by omega)
def St4 (gd : Nat) (v1 v2 v3 v4 : Value) (u u' : World) : Prop := u' = u ∨ u' = u.setCell ⟨gd, 7, none⟩ v1 ∨ u' = u.setCell ⟨gd, 8, none⟩ v2 ∨ u' = u.setCell ⟨gd, 9, none⟩ v3 ∨ u' = u.setCell ⟨gd, 10, none⟩ v4
def RR (w6 : World) (gd : Nat) (base : List Value) (u : World) : Prop := ∃ cs, Blk u gd 71 cs ∧ cs.length = 11 ∧ Touch [gd] w6 u ∧ ∀ j, j < 7 → cs[j]? = base[j]?
theorem RR.put {w6 : World} {gd : Nat} {base : List Value} {u : World} (h : RR w6 gd base u) (k : Nat) (hk : 7 ≤ k) (v : Value) : RR w6 gd base (u.setCell ⟨gd, k, none⟩ v) := by
  obtain ⟨cs, hb, hl, ht, hc⟩ := h
  exact ⟨cs.set k v, hb.set_ k v, by rw [List.length_set, hl], ht.setCell (.inl (by simp)) v, fun j hj => by rw [List.getElem?_set_ne (by omega)]; exact hc j hj⟩
theorem RR.next {w6 : World} {gd : Nat} {base : List Value} {v1 v2 v3 v4 : Value} {u u' : World} (h : RR w6 gd base u) (hs : St4 gd v1 v2 v3 v4 u u') : RR w6 gd base u' := by
  rcases hs with rfl | rfl | rfl | rfl | rfl
  · exact h
  · exact h.put 7 (by omega) _
  · exact h.put 8 (by omega) _
  · exact h.put 9 (by omega) _
  · exact h.put 10 (by omega) _
theorem RR.at {w6 : World} {gd : Nat} {base : List Value} {u : World} (h : RR w6 gd base u) (k : Nat) (hk : k < 11) : (u.cell? ⟨gd, k, none⟩).isSome = true ∧ u.frozen? ⟨gd, k, none⟩ = false := by
  obtain ⟨cs, hb, hl, ht, hc⟩ := h
  exact ⟨by rw [hb.cell, List.getElem?_eq_getElem (by omega)]; rfl, hb.frozen k⟩
theorem RR.set {w6 : World} {gd : Nat} {base : List Value} {u : World} (h : RR w6 gd base u) (k : Nat) (hk : k < 11) (v : Value) : (u.setCell ⟨gd, k, none⟩ v).cell? ⟨gd, k, none⟩ = some v := by
  obtain ⟨cs, hb, hl, ht, hc⟩ := h
  rw [(hb.set_ k v).cell, List.getElem?_set_self (by omega)]
theorem St4.keep {gd : Nat} {v1 v2 v3 v4 : Value} {w6 u u' : World} {base : List Value} (hs : St4 gd v1 v2 v3 v4 u u') (hr : RR w6 gd base u) (k : Nat) (v : Value) (hv : (k = 7 ∧ v = v1) ∨ (k = 8 ∧ v = v2) ∨ (k = 9 ∧ v = v3) ∨ (k = 10 ∧ v = v4)) (h : u.cell? ⟨gd, k, none⟩ = some v) : u'.cell? ⟨gd, k, none⟩ = some v := by
  have key : ∀ (j : Nat) (x : Value), j < 11 → (j = k → x = v) → (u.setCell ⟨gd, j, none⟩ x).cell? ⟨gd, k, none⟩ = some v := fun j x hj hx => by
    by_cases e : j = k
    · subst e; rw [hx rfl]; exact hr.set j hj v
    · obtain ⟨cs, hb, hl, ht, hc⟩ := hr
      rw [(hb.set_ j x).cell, List.getElem?_set_ne e, ← hb.cell]; exact h
  rcases hs with rfl | rfl | rfl | rfl | rfl
  · exact h
  · refine key 7 v1 (by omega) (fun e => ?_)
    rcases hv with ⟨rfl, rfl⟩ | ⟨rfl, rfl⟩ | ⟨rfl, rfl⟩ | ⟨rfl, rfl⟩
    · rfl
    all_goals omega
  · refine key 8 v2 (by omega) (fun e => ?_)
    rcases hv with ⟨rfl, rfl⟩ | ⟨rfl, rfl⟩ | ⟨rfl, rfl⟩ | ⟨rfl, rfl⟩
    · omega
    · rfl
    all_goals omega
  · refine key 9 v3 (by omega) (fun e => ?_)
    rcases hv with ⟨rfl, rfl⟩ | ⟨rfl, rfl⟩ | ⟨rfl, rfl⟩ | ⟨rfl, rfl⟩
    · omega
    · omega
    · rfl
    · omega
  · refine key 10 v4 (by omega) (fun e => ?_)
    rcases hv with ⟨rfl, rfl⟩ | ⟨rfl, rfl⟩ | ⟨rfl, rfl⟩ | ⟨rfl, rfl⟩
    · omega
    · omega
    · omega
    · rfl
theorem RR.done {w6 : World} {gd : Nat} {base : List Value} {u : World} (h : RR w6 gd base u) {v1 v2 v3 v4 : Value} {cs : List Value} (h1 : u.cell? ⟨gd, 7, none⟩ = some v1) (h2 : u.cell? ⟨gd, 8, none⟩ = some v2) (h3 : u.cell? ⟨gd, 9, none⟩ = some v3) (h4 : u.cell? ⟨gd, 10, none⟩ = some v4)
    (hc : cs = base.take 7 ++ [v1, v2, v3, v4]) (hl : 7 ≤ base.length) : Blk u gd 71 cs := by
  obtain ⟨cs', hb, hl', ht, hk⟩ := h
  rw [hb.cell] at h1 h2 h3 h4
  have e : cs' = cs := by
    subst hc
    apply List.ext_getElem?
    intro j
    by_cases hj : j < 7
    · rw [hk j hj, List.getElem?_append_left (by rw [List.length_take]; omega), List.getElem?_take, if_pos hj]
    · rw [List.getElem?_append_right (by rw [List.length_take]; omega), List.length_take, Nat.min_eq_left hl]
      by_cases hj2 : j < 11
      · rcases (by omega : j = 7 ∨ j = 8 ∨ j = 9 ∨ j = 10) with rfl | rfl | rfl | rfl
        · exact h1
        · exact h2
        · exact h3
        · exact h4
      · rw [List.getElem?_eq_none (by omega), List.getElem?_eq_none (by simp; omega)]
  rw [← e]; exact hb
set_option maxHeartbeats 4000000 in
theorem read_any (k : Nat) (A : Option Addr) (n cap : Nat) (l : List Nat) (w : World) (hk : k ≤ 4) (hb : Bs w A n cap l) (hn : n ≤ 100000) : Calls Tryz.prog 125 #[.int .i64 (k : Int), .slice A n cap] w (ReadP w k l) := by
  obtain ⟨d0, hu0, hd0⟩ := uD
  have HB := Lib.hid hb
  have hl := hb.rd.1
  have HL := Lib.hid hl
  have hnc := hb.le
  have hcm := hb.max
  clear hb hl
  have hb1 : Below w.heap.size w (w.alloc (.cells zeroD.toArray 71)) := (Below.refl _ _).alloc (Nat.le_refl _) _
  have hk1 : Blk (w.alloc (.cells zeroD.toArray 71)) w.heap.size 71 zeroD := Blk.new _ _ _
  obtain ⟨W, hW⟩ : ∃ W, w.alloc (.cells zeroD.toArray 71) = W := ⟨_, rfl⟩
  rw [hW] at hb1 hk1
  unfold zeroD at hW
  have hb2 : Below W.heap.size W (W.alloc (.cells (x0 k).cells.toArray 71)) := (Below.refl _ _).alloc (Nat.le_refl _) _
  have hk2 : Blk (W.alloc (.cells (x0 k).cells.toArray 71)) W.heap.size 71 (x0 k).cells := Blk.new _ _ _
  obtain ⟨W2, hW2⟩ : ∃ W2, W.alloc (.cells (x0 k).cells.toArray 71) = W2 := ⟨_, rfl⟩
  rw [hW2] at hb2 hk2
  obtain ⟨gd, hgd⟩ : ∃ gd, W.heap.size = gd := ⟨_, rfl⟩
  have I0 : Hid (Below w.heap.size w W2 ∧ Blk W2 w.heap.size 71 zeroD ∧ w.heap.size < gd ∧ Blk W2 gd 71 (x0 k).cells) :=
    ⟨hb1.trans (hb2.mono hb1.size), hk1.below hb2 hk1.lt, by rw [← hgd]; exact hk1.lt, by rw [← hgd]; exact hk2⟩
  clear hb1 hk1 hb2 hk2
  go_enter Tryz.func125, Tryz.ntmps125
  go_wp2_with ((with_reducible refine at_dst none ?_); refine wpList_storeNew (w := W) (op := ⟨none, _, _, _, _, _⟩) rfl 71 (.tmp 6) (.tmp 15) rfl zeroD (x0 k).cells (by rw [← hgd]; rfl) rfl rfl iD (x0 k).one ?_; rw [hW2])
  refine (numbers_any gd W2).mono ?_
  rintro e w1 ⟨b, rfl, hbb, hB, hbe⟩
  have I1 : Hid (RdSt w gd b (x0 k).cells w1) := ⟨I0.out.1.trans (hbe.mono I0.out.1.size), I0.out.2.1.below hbe I0.out.2.1.lt, I0.out.2.2.2.below hbe I0.out.2.2.2.lt, hB, I0.out.2.2.1, Nat.lt_of_lt_of_le I0.out.2.2.2.lt hbb⟩
  clear hbb hB hbe
  go_wp2
  go_loopw [7, 18] (fun a o wr => ∃ i : Nat, i ≤ 5 ∧ o = .int .i64 (i : Int) ∧ a = .int .i64 ((offs i : Nat) : Int) ∧ (∀ j, j < i → num (sl l (offs j) (szi j)) ≤ 9223372036854775807) ∧ Hid (RdSt w gd b (xr k l i).cells wr)) (fun _ o _ => 5 - (intOf o).toNat)
  case atStart => exact ⟨0, by omega, rfl, rfl, fun j h => absurd h (Nat.not_lt_zero j), I1⟩
  case round =>
    obtain ⟨i, hi, rfl, rfl, hall, HS⟩ := hrel
    have HA := Lib.hid hall
    clear hall
    by_cases hin : i < 5
    · have hin2 : (i : Int) < 5 := by omega
      have g0 : wr.cell? ⟨b, i * 2, none⟩ = some (.pointer (some ⟨gd, i + 1, none⟩)) := (HS.out.ns.cell _).trans (num_get _ hin).1
      have g1 : wr.cell? ⟨b, i * 2 + 1, none⟩ = some (.int .i64 (szi i : Nat)) := (HS.out.ns.cell _).trans (num_get _ hin).2
      have hzb : Below wr.heap.size wr (wr.alloc (.cells #[.pointer (some ⟨gd, i + 1, none⟩), .int .i64 (szi i : Nat)] 173)) := (Below.refl _ _).alloc (Nat.le_refl _) _
      have hzk : Blk (wr.alloc (.cells #[.pointer (some ⟨gd, i + 1, none⟩), .int .i64 (szi i : Nat)] 173)) wr.heap.size 173 [.pointer (some ⟨gd, i + 1, none⟩), .int .i64 (szi i : Nat)] := Blk.new _ _ _
      obtain ⟨wz, hwz⟩ : ∃ wz, wr.alloc (.cells #[.pointer (some ⟨gd, i + 1, none⟩), .int .i64 (szi i : Nat)] 173) = wz := ⟨_, rfl⟩
      rw [hwz] at hzb hzk
      have q0 : wz.cell? ⟨wr.heap.size, 0, none⟩ = some (.pointer (some ⟨gd, i + 1, none⟩)) := hzk.cell 0
      have q1 : wz.cell? ⟨wr.heap.size, 1, none⟩ = some (.int .i64 (szi i : Nat)) := hzk.cell 1
      have HZ := Lib.hid (HS.out.next hzb)
      obtain ⟨o, ho⟩ : ∃ o, offs i = o := ⟨_, rfl⟩
      have ho28 : o ≤ 28 := by rw [← ho]; exact offs_le hi
      obtain ⟨s, hs⟩ : ∃ s, szi i = s := ⟨_, rfl⟩
      have hs18 : 1 ≤ s ∧ s ≤ 8 := by rw [← hs]; exact szi_bd i
      have hs1 := hs18.1
      have hs8 := hs18.2
      have HO := Lib.hid ho
      have HSS := Lib.hid hs
      rw [ho]
      rw [hs] at g1 q1 hwz
      have HZL : Hid (wr.heap.size < wz.heap.size ∧ gd < wr.heap.size) := ⟨hzk.lt, HS.out.d.lt⟩
      clear hs18 hzb hzk
      by_cases hfit : o + s ≤ n
      · obtain ⟨v, hv⟩ : ∃ v, num (sl l o s) = v := ⟨_, rfl⟩
        by_cases hvb : v ≤ 9223372036854775807
        · have HG := Lib.hid (Get_ok A n cap l o s o s rfl rfl hs1 hs8 wz (HB.out.rd.below HZ.out.below) HB.out.fit hn hnc hcm hfit (by rw [hv]; exact hvb))
          rw [hv] at HG
          have HXN : Hid ((xr k l (i + 1)).cells = (xr k l i).cells.set (i + 1) (.int .i64 (v : Int))) := by
            show _ = _
            rw [xr, setN_cells _ hin, ho, hs, hv]
          have HVB : Hid (num (sl l (offs i) (szi i)) ≤ 9223372036854775807) := by show _ ≤ _; rw [ho, hs, hv]; exact hvb
          have HOS : Hid (offs (i + 1) = o + s) := by show _ = _; rw [offs, ho, hs]
          clear ho hs hv
          go_wp2_with fail
          refine HG.out.mono ?_
          rintro e w3 ⟨rfl, rfl⟩
          go_wp2_with ((with_reducible refine at_dst none ?_); refine wpList_storeOne (op := ⟨none, _, _, _, _, _⟩) rfl 3 (.tmp 36) (.tmp 35) rfl (g := gd) (i := i + 1) (t := 71) rfl rfl HZ.out.d (by rw [Dx.cells_length]; omega) rfl rfl iInt ?_; intro w4 hU hT; have q1' : w4.cell? ⟨wr.heap.size, 1, none⟩ = some (.int .i64 (s : Nat)) := (hT.cell (p := ⟨wr.heap.size, 1, none⟩) HZL.out.1 (by have := HZL.out.2; simp; omega)).trans q1)
          go_roundw
          case rel =>
            refine ⟨i + 1, by omega, by go_num, by rw [HOS.out]; go_num, fun j hj => ?_, ?_⟩
            · by_cases e : j = i
              · subst e; exact HVB.out
              · exact HA.out j (by omega)
            · rw [HXN.out]
              exact HZ.out.put hT hU.out
          case measure => simp [intOf]; omega
        · have HG := Lib.hid (Get_big A n cap l o s o s rfl rfl hs1 hs8 wz (HB.out.rd.below HZ.out.below) HB.out.fit hn hnc hcm hfit (by rw [hv]; exact hvb))
          have HN : Hid (dec k l = none) := big_not hin (by rw [ho, hs, hv]; exact hvb)
          clear ho hs hv
          go_wp2_with fail
          refine HG.out.mono ?_
          rintro e w3 ⟨rfl, rfl⟩
          go_wp2_with ((with_reducible refine at_dst none ?_); refine wpList_storeBlk (op := ⟨none, _, _, _, _, _⟩) rfl 71 (.tmp 4) (.tmp 32) rfl (g := w.heap.size) (t := 71) (old := zeroD) (cs := zeroD) rfl rfl HZ.out.res rfl iD zeroD_one ?_; intro w9 hB9 ht9)
          exact ret_cell_tmp rfl rfl hB9.out.at hu0 hd0 iD rfl ⟨zeroD, by rw [HN.out]; rfl, rfl, zeroD_one, fun h => (by rw [HN.out] at h; cases h), HZ.out.below.trans (ht9.below (fun y hy => by rw [List.mem_singleton.1 hy]; exact Nat.le_refl _) HZ.out.below.size)⟩
      · have HG := Lib.hid (Get_out A n cap o s o s rfl rfl hs1 hs8 wz hn (by omega) hfit)
        have HN : Hid (dec k l = none) := short_not2 (by rw [HL.out]; omega)
        clear ho hs
        go_wp2_with fail
        refine HG.out.mono ?_
        rintro e w3 ⟨rfl, rfl⟩
        go_wp2_with ((with_reducible refine at_dst none ?_); refine wpList_storeBlk (op := ⟨none, _, _, _, _, _⟩) rfl 71 (.tmp 4) (.tmp 32) rfl (g := w.heap.size) (t := 71) (old := zeroD) (cs := zeroD) rfl rfl HZ.out.res rfl iD zeroD_one ?_; intro w9 hB9 ht9)
        exact ret_cell_tmp rfl rfl hB9.out.at hu0 hd0 iD rfl ⟨zeroD, by rw [HN.out]; rfl, rfl, zeroD_one, fun h => (by rw [HN.out] at h; cases h), HZ.out.below.trans (ht9.below (fun y hy => by rw [List.mem_singleton.1 hy]; exact Nat.le_refl _) HZ.out.below.size)⟩
    · obtain rfl : i = 5 := by omega
      have e28 : ((offs 5 : Nat) : Int) = 28 := rfl
      rw [e28]
      have HC := Lib.hid (cutl_any A n cap l wr { HB.out with rd := HB.out.rd.below HS.out.below } hn)
      clear e28
      go_wp2_with fail
      refine HC.out.mono ?_
      rintro e w2 ⟨cs, ga, rfl, hcl, hco, hga, hcut, hbe2⟩
      have H2 := Lib.hid (HS.out.next hbe2)
      have HCS := Lib.hid (And.intro hcl hco)
      have HCU := Lib.hid hcut
      have HGA := Lib.hid hga
      have HBE2 := Lib.hid hbe2
      have hb5 : Below w2.heap.size w2 (w2.alloc (.cells cs.toArray 149)) := (Below.refl _ _).alloc (Nat.le_refl _) _
      have hk5 : Blk (w2.alloc (.cells cs.toArray 149)) w2.heap.size 149 cs := Blk.new _ _ _
      obtain ⟨w5, hw5⟩ : ∃ w5, w2.alloc (.cells cs.toArray 149) = w5 := ⟨_, rfl⟩
      rw [hw5] at hb5 hk5
      obtain ⟨g12, hg12⟩ : ∃ g12, w2.heap.size = g12 := ⟨_, rfl⟩
      rw [hg12] at hk5
      have H5 := Lib.hid (H2.out.next hb5)
      have HK5 := Lib.hid hk5
      have HB5 := Lib.hid hb5
      clear hcl hco hcut hga hbe2 hb5 hk5
      obtain ⟨ok, hok⟩ : ∃ ok, cutOk l = ok := ⟨_, rfl⟩
      rw [hok]
      cases ok
      · have HN : Hid (dec k l = none) := short_not hok
        clear hok
        go_wp2_with (first
          | ((with_reducible refine at_dst none ?_); refine wpList_storeNew (w := w2) (op := ⟨none, _, _, _, _, _⟩) rfl 149 (.tmp 12) (.tmp 46) rfl zero5 cs (by rw [← hg12]; rfl) rfl (by rw [HCS.out.1]; rfl) (by rw [HCS.out.1]; exact i5) HCS.out.2 ?_; rw [hw5])
          | ((with_reducible refine at_dst none ?_); refine wpList_storeBlk (op := ⟨none, _, _, _, _, _⟩) rfl 71 (.tmp 4) (.tmp 50) rfl (g := w.heap.size) (t := 71) (old := zeroD) (cs := zeroD) rfl rfl H5.out.res rfl iD zeroD_one ?_; intro w9 hB9 ht9))
        exact ret_cell_tmp rfl rfl hB9.out.at hu0 hd0 iD rfl ⟨zeroD, by rw [HN.out]; rfl, rfl, zeroD_one, fun h => (by rw [HN.out] at h; cases h), H5.out.below.trans (ht9.below (fun y hy => by rw [List.mem_singleton.1 hy]; exact Nat.le_refl _) H5.out.below.size)⟩
      · have HOK := Lib.hid hok
        clear hok
        have hc := HCU.out HOK.out
        obtain ⟨n0, e0, p0, B0⟩ := hc.got 0 (by omega)
        obtain ⟨n1, e1, p1, B1⟩ := hc.got 1 (by omega)
        obtain ⟨n2, e2, p2, B2⟩ := hc.got 2 (by omega)
        obtain ⟨n3, e3, p3, B3⟩ := hc.got 3 (by omega)
        obtain ⟨n4, e4, p4, B4⟩ := hc.got 4 (by omega)
        have k0 : w5.cell? ⟨g12, 0, none⟩ = some (.slice (some ⟨n0, 0, none⟩) (ln l 0) (ln l 0)) := (HK5.out.cell 0).trans e0
        have r0 : (convert 25 9 (.slice (some ⟨n0, 0, none⟩) (ln l 0) (ln l 0))).run Tryz.prog w5 = .ok (.string (str (sl l (en l 0) (ln l 0)))) w5 := rd_str ((B0.below HB5.out B0.lt).rd (ln l 0) (cut_len HOK.out (by omega))) _
        have HS0 : Hid (str (sl l (en l 0) (ln l 0)) = str (said k l).name) := rfl
        obtain ⟨S, hS⟩ : ∃ S, str (sl l (en l 0) (ln l 0)) = S := ⟨_, rfl⟩
        have HSE := Lib.hid hS
        rw [hS] at r0
        have HSX : Hid (S = str (sl l (en l 0) (ln l 0))) := hS.symm
        have hne : gd < g12 := by rw [← hg12]; exact H2.out.d.lt
        have HNE := Lib.hid hne
        have HE := Lib.hid (And.intro e1 (And.intro e2 (And.intro e3 e4)))
        have HP := Lib.hid (And.intro p1 (And.intro p2 (And.intro p3 p4)))
        have HBS : Hid (Blk w5 n1 5 (cn .u8 (sl l (en l 1) (ln l 1))) ∧ Blk w5 n2 5 (cn .u8 (sl l (en l 2) (ln l 2))) ∧ Blk w5 n3 5 (cn .u8 (sl l (en l 3) (ln l 3))) ∧ Blk w5 n4 5 (cn .u8 (sl l (en l 4) (ln l 4))) ∧ gd < ga) :=
          ⟨B1.below HB5.out B1.lt, B2.below HB5.out B2.lt, B3.below HB5.out B3.lt, B4.below HB5.out B4.lt, Nat.lt_of_lt_of_le HS.out.d.lt HGA.out⟩
        clear hS hc B0 B1 B2 B3 B4 e0 e1 e2 e3 e4 p0 p1 p2 p3 p4 hne
        go_wp2_with (first
          | ((with_reducible refine at_dst none ?_); refine wpList_storeNew (w := w2) (op := ⟨none, _, _, _, _, _⟩) rfl 149 (.tmp 12) (.tmp 46) rfl zero5 cs (by rw [← hg12]; rfl) rfl (by rw [HCS.out.1]; rfl) (by rw [HCS.out.1]; exact i5) HCS.out.2 ?_; rw [hw5])
          | ((with_reducible refine at_dst none ?_); refine wpList_storeOne (op := ⟨none, _, _, _, _, _⟩) rfl 9 (.tmp 54) (.tmp 53) rfl (g := gd) (i := 6) (t := 71) (v := .string S) rfl rfl H5.out.d (by rw [Dx.cells_length]; omega) rfl rfl iStr ?_; intro w6 hU6 hT6))
        have H6 := Lib.hid (H5.out.put hT6 hU6.out)
        have HK6 := Lib.hid (HK5.out.touch hT6 (by have := HNE.out; simp; omega))
        have k1 : w6.cell? ⟨g12, 1, none⟩ = some (.slice (some ⟨n1, 0, none⟩) (ln l 1) (ln l 1)) := (HK6.out.cell 1).trans HE.out.1
        have k2 : w6.cell? ⟨g12, 2, none⟩ = some (.slice (some ⟨n2, 0, none⟩) (ln l 2) (ln l 2)) := (HK6.out.cell 2).trans HE.out.2.1
        have k3 : w6.cell? ⟨g12, 3, none⟩ = some (.slice (some ⟨n3, 0, none⟩) (ln l 3) (ln l 3)) := (HK6.out.cell 3).trans HE.out.2.2.1
        have k4 : w6.cell? ⟨g12, 4, none⟩ = some (.slice (some ⟨n4, 0, none⟩) (ln l 4) (ln l 4)) := (HK6.out.cell 4).trans HE.out.2.2.2
        have f7 : w6.frozen? ⟨gd, 7, none⟩ = false := H6.out.d.frozen 7
        have f8 : w6.frozen? ⟨gd, 8, none⟩ = false := H6.out.d.frozen 8
        have f9 : w6.frozen? ⟨gd, 9, none⟩ = false := H6.out.d.frozen 9
        have f10 : w6.frozen? ⟨gd, 10, none⟩ = false := H6.out.d.frozen 10
        have v7 : w6.cell? ⟨gd, 7, none⟩ = some (.slice none 0 0) := H6.out.d.cell 7
        have v8 : w6.cell? ⟨gd, 8, none⟩ = some (.slice none 0 0) := H6.out.d.cell 8
        have v9 : w6.cell? ⟨gd, 9, none⟩ = some (.slice none 0 0) := H6.out.d.cell 9
        have v10 : w6.cell? ⟨gd, 10, none⟩ = some (.slice none 0 0) := H6.out.d.cell 10
        have hne1 : ¬ gd = g12 := by have := HNE.out; omega
        have hne2 : ¬ g12 = gd := by have := HNE.out; omega
        obtain ⟨L1, hL1⟩ : ∃ L, ln l 1 = L := ⟨_, rfl⟩
        rw [hL1] at k1
        obtain ⟨L2, hL2⟩ : ∃ L, ln l 2 = L := ⟨_, rfl⟩
        rw [hL2] at k2
        obtain ⟨L3, hL3⟩ : ∃ L, ln l 3 = L := ⟨_, rfl⟩
        rw [hL3] at k3
        obtain ⟨L4, hL4⟩ : ∃ L, ln l 4 = L := ⟨_, rfl⟩
        rw [hL4] at k4
        have HNX := HNE
        obtain ⟨v1, hv1⟩ : ∃ v, Value.slice (some ⟨n1, 0, none⟩) L1 L1 = v := ⟨_, rfl⟩
        obtain ⟨v2, hv2⟩ : ∃ v, Value.slice (some ⟨n2, 0, none⟩) L2 L2 = v := ⟨_, rfl⟩
        obtain ⟨v3, hv3⟩ : ∃ v, Value.slice (some ⟨n3, 0, none⟩) L3 L3 = v := ⟨_, rfl⟩
        obtain ⟨v4, hv4⟩ : ∃ v, Value.slice (some ⟨n4, 0, none⟩) L4 L4 = v := ⟨_, rfl⟩
        rw [hv1] at k1
        rw [hv2] at k2
        rw [hv3] at k3
        rw [hv4] at k4
        have hc1 : v1.cells = #[v1] ∧ v1.oneCell' = true := by rw [← hv1]; exact ⟨rfl, rfl⟩
        have hc2 : v2.cells = #[v2] ∧ v2.oneCell' = true := by rw [← hv2]; exact ⟨rfl, rfl⟩
        have hc3 : v3.cells = #[v3] ∧ v3.oneCell' = true := by rw [← hv3]; exact ⟨rfl, rfl⟩
        have hc4 : v4.cells = #[v4] ∧ v4.oneCell' = true := by rw [← hv4]; exact ⟨rfl, rfl⟩
        have R0 : RR w6 gd ((xr k l 5).cells.set 6 (.string S)) w6.drew := ⟨_, H6.out.d, by rw [List.length_set, Dx.cells_length], (Touch.refl _ _).drew, fun _ _ => rfl⟩
        go_wp2_with fail
        rename_i hKx
        refine wp_region_eachW (by kernel_rfl) (by kernel_rfl) (St4 gd v1 v2 v3 v4) (fun iX v u => match iX with
            | 0 => v = .pointer (some ⟨g12, 1, none⟩)
            | 1 => v = v1
            | 2 => v = .pointer (some ⟨g12, 2, none⟩)
            | 3 => v = v2
            | 4 => v = .pointer (some ⟨g12, 3, none⟩)
            | 5 => v = v3
            | 6 => v = .pointer (some ⟨g12, 4, none⟩)
            | 7 => v = v4
            | 8 => v = .pointer (some ⟨gd, 7, none⟩)
            | 9 => u.cell? ⟨gd, 7, none⟩ = some v1
            | 10 => v = .pointer (some ⟨gd, 8, none⟩)
            | 11 => u.cell? ⟨gd, 8, none⟩ = some v2
            | 12 => v = .pointer (some ⟨gd, 9, none⟩)
            | 13 => u.cell? ⟨gd, 9, none⟩ = some v3
            | 14 => v = .pointer (some ⟨gd, 10, none⟩)
            | 15 => u.cell? ⟨gd, 10, none⟩ = some v4
            | _ => True) (fun u => RR w6 gd ((xr k l 5).cells.set 6 (.string S)) u) ?m1 (fun _ _ h1 h2 => h1.next h2) R0 ?m2 ?m3
        case m1 =>
          intro iX v u u' h hr hb
          rcases iX with _ | _ | _ | _ | _ | _ | _ | _ | _ | _ | _ | _ | _ | _ | _ | _ | iX
          · exact h
          · exact h
          · exact h
          · exact h
          · exact h
          · exact h
          · exact h
          · exact h
          · exact h
          · exact St4.keep hb hr 7 v1 (by simp) h
          · exact h
          · exact St4.keep hb hr 8 v2 (by simp) h
          · exact h
          · exact St4.keep hb hr 9 v3 (by simp) h
          · exact h
          · exact St4.keep hb hr 10 v4 (by simp) h
          · trivial
        case m2 =>
          intro iX o ho aX u hr hk hpre K hK
          have e12 : aX.tmps.getD 12 undef = .pointer (some ⟨g12, 0, none⟩) := hk.slot 12 (by simp)
          have e6 : aX.tmps.getD 6 undef = .pointer (some ⟨gd, 0, none⟩) := hk.slot 6 (by simp)
          have c1 : u.cell? ⟨g12, 1, none⟩ = some v1 := by obtain ⟨_, _, _, ht, _⟩ := hr; exact (ht.cell (p := ⟨g12, 1, none⟩) HK6.out.lt (by have := HNX.out; simp; omega)).trans k1
          have c2 : u.cell? ⟨g12, 2, none⟩ = some v2 := by obtain ⟨_, _, _, ht, _⟩ := hr; exact (ht.cell (p := ⟨g12, 2, none⟩) HK6.out.lt (by have := HNX.out; simp; omega)).trans k2
          have c3 : u.cell? ⟨g12, 3, none⟩ = some v3 := by obtain ⟨_, _, _, ht, _⟩ := hr; exact (ht.cell (p := ⟨g12, 3, none⟩) HK6.out.lt (by have := HNX.out; simp; omega)).trans k3
          have c4 : u.cell? ⟨g12, 4, none⟩ = some v4 := by obtain ⟨_, _, _, ht, _⟩ := hr; exact (ht.cell (p := ⟨g12, 4, none⟩) HK6.out.lt (by have := HNX.out; simp; omega)).trans k4
          rcases iX with _ | _ | _ | _ | _ | _ | _ | _ | _ | _ | _ | _ | _ | _ | _ | _ | iX
          · obtain rfl := Option.some.inj ho
            refine st_run (want_none rfl) (.pointer (some ⟨g12, 1, none⟩)) (w' := u) ?_ (hK _ _ rfl (.inl rfl))
            have y12 : aX.eval (.tmp 12) = .pointer (some ⟨g12, 0, none⟩) := e12
            simp only [execOp, y12]
            go_simp
          · obtain rfl := Option.some.inj ho
            have y55 : aX.eval (.tmp 55) = .pointer (some ⟨g12, 1, none⟩) := (hpre 0 _ rfl ⟨⟨0, .data⟩, by simp, rfl, rfl⟩)
            refine st_run (want_none rfl) v1 (w' := u) ?_ (hK _ _ rfl (.inl rfl))
            simp only [execOp, y55]
            go_simp
          · obtain rfl := Option.some.inj ho
            refine st_run (want_none rfl) (.pointer (some ⟨g12, 2, none⟩)) (w' := u) ?_ (hK _ _ rfl (.inl rfl))
            have y12 : aX.eval (.tmp 12) = .pointer (some ⟨g12, 0, none⟩) := e12
            simp only [execOp, y12]
            go_simp
          · obtain rfl := Option.some.inj ho
            have y57 : aX.eval (.tmp 57) = .pointer (some ⟨g12, 2, none⟩) := (hpre 2 _ rfl ⟨⟨2, .data⟩, by simp, rfl, rfl⟩)
            refine st_run (want_none rfl) v2 (w' := u) ?_ (hK _ _ rfl (.inl rfl))
            simp only [execOp, y57]
            go_simp
          · obtain rfl := Option.some.inj ho
            refine st_run (want_none rfl) (.pointer (some ⟨g12, 3, none⟩)) (w' := u) ?_ (hK _ _ rfl (.inl rfl))
            have y12 : aX.eval (.tmp 12) = .pointer (some ⟨g12, 0, none⟩) := e12
            simp only [execOp, y12]
            go_simp
          · obtain rfl := Option.some.inj ho
            have y59 : aX.eval (.tmp 59) = .pointer (some ⟨g12, 3, none⟩) := (hpre 4 _ rfl ⟨⟨4, .data⟩, by simp, rfl, rfl⟩)
            refine st_run (want_none rfl) v3 (w' := u) ?_ (hK _ _ rfl (.inl rfl))
            simp only [execOp, y59]
            go_simp
          · obtain rfl := Option.some.inj ho
            refine st_run (want_none rfl) (.pointer (some ⟨g12, 4, none⟩)) (w' := u) ?_ (hK _ _ rfl (.inl rfl))
            have y12 : aX.eval (.tmp 12) = .pointer (some ⟨g12, 0, none⟩) := e12
            simp only [execOp, y12]
            go_simp
          · obtain rfl := Option.some.inj ho
            have y61 : aX.eval (.tmp 61) = .pointer (some ⟨g12, 4, none⟩) := (hpre 6 _ rfl ⟨⟨6, .data⟩, by simp, rfl, rfl⟩)
            refine st_run (want_none rfl) v4 (w' := u) ?_ (hK _ _ rfl (.inl rfl))
            simp only [execOp, y61]
            go_simp
          · obtain rfl := Option.some.inj ho
            refine st_run (want_none rfl) (.pointer (some ⟨gd, 7, none⟩)) (w' := u) ?_ (hK _ _ rfl (.inl rfl))
            have y6 : aX.eval (.tmp 6) = .pointer (some ⟨gd, 0, none⟩) := e6
            simp only [execOp, y6]
            go_simp
          · obtain rfl := Option.some.inj ho
            have y63 : aX.eval (.tmp 63) = .pointer (some ⟨gd, 7, none⟩) := (hpre 8 _ rfl ⟨⟨8, .data⟩, by simp, rfl, rfl⟩)
            have y56 : aX.eval (.tmp 56) = v1 := (hpre 1 _ rfl ⟨⟨1, .data⟩, by simp, rfl, rfl⟩)
            refine st_skip (want_none rfl) (w' := u.setCell ⟨gd, 7, none⟩ v1) ?_ (hK undef _ (hr.set 7 (by omega) _) (.inr (.inl rfl)))
            have e9 := run_storeVar_cell (P := Tryz.prog) (w := u) gd 7 25 v1 hc1.1 hc1.2 (hr.at 7 (by omega)).1 (hr.at 7 (by omega)).2 iSl
            simp only [execOp, y63, y56, Instr.storeAt, Instr.sureAddr, Sem.run_bind, Sem.run_pure, Result.andThen_ok, e9]
          · obtain rfl := Option.some.inj ho
            refine st_run (want_none rfl) (.pointer (some ⟨gd, 8, none⟩)) (w' := u) ?_ (hK _ _ rfl (.inl rfl))
            have y6 : aX.eval (.tmp 6) = .pointer (some ⟨gd, 0, none⟩) := e6
            simp only [execOp, y6]
            go_simp
          · obtain rfl := Option.some.inj ho
            have y64 : aX.eval (.tmp 64) = .pointer (some ⟨gd, 8, none⟩) := (hpre 10 _ rfl ⟨⟨10, .data⟩, by simp, rfl, rfl⟩)
            have y58 : aX.eval (.tmp 58) = v2 := (hpre 3 _ rfl ⟨⟨3, .data⟩, by simp, rfl, rfl⟩)
            refine st_skip (want_none rfl) (w' := u.setCell ⟨gd, 8, none⟩ v2) ?_ (hK undef _ (hr.set 8 (by omega) _) (.inr (.inr (.inl rfl))))
            have e9 := run_storeVar_cell (P := Tryz.prog) (w := u) gd 8 25 v2 hc2.1 hc2.2 (hr.at 8 (by omega)).1 (hr.at 8 (by omega)).2 iSl
            simp only [execOp, y64, y58, Instr.storeAt, Instr.sureAddr, Sem.run_bind, Sem.run_pure, Result.andThen_ok, e9]
          · obtain rfl := Option.some.inj ho
            refine st_run (want_none rfl) (.pointer (some ⟨gd, 9, none⟩)) (w' := u) ?_ (hK _ _ rfl (.inl rfl))
            have y6 : aX.eval (.tmp 6) = .pointer (some ⟨gd, 0, none⟩) := e6
            simp only [execOp, y6]
            go_simp
          · obtain rfl := Option.some.inj ho
            have y65 : aX.eval (.tmp 65) = .pointer (some ⟨gd, 9, none⟩) := (hpre 12 _ rfl ⟨⟨12, .data⟩, by simp, rfl, rfl⟩)
            have y60 : aX.eval (.tmp 60) = v3 := (hpre 5 _ rfl ⟨⟨5, .data⟩, by simp, rfl, rfl⟩)
            refine st_skip (want_none rfl) (w' := u.setCell ⟨gd, 9, none⟩ v3) ?_ (hK undef _ (hr.set 9 (by omega) _) (.inr (.inr (.inr (.inl rfl)))))
            have e9 := run_storeVar_cell (P := Tryz.prog) (w := u) gd 9 25 v3 hc3.1 hc3.2 (hr.at 9 (by omega)).1 (hr.at 9 (by omega)).2 iSl
            simp only [execOp, y65, y60, Instr.storeAt, Instr.sureAddr, Sem.run_bind, Sem.run_pure, Result.andThen_ok, e9]
          · obtain rfl := Option.some.inj ho
            refine st_run (want_none rfl) (.pointer (some ⟨gd, 10, none⟩)) (w' := u) ?_ (hK _ _ rfl (.inl rfl))
            have y6 : aX.eval (.tmp 6) = .pointer (some ⟨gd, 0, none⟩) := e6
            simp only [execOp, y6]
            go_simp
          · obtain rfl := Option.some.inj ho
            have y66 : aX.eval (.tmp 66) = .pointer (some ⟨gd, 10, none⟩) := (hpre 14 _ rfl ⟨⟨14, .data⟩, by simp, rfl, rfl⟩)
            have y62 : aX.eval (.tmp 62) = v4 := (hpre 7 _ rfl ⟨⟨7, .data⟩, by simp, rfl, rfl⟩)
            refine st_skip (want_none rfl) (w' := u.setCell ⟨gd, 10, none⟩ v4) ?_ (hK undef _ (hr.set 10 (by omega) _) (.inr (.inr (.inr (.inr rfl)))))
            have e9 := run_storeVar_cell (P := Tryz.prog) (w := u) gd 10 25 v4 hc4.1 hc4.2 (hr.at 10 (by omega)).1 (hr.at 10 (by omega)).2 iSl
            simp only [execOp, y66, y62, Instr.storeAt, Instr.sureAddr, Sem.run_bind, Sem.run_pure, Result.andThen_ok, e9]
          · cases ho
        case m3 =>
          intro aX u hr hk hv
          have D7 : Blk u gd 71 (xs5 k l n0 n1 n2 n3 n4).cells := hr.done (hv 9 _ rfl) (hv 11 _ rfl) (hv 13 _ rfl) (hv 15 _ rfl) (by rw [← hv1, ← hv2, ← hv3, ← hv4, ← hL1, ← hL2, ← hL3, ← hL4, HSX.out]; rfl) (by rw [List.length_set, Dx.cells_length]; omega)
          have T7 : Touch [gd] w6 u := by obtain ⟨_, _, _, ht, _⟩ := hr; exact ht
          have HD7 := Lib.hid D7
          have HT7 := Lib.hid T7
          have hfr := keeps_frameP (fun s => decide (55 ≤ s ∧ s ≤ 66)) hk (by simp)
          have hOKX : DxOk u (xs5 k l n0 n1 n2 n3 n4) := by
            have hf := HB.out.fit
            have hA := HA.out
            have h0 := hA 0 (by omega)
            have h1 := hA 1 (by omega)
            have h2 := hA 2 (by omega)
            have h3 := hA 3 (by omega)
            have h4 := hA 4 (by omega)
            have bs : ∀ (g i : Nat), i < 5 → Blk w5 g 5 (cn .u8 (sl l (en l i) (ln l i))) → ga < g → Bs u (some ⟨g, 0, none⟩) (ln l i) (ln l i) (sl l (en l i) (ln l i)) := fun g i hi hB hg => by
              have hne : g ∉ [gd] := by have := HBS.out.2.2.2.2; simp; omega
              refine ⟨((hB.touch hT6 hne).touch HT7.out hne).rd (ln l i) (cut_len HOK.out hi), sl_fit hf _ _, Nat.le_refl _, ?_, fun e => by cases e⟩
              have := ln_lt hf i
              omega
            refine ⟨?_, ?_, ?_, ?_, ?_, ?_, sl_fit hf _ _, bs n1 1 (by omega) HBS.out.1 HP.out.1, bs n2 2 (by omega) HBS.out.2.1 HP.out.2.1, bs n3 3 (by omega) HBS.out.2.2.1 HP.out.2.2.1, bs n4 4 (by omega) HBS.out.2.2.2.1 HP.out.2.2.2⟩
            all_goals simp only [xs5, said, I64]
            · omega
            · exact ⟨by omega, by have e : num (sl l 0 4) ≤ 9223372036854775807 := h0; omega⟩
            · exact ⟨by omega, by have e : num (sl l 4 8) ≤ 9223372036854775807 := h1; omega⟩
            · exact ⟨by omega, by have e : num (sl l 12 4) ≤ 9223372036854775807 := h2; omega⟩
            · exact ⟨by omega, by have e : num (sl l 16 8) ≤ 9223372036854775807 := h3; omega⟩
            · exact ⟨by omega, by have e : num (sl l 24 4) ≤ 9223372036854775807 := h4; omega⟩
          have HXO := Lib.hid hOKX
          have hGN : w.heap.size ≤ ga := by have h1 := HGA.out; have h2 := HS.out.below.size; omega
          have HNW : Hid (∀ s, s = (xs5 k l n0 n1 n2 n3 n4).s1 ∨ s = (xs5 k l n0 n1 n2 n3 n4).s2 ∨ s = (xs5 k l n0 n1 n2 n3 n4).s3 ∨ s = (xs5 k l n0 n1 n2 n3 n4).s4 → ∃ g, s.A = some ⟨g, 0, none⟩ ∧ w.heap.size ≤ g) := fun s hs => by
            have q1 := HP.out.1
            have q2 := HP.out.2.1
            have q3 := HP.out.2.2.1
            have q4 := HP.out.2.2.2
            rcases hs with rfl | rfl | rfl | rfl
            · exact ⟨n1, rfl, by omega⟩
            · exact ⟨n2, rfl, by omega⟩
            · exact ⟨n3, rfl, by omega⟩
            · exact ⟨n4, rfl, by omega⟩
          have H7 := Lib.hid (H6.out.put HT7.out HD7.out)
          have hnl : (said k l).name.length ≤ 100000 := by
            show (sl l (en l 0) (ln l 0)).length ≤ 100000
            have h1 := HL.out
            simp only [sl, List.length_take, List.length_drop]
            omega
          have HRT := Lib.hid (Right_any (xs5 k l n0 n1 n2 n3 n4) u HXO.out hnl)
          have hok2 : 48 ≤ l.length ∧ en l 5 ≤ l.length := of_decide_eq_true HOK.out
          have HOK2 := Lib.hid hok2
          clear hok2
          have hbs : ∀ u2, Below w.heap.size w u2 → Bs u2 A n cap l := fun u2 h => { HB.out with rd := HB.out.rd.below h }
          have HBS2 := Lib.hid hbs
          refine hKx aX u ?_
          rw [hfr]
          generalize hff : (fun s => aX.tmps.getD s undef) = ff
          simp only [mixP, decide_eq_true_eq, Nat.reduceAdd, Nat.reduceLeDiff, Nat.reduceEqDiff, false_or, true_or, or_false, or_true, and_true, and_false, true_and, false_and, and_self, if_true, if_false, Nat.zero_le]
          clear hfr hff hv hk hKx hr D7 T7 R0 hOKX hGN hnl hbs k0 k1 k2 k3 k4 f7 f8 f9 f10 v7 v8 v9 v10 hv1 hv2 hv3 hv4 hc1 hc2 hc3 hc4 r0
          by_cases hR : Right (said k l)
          · have E := Lib.hid (decide_eq_true hR)
            have HRR := Lib.hid hR
            clear hR
            go_wp2_with ((with_reducible refine at_dst (some 67) ?_); refine wpList_loadAt (op := ⟨some 67, _, _, _, _, _⟩) rfl 71 (.tmp 6) rfl ⟨gd, 0, none⟩ rfl (xs5 k l n0 n1 n2 n3 n4).cells d0 HD7.out.at hu0 hd0 iD ?_)
            refine HRT.out.mono ?_
            rintro e w8 ⟨he, hb8⟩
            rw [show (xs5 k l n0 n1 n2 n3 n4).d = said k l from rfl, E.out] at he
            subst he
            have H8 := Lib.hid (H7.out.next hb8)
            have HX8 := Lib.hid (HXO.out.below hb8)
            clear hb8
            go_wp2_with ((with_reducible refine at_dst (some 71) ?_); refine wpList_loadAtG (op := ⟨some 71, _, _, _, _, _⟩) (want_some rfl rfl rfl rfl) 71 (.tmp 6) rfl ⟨gd, 0, none⟩ rfl (xs5 k l n0 n1 n2 n3 n4).cells d0 H8.out.d.at hu0 hd0 iD ?_)
            refine (body_any (xs5 k l n0 n1 n2 n3 n4) w8 HX8.out HRR.out).mono ?_
            rintro e w9 ⟨g9, M9, rfl, hM9, hg9, hB9, hb9⟩
            have H9 := Lib.hid (H8.out.next hb9)
            have HX9 := Lib.hid (HX8.out.below hb9)
            have HEQ := Lib.hid (EqualB_any (some ⟨g9, 0, none⟩) M9 M9 (body (said k l)) A n cap l w9 (hB9.rd M9 hM9) (body_fit HX8.out.fits) (HBS2.out w9 H9.out.below).rd HB.out.fit)
            clear hM9 hg9 hB9 hb9
            go_wp2_with fail
            refine HEQ.out.mono ?_
            rintro e w10 ⟨rfl, rfl⟩
            by_cases hEq : body (said k l) = l
            · have E2 := Lib.hid (decide_eq_true hEq)
              have HDC : Hid (dec k l = some (said k l)) := by
                show dec k l = _
                unfold dec
                rw [if_pos ⟨HOK2.out.1, HOK2.out.2, HRR.out, hEq⟩]
              rw [E2.out]
              clear hEq
              go_wp2_with (first
                | ((with_reducible refine at_dst (some 78) ?_); refine wpList_loadAt (op := ⟨some 78, _, _, _, _, _⟩) rfl 71 (.tmp 6) rfl ⟨gd, 0, none⟩ rfl (xs5 k l n0 n1 n2 n3 n4).cells d0 H9.out.d.at hu0 hd0 iD ?_)
                | ((with_reducible refine at_dst none ?_); refine wpList_storeBlk (op := ⟨none, _, _, _, _, _⟩) rfl 71 (.tmp 4) (.tmp 78) rfl (g := w.heap.size) (t := 71) (old := zeroD) (cs := (xs5 k l n0 n1 n2 n3 n4).cells) rfl rfl H9.out.res rfl iD (Dx.one _) ?_; intro wf hBf htf))
              have HF : Below w.heap.size w wf := H9.out.below.trans (htf.below (fun y hy => by rw [List.mem_singleton.1 hy]; exact Nat.le_refl _) H9.out.below.size)
              have hnwA : ∀ s, s = (xs5 k l n0 n1 n2 n3 n4).s1 ∨ s = (xs5 k l n0 n1 n2 n3 n4).s2 ∨ s = (xs5 k l n0 n1 n2 n3 n4).s3 ∨ s = (xs5 k l n0 n1 n2 n3 n4).s4 → ∀ (m : Nat) (ad : Addr), 0 < m → s.A = some ad → ad.block ∉ [w.heap.size] := fun s hs m ad _ he => by
                have hga2 := HGA.out
                have hbs2 := HS.out.d.lt
                have hlt3 := HS.out.lt
                have q1 := HP.out.1
                have q2 := HP.out.2.1
                have q3 := HP.out.2.2.1
                have q4 := HP.out.2.2.2
                rcases hs with rfl | rfl | rfl | rfl <;> (injection he with he; subst he; simp only [List.mem_singleton]; omega)
              have hox := HX9.out
              have HXF : DxOk wf (xs5 k l n0 n1 n2 n3 n4) := { hox with salt := hox.salt.touch htf (fun h ad => hnwA _ (.inl rfl) _ ad h), digest := hox.digest.touch htf (fun h ad => hnwA _ (.inr (.inl rfl)) _ ad h), key := hox.key.touch htf (fun h ad => hnwA _ (.inr (.inr (.inl rfl))) _ ad h), value := hox.value.touch htf (fun h ad => hnwA _ (.inr (.inr (.inr rfl))) _ ad h) }
              exact ret_cell_tmp rfl rfl hBf.out.at hu0 hd0 iD rfl ⟨_, by rw [HDC.out]; rfl, rfl, Dx.one _, fun _ => ⟨_, rfl, rfl, HXF, HNW.out⟩, HF⟩
            · have E2 := Lib.hid (decide_eq_false hEq)
              have HDC : Hid (dec k l = none) := by
                show dec k l = _
                unfold dec
                rw [if_neg (fun h => hEq h.2.2.2)]
              rw [E2.out]
              clear hEq
              go_wp2_with ((with_reducible refine at_dst none ?_); refine wpList_storeBlk (op := ⟨none, _, _, _, _, _⟩) rfl 71 (.tmp 4) (.tmp 77) rfl (g := w.heap.size) (t := 71) (old := zeroD) (cs := zeroD) rfl rfl H9.out.res rfl iD zeroD_one ?_; intro wf hBf htf)
              exact ret_cell_tmp rfl rfl hBf.out.at hu0 hd0 iD rfl ⟨zeroD, by rw [HDC.out]; rfl, rfl, zeroD_one, fun h => (by rw [HDC.out] at h; cases h), H9.out.below.trans (htf.below (fun y hy => by rw [List.mem_singleton.1 hy]; exact Nat.le_refl _) H9.out.below.size)⟩
          · have E := Lib.hid (decide_eq_false hR)
            have HDC : Hid (dec k l = none) := by
              show dec k l = _
              unfold dec
              rw [if_neg (fun h => hR h.2.2.1)]
            clear hR
            go_wp2_with ((with_reducible refine at_dst (some 67) ?_); refine wpList_loadAt (op := ⟨some 67, _, _, _, _, _⟩) rfl 71 (.tmp 6) rfl ⟨gd, 0, none⟩ rfl (xs5 k l n0 n1 n2 n3 n4).cells d0 HD7.out.at hu0 hd0 iD ?_)
            refine HRT.out.mono ?_
            rintro e w8 ⟨he, hb8⟩
            rw [show (xs5 k l n0 n1 n2 n3 n4).d = said k l from rfl, E.out] at he
            subst he
            have H8 := Lib.hid (H7.out.next hb8)
            clear hb8
            go_wp2_with ((with_reducible refine at_dst none ?_); refine wpList_storeBlk (op := ⟨none, _, _, _, _, _⟩) rfl 71 (.tmp 4) (.tmp 77) rfl (g := w.heap.size) (t := 71) (old := zeroD) (cs := zeroD) rfl rfl H8.out.res rfl iD zeroD_one ?_; intro wf hBf htf)
            exact ret_cell_tmp rfl rfl hBf.out.at hu0 hd0 iD rfl ⟨zeroD, by rw [HDC.out]; rfl, rfl, zeroD_one, fun h => (by rw [HDC.out] at h; cases h), H8.out.below.trans (htf.below (fun y hy => by rw [List.mem_singleton.1 hy]; exact Nat.le_refl _) H8.out.below.size)⟩
end Go.Proofs.YtlcoebenkhafcaaGreatDoor
