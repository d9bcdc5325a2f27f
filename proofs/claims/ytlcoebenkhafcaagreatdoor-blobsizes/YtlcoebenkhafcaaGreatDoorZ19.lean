/-
  What bytes, text and Encode of package blob answer. No condition but that texts are bytes that fit. What first and cut answer. No condition but that bytes fit.
-/
import Derived.Test.YtlcoebenkhafcaaGreatDoorZ18
import Derived.Test.YtlcoebenkhafcaaGreatDoorZ15
namespace Go.Proofs.YtlcoebenkhafcaaGreatDoor
open Go.RowKit
set_option linter.unusedVariables false
set_option linter.unusedSimpArgs false
set_option maxRecDepth 100000
set_option maxHeartbeats 2000000 in
theorem pbytes_any (h a u : Sl) (lh la lu : List Nat) (w : World) (hh : Bs w h.A h.n h.cap lh) (ha : Bs w a.A a.n a.cap la) (hu : Bs w u.A u.n u.cap lu) (N : Nat) (hN : h.n + a.n + u.n = N) (hn : N ≤ 800000) :
    Calls Tryz.prog 34 #[.agg (pcells h a u).toArray] w fun e w' => ∃ A c, e = .returned (.slice A N c) ∧ Row w' w.heap.size 5 A N c (cn .u8 (lh ++ (la ++ lu))) ∧ Below w.heap.size w w' := by
  have hb1 : Below w.heap.size w (w.alloc (.cells (pcells h a u).toArray 57)) := (Below.refl _ _).alloc (Nat.le_refl _) _
  have hk1 : Blk (w.alloc (.cells (pcells h a u).toArray 57)) w.heap.size 57 (pcells h a u) := Blk.new _ _ _
  obtain ⟨W, hW⟩ : ∃ W, w.alloc (.cells (pcells h a u).toArray 57) = W := ⟨_, rfl⟩
  rw [hW] at hb1 hk1
  have c0 : W.cell? ⟨w.heap.size, 0, none⟩ = some (.slice h.A h.n h.cap) := hk1.cell 0
  have c1 : W.cell? ⟨w.heap.size, 1, none⟩ = some (.slice a.A a.n a.cap) := hk1.cell 1
  have c2 : W.cell? ⟨w.heap.size, 2, none⟩ = some (.slice u.A u.n u.cap) := hk1.cell 2
  have hb2 : Below W.heap.size W (W.alloc (.cells #[.slice h.A h.n h.cap, .slice a.A a.n a.cap, .slice u.A u.n u.cap] 25)) := (Below.refl _ _).alloc (Nat.le_refl _) _
  have hpp := three_parts ⟨h.A, h.n, h.cap, lh⟩ ⟨a.A, a.n, a.cap, la⟩ ⟨u.A, u.n, u.cap, lu⟩ W (hh.below hb1).part3 (ha.below hb1).part3 (hu.below hb1).part3
  obtain ⟨W2, hW2⟩ : ∃ W2, W.alloc (.cells #[.slice h.A h.n h.cap, .slice a.A a.n a.cap, .slice u.A u.n u.cap] 25) = W2 := ⟨_, rfl⟩
  rw [hW2] at hb2 hpp
  have hfl : flat [⟨h.A, h.n, h.cap, lh⟩, ⟨a.A, a.n, a.cap, la⟩, ⟨u.A, u.n, u.cap, lu⟩] = lh ++ (la ++ lu) := by simp [flat]
  have hl0 := hh.rd.1
  have hl1 := ha.rd.1
  have hl2 := hu.rd.1
  have HC := Lib.hid (Concat_any W.heap.size 3 3 _ W2 hpp (by
    intro p hp
    simp only [List.mem_cons, List.not_mem_nil, or_false] at hp
    rcases hp with rfl | rfl | rfl
    · exact hh.nil
    · exact ha.nil
    · exact hu.nil) (by omega) (by omega) (by omega) N (by rw [hfl, List.length_append, List.length_append]; omega) (by omega))
  rw [hfl] at HC
  have HB : Hid (Below w.heap.size w W2) := hb1.trans (hb2.mono hb1.size)
  clear hpp hfl hb1 hb2 hk1 hl0 hl1 hl2 hh ha hu hN
  go_enter Tryz.func34, Tryz.ntmps34
  go_wp2_with fail
  refine HC.out.mono ?_
  rintro e w1 ⟨A2, c2, rfl, hr1, hb1⟩
  have HR : Hid (Row w1 w.heap.size 5 A2 N c2 (cn .u8 (lh ++ (la ++ lu))) ∧ Below w.heap.size w w1) := ⟨hr1.mono HB.out.size, HB.out.trans (hb1.mono HB.out.size)⟩
  clear hr1 hb1
  go_wp2
  go_ret
  exact ⟨A2, c2, rfl, HR.out⟩
set_option maxHeartbeats 2000000 in
theorem ptext_any (h a u : Sl) (lh lu : List Nat) (w : World) (hh : Bs w h.A h.n h.cap lh) (hu : Bs w u.A u.n u.cap lu) (N : Nat) (hN : h.n + u.n = N) (hn : N ≤ 800000) :
    Calls Tryz.prog 63 #[.agg (pcells h a u).toArray] w fun e w' => ∃ A c, e = .returned (.slice A N c) ∧ Row w' w.heap.size 5 A N c (cn .u8 (lh ++ lu)) ∧ Below w.heap.size w w' := by
  have hb1 : Below w.heap.size w (w.alloc (.cells (pcells h a u).toArray 57)) := (Below.refl _ _).alloc (Nat.le_refl _) _
  have hk1 : Blk (w.alloc (.cells (pcells h a u).toArray 57)) w.heap.size 57 (pcells h a u) := Blk.new _ _ _
  obtain ⟨W, hW⟩ : ∃ W, w.alloc (.cells (pcells h a u).toArray 57) = W := ⟨_, rfl⟩
  rw [hW] at hb1 hk1
  have c0 : W.cell? ⟨w.heap.size, 0, none⟩ = some (.slice h.A h.n h.cap) := hk1.cell 0
  have c2 : W.cell? ⟨w.heap.size, 2, none⟩ = some (.slice u.A u.n u.cap) := hk1.cell 2
  have hb2 : Below W.heap.size W (W.alloc (.cells #[.slice h.A h.n h.cap, .slice u.A u.n u.cap] 25)) := (Below.refl _ _).alloc (Nat.le_refl _) _
  have hpp := two_parts ⟨h.A, h.n, h.cap, lh⟩ ⟨u.A, u.n, u.cap, lu⟩ W (hh.below hb1).part3 (hu.below hb1).part3
  obtain ⟨W2, hW2⟩ : ∃ W2, W.alloc (.cells #[.slice h.A h.n h.cap, .slice u.A u.n u.cap] 25) = W2 := ⟨_, rfl⟩
  rw [hW2] at hb2 hpp
  have hfl : flat [⟨h.A, h.n, h.cap, lh⟩, ⟨u.A, u.n, u.cap, lu⟩] = lh ++ lu := by simp [flat]
  have hl0 := hh.rd.1
  have hl2 := hu.rd.1
  have HC := Lib.hid (Concat_any W.heap.size 2 2 _ W2 hpp (by
    intro p hp
    simp only [List.mem_cons, List.not_mem_nil, or_false] at hp
    rcases hp with rfl | rfl
    · exact hh.nil
    · exact hu.nil) (by omega) (by omega) (by omega) N (by rw [hfl, List.length_append]; omega) (by omega))
  rw [hfl] at HC
  have HB : Hid (Below w.heap.size w W2) := hb1.trans (hb2.mono hb1.size)
  clear hpp hfl hb1 hb2 hk1 hl0 hl2 hh hu hN
  go_enter Tryz.func63, Tryz.ntmps63
  go_wp2_with fail
  refine HC.out.mono ?_
  rintro e w1 ⟨A2, c2, rfl, hr1, hb1⟩
  have HR : Hid (Row w1 w.heap.size 5 A2 N c2 (cn .u8 (lh ++ lu)) ∧ Below w.heap.size w w1) := ⟨hr1.mono HB.out.size, HB.out.trans (hb1.mono HB.out.size)⟩
  clear hr1 hb1
  go_wp2
  go_ret
  exact ⟨A2, c2, rfl, HR.out⟩
def EncP (x : BX) (w : World) (e : Ending) (w' : World) : Prop :=
  ∃ A n c l, ∃ er : Nat, e = .returned (.tuple #[.slice A n c, .int .i64 (er : Int)]) ∧ Row w' w.heap.size 5 A n c (cn .u8 l) ∧ (BRight x.b → l = bbytes x.b ∧ er = 0) ∧ (¬ BRight x.b → l = [] ∧ er = 12) ∧ Below w.heap.size w w'
set_option maxHeartbeats 4000000 in
theorem BEncode_any (x : BX) (w : World) (hx : BXOk w x) : Calls Tryz.prog 13 #[x.val] w (EncP x w) := by
  obtain ⟨dB, huB, hdB⟩ := uBl
  obtain ⟨dP, huP, hdP⟩ := uPc
  unfold BX.val
  obtain ⟨W, hW⟩ : ∃ W, w.alloc (.cells x.cells.toArray 27) = W := ⟨_, rfl⟩
  have X := Lib.hid (BIn.new hx hW)
  have HPI := Lib.hid (pieces_any x W X.out.ok)
  clear hx
  go_enter Tryz.func13, Tryz.ntmps13
  go_wp2_with ((with_reducible refine at_dst (some 7) ?_); refine wpList_loadAt (op := ⟨some 7, _, _, _, _, _⟩) rfl 27 (.tmp 1) rfl ⟨w.heap.size, 0, none⟩ rfl x.cells dB X.out.blk.at huB hdB iBl ?_)
  refine HPI.out.mono ?_
  rintro e w1 ⟨cs, er, rfl, hcl, hco, hyes, hno, hb1⟩
  have X1 : Hid (Below w.heap.size w w1) := X.out.below.trans (hb1.mono X.out.below.size)
  have HCS := Lib.hid (And.intro hcl hco)
  have hb2 : Below w1.heap.size w1 (w1.alloc (.cells cs.toArray 57)) := (Below.refl _ _).alloc (Nat.le_refl _) _
  have hk2 : Blk (w1.alloc (.cells cs.toArray 57)) w1.heap.size 57 cs := Blk.new _ _ _
  obtain ⟨w2, hw2⟩ : ∃ w2, w1.alloc (.cells cs.toArray 57) = w2 := ⟨_, rfl⟩
  rw [hw2] at hb2 hk2
  obtain ⟨g2, hg2⟩ : ∃ g2, w1.heap.size = g2 := ⟨_, rfl⟩
  rw [hg2] at hk2
  have X2 : Hid (Below w.heap.size w w2 ∧ Blk w2 g2 57 cs ∧ Below w1.heap.size w1 w2) := ⟨X1.out.trans (hb2.mono X1.out.size), hk2, hb2⟩
  clear hb1 hb2 hk2 hcl hco
  by_cases hr : BRight x.b
  · obtain ⟨rfl, ph, pa, pu, rfl, hpc⟩ := hyes hr
    have HPC := Lib.hid (hpc.below X2.out.2.2)
    have l1 := HPC.out.head.rd.1
    have l2 := HPC.out.auth.rd.1
    have l3 := HPC.out.aux.rd.1
    have hle := hr.len_le
    have hlen : (bbytes x.b).length = ph.n + pa.n + pu.n := by
      unfold bbytes
      rw [List.length_append, List.length_append, l1, l2, l3]; omega
    have HRI := Lib.hid hr
    have HPB := Lib.hid (pbytes_any ph pa pu _ _ _ w2 HPC.out.head HPC.out.auth HPC.out.aux (ph.n + pa.n + pu.n) rfl (by omega))
    clear hyes hno hpc l1 l2 l3 hle hlen hr
    go_wp2_with (first
      | ((with_reducible refine at_dst none ?_); refine wpList_storeNew (w := w1) (op := ⟨none, _, _, _, _, _⟩) rfl 57 (.tmp 4) (.tmp 9) rfl zeroP (pcells ph pa pu) (by rw [← hg2]; rfl) rfl rfl iPc (pcells_one _ _ _) ?_; rw [hw2])
      | ((with_reducible refine at_dst (some 14) ?_); refine wpList_loadAt (op := ⟨some 14, _, _, _, _, _⟩) rfl 57 (.tmp 4) rfl ⟨g2, 0, none⟩ rfl (pcells ph pa pu) dP X2.out.2.1.at huP hdP iPc ?_))
    refine HPB.out.mono ?_
    rintro e w3 ⟨A3, c3, rfl, hr3, hb3⟩
    have HF : Hid (Row w3 w.heap.size 5 A3 (ph.n + pa.n + pu.n) c3 (cn .u8 (bbytes x.b)) ∧ Below w.heap.size w w3) := ⟨hr3.mono X2.out.1.size, X2.out.1.trans (hb3.mono X2.out.1.size)⟩
    clear hr3 hb3
    go_wp2
    go_ret2
    exact ⟨A3, _, c3, bbytes x.b, 0, rfl, HF.out.1, fun _ => ⟨rfl, rfl⟩, fun h => absurd HRI.out h, HF.out.2⟩
  · obtain rfl := hno hr
    have HNR := Lib.hid hr
    clear hyes hno hr
    go_wp2_with ((with_reducible refine at_dst none ?_); refine wpList_storeNew (w := w1) (op := ⟨none, _, _, _, _, _⟩) rfl 57 (.tmp 4) (.tmp 9) rfl zeroP cs (by rw [← hg2]; rfl) rfl (by rw [HCS.out.1]; rfl) (by rw [HCS.out.1]; exact iPc) HCS.out.2 ?_; rw [hw2])
    go_ret2
    exact ⟨none, 0, 0, [], 12, rfl, Row.nil _ _ _, fun h => absurd h HNR.out, fun _ => ⟨rfl, rfl⟩, X2.out.1⟩
end Go.Proofs.YtlcoebenkhafcaaGreatDoor
namespace Go.Proofs.YtlcoebenkhafcaaGreatDoor
open Go.RowKit
set_option linter.unusedVariables false
set_option linter.unusedSimpArgs false
set_option maxRecDepth 100000
def fErr (b : List Nat) : Nat := if b.length < 16 then 10 else if 5 ≤ num (sl b 0 8) then 33 else if b.length < 16 + num (sl b 8 8) then 10 else 0
def FirstOk (w : World) (l : List Nat) (k : Int) (A : Option Addr) (m c : Nat) (w' : World) : Prop :=
  k = (num (sl l 0 8) : Nat) ∧ m = num (sl l 8 8) ∧ c = m ∧ ∃ g, A = some ⟨g, 0, none⟩ ∧ w.heap.size ≤ g ∧ Blk w' g 5 (cn .u8 (sl l 16 m))
set_option maxHeartbeats 2000000 in
theorem first_any (A : Option Addr) (n cap : Nat) (l : List Nat) (w : World) (hb : Bs w A n cap l) (hn : n ≤ 100000) : Calls Tryz.prog 124 #[.slice A n cap] w fun e w' => ∃ k A' m c, ∃ er : Nat, e = .returned (.tuple #[.int .i64 k, .slice A' m c, .int .i64 (er : Int)]) ∧ er = fErr l ∧ (er = 0 → FirstOk w l k A' m c w') ∧ Below w.heap.size w w' := by
  have HB := Lib.hid hb
  have hl := hb.rd.1
  have HL := Lib.hid hl
  have hnc := hb.le
  have hcm := hb.max
  clear hb
  by_cases h16 : n < 16
  · have z1 : (n : Int) < 16 := by omega
    have HF : Hid (fErr l = 10) := by show _ = _; unfold fErr; rw [if_pos (by omega)]
    clear hl
    go_enter Tryz.func124, Tryz.ntmps124
    go_wp2
    go_ret3
    exact ⟨0, none, 0, 0, 10, rfl, HF.out.symm, fun h => (by cases h), Below.refl _ _⟩
  · have z1 : ¬ (n : Int) < 16 := by omega
    obtain ⟨K, hK⟩ : ∃ K, num (sl l 0 8) = K := ⟨_, rfl⟩
    obtain ⟨L, hL⟩ : ∃ L, num (sl l 8 8) = L := ⟨_, rfl⟩
    by_cases hKb : K ≤ 9223372036854775807
    · have HG := Lib.hid (Get_ok A n cap l 0 8 0 8 rfl rfl (by omega) (by omega) w HB.out.rd HB.out.fit hn hnc hcm (by omega) (by rw [hK]; exact hKb))
      rw [hK] at HG
      by_cases hK5 : 5 ≤ K
      · have z2 : (5 : Int) ≤ (K : Int) := by omega
        have HF : Hid (fErr l = 33) := by show _ = _; unfold fErr; rw [if_neg (by omega), if_pos (by omega)]
        clear hl hK hL
        go_enter Tryz.func124, Tryz.ntmps124
        go_wp2_with fail
        refine HG.out.mono ?_
        rintro e w1 ⟨rfl, rfl⟩
        go_wp2
        go_ret3
        exact ⟨0, none, 0, 0, 33, rfl, HF.out.symm, fun h => (by cases h), Below.refl _ _⟩
      · have z2 : ¬ (5 : Int) ≤ (K : Int) := by omega
        by_cases hLb : L ≤ 9223372036854775807
        · have HG2 := Lib.hid (Get_ok A n cap l 8 8 8 8 rfl rfl (by omega) (by omega) w HB.out.rd HB.out.fit hn hnc hcm (by omega) (by rw [hL]; exact hLb))
          rw [hL] at HG2
          by_cases hfit : 16 + L ≤ n
          · have HF : Hid (fErr l = 0) := by show _ = _; unfold fErr; rw [if_neg (by omega), if_neg (by omega), if_neg (by omega)]
            have HC := Lib.hid (Cut_ok A n cap l 16 L w HB.out.rd (by omega) hnc hcm hfit)
            have HK := Lib.hid hK
            have HLL := Lib.hid hL
            clear hl hK hL
            go_enter Tryz.func124, Tryz.ntmps124
            go_wp2_with fail
            refine HG.out.mono ?_
            rintro e w1 ⟨rfl, rfl⟩
            go_wp2_with fail
            refine HG2.out.mono ?_
            rintro e w1 ⟨rfl, rfl⟩
            go_wp2_with fail
            refine HC.out.mono ?_
            rintro e w1 ⟨g, rfl, hg, hB, hbe⟩
            have HR := Lib.hid (And.intro hg (And.intro hB hbe))
            clear hg hB hbe
            go_wp2
            go_ret3
            exact ⟨_, _, _, _, 0, rfl, HF.out.symm, fun _ => ⟨by rw [HK.out], by rw [HLL.out], rfl, g, rfl, HR.out.1, HR.out.2.1⟩, HR.out.2.2⟩
          · have HF : Hid (fErr l = 10) := by show _ = _; unfold fErr; rw [if_neg (by omega), if_neg (by omega), if_pos (by omega)]
            have HC := Lib.hid (Cut_no A n cap 16 L 16 L rfl rfl w hn (by omega) hLb hfit)
            clear hl hK hL
            go_enter Tryz.func124, Tryz.ntmps124
            go_wp2_with fail
            refine HG.out.mono ?_
            rintro e w1 ⟨rfl, rfl⟩
            go_wp2_with fail
            refine HG2.out.mono ?_
            rintro e w1 ⟨rfl, rfl⟩
            go_wp2_with fail
            refine HC.out.mono ?_
            rintro e w1 ⟨rfl, rfl⟩
            go_wp2
            go_ret3
            exact ⟨_, none, 0, 0, 10, rfl, HF.out.symm, fun h => (by cases h), Below.refl _ _⟩
        · have HG2 := Lib.hid (Get_big A n cap l 8 8 8 8 rfl rfl (by omega) (by omega) w HB.out.rd HB.out.fit hn hnc hcm (by omega) (by rw [hL]; exact hLb))
          have HF : Hid (fErr l = 10) := by show _ = _; unfold fErr; rw [if_neg (by omega), if_neg (by omega), if_pos (by omega)]
          clear hl hK hL
          go_enter Tryz.func124, Tryz.ntmps124
          go_wp2_with fail
          refine HG.out.mono ?_
          rintro e w1 ⟨rfl, rfl⟩
          go_wp2_with fail
          refine HG2.out.mono ?_
          rintro e w1 ⟨rfl, rfl⟩
          go_wp2
          go_ret3
          exact ⟨0, none, 0, 0, 10, rfl, HF.out.symm, fun h => (by cases h), Below.refl _ _⟩
    · have HG := Lib.hid (Get_big A n cap l 0 8 0 8 rfl rfl (by omega) (by omega) w HB.out.rd HB.out.fit hn hnc hcm (by omega) (by rw [hK]; exact hKb))
      have HF : Hid (fErr l = 33) := by show _ = _; unfold fErr; rw [if_neg (by omega), if_pos (by omega)]
      clear hl hK hL
      go_enter Tryz.func124, Tryz.ntmps124
      go_wp2_with fail
      refine HG.out.mono ?_
      rintro e w1 ⟨rfl, rfl⟩
      go_wp2
      go_ret3
      exact ⟨0, none, 0, 0, 33, rfl, HF.out.symm, fun h => (by cases h), Below.refl _ _⟩
def zero5 : List Value := [.slice none 0 0, .slice none 0 0, .slice none 0 0, .slice none 0 0, .slice none 0 0]
theorem u5 : ∃ d, Tryz.prog.underlying 149 = some d ∧ d.isRow = true := ⟨_, Tryz.underlying149, rfl⟩
theorem i5 : (Tryz.prog.info? 149).map (·.size) = some 5 := by kernel_rfl
structure Cutted (w : World) (ga : Nat) (l : List Nat) (i : Nat) (cs : List Value) : Prop where
  blk : Blk w ga 149 cs
  len : cs.length = 5
  one : ∀ v ∈ cs, v.oneCell' = true
  got : ∀ j, j < i → ∃ g, cs[j]? = some (.slice (some ⟨g, 0, none⟩) (ln l j) (ln l j)) ∧ ga < g ∧ Blk w g 5 (cn .u8 (sl l (en l j) (ln l j)))
theorem Cutted.below {w w' : World} {ga : Nat} {l : List Nat} {i : Nat} {cs : List Value} (h : Cutted w ga l i cs) (hb : Below w.heap.size w w') : Cutted w' ga l i cs :=
  ⟨h.blk.below hb h.blk.lt, h.len, h.one, fun j hj => by
    obtain ⟨g, e, hg, hB⟩ := h.got j hj
    exact ⟨g, e, hg, hB.below hb hB.lt⟩⟩
theorem Cutted.next {w w' : World} {ga : Nat} {l : List Nat} {i : Nat} {cs : List Value} {g : Nat} (h : Cutted w ga l i cs) (hi : i < 5) (ht : Touch [ga] w w') (hg : ga < g) (hB : Blk w g 5 (cn .u8 (sl l (en l i) (ln l i)))) (hb : Blk w' ga 149 (cs.set i (.slice (some ⟨g, 0, none⟩) (ln l i) (ln l i)))) :
    Cutted w' ga l (i + 1) (cs.set i (.slice (some ⟨g, 0, none⟩) (ln l i) (ln l i))) :=
  ⟨hb, by rw [List.length_set, h.len], fun v hv => by
    rcases List.mem_or_eq_of_mem_set hv with hv | rfl
    · exact h.one v hv
    · rfl, fun j hj => by
    by_cases e : j = i
    · subst e
      exact ⟨g, by rw [List.getElem?_set_self (by rw [h.len]; exact hi)], hg, hB.touch ht (by simp; omega)⟩
    · obtain ⟨g', e', hg', hB'⟩ := h.got j (by omega)
      exact ⟨g', by rw [List.getElem?_set_ne (Ne.symm e)]; exact e', hg', hB'.touch ht (by simp; omega)⟩⟩
theorem en_mono (l : List Nat) : ∀ (i j : Nat), i ≤ j → en l i ≤ en l j
  | i, 0, h => by obtain rfl : i = 0 := by omega
                  exact Nat.le_refl _
  | i, j + 1, h => by
    by_cases e : i = j + 1
    · rw [e]; exact Nat.le_refl _
    · exact Nat.le_trans (en_mono l i j (by omega)) (by rw [en]; exact Nat.le_add_right _ _)
theorem ln_lt {l : List Nat} (hf : Fit 256 l) (i : Nat) : ln l i < 4294967296 := by
  have h := num_lt (sl l (28 + 4 * i) 4) (sl_fit hf _ _)
  have h2 : (sl l (28 + 4 * i) 4).length ≤ 4 := by simp [sl]; omega
  have : 256 ^ (sl l (28 + 4 * i) 4).length ≤ 256 ^ 4 := Nat.pow_le_pow_right (by omega) h2
  unfold ln
  omega
theorem slSz (w : World) : (Go.sizeOf 25).run Tryz.prog w = .ok 1 w := by kernel_rfl
theorem idx5 (ga i : Nat) (h : i < 5) (W : World) : (Instr.indexAt 149 (.pointer (some ⟨ga, 0, none⟩)) (.int .i64 (i : Int))).run Tryz.prog W = .ok (.pointer (some ⟨ga, i, none⟩)) W := by
  have hl : Tryz.prog.arrayLen 149 = 5 := by kernel_rfl
  have he : Tryz.prog.elem 149 = 25 := by kernel_rfl
  have hu : Tryz.prog.underlying 149 = some (.array (Tryz.prog.arrayLen 149) (Tryz.prog.elem 149)) := by rw [hl, he]; exact Tryz.underlying149
  rw [run_indexAt_array _ _ _ _ _ hu, if_pos ⟨by omega, by rw [hl]; omega⟩, he, slSz]
  simp [Result.andThen, addr_add]
def cutOk (l : List Nat) : Bool := decide (48 ≤ l.length ∧ en l 5 ≤ l.length)
set_option maxHeartbeats 4000000 in
theorem cutl_any (A : Option Addr) (n cap : Nat) (l : List Nat) (w : World) (hb : Bs w A n cap l) (hn : n ≤ 100000) : Calls Tryz.prog 161 #[.slice A n cap, .int .i64 28] w fun e w' => ∃ cs ga, e = .returned (.tuple #[.agg cs.toArray, .bool (cutOk l)]) ∧ cs.length = 5 ∧ (∀ v ∈ cs, v.oneCell' = true) ∧ w.heap.size ≤ ga ∧ (cutOk l = true → Cutted w' ga l 5 cs) ∧ Below w.heap.size w w' := by
  obtain ⟨d0, hu0, hd0⟩ := u5
  have HB := Lib.hid hb
  have hl := hb.rd.1
  have HL := Lib.hid hl
  have hnc := hb.le
  have hcm := hb.max
  clear hb hl
  have hb1 : Below w.heap.size w (w.alloc (.cells zero5.toArray 149)) := (Below.refl _ _).alloc (Nat.le_refl _) _
  have hk1 : Blk (w.alloc (.cells zero5.toArray 149)) w.heap.size 149 zero5 := Blk.new _ _ _
  obtain ⟨W, hW⟩ : ∃ W, w.alloc (.cells zero5.toArray 149) = W := ⟨_, rfl⟩
  rw [hW] at hb1 hk1
  have hb2 : Below W.heap.size W (W.alloc (.cells zero5.toArray 149)) := (Below.refl _ _).alloc (Nat.le_refl _) _
  have hk2 : Blk (W.alloc (.cells zero5.toArray 149)) W.heap.size 149 zero5 := Blk.new _ _ _
  obtain ⟨W2, hW2⟩ : ∃ W2, W.alloc (.cells zero5.toArray 149) = W2 := ⟨_, rfl⟩
  rw [hW2] at hb2 hk2
  unfold zero5 at hW hW2
  obtain ⟨ga, hga⟩ : ∃ ga, W.heap.size = ga := ⟨_, rfl⟩
  have I0 : Hid (Below w.heap.size w W2 ∧ Blk W2 w.heap.size 149 zero5 ∧ w.heap.size < ga ∧ Cutted W2 ga l 0 zero5) :=
    ⟨hb1.trans (hb2.mono hb1.size), hk1.below hb2 hk1.lt, by rw [← hga]; exact hk1.lt, by rw [hga] at hk2; exact ⟨hk2, rfl, by decide, fun j h => absurd h (Nat.not_lt_zero j)⟩⟩
  clear hb1 hk1 hb2 hk2
  go_enter Tryz.func161, Tryz.ntmps161
  go_wp2
  go_loopw [7, 13] (fun a o wr => ∃ i : Nat, i ≤ 5 ∧ o = .int .i64 (i : Int) ∧ a = .int .i64 ((en l i : Nat) : Int) ∧ (∀ j, j < i → 32 + 4 * j ≤ n ∧ en l (j + 1) ≤ n) ∧ ∃ cs, Hid (Below w.heap.size w wr ∧ Blk wr w.heap.size 149 zero5 ∧ w.heap.size < ga ∧ Cutted wr ga l i cs)) (fun _ o _ => 5 - (intOf o).toNat)
  case atStart => exact ⟨0, by omega, rfl, rfl, fun j h => absurd h (Nat.not_lt_zero j), zero5, I0⟩
  case round =>
    obtain ⟨i, hi, rfl, rfl, hall, cs, HS⟩ := hrel
    have HA := Lib.hid hall
    clear hall
    have hcz : Hid (cutOk l = decide (48 ≤ n ∧ en l 5 ≤ n)) := by show _ = _; unfold cutOk; rw [HL.out]
    by_cases hin : i < 5
    · have hin2 : (i : Int) < 5 := by omega
      obtain ⟨E, hE⟩ : ∃ E, en l i = E := ⟨_, rfl⟩
      obtain ⟨L, hLn⟩ : ∃ L, ln l i = L := ⟨_, rfl⟩
      have hL4 : L < 4294967296 := by rw [← hLn]; exact ln_lt HB.out.fit i
      have hE2 : en l (i + 1) = E + L := by rw [en, hE, hLn]
      have hE100 : E ≤ 100048 := by
        rcases i with _ | i
        · rw [← hE]; show 48 ≤ _; omega
        · have := (HA.out i (by omega)).2; omega
      have HE := Lib.hid hE
      have HLN := Lib.hid hLn
      have HE2 := Lib.hid hE2
      rw [hE]
      by_cases h32 : 32 + 4 * i ≤ n
      · have HG := Lib.hid (Get_ok A n cap l (28 + 4 * i) 4 (28 + (i : Int) * 4) 4 (by omega) rfl (by omega) (by omega) wr (HB.out.rd.below HS.out.1) HB.out.fit hn hnc hcm (by omega) (by have : num (sl l (28 + 4 * i) 4) = L := hLn; omega))
        rw [show num (sl l (28 + 4 * i) 4) = L from hLn] at HG
        by_cases hfit : E + L ≤ n
        · have HC := Lib.hid (Cut_ok A n cap l E L wr (HB.out.rd.below HS.out.1) (by omega) hnc hcm hfit)
          have H32 := Lib.hid h32
          have HFT := Lib.hid hfit
          clear hE hLn hE2 h32 hfit
          go_wp2_with fail
          refine HG.out.mono ?_
          rintro e w1 ⟨rfl, rfl⟩
          go_wp2_with fail
          refine HC.out.mono ?_
          rintro e w1 ⟨g, rfl, hg, hB, hbe⟩
          have hgg : ga < g := Nat.lt_of_lt_of_le HS.out.2.2.2.blk.lt hg
          have H1 : Hid (Below w.heap.size w w1 ∧ Blk w1 w.heap.size 149 zero5 ∧ Cutted w1 ga l i cs ∧ ga < g ∧ Blk w1 g 5 (cn .u8 (sl l E L))) := ⟨HS.out.1.trans (hbe.mono HS.out.1.size), HS.out.2.1.below hbe HS.out.2.1.lt, HS.out.2.2.2.below hbe, hgg, hB⟩
          clear hg hB hbe hgg
          have hix := fun W => idx5 ga i hin W
          go_wp2_with ((with_reducible refine at_dst none ?_); refine wpList_storeOne (op := ⟨none, _, _, _, _, _⟩) rfl 25 (.tmp 36) (.tmp 34) rfl (g := ga) (i := i) (t := 149) rfl rfl H1.out.2.2.1.blk (by rw [H1.out.2.2.1.len]; exact hin) rfl rfl iSl ?_; intro w2 hU hT)
          go_roundw
          case rel =>
            have hnx := H1.out.2.2.1.next hin hT H1.out.2.2.2.1 (by rw [HE.out, HLN.out]; exact H1.out.2.2.2.2) (by rw [HLN.out]; exact hU.out)
            refine ⟨i + 1, by omega, by go_num, by rw [HE2.out]; go_num, fun j hj => ?_, _, H1.out.1.trans (hT.below (fun y hy => by rw [List.mem_singleton.1 hy]; have := HS.out.2.2.1; omega) H1.out.1.size), H1.out.2.1.touch hT (by have := HS.out.2.2.1; simp; omega), HS.out.2.2.1, hnx⟩
            by_cases e : j = i
            · subst e; exact ⟨H32.out, by rw [HE2.out]; exact HFT.out⟩
            · exact HA.out j (by omega)
          case measure => simp [intOf]; omega
        · have HC := Lib.hid (Cut_no A n cap E L E L rfl rfl wr hn (by omega) (by omega) hfit)
          have HOK : Hid (cutOk l = false) := by
            show _ = _
            rw [hcz.out]
            refine decide_eq_false (fun h => hfit ?_)
            have := en_mono l (i + 1) 5 (by omega)
            omega
          clear hE hLn hE2 h32 hfit
          go_wp2_with fail
          refine HG.out.mono ?_
          rintro e w1 ⟨rfl, rfl⟩
          go_wp2_with fail
          refine HC.out.mono ?_
          rintro e w1 ⟨rfl, rfl⟩
          have hix := fun W => idx5 ga i hin W
          have HCL : Hid ((cs.set i (.slice none 0 0)).length = 5 ∧ ∀ v ∈ cs.set i (.slice none 0 0), v.oneCell' = true) := ⟨by rw [List.length_set, HS.out.2.2.2.len], fun v hv => by
            rcases List.mem_or_eq_of_mem_set hv with hv | rfl
            · exact HS.out.2.2.2.one v hv
            · rfl⟩
          go_wp2_with (first
            | ((with_reducible refine at_dst none ?_); refine wpList_storeOne (op := ⟨none, _, _, _, _, _⟩) rfl 25 (.tmp 36) (.tmp 34) rfl (g := ga) (i := i) (t := 149) rfl rfl HS.out.2.2.2.blk (by rw [HS.out.2.2.2.len]; exact hin) rfl rfl iSl ?_; intro w2 hU hT)
            | ((with_reducible refine at_dst (some 39) ?_); refine wpList_loadAt (op := ⟨some 39, _, _, _, _, _⟩) rfl 149 (.tmp 6) rfl ⟨ga, 0, none⟩ rfl (cs.set i (.slice none 0 0)) d0 hU.out.at hu0 hd0 (by rw [HCL.out.1]; exact i5) ?_)
            | ((with_reducible refine at_dst none ?_); refine wpList_storeBlk (op := ⟨none, _, _, _, _, _⟩) rfl 149 (.tmp 4) (.tmp 39) rfl (g := w.heap.size) (t := 149) (old := zero5) (cs := cs.set i (.slice none 0 0)) rfl rfl (HS.out.2.1.touch hT (by have := HS.out.2.2.1; simp; omega)) (by rw [HCL.out.1]; rfl) (by rw [HCL.out.1]; exact i5) HCL.out.2 ?_; intro w9 hB9 ht9))
          have HW2 : Hid (Below w.heap.size w w2) := HS.out.1.trans (hT.below (fun y hy => by rw [List.mem_singleton.1 hy]; have := HS.out.2.2.1; omega) HS.out.1.size)
          exact ret_cell_tmp rfl rfl hB9.out.at hu0 hd0 (by rw [HCL.out.1]; exact i5) rfl ⟨_, ga, by rw [HOK.out]; rfl, HCL.out.1, HCL.out.2, by have := HS.out.2.2.1; omega, fun h => (by rw [HOK.out] at h; cases h), HW2.out.trans (ht9.below (fun y hy => by rw [List.mem_singleton.1 hy]; exact Nat.le_refl _) HW2.out.size)⟩
      · have HG := Lib.hid (Get_out A n cap (28 + 4 * i) 4 (28 + (i : Int) * 4) 4 (by omega) rfl (by omega) (by omega) wr hn (by omega) (by omega))
        have HOK : Hid (cutOk l = false) := by
          show _ = _
          rw [hcz.out]
          exact decide_eq_false (fun h => h32 (by omega))
        clear hE hLn hE2 h32
        go_wp2_with fail
        refine HG.out.mono ?_
        rintro e w1 ⟨rfl, rfl⟩
        go_wp2_with (first
          | ((with_reducible refine at_dst (some 27) ?_); refine wpList_loadAt (op := ⟨some 27, _, _, _, _, _⟩) rfl 149 (.tmp 6) rfl ⟨ga, 0, none⟩ rfl cs d0 HS.out.2.2.2.blk.at hu0 hd0 (by rw [HS.out.2.2.2.len]; exact i5) ?_)
          | ((with_reducible refine at_dst none ?_); refine wpList_storeBlk (op := ⟨none, _, _, _, _, _⟩) rfl 149 (.tmp 4) (.tmp 27) rfl (g := w.heap.size) (t := 149) (old := zero5) (cs := cs) rfl rfl HS.out.2.1 (by rw [HS.out.2.2.2.len]; rfl) (by rw [HS.out.2.2.2.len]; exact i5) HS.out.2.2.2.one ?_; intro w9 hB9 ht9))
        exact ret_cell_tmp rfl rfl hB9.out.at hu0 hd0 (by rw [HS.out.2.2.2.len]; exact i5) rfl ⟨_, ga, by rw [HOK.out]; rfl, HS.out.2.2.2.len, HS.out.2.2.2.one, by have := HS.out.2.2.1; omega, fun h => (by rw [HOK.out] at h; cases h), HS.out.1.trans (ht9.below (fun y hy => by rw [List.mem_singleton.1 hy]; exact Nat.le_refl _) HS.out.1.size)⟩
    · obtain rfl : i = 5 := by omega
      have HOK : Hid (cutOk l = true) := by
        show _ = _
        rw [hcz.out]
        have := HA.out 4 (by omega)
        exact decide_eq_true ⟨by omega, this.2⟩
      go_wp2_with (first
        | ((with_reducible refine at_dst (some 44) ?_); refine wpList_loadAt (op := ⟨some 44, _, _, _, _, _⟩) rfl 149 (.tmp 6) rfl ⟨ga, 0, none⟩ rfl cs d0 HS.out.2.2.2.blk.at hu0 hd0 (by rw [HS.out.2.2.2.len]; exact i5) ?_)
        | ((with_reducible refine at_dst none ?_); refine wpList_storeBlk (op := ⟨none, _, _, _, _, _⟩) rfl 149 (.tmp 4) (.tmp 44) rfl (g := w.heap.size) (t := 149) (old := zero5) (cs := cs) rfl rfl HS.out.2.1 (by rw [HS.out.2.2.2.len]; rfl) (by rw [HS.out.2.2.2.len]; exact i5) HS.out.2.2.2.one ?_; intro w9 hB9 ht9))
      have HC9 : Cutted w9 ga l 5 cs := ⟨HS.out.2.2.2.blk.touch ht9 (by have := HS.out.2.2.1; simp; omega), HS.out.2.2.2.len, HS.out.2.2.2.one, fun j hj => by
        obtain ⟨g, e, hg, hB⟩ := HS.out.2.2.2.got j hj
        exact ⟨g, e, hg, hB.touch ht9 (by have := HS.out.2.2.1; simp; omega)⟩⟩
      exact ret_cell_tmp rfl rfl hB9.out.at hu0 hd0 (by rw [HS.out.2.2.2.len]; exact i5) rfl ⟨_, ga, by rw [HOK.out]; rfl, HS.out.2.2.2.len, HS.out.2.2.2.one, by have := HS.out.2.2.1; omega, fun _ => HC9, HS.out.1.trans (ht9.below (fun y hy => by rw [List.mem_singleton.1 hy]; exact Nat.le_refl _) HS.out.1.size)⟩
end Go.Proofs.YtlcoebenkhafcaaGreatDoor
