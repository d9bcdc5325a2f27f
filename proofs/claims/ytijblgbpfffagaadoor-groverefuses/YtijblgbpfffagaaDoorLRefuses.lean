/-
  GroveRefuses returns true for every seed, number, lengths and root: its walk.
-/
import Derived.Test.YtijblgbpfffagaaDoorGs
import Derived.Test.YtijblgbpfffagaaDoorL9
namespace Go.Proofs.YtijblgbpfffagaaDoor
open Go.RowKit
set_option linter.unusedVariables false
set_option linter.unusedSimpArgs false
set_option maxRecDepth 100000

/-- A row of slices is no block of bytes. -/
theorem Row.notBlk {w : World} {b g n cap : Nat} {A : Option Addr} {xs : List Value} {cs : List Value} (hr : Row w b 22 A n cap xs) (hB : Blk w g 5 cs) : some g ≠ (Value.slice A n cap).ownBlock := by
  rcases hr.2 with ⟨e, _⟩ | ⟨g', cap', cur, e, _, hgb, _⟩
  · rw [e]; simp [Value.ownBlock]
  · rw [e]
    intro h
    obtain rfl : g = g' := by simpa [Value.ownBlock] using h
    have h2 : w.heap[g]? = some (.cells cs.toArray 5 (0, 0)) := hB
    rw [hgb] at h2
    injection h2 with h2
    injection h2 with _ h3
    exact absurd h3 (by decide)
/-- Texts of noughts, each in a block of its own. -/
def Zs (w : World) (P : Nat) (ps : List Bt) : Prop := ∀ p ∈ ps, p.cap = p.n ∧ p.l = List.replicate p.n 0 ∧ p.n ≤ 5000 ∧ ∃ g, p.A = some ⟨g, 0, none⟩ ∧ P ≤ g ∧ Blk w g 5 (cn .u8 (List.replicate p.n 0))
theorem Zs.map {w w' : World} {P : Nat} {ps : List Bt} (h : Zs w P ps) (hk : ∀ g cs, Blk w g 5 cs → Blk w' g 5 cs) : Zs w' P ps := fun p hp => by
  obtain ⟨h1, h2, h3, g, h4, h5, h6⟩ := h p hp
  exact ⟨h1, h2, h3, g, h4, h5, hk g _ h6⟩
theorem Zs.below {w w' : World} {P : Nat} {ps : List Bt} (h : Zs w P ps) (hb : Below w.heap.size w w') : Zs w' P ps := h.map fun g cs hB => hB.below hb hB.lt
/-- A list of one's own of such texts. -/
theorem Zs.ls {w : World} {P B n cap : Nat} {A : Option Addr} {ps : List Bt} (h : Zs w P ps) (hr : Row w B 22 A n cap (cells_ ps)) : Ls w A n cap ps := by
  refine ⟨hr.parts fun p hp => ?_, hr.le.1, hr.le.2, ?_, fun p hp => ?_⟩
  · obtain ⟨h1, h2, h3, g, h4, h5, h6⟩ := h p hp
    refine ⟨?_, ?_, by omega⟩
    · rw [h4, h2]
      exact h6.rd p.n (List.length_replicate ..)
    · rw [h2]
      intro x hx
      rw [List.eq_of_mem_replicate hx]
      omega
  · rintro rfl
    rcases hr.2 with ⟨e, _⟩ | ⟨g', cap', cur, e, _⟩
    · injection e
    · injection e with e; cases e
  · obtain ⟨h1, h2, h3, g, h4, h5, h6⟩ := h p hp
    exact ⟨by unfold maxLen; omega, fun e => by rw [h4] at e; cases e⟩
set_option maxHeartbeats 16000000 in
theorem refuses_walk (z b : Int) (A : Option Addr) (nA cA : Nat) (salt : List Nat) (Ad : Option Addr) (nd cd : Nat) (data : List Nat) (i : Int) (Ai : Option Addr) (ni ci : Nat) (li : List Int) (Ar : Option Addr) (nr cr : Nat) (root : List Nat) (w : World) (hz : I64 z) (hb : I64 b) (hs : Bs w A nA cA salt) (hd : Bs w Ad nd cd data) (hi : I64 i) (hl : RdI w Ai ni li) (hlc : ni ≤ ci) (hcm : ci ≤ maxLen) (hr : Bs w Ar nr cr root) (ht : Both w) : Calls Tryd.prog 5 #[.agg #[.int .i64 z, .int .i64 b, .slice A nA cA, .slice Ad nd cd], .int .i64 i, .slice Ai ni ci, .slice Ar nr cr] w fun e w' => e = .returned (.bool true) ∧ Below w.heap.size w w' := by
  obtain ⟨D, hDD⟩ : ∃ D, sizeOfAlg z = D := ⟨_, rfl⟩
  have HDD := Lib.hid hDD
  have HZ := Lib.hid hz
  have HIB := Lib.hid hb
  have HII := Lib.hid hi
  have HB1 : Hid (Below w.heap.size w (w.alloc (.cells #[.int .i64 z, .int .i64 b, .slice A nA cA, .slice Ad nd cd] 24))) := (Below.refl _ _).alloc (Nat.le_refl _) _
  have HK := Lib.hid (Blk.new w 24 [.int .i64 z, .int .i64 b, .slice A nA cA, .slice Ad nd cd])
  have HS0 := Lib.hid hs
  have HD0 := Lib.hid hd
  have HTB := Lib.hid ht
  have HL0 := Lib.hid hl
  have HR0 := Lib.hid hr
  clear hDD hz hb hi hs hd ht hl hr
  go_enter Tryd.func5, Tryd.ntmps5
  go_wp2_with fail
  generalize w.alloc (.cells #[.int .i64 z, .int .i64 b, .slice A nA cA, .slice Ad nd cd] 24) = W at *
  refine (anchor9_any W (HTB.out.below HB1.out)).mono ?_
  rintro e w1 ⟨rfl, hb1⟩
  have BK1 := Lib.hid (HK.out.below hb1 HK.out.lt)
  have BEL1 := Lib.hid (below_then HB1.out hb1)
  have c10 : w1.cell? ⟨w.heap.size, 0, none⟩ = some (.int .i64 z) := BK1.out.cell 0
  have c11 : w1.cell? ⟨w.heap.size, 1, none⟩ = some (.int .i64 b) := BK1.out.cell 1
  have c12 : w1.cell? ⟨w.heap.size, 2, none⟩ = some (.slice A nA cA) := BK1.out.cell 2
  have c13 : w1.cell? ⟨w.heap.size, 3, none⟩ = some (.slice Ad nd cd) := BK1.out.cell 3
  clear hb1
  go_wp2_with fail
  refine (small_any z b A nA cA Ad nd cd w1).mono ?_
  obtain ⟨sm, hsm⟩ : ∃ sm, decide (nA ≤ 100 ∧ nd ≤ 1500) = sm := ⟨_, rfl⟩
  rw [hsm]
  rintro e w2 ⟨rfl, hb2⟩
  have BK2 := Lib.hid (BK1.out.below hb2 BK1.out.lt)
  have BEL2 := Lib.hid (below_then BEL1.out hb2)
  have c20 : w2.cell? ⟨w.heap.size, 0, none⟩ = some (.int .i64 z) := BK2.out.cell 0
  have c21 : w2.cell? ⟨w.heap.size, 1, none⟩ = some (.int .i64 b) := BK2.out.cell 1
  have c22 : w2.cell? ⟨w.heap.size, 2, none⟩ = some (.slice A nA cA) := BK2.out.cell 2
  have c23 : w2.cell? ⟨w.heap.size, 3, none⟩ = some (.slice Ad nd cd) := BK2.out.cell 3
  clear hb2 c10 c11 c12 c13
  cases sm
  · go_wp2
    go_ret
    exact ⟨rfl, BEL2.out⟩
  have hsm2 := of_decide_eq_true hsm
  have HSM := Lib.hid hsm2
  clear hsm hsm2
  by_cases h20 : 20 < ni
  · have z20 : (20 : Int) < ni := by omega
    go_wp2
    go_ret
    exact ⟨rfl, BEL2.out⟩
  have z20 : ¬ (20 : Int) < ni := by omega
  by_cases h100 : 100 < nr
  · have z100 : (100 : Int) < nr := by omega
    go_wp2
    go_ret
    exact ⟨rfl, BEL2.out⟩
  have z100 : ¬ (100 : Int) < nr := by omega
  obtain ⟨P, hP⟩ : ∃ P, w2.heap.size = P := ⟨_, rfl⟩
  have HP := Lib.hid hP
  clear hP
  go_wp2
  go_loopw [9, 10, 32] (fun l f o wr => ∃ (j : Nat) (A3 : Option Addr) (c3 : Nat) (ps : List Bt) (fm : Bool), j ≤ ni ∧ l = .slice A3 j c3 ∧ f = .bool fm ∧ o = .int .i64 (j : Int) ∧ Hid (Row wr P 22 A3 j c3 (cells_ ps)) ∧ Hid (Zs wr P ps) ∧ Hid (fm = true ↔ ∀ p ∈ ps, (p.n : Int) = b) ∧ Hid (Below P w2 wr)) (fun _ _ o _ => ni - (intOf o).toNat)
  case atStart => exact ⟨0, none, 0, [], true, Nat.zero_le _, rfl, rfl, rfl, Row.nil _ _ _, fun p hp => absurd hp List.not_mem_nil, ⟨fun _ p hp => absurd hp List.not_mem_nil, fun _ => rfl⟩, Below.refl _ _⟩
  case round =>
    obtain ⟨j, A3, c3, ps, fm, hjM, rfl, rfl, rfl, HR3, HZS, HFM, HBW⟩ := hrel
    have HZ3 : Hid (P ≤ wr.heap.size) := by show _ ≤ _; have := HBW.out.size; have := HP.out; omega
    have HBEL : Hid (Below w.heap.size w wr) := BEL2.out.trans (HBW.out.mono (by rw [← HP.out]; exact BEL2.out.size))
    have HBB : Hid (Below w2.heap.size w2 wr) := by rw [HP.out]; exact HBW.out
    have BKr := Lib.hid (BK2.out.below HBB.out BK2.out.lt)
    have r0 : wr.cell? ⟨w.heap.size, 0, none⟩ = some (.int .i64 z) := BKr.out.cell 0
    have r1 : wr.cell? ⟨w.heap.size, 1, none⟩ = some (.int .i64 b) := BKr.out.cell 1
    have r2 : wr.cell? ⟨w.heap.size, 2, none⟩ = some (.slice A nA cA) := BKr.out.cell 2
    have r3 : wr.cell? ⟨w.heap.size, 3, none⟩ = some (.slice Ad nd cd) := BKr.out.cell 3
    have hps : ps.length = j := by have := HR3.out.length; rw [cells_, List.length_map] at this; exact this
    have HPS := Lib.hid hps
    clear hps
    unfold maxLen at hcm
    by_cases hj : j < ni
    · have zj : (j : Int) < ni := by omega
      obtain ⟨ad, rfl, hadl, hcs⟩ := (HL0.out.below HBEL.out).2.2 (by omega)
      obtain ⟨x, hx⟩ : ∃ x, li[j]? = some x := ⟨_, List.getElem?_eq_getElem (by have := HL0.out.1; omega)⟩
      have hcx := hcs j x hx
      have hIx : I64 x := HL0.out.2.1 x (List.mem_of_getElem? hx)
      clear hcs hx hadl
      by_cases hx0 : x < 0
      · go_wp2
        go_ret
        exact ⟨rfl, HBEL.out⟩
      by_cases hx5 : 5000 < x
      · go_wp2
        go_ret
        exact ⟨rfl, HBEL.out⟩
      obtain ⟨n, rfl⟩ : ∃ n : Nat, x = n := ⟨x.toNat, by omega⟩
      obtain ⟨N, hN⟩ : ∃ N, j + 1 = N := ⟨_, rfl⟩
      have HN := Lib.hid hN
      have hj6 : j < 1000000 := by omega
      clear hN
      cases fm
      · go_wp2_with (first
          | ((with_reducible refine at_dst (some 44) ?_); refine wpList_makeNums (o := ⟨some 44, _, _, _, _, _⟩) rfl (.tmp 43) (.tmp 43) 22 5 rfl .u8 1 Tryd.underlying22 byteInfo (by omega) .i64 (n : Int) rfl rfl n rfl (by omega) ?_; intro w4 HB4 hb4 hlt4; have HR4 := Lib.hid (HR3.out.below hb4); have HZ4 := Lib.hid (HZS.out.below hb4); have hbw : Below P wr w4 := hb4.mono HZ3.out; have hsw : P ≤ w4.heap.size := Nat.le_trans HZ3.out hb4.size; have BK4 := Lib.hid (BKr.out.below hb4 BKr.out.lt); have HLT4 := Lib.hid HB4.out.lt; clear hb4 hlt4)
          | ((with_reducible refine at_dst (some 46) ?_); refine wpList_appSl (o := ⟨some 46, _, _, _, _, _⟩) rfl (.tmp 42) (.tmp 45) rfl hbw hsw (some ⟨wr.heap.size, 0, none⟩) n n rfl HR4.out rfl hj6 N HN.out ?_; intro A6 c6 w6 HR6 hbe6 hB6 HG6; have HBE6 := Lib.hid hbe6; have BK6 := Lib.hid (BKr.out.below hbe6 (by have := BK2.out.lt; have := HP.out; omega)); have d1 : w6.cell? ⟨w.heap.size, 1, none⟩ = some (.int .i64 b) := BK6.out.cell 1; clear hbe6 hB6 hbw hsw))
        have HZ6 : Hid (Zs w6 P (ps ++ [⟨some ⟨wr.heap.size, 0, none⟩, n, n, List.replicate n 0⟩])) := by
          have hRA : Row (w4.alloc (.cells #[.slice (some ⟨wr.heap.size, 0, none⟩) n n] 22)) P 22 A3 j c3 (cells_ ps) := World.ownsRow.alloc HR4.out _
          have key : ∀ g cs, Blk w4 g 5 cs → Blk w6 g 5 cs := fun g cs hB => (hB.alloc _).grown HG6.out (Row.notBlk hRA (hB.alloc _))
          intro p hp
          rcases List.mem_append.1 hp with hp | hp
          · exact (HZ4.out.map key) p hp
          · rw [List.mem_singleton.1 hp]
            exact ⟨rfl, rfl, (show n ≤ 5000 by omega), _, rfl, HZ3.out, key _ _ HB4.out⟩
        have HR6' : Hid (Row w6 P 22 A6 N c6 (cells_ (ps ++ [⟨some ⟨wr.heap.size, 0, none⟩, n, n, List.replicate n 0⟩]))) := by
          have := HR6.out
          show Row _ _ _ _ _ _ _
          rw [cells_, List.map_append]
          exact this
        have HB6 : Hid (Below P w2 w6) := HBW.out.trans HBE6.out
        have hF : ∀ fm' : Bool, (fm' = true ↔ (false = true ∧ (n : Int) = b)) → (fm' = true ↔ ∀ p ∈ ps ++ [(⟨some ⟨wr.heap.size, 0, none⟩, n, n, List.replicate n 0⟩ : Bt)], (p.n : Int) = b) := fun fm' h => by
          rw [h, HFM.out]
          constructor
          · rintro ⟨h1, h2⟩ p hp
            rcases List.mem_append.1 hp with hp | hp
            · exact h1 p hp
            · rw [List.mem_singleton.1 hp]; exact h2
          · intro h1
            exact ⟨fun p hp => h1 p (List.mem_append_left _ hp), h1 _ (List.mem_append_right _ (List.mem_singleton.2 rfl))⟩
        have HF := Lib.hid hF
        clear hF d1 r0 r1 r2 r3
        go_roundw
        case rel => exact ⟨N, A6, c6, _, _, by have := HN.out; omega, rfl, rfl, by rw [← HN.out]; go_num, HR6', HZ6, HF.out _ (by simp), HB6⟩
        case measure => simp [intOf]; have := HN.out; omega
      · go_wp2_with (first
          | ((with_reducible refine at_dst (some 44) ?_); refine wpList_makeNums (o := ⟨some 44, _, _, _, _, _⟩) rfl (.tmp 43) (.tmp 43) 22 5 rfl .u8 1 Tryd.underlying22 byteInfo (by omega) .i64 (n : Int) rfl rfl n rfl (by omega) ?_; intro w4 HB4 hb4 hlt4; have HR4 := Lib.hid (HR3.out.below hb4); have HZ4 := Lib.hid (HZS.out.below hb4); have hbw : Below P wr w4 := hb4.mono HZ3.out; have hsw : P ≤ w4.heap.size := Nat.le_trans HZ3.out hb4.size; have BK4 := Lib.hid (BKr.out.below hb4 BKr.out.lt); have HLT4 := Lib.hid HB4.out.lt; clear hb4 hlt4)
          | ((with_reducible refine at_dst (some 46) ?_); refine wpList_appSl (o := ⟨some 46, _, _, _, _, _⟩) rfl (.tmp 42) (.tmp 45) rfl hbw hsw (some ⟨wr.heap.size, 0, none⟩) n n rfl HR4.out rfl hj6 N HN.out ?_; intro A6 c6 w6 HR6 hbe6 hB6 HG6; have HBE6 := Lib.hid hbe6; have BK6 := Lib.hid (BKr.out.below hbe6 (by have := BK2.out.lt; have := HP.out; omega)); have d1 : w6.cell? ⟨w.heap.size, 1, none⟩ = some (.int .i64 b) := BK6.out.cell 1; clear hbe6 hB6 hbw hsw))
        have HZ6 : Hid (Zs w6 P (ps ++ [⟨some ⟨wr.heap.size, 0, none⟩, n, n, List.replicate n 0⟩])) := by
          have hRA : Row (w4.alloc (.cells #[.slice (some ⟨wr.heap.size, 0, none⟩) n n] 22)) P 22 A3 j c3 (cells_ ps) := World.ownsRow.alloc HR4.out _
          have key : ∀ g cs, Blk w4 g 5 cs → Blk w6 g 5 cs := fun g cs hB => (hB.alloc _).grown HG6.out (Row.notBlk hRA (hB.alloc _))
          intro p hp
          rcases List.mem_append.1 hp with hp | hp
          · exact (HZ4.out.map key) p hp
          · rw [List.mem_singleton.1 hp]
            exact ⟨rfl, rfl, (show n ≤ 5000 by omega), _, rfl, HZ3.out, key _ _ HB4.out⟩
        have HR6' : Hid (Row w6 P 22 A6 N c6 (cells_ (ps ++ [⟨some ⟨wr.heap.size, 0, none⟩, n, n, List.replicate n 0⟩]))) := by
          have := HR6.out
          show Row _ _ _ _ _ _ _
          rw [cells_, List.map_append]
          exact this
        have HB6 : Hid (Below P w2 w6) := HBW.out.trans HBE6.out
        have hF : ∀ fm' : Bool, (fm' = true ↔ (true = true ∧ (n : Int) = b)) → (fm' = true ↔ ∀ p ∈ ps ++ [(⟨some ⟨wr.heap.size, 0, none⟩, n, n, List.replicate n 0⟩ : Bt)], (p.n : Int) = b) := fun fm' h => by
          rw [h, HFM.out]
          constructor
          · rintro ⟨h1, h2⟩ p hp
            rcases List.mem_append.1 hp with hp | hp
            · exact h1 p hp
            · rw [List.mem_singleton.1 hp]; exact h2
          · intro h1
            exact ⟨fun p hp => h1 p (List.mem_append_left _ hp), h1 _ (List.mem_append_right _ (List.mem_singleton.2 rfl))⟩
        have HF := Lib.hid hF
        clear hF d1 r0 r1 r2 r3
        go_roundw
        case rel => exact ⟨N, A6, c6, _, _, by have := HN.out; omega, rfl, rfl, by rw [← HN.out]; go_num, HR6', HZ6, HF.out _ (by simp), HB6⟩
        case measure => simp [intOf]; have := HN.out; omega
    · obtain rfl : j = ni := by omega
      have zj : ¬ (j : Int) < j := by omega
      have HSZ : Hid (∀ w : World, Calls Tryd.prog 16 #[.int .i64 z] w fun e w' => e = .returned (.int .i64 (D : Int)) ∧ w = w') := fun w => by have := RefSize_any z w; rwa [HDD.out] at this
      have hls : Ls wr A3 j c3 ps := HZS.out.ls HR3.out
      have HLS := Lib.hid hls
      have hlb : ∀ p ∈ ps, p.n ≤ 5000 := fun p hp => (HZS.out p hp).2.2.1
      have HLB := Lib.hid hlb
      have hj20 : j ≤ 20 := by omega
      clear hls hlb
      go_wp2
      go_region_held3 (fun w' => w'.cell? ⟨w.heap.size, 3, none⟩ = some (.slice Ad nd cd) ∧ w'.cell? ⟨w.heap.size, 1, none⟩ = some (.int .i64 b) ∧ w'.cell? ⟨w.heap.size, 0, none⟩ = some (.int .i64 z)) (first | (refine ⟨?_, ?_, ?_⟩ <;> go_keep) | assumption) (first | (go_at_call 16; refine (HSZ.out _).mono ?_; rintro e w2 ⟨rfl, rfl⟩))
      all_goals
        have F15 : Below wr.heap.size wr (wr.alloc (.cells #[.int .i64 (nd : Int), .int .i64 b, .int .i64 (D : Int)] 32)).drew ∧ Blk (wr.alloc (.cells #[.int .i64 (nd : Int), .int .i64 b, .int .i64 (D : Int)] 32)).drew wr.heap.size 32 [.int .i64 (nd : Int), .int .i64 b, .int .i64 (D : Int)] := ⟨below_drew1 ((Below.refl _ _).alloc (Nat.le_refl _) _), Blk.new wr 32 [.int .i64 (nd : Int), .int .i64 b, .int .i64 (D : Int)]⟩
        generalize (wr.alloc (.cells #[.int .i64 (nd : Int), .int .i64 b, .int .i64 (D : Int)] 32)).drew = wy at F15 ⊢
        obtain ⟨hby, hsb⟩ := F15
        have BKwy := Lib.hid (BKr.out.below hby BKr.out.lt)
        have BELwy := Lib.hid (below_then HBEL.out hby)
        have HLSy := Lib.hid (HLS.out.below hby)
        obtain ⟨g, hg⟩ : ∃ g, wr.heap.size = g := ⟨_, rfl⟩
        rw [hg] at hsb ⊢
        have SBwy := Lib.hid hsb
        have wy0 : wy.cell? ⟨w.heap.size, 0, none⟩ = some (.int .i64 z) := BKwy.out.cell 0
        have wy1 : wy.cell? ⟨w.heap.size, 1, none⟩ = some (.int .i64 b) := BKwy.out.cell 1
        have wy2 : wy.cell? ⟨w.heap.size, 2, none⟩ = some (.slice A nA cA) := BKwy.out.cell 2
        have wys0 : wy.cell? ⟨g, 0, none⟩ = some (.int .i64 (nd : Int)) := SBwy.out.cell 0
        have wys1 : wy.cell? ⟨g, 1, none⟩ = some (.int .i64 b) := SBwy.out.cell 1
        have wys2 : wy.cell? ⟨g, 2, none⟩ = some (.int .i64 (D : Int)) := SBwy.out.cell 2
        clear hsb hby hg r0 r1 r2 r3
        have hsm3 := HSM.out
        have hD3 : D = 0 ∨ D = 32 ∨ D = 64 := by
          rw [← HDD.out]
          unfold sizeOfAlg
          repeat' split
          all_goals simp
        have hIn : I64 (nd : Int) := ⟨by omega, by omega⟩
        have hId : I64 (D : Int) := ⟨by omega, by omega⟩
        have HN1 := Lib.hid hIn
        have HN2 := Lib.hid hId
        clear hIn hId
        have HCN : Hid (∀ er : Int, climbNo z (nd : Int) b (D : Int) i nA j ps er → Calls Tryd.prog 20 #[.int .i64 z, .slice A nA cA, .agg #[.int .i64 (nd : Int), .int .i64 b, .int .i64 (D : Int)], .int .i64 i, .slice A3 j c3, .slice Ar nr cr] wy fun e w' => e = .returned (.int .i64 er) ∧ Below wy.heap.size wy w') := fun er hc => Climb_no z (nd : Int) b (D : Int) i A nA cA salt A3 j c3 ps Ar nr cr root er wy HZ.out HN1.out HIB.out HN2.out HII.out (HS0.out.below BELwy.out) HLSy.out (HR0.out.below BELwy.out) (by omega) (HTB.out.below BELwy.out) hc
        by_cases hD0 : D = 0
        · have HDz : Hid ((D : Int) = 0) := by show _ = _; omega
          have HD0 := Lib.hid hD0
          clear hD0 hD3
          go_wp2_with fail
          refine (HCN.out 20 (.inl ⟨by rw [HDD.out]; exact HD0.out, rfl⟩)).mono ?_
          rintro e wc ⟨rfl, hbwc⟩
          have BKwc := Lib.hid (BKwy.out.below hbwc BKwy.out.lt)
          have SBwc := Lib.hid (SBwy.out.below hbwc SBwy.out.lt)
          have BELwc := Lib.hid (below_then BELwy.out hbwc)
          have wc0 : wc.cell? ⟨w.heap.size, 0, none⟩ = some (.int .i64 z) := BKwc.out.cell 0
          have wc1 : wc.cell? ⟨w.heap.size, 1, none⟩ = some (.int .i64 b) := BKwc.out.cell 1
          have wc2 : wc.cell? ⟨w.heap.size, 2, none⟩ = some (.slice A nA cA) := BKwc.out.cell 2
          have wcs0 : wc.cell? ⟨g, 0, none⟩ = some (.int .i64 (nd : Int)) := SBwc.out.cell 0
          have wcs1 : wc.cell? ⟨g, 1, none⟩ = some (.int .i64 b) := SBwc.out.cell 1
          have wcs2 : wc.cell? ⟨g, 2, none⟩ = some (.int .i64 (D : Int)) := SBwc.out.cell 2
          clear hbwc wy0 wy1 wy2 wys0 wys1 wys2
          go_wp2_with fail
          refine (HSZ.out _).mono ?_
          rintro e _ ⟨rfl, rfl⟩
          have hDz := HDz.out
          go_wp2
          go_ret
          exact ⟨rfl, BELwc.out⟩
        have hDz : ¬ (D : Int) = 0 := by omega
        have hsz : sizeOfAlg z ≠ 0 := by rw [HDD.out]; exact hD0
        have HSN := Lib.hid hsz
        clear hsz
        by_cases h64 : 64 < nA
        · have z64 : (64 : Int) < nA := by omega
          go_wp2_with fail
          refine (HCN.out 11 (.inr (.inl ⟨HSN.out, h64, rfl⟩))).mono ?_
          rintro e wc ⟨rfl, hbwc⟩
          have BKwc := Lib.hid (BKwy.out.below hbwc BKwy.out.lt)
          have SBwc := Lib.hid (SBwy.out.below hbwc SBwy.out.lt)
          have BELwc := Lib.hid (below_then BELwy.out hbwc)
          have wc0 : wc.cell? ⟨w.heap.size, 0, none⟩ = some (.int .i64 z) := BKwc.out.cell 0
          have wc1 : wc.cell? ⟨w.heap.size, 1, none⟩ = some (.int .i64 b) := BKwc.out.cell 1
          have wc2 : wc.cell? ⟨w.heap.size, 2, none⟩ = some (.slice A nA cA) := BKwc.out.cell 2
          have wcs0 : wc.cell? ⟨g, 0, none⟩ = some (.int .i64 (nd : Int)) := SBwc.out.cell 0
          have wcs1 : wc.cell? ⟨g, 1, none⟩ = some (.int .i64 b) := SBwc.out.cell 1
          have wcs2 : wc.cell? ⟨g, 2, none⟩ = some (.int .i64 (D : Int)) := SBwc.out.cell 2
          clear hbwc wy0 wy1 wy2 wys0 wys1 wys2
          go_wp2_with fail
          refine (HSZ.out _).mono ?_
          rintro e _ ⟨rfl, rfl⟩
          go_wp2
          go_ret
          exact ⟨rfl, BELwc.out⟩
        have z64 : ¬ (64 : Int) < nA := by omega
        by_cases hRn : ¬ Rgt nd b D
        · go_wp2_with fail
          refine (HCN.out 24 (.inr (.inr (.inl ⟨HSN.out, by omega, .inl hRn, rfl⟩)))).mono ?_
          rintro e wc ⟨rfl, hbwc⟩
          have BKwc := Lib.hid (BKwy.out.below hbwc BKwy.out.lt)
          have SBwc := Lib.hid (SBwy.out.below hbwc SBwy.out.lt)
          have BELwc := Lib.hid (below_then BELwy.out hbwc)
          have wc0 : wc.cell? ⟨w.heap.size, 0, none⟩ = some (.int .i64 z) := BKwc.out.cell 0
          have wc1 : wc.cell? ⟨w.heap.size, 1, none⟩ = some (.int .i64 b) := BKwc.out.cell 1
          have wc2 : wc.cell? ⟨w.heap.size, 2, none⟩ = some (.slice A nA cA) := BKwc.out.cell 2
          have wcs0 : wc.cell? ⟨g, 0, none⟩ = some (.int .i64 (nd : Int)) := SBwc.out.cell 0
          have wcs1 : wc.cell? ⟨g, 1, none⟩ = some (.int .i64 b) := SBwc.out.cell 1
          have wcs2 : wc.cell? ⟨g, 2, none⟩ = some (.int .i64 (D : Int)) := SBwc.out.cell 2
          clear hbwc wy0 wy1 wy2 wys0 wys1 wys2
          go_wp2_with fail
          refine (HSZ.out _).mono ?_
          rintro e _ ⟨rfl, rfl⟩
          go_wp2_with fail
          refine (RefRight_any (nd : Int) b (D : Int) _).mono ?_
          rw [decide_eq_false hRn]
          rintro e wd ⟨rfl, hbwd⟩
          have BKwd := Lib.hid (BKwc.out.below hbwd BKwc.out.lt)
          have SBwd := Lib.hid (SBwc.out.below hbwd SBwc.out.lt)
          have BELwd := Lib.hid (below_then BELwc.out hbwd)
          have wd0 : wd.cell? ⟨w.heap.size, 0, none⟩ = some (.int .i64 z) := BKwd.out.cell 0
          have wd1 : wd.cell? ⟨w.heap.size, 1, none⟩ = some (.int .i64 b) := BKwd.out.cell 1
          have wd2 : wd.cell? ⟨w.heap.size, 2, none⟩ = some (.slice A nA cA) := BKwd.out.cell 2
          have wds0 : wd.cell? ⟨g, 0, none⟩ = some (.int .i64 (nd : Int)) := SBwd.out.cell 0
          have wds1 : wd.cell? ⟨g, 1, none⟩ = some (.int .i64 b) := SBwd.out.cell 1
          have wds2 : wd.cell? ⟨g, 2, none⟩ = some (.int .i64 (D : Int)) := SBwd.out.cell 2
          clear hbwd wc0 wc1 wc2 wcs0 wcs1 wcs2
          go_wp2
          go_ret
          exact ⟨rfl, BELwd.out⟩
        have hR := Decidable.not_not.1 hRn
        have HRG := Lib.hid hR
        obtain ⟨S, B, D', a, n, eS, rfl, eD, hShp⟩ := hR.shp
        obtain rfl : nd = S := by omega
        obtain rfl : D = D' := by omega
        have HSHP := Lib.hid hShp
        obtain ⟨m, hm⟩ : ∃ m, (cs a n).length = m := ⟨_, rfl⟩
        have HM := Lib.hid hm
        have hpos : 1 ≤ m := by rw [← hm]; exact List.length_pos_iff.2 (cnts_ne a 40 n)
        have h41 : m ≤ 41 := by rw [← hm]; exact cnts_len _ _ _
        have HDD2 : Hid ((D : Int) = (sizeOfAlg z : Nat)) := by show _ = _; rw [HDD.out]
        clear hShp hm hR hRn eS eD
        -- from the switch on: the size, the shape
        by_cases hi0 : i < 0
        · go_wp2_with fail
          refine (HCN.out 13 (.inr (.inr (.inr ⟨HSN.out, by omega, HDD2.out, nd, B, D, a, n, rfl, rfl, rfl, HSHP.out, .inl ⟨.inl hi0, rfl⟩⟩)))).mono ?_
          rintro e wc ⟨rfl, hbwc⟩
          have BKwc := Lib.hid (BKwy.out.below hbwc BKwy.out.lt)
          have SBwc := Lib.hid (SBwy.out.below hbwc SBwy.out.lt)
          have BELwc := Lib.hid (below_then BELwy.out hbwc)
          have wc0 : wc.cell? ⟨w.heap.size, 0, none⟩ = some (.int .i64 z) := BKwc.out.cell 0
          have wc1 : wc.cell? ⟨w.heap.size, 1, none⟩ = some (.int .i64 (B : Int)) := BKwc.out.cell 1
          have wc2 : wc.cell? ⟨w.heap.size, 2, none⟩ = some (.slice A nA cA) := BKwc.out.cell 2
          have wcs0 : wc.cell? ⟨g, 0, none⟩ = some (.int .i64 (nd : Int)) := SBwc.out.cell 0
          have wcs1 : wc.cell? ⟨g, 1, none⟩ = some (.int .i64 (B : Int)) := SBwc.out.cell 1
          have wcs2 : wc.cell? ⟨g, 2, none⟩ = some (.int .i64 (D : Int)) := SBwc.out.cell 2
          clear hbwc wy0 wy1 wy2 wys0 wys1 wys2
          go_wp2_with fail
          refine (HSZ.out _).mono ?_
          rintro e _ ⟨rfl, rfl⟩
          go_wp2_with fail
          refine (RefRight_any (nd : Int) (B : Int) (D : Int) _).mono ?_
          rw [decide_eq_true HRG.out]
          rintro e wd ⟨rfl, hbwd⟩
          have BKwd := Lib.hid (BKwc.out.below hbwd BKwc.out.lt)
          have SBwd := Lib.hid (SBwc.out.below hbwd SBwc.out.lt)
          have BELwd := Lib.hid (below_then BELwc.out hbwd)
          have wd0 : wd.cell? ⟨w.heap.size, 0, none⟩ = some (.int .i64 z) := BKwd.out.cell 0
          have wd1 : wd.cell? ⟨w.heap.size, 1, none⟩ = some (.int .i64 (B : Int)) := BKwd.out.cell 1
          have wd2 : wd.cell? ⟨w.heap.size, 2, none⟩ = some (.slice A nA cA) := BKwd.out.cell 2
          have wds0 : wd.cell? ⟨g, 0, none⟩ = some (.int .i64 (nd : Int)) := SBwd.out.cell 0
          have wds1 : wd.cell? ⟨g, 1, none⟩ = some (.int .i64 (B : Int)) := SBwd.out.cell 1
          have wds2 : wd.cell? ⟨g, 2, none⟩ = some (.int .i64 (D : Int)) := SBwd.out.cell 2
          clear hbwd wc0 wc1 wc2 wcs0 wcs1 wcs2
          go_wp2
          go_ret
          exact ⟨rfl, BELwd.out⟩
        obtain ⟨k, rfl⟩ : ∃ k : Nat, i = k := ⟨i.toNat, by omega⟩
        have zi0 : ¬ ((k : Int) < 0) := by omega
        by_cases hin : n ≤ k
        · have zin : (n : Int) ≤ k := by omega
          go_wp2_with fail
          refine (HCN.out 13 (.inr (.inr (.inr ⟨HSN.out, by omega, HDD2.out, nd, B, D, a, n, rfl, rfl, rfl, HSHP.out, .inl ⟨.inr zin, rfl⟩⟩)))).mono ?_
          rintro e wc ⟨rfl, hbwc⟩
          have BKwc := Lib.hid (BKwy.out.below hbwc BKwy.out.lt)
          have SBwc := Lib.hid (SBwy.out.below hbwc SBwy.out.lt)
          have BELwc := Lib.hid (below_then BELwy.out hbwc)
          have wc0 : wc.cell? ⟨w.heap.size, 0, none⟩ = some (.int .i64 z) := BKwc.out.cell 0
          have wc1 : wc.cell? ⟨w.heap.size, 1, none⟩ = some (.int .i64 (B : Int)) := BKwc.out.cell 1
          have wc2 : wc.cell? ⟨w.heap.size, 2, none⟩ = some (.slice A nA cA) := BKwc.out.cell 2
          have wcs0 : wc.cell? ⟨g, 0, none⟩ = some (.int .i64 (nd : Int)) := SBwc.out.cell 0
          have wcs1 : wc.cell? ⟨g, 1, none⟩ = some (.int .i64 (B : Int)) := SBwc.out.cell 1
          have wcs2 : wc.cell? ⟨g, 2, none⟩ = some (.int .i64 (D : Int)) := SBwc.out.cell 2
          clear hbwc wy0 wy1 wy2 wys0 wys1 wys2
          go_wp2_with fail
          refine (HSZ.out _).mono ?_
          rintro e _ ⟨rfl, rfl⟩
          go_wp2_with fail
          refine (RefRight_any (nd : Int) (B : Int) (D : Int) _).mono ?_
          rw [decide_eq_true HRG.out]
          rintro e wd ⟨rfl, hbwd⟩
          have BKwd := Lib.hid (BKwc.out.below hbwd BKwc.out.lt)
          have SBwd := Lib.hid (SBwc.out.below hbwd SBwc.out.lt)
          have BELwd := Lib.hid (below_then BELwc.out hbwd)
          have wd0 : wd.cell? ⟨w.heap.size, 0, none⟩ = some (.int .i64 z) := BKwd.out.cell 0
          have wd1 : wd.cell? ⟨w.heap.size, 1, none⟩ = some (.int .i64 (B : Int)) := BKwd.out.cell 1
          have wd2 : wd.cell? ⟨w.heap.size, 2, none⟩ = some (.slice A nA cA) := BKwd.out.cell 2
          have wds0 : wd.cell? ⟨g, 0, none⟩ = some (.int .i64 (nd : Int)) := SBwd.out.cell 0
          have wds1 : wd.cell? ⟨g, 1, none⟩ = some (.int .i64 (B : Int)) := SBwd.out.cell 1
          have wds2 : wd.cell? ⟨g, 2, none⟩ = some (.int .i64 (D : Int)) := SBwd.out.cell 2
          clear hbwd wc0 wc1 wc2 wcs0 wcs1 wcs2
          go_wp2_with fail
          refine (RefCounts_any nd B D a n wd HSHP.out).mono ?_
          rintro e we ⟨Awe, mwe, cwe, rfl, hrowwe, hbwe⟩
          obtain rfl : mwe = m := by rw [← HM.out]; have := hrowwe.length; rw [cn_length] at this; exact this.symm
          obtain ⟨gwe, rfl, _, _, hcswe⟩ := hrowwe.cells (by omega)
          have hnwe : we.cell? ⟨gwe, 0, none⟩ = some (.int .i64 (n : Int)) := hcswe 0 _ (cn_get (cs_get (by rw [HM.out]; omega)))
          have BKwe := Lib.hid (BKwd.out.below hbwe BKwd.out.lt)
          have SBwe := Lib.hid (SBwd.out.below hbwe SBwd.out.lt)
          have BELwe := Lib.hid (below_then BELwd.out hbwe)
          have we0 : we.cell? ⟨w.heap.size, 0, none⟩ = some (.int .i64 z) := BKwe.out.cell 0
          have we1 : we.cell? ⟨w.heap.size, 1, none⟩ = some (.int .i64 (B : Int)) := BKwe.out.cell 1
          have we2 : we.cell? ⟨w.heap.size, 2, none⟩ = some (.slice A nA cA) := BKwe.out.cell 2
          have wes0 : we.cell? ⟨g, 0, none⟩ = some (.int .i64 (nd : Int)) := SBwe.out.cell 0
          have wes1 : we.cell? ⟨g, 1, none⟩ = some (.int .i64 (B : Int)) := SBwe.out.cell 1
          have wes2 : we.cell? ⟨g, 2, none⟩ = some (.int .i64 (D : Int)) := SBwe.out.cell 2
          clear hbwe wd0 wd1 wd2 wds0 wds1 wds2
          clear hrowwe hcswe
          go_wp2
          go_ret
          exact ⟨rfl, BELwe.out⟩
        have zin : ¬ (n : Int) ≤ k := by omega
        have HFN : Hid (fm = false → ∃ p ∈ ps, p.n ≠ B) := fun h => by
          have h1 := HFM.out
          rw [h] at h1
          have h2 : ¬ ∀ p ∈ ps, (p.n : Int) = (B : Int) := fun h3 => absurd (h1.2 h3) (by decide)
          exact Classical.byContradiction fun h4 => h2 fun p hp => by
            have : p.n = B := Classical.byContradiction fun h5 => h4 ⟨p, hp, h5⟩
            omega
        cases fm
        · go_wp2_with fail
          refine (HCN.out 12 (.inr (.inr (.inr ⟨HSN.out, by omega, HDD2.out, nd, B, D, a, n, rfl, rfl, rfl, HSHP.out, .inr ⟨by omega, by omega, .inr (HFN.out (by trivial)), rfl⟩⟩)))).mono ?_
          rintro e wc ⟨rfl, hbwc⟩
          have BKwc := Lib.hid (BKwy.out.below hbwc BKwy.out.lt)
          have SBwc := Lib.hid (SBwy.out.below hbwc SBwy.out.lt)
          have BELwc := Lib.hid (below_then BELwy.out hbwc)
          have wc0 : wc.cell? ⟨w.heap.size, 0, none⟩ = some (.int .i64 z) := BKwc.out.cell 0
          have wc1 : wc.cell? ⟨w.heap.size, 1, none⟩ = some (.int .i64 (B : Int)) := BKwc.out.cell 1
          have wc2 : wc.cell? ⟨w.heap.size, 2, none⟩ = some (.slice A nA cA) := BKwc.out.cell 2
          have wcs0 : wc.cell? ⟨g, 0, none⟩ = some (.int .i64 (nd : Int)) := SBwc.out.cell 0
          have wcs1 : wc.cell? ⟨g, 1, none⟩ = some (.int .i64 (B : Int)) := SBwc.out.cell 1
          have wcs2 : wc.cell? ⟨g, 2, none⟩ = some (.int .i64 (D : Int)) := SBwc.out.cell 2
          clear hbwc wy0 wy1 wy2 wys0 wys1 wys2
          go_wp2_with fail
          refine (HSZ.out _).mono ?_
          rintro e _ ⟨rfl, rfl⟩
          go_wp2_with fail
          refine (RefRight_any (nd : Int) (B : Int) (D : Int) _).mono ?_
          rw [decide_eq_true HRG.out]
          rintro e wd ⟨rfl, hbwd⟩
          have BKwd := Lib.hid (BKwc.out.below hbwd BKwc.out.lt)
          have SBwd := Lib.hid (SBwc.out.below hbwd SBwc.out.lt)
          have BELwd := Lib.hid (below_then BELwc.out hbwd)
          have wd0 : wd.cell? ⟨w.heap.size, 0, none⟩ = some (.int .i64 z) := BKwd.out.cell 0
          have wd1 : wd.cell? ⟨w.heap.size, 1, none⟩ = some (.int .i64 (B : Int)) := BKwd.out.cell 1
          have wd2 : wd.cell? ⟨w.heap.size, 2, none⟩ = some (.slice A nA cA) := BKwd.out.cell 2
          have wds0 : wd.cell? ⟨g, 0, none⟩ = some (.int .i64 (nd : Int)) := SBwd.out.cell 0
          have wds1 : wd.cell? ⟨g, 1, none⟩ = some (.int .i64 (B : Int)) := SBwd.out.cell 1
          have wds2 : wd.cell? ⟨g, 2, none⟩ = some (.int .i64 (D : Int)) := SBwd.out.cell 2
          clear hbwd wc0 wc1 wc2 wcs0 wcs1 wcs2
          go_wp2_with fail
          refine (RefCounts_any nd B D a n wd HSHP.out).mono ?_
          rintro e we ⟨Awe, mwe, cwe, rfl, hrowwe, hbwe⟩
          obtain rfl : mwe = m := by rw [← HM.out]; have := hrowwe.length; rw [cn_length] at this; exact this.symm
          obtain ⟨gwe, rfl, _, _, hcswe⟩ := hrowwe.cells (by omega)
          have hnwe : we.cell? ⟨gwe, 0, none⟩ = some (.int .i64 (n : Int)) := hcswe 0 _ (cn_get (cs_get (by rw [HM.out]; omega)))
          have BKwe := Lib.hid (BKwd.out.below hbwe BKwd.out.lt)
          have SBwe := Lib.hid (SBwd.out.below hbwe SBwd.out.lt)
          have BELwe := Lib.hid (below_then BELwd.out hbwe)
          have we0 : we.cell? ⟨w.heap.size, 0, none⟩ = some (.int .i64 z) := BKwe.out.cell 0
          have we1 : we.cell? ⟨w.heap.size, 1, none⟩ = some (.int .i64 (B : Int)) := BKwe.out.cell 1
          have we2 : we.cell? ⟨w.heap.size, 2, none⟩ = some (.slice A nA cA) := BKwe.out.cell 2
          have wes0 : we.cell? ⟨g, 0, none⟩ = some (.int .i64 (nd : Int)) := SBwe.out.cell 0
          have wes1 : we.cell? ⟨g, 1, none⟩ = some (.int .i64 (B : Int)) := SBwe.out.cell 1
          have wes2 : we.cell? ⟨g, 2, none⟩ = some (.int .i64 (D : Int)) := SBwe.out.cell 2
          clear hbwe wd0 wd1 wd2 wds0 wds1 wds2
          clear hrowwe hcswe
          go_wp2
          go_ret
          exact ⟨rfl, BELwe.out⟩
        by_cases hjn : ¬ j = m
        · have zjm : ((j : Int) != (m : Int)) = true := by simpa using (show ¬ (j : Int) = m by omega)
          have zjm2 : ¬ (j : Int) = m := by omega
          go_wp2_with fail
          refine (HCN.out 12 (.inr (.inr (.inr ⟨HSN.out, by omega, HDD2.out, nd, B, D, a, n, rfl, rfl, rfl, HSHP.out, .inr ⟨by omega, by omega, .inl (by rw [HM.out]; exact hjn), rfl⟩⟩)))).mono ?_
          rintro e wc ⟨rfl, hbwc⟩
          have BKwc := Lib.hid (BKwy.out.below hbwc BKwy.out.lt)
          have SBwc := Lib.hid (SBwy.out.below hbwc SBwy.out.lt)
          have BELwc := Lib.hid (below_then BELwy.out hbwc)
          have wc0 : wc.cell? ⟨w.heap.size, 0, none⟩ = some (.int .i64 z) := BKwc.out.cell 0
          have wc1 : wc.cell? ⟨w.heap.size, 1, none⟩ = some (.int .i64 (B : Int)) := BKwc.out.cell 1
          have wc2 : wc.cell? ⟨w.heap.size, 2, none⟩ = some (.slice A nA cA) := BKwc.out.cell 2
          have wcs0 : wc.cell? ⟨g, 0, none⟩ = some (.int .i64 (nd : Int)) := SBwc.out.cell 0
          have wcs1 : wc.cell? ⟨g, 1, none⟩ = some (.int .i64 (B : Int)) := SBwc.out.cell 1
          have wcs2 : wc.cell? ⟨g, 2, none⟩ = some (.int .i64 (D : Int)) := SBwc.out.cell 2
          clear hbwc wy0 wy1 wy2 wys0 wys1 wys2
          go_wp2_with fail
          refine (HSZ.out _).mono ?_
          rintro e _ ⟨rfl, rfl⟩
          go_wp2_with fail
          refine (RefRight_any (nd : Int) (B : Int) (D : Int) _).mono ?_
          rw [decide_eq_true HRG.out]
          rintro e wd ⟨rfl, hbwd⟩
          have BKwd := Lib.hid (BKwc.out.below hbwd BKwc.out.lt)
          have SBwd := Lib.hid (SBwc.out.below hbwd SBwc.out.lt)
          have BELwd := Lib.hid (below_then BELwc.out hbwd)
          have wd0 : wd.cell? ⟨w.heap.size, 0, none⟩ = some (.int .i64 z) := BKwd.out.cell 0
          have wd1 : wd.cell? ⟨w.heap.size, 1, none⟩ = some (.int .i64 (B : Int)) := BKwd.out.cell 1
          have wd2 : wd.cell? ⟨w.heap.size, 2, none⟩ = some (.slice A nA cA) := BKwd.out.cell 2
          have wds0 : wd.cell? ⟨g, 0, none⟩ = some (.int .i64 (nd : Int)) := SBwd.out.cell 0
          have wds1 : wd.cell? ⟨g, 1, none⟩ = some (.int .i64 (B : Int)) := SBwd.out.cell 1
          have wds2 : wd.cell? ⟨g, 2, none⟩ = some (.int .i64 (D : Int)) := SBwd.out.cell 2
          clear hbwd wc0 wc1 wc2 wcs0 wcs1 wcs2
          go_wp2_with fail
          refine (RefCounts_any nd B D a n wd HSHP.out).mono ?_
          rintro e we ⟨Awe, mwe, cwe, rfl, hrowwe, hbwe⟩
          obtain rfl : mwe = m := by rw [← HM.out]; have := hrowwe.length; rw [cn_length] at this; exact this.symm
          obtain ⟨gwe, rfl, _, _, hcswe⟩ := hrowwe.cells (by omega)
          have hnwe : we.cell? ⟨gwe, 0, none⟩ = some (.int .i64 (n : Int)) := hcswe 0 _ (cn_get (cs_get (by rw [HM.out]; omega)))
          have BKwe := Lib.hid (BKwd.out.below hbwe BKwd.out.lt)
          have SBwe := Lib.hid (SBwd.out.below hbwe SBwd.out.lt)
          have BELwe := Lib.hid (below_then BELwd.out hbwe)
          have we0 : we.cell? ⟨w.heap.size, 0, none⟩ = some (.int .i64 z) := BKwe.out.cell 0
          have we1 : we.cell? ⟨w.heap.size, 1, none⟩ = some (.int .i64 (B : Int)) := BKwe.out.cell 1
          have we2 : we.cell? ⟨w.heap.size, 2, none⟩ = some (.slice A nA cA) := BKwe.out.cell 2
          have wes0 : we.cell? ⟨g, 0, none⟩ = some (.int .i64 (nd : Int)) := SBwe.out.cell 0
          have wes1 : we.cell? ⟨g, 1, none⟩ = some (.int .i64 (B : Int)) := SBwe.out.cell 1
          have wes2 : we.cell? ⟨g, 2, none⟩ = some (.int .i64 (D : Int)) := SBwe.out.cell 2
          clear hbwe wd0 wd1 wd2 wds0 wds1 wds2
          clear hrowwe hcswe
          go_wp2_with fail
          refine (RefCounts_any nd B D a n we HSHP.out).mono ?_
          rintro e wf ⟨Awf, mwf, cwf, rfl, hrowwf, hbwf⟩
          obtain rfl : mwf = mwe := by rw [← HM.out]; have := hrowwf.length; rw [cn_length] at this; exact this.symm
          obtain ⟨gwf, rfl, _, _, hcswf⟩ := hrowwf.cells (by omega)
          have hnwf : wf.cell? ⟨gwf, 0, none⟩ = some (.int .i64 (n : Int)) := hcswf 0 _ (cn_get (cs_get (by rw [HM.out]; omega)))
          have BKwf := Lib.hid (BKwe.out.below hbwf BKwe.out.lt)
          have SBwf := Lib.hid (SBwe.out.below hbwf SBwe.out.lt)
          have BELwf := Lib.hid (below_then BELwe.out hbwf)
          have wf0 : wf.cell? ⟨w.heap.size, 0, none⟩ = some (.int .i64 z) := BKwf.out.cell 0
          have wf1 : wf.cell? ⟨w.heap.size, 1, none⟩ = some (.int .i64 (B : Int)) := BKwf.out.cell 1
          have wf2 : wf.cell? ⟨w.heap.size, 2, none⟩ = some (.slice A nA cA) := BKwf.out.cell 2
          have wfs0 : wf.cell? ⟨g, 0, none⟩ = some (.int .i64 (nd : Int)) := SBwf.out.cell 0
          have wfs1 : wf.cell? ⟨g, 1, none⟩ = some (.int .i64 (B : Int)) := SBwf.out.cell 1
          have wfs2 : wf.cell? ⟨g, 2, none⟩ = some (.int .i64 (D : Int)) := SBwf.out.cell 2
          clear hbwf we0 we1 we2 wes0 wes1 wes2
          clear hrowwf hcswf
          go_wp2
          go_ret
          exact ⟨rfl, BELwf.out⟩
        have hjm := Decidable.not_not.1 hjn
        clear hjn
        subst hjm
        have HFB : Hid (∀ p ∈ ps, p.n = B) := fun p hp => by have := HFM.out.1 rfl p hp; omega
        obtain ⟨s, rfl, hs12⟩ : ∃ s : Nat, z = s ∧ (s = 1 ∨ s = 2) := algYes (by rw [HDD.out]; omega)
        obtain ⟨er, _, _, hcl, hcall⟩ := climb_any s nd B D a n k A nA cA salt A3 j c3 ps Ar nr cr root wy HSHP.out hs12 HDD.out (HS0.out.below BELwy.out) (by omega) HLSy.out (HR0.out.below BELwy.out) (by omega) (by omega) (HTB.out.below BELwy.out)
        have hcl2 := hcl HM.out.symm HFB.out
        have hcall2 := hcall wy (Below.refl _ _)
        have her : er = 54 ∨ er = 51 ∨ er = 0 := by
          rcases hcl2 with ⟨_, h⟩ | ⟨_, _, h⟩ | ⟨_, _, h⟩
          · exact .inl h
          · exact .inr (.inl h)
          · exact .inr (.inr h)
        have HCL := Lib.hid hcall2
        clear hcl hcall hcl2 hcall2
        rcases her with rfl | rfl | rfl
        · go_wp2_with fail
          refine HCL.out.mono ?_
          rintro e wc ⟨rfl, hbwc⟩
          have BKwc := Lib.hid (BKwy.out.below hbwc BKwy.out.lt)
          have SBwc := Lib.hid (SBwy.out.below hbwc SBwy.out.lt)
          have BELwc := Lib.hid (below_then BELwy.out hbwc)
          have wc0 : wc.cell? ⟨w.heap.size, 0, none⟩ = some (.int .i64 (s : Int)) := BKwc.out.cell 0
          have wc1 : wc.cell? ⟨w.heap.size, 1, none⟩ = some (.int .i64 (B : Int)) := BKwc.out.cell 1
          have wc2 : wc.cell? ⟨w.heap.size, 2, none⟩ = some (.slice A nA cA) := BKwc.out.cell 2
          have wcs0 : wc.cell? ⟨g, 0, none⟩ = some (.int .i64 (nd : Int)) := SBwc.out.cell 0
          have wcs1 : wc.cell? ⟨g, 1, none⟩ = some (.int .i64 (B : Int)) := SBwc.out.cell 1
          have wcs2 : wc.cell? ⟨g, 2, none⟩ = some (.int .i64 (D : Int)) := SBwc.out.cell 2
          clear hbwc wy0 wy1 wy2 wys0 wys1 wys2
          go_wp2_with fail
          refine (HSZ.out _).mono ?_
          rintro e _ ⟨rfl, rfl⟩
          go_wp2_with fail
          refine (RefRight_any (nd : Int) (B : Int) (D : Int) _).mono ?_
          rw [decide_eq_true HRG.out]
          rintro e wd ⟨rfl, hbwd⟩
          have BKwd := Lib.hid (BKwc.out.below hbwd BKwc.out.lt)
          have SBwd := Lib.hid (SBwc.out.below hbwd SBwc.out.lt)
          have BELwd := Lib.hid (below_then BELwc.out hbwd)
          have wd0 : wd.cell? ⟨w.heap.size, 0, none⟩ = some (.int .i64 (s : Int)) := BKwd.out.cell 0
          have wd1 : wd.cell? ⟨w.heap.size, 1, none⟩ = some (.int .i64 (B : Int)) := BKwd.out.cell 1
          have wd2 : wd.cell? ⟨w.heap.size, 2, none⟩ = some (.slice A nA cA) := BKwd.out.cell 2
          have wds0 : wd.cell? ⟨g, 0, none⟩ = some (.int .i64 (nd : Int)) := SBwd.out.cell 0
          have wds1 : wd.cell? ⟨g, 1, none⟩ = some (.int .i64 (B : Int)) := SBwd.out.cell 1
          have wds2 : wd.cell? ⟨g, 2, none⟩ = some (.int .i64 (D : Int)) := SBwd.out.cell 2
          clear hbwd wc0 wc1 wc2 wcs0 wcs1 wcs2
          go_wp2_with fail
          refine (RefCounts_any nd B D a n wd HSHP.out).mono ?_
          rintro e we ⟨Awe, mwe, cwe, rfl, hrowwe, hbwe⟩
          obtain rfl : mwe = j := by rw [← HM.out]; have := hrowwe.length; rw [cn_length] at this; exact this.symm
          obtain ⟨gwe, rfl, _, _, hcswe⟩ := hrowwe.cells (by omega)
          have hnwe : we.cell? ⟨gwe, 0, none⟩ = some (.int .i64 (n : Int)) := hcswe 0 _ (cn_get (cs_get (by rw [HM.out]; omega)))
          have BKwe := Lib.hid (BKwd.out.below hbwe BKwd.out.lt)
          have SBwe := Lib.hid (SBwd.out.below hbwe SBwd.out.lt)
          have BELwe := Lib.hid (below_then BELwd.out hbwe)
          have we0 : we.cell? ⟨w.heap.size, 0, none⟩ = some (.int .i64 (s : Int)) := BKwe.out.cell 0
          have we1 : we.cell? ⟨w.heap.size, 1, none⟩ = some (.int .i64 (B : Int)) := BKwe.out.cell 1
          have we2 : we.cell? ⟨w.heap.size, 2, none⟩ = some (.slice A nA cA) := BKwe.out.cell 2
          have wes0 : we.cell? ⟨g, 0, none⟩ = some (.int .i64 (nd : Int)) := SBwe.out.cell 0
          have wes1 : we.cell? ⟨g, 1, none⟩ = some (.int .i64 (B : Int)) := SBwe.out.cell 1
          have wes2 : we.cell? ⟨g, 2, none⟩ = some (.int .i64 (D : Int)) := SBwe.out.cell 2
          clear hbwe wd0 wd1 wd2 wds0 wds1 wds2
          clear hrowwe hcswe
          go_wp2_with fail
          refine (RefCounts_any nd B D a n we HSHP.out).mono ?_
          rintro e wf ⟨Awf, mwf, cwf, rfl, hrowwf, hbwf⟩
          obtain rfl : mwf = mwe := by rw [← HM.out]; have := hrowwf.length; rw [cn_length] at this; exact this.symm
          obtain ⟨gwf, rfl, _, _, hcswf⟩ := hrowwf.cells (by omega)
          have hnwf : wf.cell? ⟨gwf, 0, none⟩ = some (.int .i64 (n : Int)) := hcswf 0 _ (cn_get (cs_get (by rw [HM.out]; omega)))
          have BKwf := Lib.hid (BKwe.out.below hbwf BKwe.out.lt)
          have SBwf := Lib.hid (SBwe.out.below hbwf SBwe.out.lt)
          have BELwf := Lib.hid (below_then BELwe.out hbwf)
          have wf0 : wf.cell? ⟨w.heap.size, 0, none⟩ = some (.int .i64 (s : Int)) := BKwf.out.cell 0
          have wf1 : wf.cell? ⟨w.heap.size, 1, none⟩ = some (.int .i64 (B : Int)) := BKwf.out.cell 1
          have wf2 : wf.cell? ⟨w.heap.size, 2, none⟩ = some (.slice A nA cA) := BKwf.out.cell 2
          have wfs0 : wf.cell? ⟨g, 0, none⟩ = some (.int .i64 (nd : Int)) := SBwf.out.cell 0
          have wfs1 : wf.cell? ⟨g, 1, none⟩ = some (.int .i64 (B : Int)) := SBwf.out.cell 1
          have wfs2 : wf.cell? ⟨g, 2, none⟩ = some (.int .i64 (D : Int)) := SBwf.out.cell 2
          clear hbwf we0 we1 we2 wes0 wes1 wes2
          clear hrowwf hcswf
          go_wp2
          go_ret
          exact ⟨rfl, BELwf.out⟩
        · go_wp2_with fail
          refine HCL.out.mono ?_
          rintro e wc ⟨rfl, hbwc⟩
          have BKwc := Lib.hid (BKwy.out.below hbwc BKwy.out.lt)
          have SBwc := Lib.hid (SBwy.out.below hbwc SBwy.out.lt)
          have BELwc := Lib.hid (below_then BELwy.out hbwc)
          have wc0 : wc.cell? ⟨w.heap.size, 0, none⟩ = some (.int .i64 (s : Int)) := BKwc.out.cell 0
          have wc1 : wc.cell? ⟨w.heap.size, 1, none⟩ = some (.int .i64 (B : Int)) := BKwc.out.cell 1
          have wc2 : wc.cell? ⟨w.heap.size, 2, none⟩ = some (.slice A nA cA) := BKwc.out.cell 2
          have wcs0 : wc.cell? ⟨g, 0, none⟩ = some (.int .i64 (nd : Int)) := SBwc.out.cell 0
          have wcs1 : wc.cell? ⟨g, 1, none⟩ = some (.int .i64 (B : Int)) := SBwc.out.cell 1
          have wcs2 : wc.cell? ⟨g, 2, none⟩ = some (.int .i64 (D : Int)) := SBwc.out.cell 2
          clear hbwc wy0 wy1 wy2 wys0 wys1 wys2
          go_wp2_with fail
          refine (HSZ.out _).mono ?_
          rintro e _ ⟨rfl, rfl⟩
          go_wp2_with fail
          refine (RefRight_any (nd : Int) (B : Int) (D : Int) _).mono ?_
          rw [decide_eq_true HRG.out]
          rintro e wd ⟨rfl, hbwd⟩
          have BKwd := Lib.hid (BKwc.out.below hbwd BKwc.out.lt)
          have SBwd := Lib.hid (SBwc.out.below hbwd SBwc.out.lt)
          have BELwd := Lib.hid (below_then BELwc.out hbwd)
          have wd0 : wd.cell? ⟨w.heap.size, 0, none⟩ = some (.int .i64 (s : Int)) := BKwd.out.cell 0
          have wd1 : wd.cell? ⟨w.heap.size, 1, none⟩ = some (.int .i64 (B : Int)) := BKwd.out.cell 1
          have wd2 : wd.cell? ⟨w.heap.size, 2, none⟩ = some (.slice A nA cA) := BKwd.out.cell 2
          have wds0 : wd.cell? ⟨g, 0, none⟩ = some (.int .i64 (nd : Int)) := SBwd.out.cell 0
          have wds1 : wd.cell? ⟨g, 1, none⟩ = some (.int .i64 (B : Int)) := SBwd.out.cell 1
          have wds2 : wd.cell? ⟨g, 2, none⟩ = some (.int .i64 (D : Int)) := SBwd.out.cell 2
          clear hbwd wc0 wc1 wc2 wcs0 wcs1 wcs2
          go_wp2_with fail
          refine (RefCounts_any nd B D a n wd HSHP.out).mono ?_
          rintro e we ⟨Awe, mwe, cwe, rfl, hrowwe, hbwe⟩
          obtain rfl : mwe = j := by rw [← HM.out]; have := hrowwe.length; rw [cn_length] at this; exact this.symm
          obtain ⟨gwe, rfl, _, _, hcswe⟩ := hrowwe.cells (by omega)
          have hnwe : we.cell? ⟨gwe, 0, none⟩ = some (.int .i64 (n : Int)) := hcswe 0 _ (cn_get (cs_get (by rw [HM.out]; omega)))
          have BKwe := Lib.hid (BKwd.out.below hbwe BKwd.out.lt)
          have SBwe := Lib.hid (SBwd.out.below hbwe SBwd.out.lt)
          have BELwe := Lib.hid (below_then BELwd.out hbwe)
          have we0 : we.cell? ⟨w.heap.size, 0, none⟩ = some (.int .i64 (s : Int)) := BKwe.out.cell 0
          have we1 : we.cell? ⟨w.heap.size, 1, none⟩ = some (.int .i64 (B : Int)) := BKwe.out.cell 1
          have we2 : we.cell? ⟨w.heap.size, 2, none⟩ = some (.slice A nA cA) := BKwe.out.cell 2
          have wes0 : we.cell? ⟨g, 0, none⟩ = some (.int .i64 (nd : Int)) := SBwe.out.cell 0
          have wes1 : we.cell? ⟨g, 1, none⟩ = some (.int .i64 (B : Int)) := SBwe.out.cell 1
          have wes2 : we.cell? ⟨g, 2, none⟩ = some (.int .i64 (D : Int)) := SBwe.out.cell 2
          clear hbwe wd0 wd1 wd2 wds0 wds1 wds2
          clear hrowwe hcswe
          go_wp2_with fail
          refine (RefCounts_any nd B D a n we HSHP.out).mono ?_
          rintro e wf ⟨Awf, mwf, cwf, rfl, hrowwf, hbwf⟩
          obtain rfl : mwf = mwe := by rw [← HM.out]; have := hrowwf.length; rw [cn_length] at this; exact this.symm
          obtain ⟨gwf, rfl, _, _, hcswf⟩ := hrowwf.cells (by omega)
          have hnwf : wf.cell? ⟨gwf, 0, none⟩ = some (.int .i64 (n : Int)) := hcswf 0 _ (cn_get (cs_get (by rw [HM.out]; omega)))
          have BKwf := Lib.hid (BKwe.out.below hbwf BKwe.out.lt)
          have SBwf := Lib.hid (SBwe.out.below hbwf SBwe.out.lt)
          have BELwf := Lib.hid (below_then BELwe.out hbwf)
          have wf0 : wf.cell? ⟨w.heap.size, 0, none⟩ = some (.int .i64 (s : Int)) := BKwf.out.cell 0
          have wf1 : wf.cell? ⟨w.heap.size, 1, none⟩ = some (.int .i64 (B : Int)) := BKwf.out.cell 1
          have wf2 : wf.cell? ⟨w.heap.size, 2, none⟩ = some (.slice A nA cA) := BKwf.out.cell 2
          have wfs0 : wf.cell? ⟨g, 0, none⟩ = some (.int .i64 (nd : Int)) := SBwf.out.cell 0
          have wfs1 : wf.cell? ⟨g, 1, none⟩ = some (.int .i64 (B : Int)) := SBwf.out.cell 1
          have wfs2 : wf.cell? ⟨g, 2, none⟩ = some (.int .i64 (D : Int)) := SBwf.out.cell 2
          clear hbwf we0 we1 we2 wes0 wes1 wes2
          clear hrowwf hcswf
          go_wp2
          go_ret
          exact ⟨rfl, BELwf.out⟩
        · go_wp2_with fail
          refine HCL.out.mono ?_
          rintro e wc ⟨rfl, hbwc⟩
          have BKwc := Lib.hid (BKwy.out.below hbwc BKwy.out.lt)
          have SBwc := Lib.hid (SBwy.out.below hbwc SBwy.out.lt)
          have BELwc := Lib.hid (below_then BELwy.out hbwc)
          have wc0 : wc.cell? ⟨w.heap.size, 0, none⟩ = some (.int .i64 (s : Int)) := BKwc.out.cell 0
          have wc1 : wc.cell? ⟨w.heap.size, 1, none⟩ = some (.int .i64 (B : Int)) := BKwc.out.cell 1
          have wc2 : wc.cell? ⟨w.heap.size, 2, none⟩ = some (.slice A nA cA) := BKwc.out.cell 2
          have wcs0 : wc.cell? ⟨g, 0, none⟩ = some (.int .i64 (nd : Int)) := SBwc.out.cell 0
          have wcs1 : wc.cell? ⟨g, 1, none⟩ = some (.int .i64 (B : Int)) := SBwc.out.cell 1
          have wcs2 : wc.cell? ⟨g, 2, none⟩ = some (.int .i64 (D : Int)) := SBwc.out.cell 2
          clear hbwc wy0 wy1 wy2 wys0 wys1 wys2
          go_wp2_with fail
          refine (HSZ.out _).mono ?_
          rintro e _ ⟨rfl, rfl⟩
          go_wp2_with fail
          refine (RefRight_any (nd : Int) (B : Int) (D : Int) _).mono ?_
          rw [decide_eq_true HRG.out]
          rintro e wd ⟨rfl, hbwd⟩
          have BKwd := Lib.hid (BKwc.out.below hbwd BKwc.out.lt)
          have SBwd := Lib.hid (SBwc.out.below hbwd SBwc.out.lt)
          have BELwd := Lib.hid (below_then BELwc.out hbwd)
          have wd0 : wd.cell? ⟨w.heap.size, 0, none⟩ = some (.int .i64 (s : Int)) := BKwd.out.cell 0
          have wd1 : wd.cell? ⟨w.heap.size, 1, none⟩ = some (.int .i64 (B : Int)) := BKwd.out.cell 1
          have wd2 : wd.cell? ⟨w.heap.size, 2, none⟩ = some (.slice A nA cA) := BKwd.out.cell 2
          have wds0 : wd.cell? ⟨g, 0, none⟩ = some (.int .i64 (nd : Int)) := SBwd.out.cell 0
          have wds1 : wd.cell? ⟨g, 1, none⟩ = some (.int .i64 (B : Int)) := SBwd.out.cell 1
          have wds2 : wd.cell? ⟨g, 2, none⟩ = some (.int .i64 (D : Int)) := SBwd.out.cell 2
          clear hbwd wc0 wc1 wc2 wcs0 wcs1 wcs2
          go_wp2_with fail
          refine (RefCounts_any nd B D a n wd HSHP.out).mono ?_
          rintro e we ⟨Awe, mwe, cwe, rfl, hrowwe, hbwe⟩
          obtain rfl : mwe = j := by rw [← HM.out]; have := hrowwe.length; rw [cn_length] at this; exact this.symm
          obtain ⟨gwe, rfl, _, _, hcswe⟩ := hrowwe.cells (by omega)
          have hnwe : we.cell? ⟨gwe, 0, none⟩ = some (.int .i64 (n : Int)) := hcswe 0 _ (cn_get (cs_get (by rw [HM.out]; omega)))
          have BKwe := Lib.hid (BKwd.out.below hbwe BKwd.out.lt)
          have SBwe := Lib.hid (SBwd.out.below hbwe SBwd.out.lt)
          have BELwe := Lib.hid (below_then BELwd.out hbwe)
          have we0 : we.cell? ⟨w.heap.size, 0, none⟩ = some (.int .i64 (s : Int)) := BKwe.out.cell 0
          have we1 : we.cell? ⟨w.heap.size, 1, none⟩ = some (.int .i64 (B : Int)) := BKwe.out.cell 1
          have we2 : we.cell? ⟨w.heap.size, 2, none⟩ = some (.slice A nA cA) := BKwe.out.cell 2
          have wes0 : we.cell? ⟨g, 0, none⟩ = some (.int .i64 (nd : Int)) := SBwe.out.cell 0
          have wes1 : we.cell? ⟨g, 1, none⟩ = some (.int .i64 (B : Int)) := SBwe.out.cell 1
          have wes2 : we.cell? ⟨g, 2, none⟩ = some (.int .i64 (D : Int)) := SBwe.out.cell 2
          clear hbwe wd0 wd1 wd2 wds0 wds1 wds2
          clear hrowwe hcswe
          go_wp2_with fail
          refine (RefCounts_any nd B D a n we HSHP.out).mono ?_
          rintro e wf ⟨Awf, mwf, cwf, rfl, hrowwf, hbwf⟩
          obtain rfl : mwf = mwe := by rw [← HM.out]; have := hrowwf.length; rw [cn_length] at this; exact this.symm
          obtain ⟨gwf, rfl, _, _, hcswf⟩ := hrowwf.cells (by omega)
          have hnwf : wf.cell? ⟨gwf, 0, none⟩ = some (.int .i64 (n : Int)) := hcswf 0 _ (cn_get (cs_get (by rw [HM.out]; omega)))
          have BKwf := Lib.hid (BKwe.out.below hbwf BKwe.out.lt)
          have SBwf := Lib.hid (SBwe.out.below hbwf SBwe.out.lt)
          have BELwf := Lib.hid (below_then BELwe.out hbwf)
          have wf0 : wf.cell? ⟨w.heap.size, 0, none⟩ = some (.int .i64 (s : Int)) := BKwf.out.cell 0
          have wf1 : wf.cell? ⟨w.heap.size, 1, none⟩ = some (.int .i64 (B : Int)) := BKwf.out.cell 1
          have wf2 : wf.cell? ⟨w.heap.size, 2, none⟩ = some (.slice A nA cA) := BKwf.out.cell 2
          have wfs0 : wf.cell? ⟨g, 0, none⟩ = some (.int .i64 (nd : Int)) := SBwf.out.cell 0
          have wfs1 : wf.cell? ⟨g, 1, none⟩ = some (.int .i64 (B : Int)) := SBwf.out.cell 1
          have wfs2 : wf.cell? ⟨g, 2, none⟩ = some (.int .i64 (D : Int)) := SBwf.out.cell 2
          clear hbwf we0 we1 we2 wes0 wes1 wes2
          clear hrowwf hcswf
          go_wp2
          go_ret
          exact ⟨rfl, BELwf.out⟩
end Go.Proofs.YtijblgbpfffagaaDoor
