/-
  What is wrong with partitions, if anything. No condition but that lengths are lengths.
-/
import Derived.Test.YthepbadecpnepaaDe
namespace Go.Proofs.Ythepbadecpnepaa
open Go.RowKit Go.MapKept
set_option linter.unusedVariables false
set_option linter.unusedSimpArgs false
set_option maxRecDepth 100000

/-- Partitions that are right, each for itself and by their names. -/
def Right (ps : List (ByteArray × Int)) : Prop := (∀ p ∈ ps, NameOk p.1 ∧ sizeOk p.2 = true) ∧ (ps.map (·.1)).Nodup
def total (ps : List (ByteArray × Int)) : Int := (ps.map (·.2)).sum
/-- The number of what is wrong. -/
def FaultIs (ps : List (ByteArray × Int)) (er : Int) : Prop := (16 < ps.length ∧ er = 40) ∨ (ps.length ≤ 16 ∧ ¬ Right ps ∧ er = 40) ∨ (ps.length ≤ 16 ∧ Right ps ∧ 1048576 < total ps ∧ er = 11) ∨ (ps.length ≤ 16 ∧ Right ps ∧ total ps ≤ 1048576 ∧ er = 0)
theorem take_snoc {α : Type} {l : List α} {k : Nat} {x : α} (h : l[k]? = some x) : l.take (k + 1) = l.take k ++ [x] := by
  rw [List.take_add_one, h]; rfl
theorem Right.snoc {ps : List (ByteArray × Int)} {k : Nat} {p : ByteArray × Int} (h : Right (ps.take k)) (hk : ps[k]? = some p) (h1 : NameOk p.1) (h2 : sizeOk p.2 = true) (h3 : ¬ ∃ q ∈ ps.take k, q.1 = p.1) : Right (ps.take (k + 1)) := by
  rw [take_snoc hk]
  refine ⟨fun q hq => ?_, ?_⟩
  · rcases List.mem_append.1 hq with hq | hq
    · exact h.1 q hq
    · rw [List.mem_singleton.1 hq]; exact ⟨h1, h2⟩
  · rw [List.map_append, List.nodup_append]
    refine ⟨h.2, by simp, fun a ha b hb e => ?_⟩
    obtain ⟨q, hq, rfl⟩ := List.mem_map.1 ha
    obtain rfl : b = p.1 := by simpa using hb
    exact h3 ⟨q, hq, e⟩
theorem Right.not_twice {ps : List (ByteArray × Int)} {k : Nat} {p : ByteArray × Int} (hk : ps[k]? = some p) (h : ∃ q ∈ ps.take k, q.1 = p.1) : ¬ Right ps := by
  rintro ⟨_, hn⟩
  obtain ⟨q, hq, e⟩ := h
  obtain ⟨j, hj⟩ := List.mem_iff_getElem?.1 hq
  have hjk : j < k := by have := (List.getElem?_eq_some_iff.1 hj).1; rw [List.length_take] at this; omega
  rw [List.getElem?_take, if_pos hjk] at hj
  have e1 : (ps.map (·.1))[j]? = some p.1 := by rw [List.getElem?_map, hj, ← e]; rfl
  have e2 : (ps.map (·.1))[k]? = some p.1 := by rw [List.getElem?_map, hk]; rfl
  have := (List.getElem?_inj (List.getElem?_eq_some_iff.1 e1).1 hn).1 (e1.trans e2.symm)
  omega
theorem total_snoc {ps : List (ByteArray × Int)} {k : Nat} {p : ByteArray × Int} (hk : ps[k]? = some p) : total (ps.take (k + 1)) = total (ps.take k) + p.2 := by
  rw [take_snoc hk]; simp [total, List.sum_append]
theorem sizeOk_bd {z : Int} (h : sizeOk z = true) : 64 ≤ z ∧ z ≤ 1048576 ∧ z % 64 = 0 := of_decide_eq_true h
theorem total_bd {ps : List (ByteArray × Int)} (h : Right ps) : 0 ≤ total ps ∧ total ps ≤ 1048576 * ps.length := by
  have h1 := h.1
  clear h
  induction ps with
  | nil => simp [total]
  | cons x r ih =>
    have h2 := sizeOk_bd (h1 x (by simp)).2
    have h3 := ih (fun p hp => h1 p (by simp [hp]))
    have e : total (x :: r) = x.2 + total r := by simp [total]
    rw [e, List.length_cons]
    push_cast
    omega
theorem pcells_take (ps : List (ByteArray × Int)) (k : Nat) : (pcells ps).take (k * 2) = pcells (ps.take k) := by
  induction ps generalizing k with
  | nil => simp [pcells]
  | cons x r ih =>
    cases k with
    | zero => simp [pcells]
    | succ k =>
      have e1 : (k + 1) * 2 = k * 2 + 1 + 1 := by omega
      rw [e1]
      have := ih k
      simpa [pcells] using this
theorem run_toP (A : Option Addr) (k cap hi : Nat) (h2 : hi ≤ cap) (w : World) :
    (Instr.slice 51 (.slice A k cap) none (some (.int .i64 (hi : Int))) none).run Try.prog w = .ok (.slice A hi cap) w := by
  obtain ⟨i0, hi0, hz0, hz1, hz2⟩ := info_parts partInfo
  have e : A.map (·.add 0) = A := by cases A <;> simp [Addr.add]
  simp [Instr.slice, run_underlying Try.underlying51, Instr.sliceBounds, run_sliceBound, sizeOf, typeInfo, hi0, hz1, h2]
  exact fun _ => e
theorem run_toPA (A : Option Addr) (k cap hi : Nat) (h2 : hi ≤ cap) (w : World) :
    (Instr.sliceAt 51 (.slice A k cap) none (some (.int .i64 (hi : Int))) none).run Try.prog w = .ok (.slice A hi cap) w := by
  simp only [Instr.sliceAt, Sem.run_bind, run_underlying Try.underlying51, Result.andThen_ok]
  exact run_toP A k cap hi h2 w
set_option maxHeartbeats 4000000 in
theorem fault_any (A : Option Addr) (n c : Nat) (ps : List (ByteArray × Int)) (w : World) (h : Ss w A n c 2 (pcells ps)) (hs : ∀ p ∈ ps, p.1.size ≤ 9223372036854775807) (er : Int) (he : FaultIs ps er) :
    Calls Try.prog 41 #[.slice A n c] w fun e w' => e = .returned (.int .i64 er) ∧ Below w.heap.size w w' := by
  have hl := h.len
  rw [pcells_length] at hl
  have HN : Hid (ps.length = n) := by show _ = _; omega
  have HS := Lib.hid h
  have HSZ := Lib.hid hs
  have HE := Lib.hid he
  unfold FaultIs at HE
  have hnc := h.le
  have hcx := h.max
  clear h hs he hl
  by_cases h16 : 16 < n
  · obtain rfl : er = 40 := by have := HE.out; have := HN.out; omega
    have z : 16 < (n : Int) := by omega
    go_enter Try.func41, Try.ntmps41
    go_wp2
    go_ret
    exact ⟨rfl, Below.refl _ _⟩
  · have z : ¬ 16 < (n : Int) := by omega
    go_enter Try.func41, Try.ntmps41
    go_wp2
    go_loopw [3, 11] (fun st si wr => ∃ (k : Nat) (T : Int), st = .int .i64 T ∧ si = .int .i64 (k : Int) ∧ k ≤ n ∧ Hid (Right (ps.take k)) ∧ Hid (total (ps.take k) = T) ∧ Hid (Below w.heap.size w wr)) (fun _ i _ => n - (intOf i).toNat)
    case atStart => exact ⟨0, 0, rfl, rfl, Nat.zero_le _, ⟨by simp, by simp⟩, (by show total (ps.take 0) = 0; simp [total]), Below.refl _ _⟩
    case round =>
      obtain ⟨k, T, rfl, rfl, hkn, HRK, HTK, HB⟩ := hrel
      have htb := total_bd HRK.out
      rw [HTK.out, List.length_take] at htb
      have ht1 : 0 ≤ T := htb.1
      have ht2 : T ≤ 16777216 := by have := htb.2; omega
      clear htb
      by_cases hlt : k < n
      · have zlt : (k : Int) < (n : Int) := by omega
        obtain ⟨p, hp⟩ : ∃ p, ps[k]? = some p := ⟨_, List.getElem?_eq_getElem (by rw [HN.out]; exact hlt)⟩
        have HP := Lib.hid hp
        obtain ⟨ad, hA, c0, c1⟩ := (HS.out.rs.below HB.out).part hp
        have HNS := Lib.hid (HSZ.out p (List.mem_of_getElem? hp))
        have HRT : Hid (Rs wr A (pcells (ps.take k))) := by have := (HS.out.rs.below HB.out).take (k * 2); rwa [pcells_take] at this
        have HLK : Hid ((ps.take k).length = k) := by show _ = _; rw [List.length_take]; have := HN.out; omega
        have HK6 : Hid (k ≤ 1000000) := by show _ ≤ _; omega
        obtain ⟨nm, sz⟩ := p
        simp only [] at c0 c1 HNS
        subst hA
        obtain ⟨A, hA⟩ : ∃ A, some ad = A := ⟨_, rfl⟩
        have RUN := Lib.hid (run_toPA (some ad) n c k (by omega))
        rw [hA] at RUN HRT
        have HAA := Lib.hid hA
        clear hp hA
        go_wp2_with fail
        have X0 := Lib.hid ((Blk.new wr 50 [.string nm, .int .i64 sz]).cell 0)
        have X1 := Lib.hid ((Blk.new wr 50 [.string nm, .int .i64 sz]).cell 1)
        have HBW := Lib.hid (HB.out.alloc HB.out.size (.cells #[.string nm, .int .i64 sz] 50))
        have HGL : Hid (wr.heap.size < (wr.alloc (.cells #[.string nm, .int .i64 sz] 50)).heap.size) := by show _ < _; simp
        replace HRT := Lib.hid (HRT.out.below ((Below.refl _ _).alloc (Nat.le_refl _) (.cells #[.string nm, .int .i64 sz] 50)))
        clear c0 c1
        generalize wr.alloc (.cells #[.string nm, .int .i64 sz] 50) = W at *
        generalize wr.heap.size = G at *
        rw [HAA.out]
        rename_i hKx
        by_cases hn1 : NameOk nm
        · have HBN : Hid (true = true ↔ NameOk nm) := ⟨fun _ => hn1, fun _ => rfl⟩
          by_cases hs1 : sizeOk sz = true
          · have HBS := Lib.hid hs1
            have HSR : Hid (∀ u : World, Calls Try.prog 54 #[.int .i64 sz] u fun e w' => e = .returned (.bool true) ∧ u = w') := fun u => by have := sizeRight_any sz u; rwa [HBS.out] at this
            by_cases hd1 : ∃ q ∈ ps.take k, q.1 = nm
            · have HBD : Hid (true = true ↔ ∃ q ∈ ps.take k, q.1 = nm) := ⟨fun _ => hd1, fun _ => rfl⟩
              have HER : Hid (er = 40) := by have h1 := HE.out; have h2 := Right.not_twice HP.out hd1; rcases h1 with h1 | h1 | h1 | h1 <;> first | exact h1.2.2 | exact absurd h1.2.1 h2 | exact h1.2
              clear hn1 hs1 hd1
              refine wp_region_eachW (by kernel_rfl) (by kernel_rfl) (fun u u' => Below u.heap.size u u') (fun iX v u => match iX with
                  | 0 => v = .pointer (some ⟨G, 0, none⟩)
                  | 1 => v = .string nm
                  | 2 => v = .bool true
                  | 3 => v = .bool false
                  | 4 => v = .bool false
                  | 5 => v = .pointer (some ⟨G, 1, none⟩)
                  | 6 => v = .int .i64 sz
                  | 7 => v = .bool true
                  | 8 => v = .bool false
                  | 9 => v = .bool false
                  | 10 => v = .bool false
                  | 11 => v = .slice A n c
                  | 12 => v = .int .i64 (k : Int)
                  | 13 => v = .slice A k c
                  | 14 => v = .pointer (some ⟨G, 0, none⟩)
                  | 15 => v = .string nm
                  | 16 => v = .bool true
                  | 17 => v = .bool true
                  | _ => True) (fun u => Below W.heap.size W u) ?c1 (fun _ _ h1 h2 => h1.trans (h2.mono h1.size)) ⟨rfl, rfl, rfl, Nat.le_refl _, fun _ _ => rfl⟩ ?c2 ?c3
              case c1 =>
                intro iX v u u' h hr hb
                rcases iX with _ | _ | _ | _ | _ | _ | _ | _ | _ | _ | _ | _ | _ | _ | _ | _ | _ | _ | iX
                · exact h
                · exact h
                · exact h
                · exact h
                · exact h
                · exact h
                · exact h
                · exact h
                · exact h
                · exact h
                · exact h
                · exact h
                · exact h
                · exact h
                · exact h
                · exact h
                · exact h
                · exact h
                · trivial
              case c2 =>
                intro iX o ho aX u hr hk hpre K hK
                have e0 : aX.tmps.getD 0 undef = .slice A n c := hk.slot 0 (by simp)
                have e4 : aX.tmps.getD 4 undef = .int .i64 (k : Int) := hk.slot 4 (by simp)
                have e5 : aX.tmps.getD 5 undef = .pointer (some ⟨G, 0, none⟩) := hk.slot 5 (by simp)
                have d0 : u.cell? ⟨G, 0, none⟩ = some (.string nm) := (hr.cell (p := ⟨G, 0, none⟩) HGL.out).trans X0.out
                have d1 : u.cell? ⟨G, 1, none⟩ = some (.int .i64 sz) := (hr.cell (p := ⟨G, 1, none⟩) HGL.out).trans X1.out
                have rf : Below u.heap.size u u := Below.refl _ _
                rcases iX with _ | _ | _ | _ | _ | _ | _ | _ | _ | _ | _ | _ | _ | _ | _ | _ | _ | _ | iX
                · obtain rfl := Option.some.inj ho
                  have y5 : aX.eval (.tmp 5) = .pointer (some ⟨G, 0, none⟩) := e5
                  refine st_run (want_none rfl) (.pointer (some ⟨G, 0, none⟩)) (w' := u) ?_ (hK _ _ rfl rf)
                  simp only [execOp, y5]
                  go_simp
                · obtain rfl := Option.some.inj ho
                  have y16 : aX.eval (.tmp 16) = .pointer (some ⟨G, 0, none⟩) := (hpre 0 _ rfl ⟨⟨0, .data⟩, by simp, rfl, rfl⟩)
                  refine st_run (want_none rfl) (.string nm) (w' := u) ?_ (hK _ _ rfl rf)
                  simp only [execOp, y16]
                  go_simp
                · obtain rfl := Option.some.inj ho
                  have x0 : aX.eval (.tmp 17) = .string nm := (hpre 1 _ rfl ⟨⟨1, .data⟩, by simp, rfl, rfl⟩)
                  exact st_callN 53 _ _ rfl (want_none rfl) #[.string nm] (by simp [x0]) (by kernel_rfl) _ (nameRight_any nm u true HBN.out HNS.out) (fun e u' he => ⟨_, he.1, hK _ _ rfl he.2⟩)
                · obtain rfl := Option.some.inj ho
                  have y18 : aX.eval (.tmp 18) = .bool true := (hpre 2 _ rfl ⟨⟨2, .data⟩, by simp, rfl, rfl⟩)
                  refine st_run (want_none rfl) (.bool false) (w' := u) ?_ (hK _ _ rfl rf)
                  simp only [execOp, y18]
                  go_simp
                · obtain rfl := Option.some.inj ho
                  exact st_move (.tmp 19) rfl (want_none rfl) _ (hpre 3 _ rfl ⟨⟨3, .data⟩, by simp, rfl, rfl⟩) (hK _ _ rfl rf)
                · obtain rfl := Option.some.inj ho
                  have y5 : aX.eval (.tmp 5) = .pointer (some ⟨G, 0, none⟩) := e5
                  refine st_run (want_some rfl rfl rfl (hpre 4 _ rfl ⟨⟨4, .guard⟩, by simp, rfl, rfl⟩)) (.pointer (some ⟨G, 1, none⟩)) (w' := u) ?_ (hK _ _ rfl rf)
                  simp only [execOp, y5]
                  go_simp
                · obtain rfl := Option.some.inj ho
                  have y21 : aX.eval (.tmp 21) = .pointer (some ⟨G, 1, none⟩) := (hpre 5 _ rfl ⟨⟨5, .data⟩, by simp, rfl, rfl⟩)
                  refine st_run (want_some rfl rfl rfl (hpre 4 _ rfl ⟨⟨4, .guard⟩, by simp, rfl, rfl⟩)) (.int .i64 sz) (w' := u) ?_ (hK _ _ rfl rf)
                  simp only [execOp, y21]
                  go_simp
                · obtain rfl := Option.some.inj ho
                  have x0 : aX.eval (.tmp 22) = .int .i64 sz := (hpre 6 _ rfl ⟨⟨6, .data⟩, by simp, rfl, rfl⟩)
                  exact st_callN 54 _ _ rfl (want_some rfl rfl rfl (hpre 4 _ rfl ⟨⟨4, .guard⟩, by simp, rfl, rfl⟩)) #[.int .i64 sz] (by simp [x0]) (by kernel_rfl) _ (HSR.out u) (fun e u' he => ⟨_, he.1, hK _ _ rfl (he.2 ▸ rf)⟩)
                · obtain rfl := Option.some.inj ho
                  have y23 : aX.eval (.tmp 23) = .bool true := (hpre 7 _ rfl ⟨⟨7, .data⟩, by simp, rfl, rfl⟩)
                  refine st_run (want_some rfl rfl rfl (hpre 4 _ rfl ⟨⟨4, .guard⟩, by simp, rfl, rfl⟩)) (.bool false) (w' := u) ?_ (hK _ _ rfl rf)
                  simp only [execOp, y23]
                  go_simp
                · obtain rfl := Option.some.inj ho
                  exact st_pick (.tmp 20) (.const (.bool true)) (.tmp 24) rfl (want_none rfl) false (hpre 4 _ rfl ⟨⟨4, .data⟩, by simp, rfl, rfl⟩) _ ((if_neg (by decide)).trans (hpre 8 _ rfl ⟨⟨8, .data⟩, by simp, rfl, rfl⟩)) (hK _ _ rfl rf)
                · obtain rfl := Option.some.inj ho
                  exact st_move (.tmp 25) rfl (want_none rfl) _ (hpre 9 _ rfl ⟨⟨9, .data⟩, by simp, rfl, rfl⟩) (hK _ _ rfl rf)
                · obtain rfl := Option.some.inj ho
                  exact st_move (.tmp 0) rfl (want_some rfl rfl rfl (hpre 10 _ rfl ⟨⟨10, .guard⟩, by simp, rfl, rfl⟩)) _ e0 (hK _ _ rfl rf)
                · obtain rfl := Option.some.inj ho
                  exact st_move (.tmp 4) rfl (want_some rfl rfl rfl (hpre 10 _ rfl ⟨⟨10, .guard⟩, by simp, rfl, rfl⟩)) _ e4 (hK _ _ rfl rf)
                · obtain rfl := Option.some.inj ho
                  have y27 : aX.eval (.tmp 27) = .slice A n c := (hpre 11 _ rfl ⟨⟨11, .data⟩, by simp, rfl, rfl⟩)
                  have y28 : aX.eval (.tmp 28) = .int .i64 (k : Int) := (hpre 12 _ rfl ⟨⟨12, .data⟩, by simp, rfl, rfl⟩)
                  refine st_run (want_some rfl rfl rfl (hpre 10 _ rfl ⟨⟨10, .guard⟩, by simp, rfl, rfl⟩)) (.slice A k c) (w' := u) ?_ (hK _ _ rfl rf)
                  simp [execOp, y27, y28, RUN.out u, Result.andThen]
                · obtain rfl := Option.some.inj ho
                  have y5 : aX.eval (.tmp 5) = .pointer (some ⟨G, 0, none⟩) := e5
                  refine st_run (want_some rfl rfl rfl (hpre 10 _ rfl ⟨⟨10, .guard⟩, by simp, rfl, rfl⟩)) (.pointer (some ⟨G, 0, none⟩)) (w' := u) ?_ (hK _ _ rfl rf)
                  simp only [execOp, y5]
                  go_simp
                · obtain rfl := Option.some.inj ho
                  have y30 : aX.eval (.tmp 30) = .pointer (some ⟨G, 0, none⟩) := (hpre 14 _ rfl ⟨⟨14, .data⟩, by simp, rfl, rfl⟩)
                  refine st_run (want_some rfl rfl rfl (hpre 10 _ rfl ⟨⟨10, .guard⟩, by simp, rfl, rfl⟩)) (.string nm) (w' := u) ?_ (hK _ _ rfl rf)
                  simp only [execOp, y30]
                  go_simp
                · obtain rfl := Option.some.inj ho
                  have x0 : aX.eval (.tmp 29) = .slice A k c := (hpre 13 _ rfl ⟨⟨13, .data⟩, by simp, rfl, rfl⟩)
                  have x1 : aX.eval (.tmp 31) = .string nm := (hpre 15 _ rfl ⟨⟨15, .data⟩, by simp, rfl, rfl⟩)
                  exact st_callN 55 _ _ rfl (want_some rfl rfl rfl (hpre 10 _ rfl ⟨⟨10, .guard⟩, by simp, rfl, rfl⟩)) #[.slice A k c, .string nm] (by simp [x0, x1]) (by kernel_rfl) _ (named_any A k c (ps.take k) HLK.out HK6.out u (HRT.out.below hr) nm true HBD.out) (fun e u' he => ⟨_, he.1, hK _ _ rfl he.2⟩)
                · obtain rfl := Option.some.inj ho
                  exact st_pick (.tmp 26) (.const (.bool true)) (.tmp 32) rfl (want_none rfl) false (hpre 10 _ rfl ⟨⟨10, .data⟩, by simp, rfl, rfl⟩) _ ((if_neg (by decide)).trans (hpre 16 _ rfl ⟨⟨16, .data⟩, by simp, rfl, rfl⟩)) (hK _ _ rfl rf)
                · cases ho
              case c3 =>
                intro aX u hr hk hv
                have q33 : aX.tmps.getD 33 undef = .bool true := hv 17 _ rfl
                have hfr := keeps_frameP (fun s => decide ((16 ≤ s ∧ s ≤ 33))) hk (by simp)
                refine hKx aX u ?_
                rw [hfr]
                generalize hff : (fun s => aX.tmps.getD s undef) = ff
                have hf33 : ff 33 = .bool true := by rw [← hff]; exact q33
                simp only [mixP, hf33, decide_eq_true_eq, Nat.reduceAdd, Nat.reduceLeDiff, Nat.reduceEqDiff, false_or, true_or, or_false, or_true, and_true, and_false, true_and, false_and, and_self, if_true, if_false, Nat.zero_le]
                clear hfr hff hf33 q33 hv hk
                go_wp2
                go_ret
                exact ⟨by rw [HER.out]; rfl, HBW.out.trans (hr.mono HBW.out.size)⟩
            · have HBD : Hid (false = true ↔ ∃ q ∈ ps.take k, q.1 = nm) := ⟨(fun h => by cases h), fun h => absurd h hd1⟩
              have HRN := Lib.hid (HRK.out.snoc HP.out hn1 hs1 hd1)
              have HTN : Hid (total (ps.take (k + 1)) = T + sz) := by show _ = _; rw [total_snoc HP.out, HTK.out]
              have hsb := sizeOk_bd hs1
              have hsb1 : 0 ≤ sz := by omega
              have hsb2 : sz ≤ 1048576 := hsb.2.1
              clear hn1 hs1 hd1 hsb
              refine wp_region_eachW (by kernel_rfl) (by kernel_rfl) (fun u u' => Below u.heap.size u u') (fun iX v u => match iX with
                  | 0 => v = .pointer (some ⟨G, 0, none⟩)
                  | 1 => v = .string nm
                  | 2 => v = .bool true
                  | 3 => v = .bool false
                  | 4 => v = .bool false
                  | 5 => v = .pointer (some ⟨G, 1, none⟩)
                  | 6 => v = .int .i64 sz
                  | 7 => v = .bool true
                  | 8 => v = .bool false
                  | 9 => v = .bool false
                  | 10 => v = .bool false
                  | 11 => v = .slice A n c
                  | 12 => v = .int .i64 (k : Int)
                  | 13 => v = .slice A k c
                  | 14 => v = .pointer (some ⟨G, 0, none⟩)
                  | 15 => v = .string nm
                  | 16 => v = .bool false
                  | 17 => v = .bool false
                  | _ => True) (fun u => Below W.heap.size W u) ?d1 (fun _ _ h1 h2 => h1.trans (h2.mono h1.size)) ⟨rfl, rfl, rfl, Nat.le_refl _, fun _ _ => rfl⟩ ?d2 ?d3
              case d1 =>
                intro iX v u u' h hr hb
                rcases iX with _ | _ | _ | _ | _ | _ | _ | _ | _ | _ | _ | _ | _ | _ | _ | _ | _ | _ | iX
                · exact h
                · exact h
                · exact h
                · exact h
                · exact h
                · exact h
                · exact h
                · exact h
                · exact h
                · exact h
                · exact h
                · exact h
                · exact h
                · exact h
                · exact h
                · exact h
                · exact h
                · exact h
                · trivial
              case d2 =>
                intro iX o ho aX u hr hk hpre K hK
                have e0 : aX.tmps.getD 0 undef = .slice A n c := hk.slot 0 (by simp)
                have e4 : aX.tmps.getD 4 undef = .int .i64 (k : Int) := hk.slot 4 (by simp)
                have e5 : aX.tmps.getD 5 undef = .pointer (some ⟨G, 0, none⟩) := hk.slot 5 (by simp)
                have d0 : u.cell? ⟨G, 0, none⟩ = some (.string nm) := (hr.cell (p := ⟨G, 0, none⟩) HGL.out).trans X0.out
                have d1 : u.cell? ⟨G, 1, none⟩ = some (.int .i64 sz) := (hr.cell (p := ⟨G, 1, none⟩) HGL.out).trans X1.out
                have rf : Below u.heap.size u u := Below.refl _ _
                rcases iX with _ | _ | _ | _ | _ | _ | _ | _ | _ | _ | _ | _ | _ | _ | _ | _ | _ | _ | iX
                · obtain rfl := Option.some.inj ho
                  have y5 : aX.eval (.tmp 5) = .pointer (some ⟨G, 0, none⟩) := e5
                  refine st_run (want_none rfl) (.pointer (some ⟨G, 0, none⟩)) (w' := u) ?_ (hK _ _ rfl rf)
                  simp only [execOp, y5]
                  go_simp
                · obtain rfl := Option.some.inj ho
                  have y16 : aX.eval (.tmp 16) = .pointer (some ⟨G, 0, none⟩) := (hpre 0 _ rfl ⟨⟨0, .data⟩, by simp, rfl, rfl⟩)
                  refine st_run (want_none rfl) (.string nm) (w' := u) ?_ (hK _ _ rfl rf)
                  simp only [execOp, y16]
                  go_simp
                · obtain rfl := Option.some.inj ho
                  have x0 : aX.eval (.tmp 17) = .string nm := (hpre 1 _ rfl ⟨⟨1, .data⟩, by simp, rfl, rfl⟩)
                  exact st_callN 53 _ _ rfl (want_none rfl) #[.string nm] (by simp [x0]) (by kernel_rfl) _ (nameRight_any nm u true HBN.out HNS.out) (fun e u' he => ⟨_, he.1, hK _ _ rfl he.2⟩)
                · obtain rfl := Option.some.inj ho
                  have y18 : aX.eval (.tmp 18) = .bool true := (hpre 2 _ rfl ⟨⟨2, .data⟩, by simp, rfl, rfl⟩)
                  refine st_run (want_none rfl) (.bool false) (w' := u) ?_ (hK _ _ rfl rf)
                  simp only [execOp, y18]
                  go_simp
                · obtain rfl := Option.some.inj ho
                  exact st_move (.tmp 19) rfl (want_none rfl) _ (hpre 3 _ rfl ⟨⟨3, .data⟩, by simp, rfl, rfl⟩) (hK _ _ rfl rf)
                · obtain rfl := Option.some.inj ho
                  have y5 : aX.eval (.tmp 5) = .pointer (some ⟨G, 0, none⟩) := e5
                  refine st_run (want_some rfl rfl rfl (hpre 4 _ rfl ⟨⟨4, .guard⟩, by simp, rfl, rfl⟩)) (.pointer (some ⟨G, 1, none⟩)) (w' := u) ?_ (hK _ _ rfl rf)
                  simp only [execOp, y5]
                  go_simp
                · obtain rfl := Option.some.inj ho
                  have y21 : aX.eval (.tmp 21) = .pointer (some ⟨G, 1, none⟩) := (hpre 5 _ rfl ⟨⟨5, .data⟩, by simp, rfl, rfl⟩)
                  refine st_run (want_some rfl rfl rfl (hpre 4 _ rfl ⟨⟨4, .guard⟩, by simp, rfl, rfl⟩)) (.int .i64 sz) (w' := u) ?_ (hK _ _ rfl rf)
                  simp only [execOp, y21]
                  go_simp
                · obtain rfl := Option.some.inj ho
                  have x0 : aX.eval (.tmp 22) = .int .i64 sz := (hpre 6 _ rfl ⟨⟨6, .data⟩, by simp, rfl, rfl⟩)
                  exact st_callN 54 _ _ rfl (want_some rfl rfl rfl (hpre 4 _ rfl ⟨⟨4, .guard⟩, by simp, rfl, rfl⟩)) #[.int .i64 sz] (by simp [x0]) (by kernel_rfl) _ (HSR.out u) (fun e u' he => ⟨_, he.1, hK _ _ rfl (he.2 ▸ rf)⟩)
                · obtain rfl := Option.some.inj ho
                  have y23 : aX.eval (.tmp 23) = .bool true := (hpre 7 _ rfl ⟨⟨7, .data⟩, by simp, rfl, rfl⟩)
                  refine st_run (want_some rfl rfl rfl (hpre 4 _ rfl ⟨⟨4, .guard⟩, by simp, rfl, rfl⟩)) (.bool false) (w' := u) ?_ (hK _ _ rfl rf)
                  simp only [execOp, y23]
                  go_simp
                · obtain rfl := Option.some.inj ho
                  exact st_pick (.tmp 20) (.const (.bool true)) (.tmp 24) rfl (want_none rfl) false (hpre 4 _ rfl ⟨⟨4, .data⟩, by simp, rfl, rfl⟩) _ ((if_neg (by decide)).trans (hpre 8 _ rfl ⟨⟨8, .data⟩, by simp, rfl, rfl⟩)) (hK _ _ rfl rf)
                · obtain rfl := Option.some.inj ho
                  exact st_move (.tmp 25) rfl (want_none rfl) _ (hpre 9 _ rfl ⟨⟨9, .data⟩, by simp, rfl, rfl⟩) (hK _ _ rfl rf)
                · obtain rfl := Option.some.inj ho
                  exact st_move (.tmp 0) rfl (want_some rfl rfl rfl (hpre 10 _ rfl ⟨⟨10, .guard⟩, by simp, rfl, rfl⟩)) _ e0 (hK _ _ rfl rf)
                · obtain rfl := Option.some.inj ho
                  exact st_move (.tmp 4) rfl (want_some rfl rfl rfl (hpre 10 _ rfl ⟨⟨10, .guard⟩, by simp, rfl, rfl⟩)) _ e4 (hK _ _ rfl rf)
                · obtain rfl := Option.some.inj ho
                  have y27 : aX.eval (.tmp 27) = .slice A n c := (hpre 11 _ rfl ⟨⟨11, .data⟩, by simp, rfl, rfl⟩)
                  have y28 : aX.eval (.tmp 28) = .int .i64 (k : Int) := (hpre 12 _ rfl ⟨⟨12, .data⟩, by simp, rfl, rfl⟩)
                  refine st_run (want_some rfl rfl rfl (hpre 10 _ rfl ⟨⟨10, .guard⟩, by simp, rfl, rfl⟩)) (.slice A k c) (w' := u) ?_ (hK _ _ rfl rf)
                  simp [execOp, y27, y28, RUN.out u, Result.andThen]
                · obtain rfl := Option.some.inj ho
                  have y5 : aX.eval (.tmp 5) = .pointer (some ⟨G, 0, none⟩) := e5
                  refine st_run (want_some rfl rfl rfl (hpre 10 _ rfl ⟨⟨10, .guard⟩, by simp, rfl, rfl⟩)) (.pointer (some ⟨G, 0, none⟩)) (w' := u) ?_ (hK _ _ rfl rf)
                  simp only [execOp, y5]
                  go_simp
                · obtain rfl := Option.some.inj ho
                  have y30 : aX.eval (.tmp 30) = .pointer (some ⟨G, 0, none⟩) := (hpre 14 _ rfl ⟨⟨14, .data⟩, by simp, rfl, rfl⟩)
                  refine st_run (want_some rfl rfl rfl (hpre 10 _ rfl ⟨⟨10, .guard⟩, by simp, rfl, rfl⟩)) (.string nm) (w' := u) ?_ (hK _ _ rfl rf)
                  simp only [execOp, y30]
                  go_simp
                · obtain rfl := Option.some.inj ho
                  have x0 : aX.eval (.tmp 29) = .slice A k c := (hpre 13 _ rfl ⟨⟨13, .data⟩, by simp, rfl, rfl⟩)
                  have x1 : aX.eval (.tmp 31) = .string nm := (hpre 15 _ rfl ⟨⟨15, .data⟩, by simp, rfl, rfl⟩)
                  exact st_callN 55 _ _ rfl (want_some rfl rfl rfl (hpre 10 _ rfl ⟨⟨10, .guard⟩, by simp, rfl, rfl⟩)) #[.slice A k c, .string nm] (by simp [x0, x1]) (by kernel_rfl) _ (named_any A k c (ps.take k) HLK.out HK6.out u (HRT.out.below hr) nm false HBD.out) (fun e u' he => ⟨_, he.1, hK _ _ rfl he.2⟩)
                · obtain rfl := Option.some.inj ho
                  exact st_pick (.tmp 26) (.const (.bool true)) (.tmp 32) rfl (want_none rfl) false (hpre 10 _ rfl ⟨⟨10, .data⟩, by simp, rfl, rfl⟩) _ ((if_neg (by decide)).trans (hpre 16 _ rfl ⟨⟨16, .data⟩, by simp, rfl, rfl⟩)) (hK _ _ rfl rf)
                · cases ho
              case d3 =>
                intro aX u hr hk hv
                have q33 : aX.tmps.getD 33 undef = .bool false := hv 17 _ rfl
                have hfr := keeps_frameP (fun s => decide ((16 ≤ s ∧ s ≤ 33))) hk (by simp)
                refine hKx aX u ?_
                rw [hfr]
                generalize hff : (fun s => aX.tmps.getD s undef) = ff
                have hf33 : ff 33 = .bool false := by rw [← hff]; exact q33
                simp only [mixP, hf33, decide_eq_true_eq, Nat.reduceAdd, Nat.reduceLeDiff, Nat.reduceEqDiff, false_or, true_or, or_false, or_true, and_true, and_false, true_and, false_and, and_self, if_true, if_false, Nat.zero_le]
                clear hfr hff hf33 q33 hv hk
                have HB3 := Lib.hid (HBW.out.trans (hr.mono HBW.out.size))
                have d1 : u.cell? ⟨G, 1, none⟩ = some (.int .i64 sz) := (hr.cell (p := ⟨G, 1, none⟩) HGL.out).trans X1.out
                clear hr hKx
                go_wp2
                go_roundw
                case rel => exact ⟨_, _, _, _, _, ⟨k + 1, T + sz, rfl, by go_num, by omega, HRN.out, HTN.out⟩, HAA.out.symm, rfl, rfl, rfl, rfl, HAA.out.symm, rfl⟩
                case measure => simp [intOf]; omega
          · have HBS : Hid (sizeOk sz = false) := by show _ = _; simpa using hs1
            have HER : Hid (er = 40) := by have h1 := HE.out; have h2 : ¬ Right ps := fun hr => hs1 (hr.1 _ (List.mem_of_getElem? HP.out)).2; rcases h1 with h1 | h1 | h1 | h1 <;> first | exact h1.2.2 | exact absurd h1.2.1 h2 | exact h1.2
            have HSR : Hid (∀ u : World, Calls Try.prog 54 #[.int .i64 sz] u fun e w' => e = .returned (.bool false) ∧ u = w') := fun u => by have := sizeRight_any sz u; rwa [HBS.out] at this
            clear hn1 hs1
            refine wp_region_eachW (by kernel_rfl) (by kernel_rfl) (fun u u' => Below u.heap.size u u') (fun iX v u => match iX with
                | 0 => v = .pointer (some ⟨G, 0, none⟩)
                | 1 => v = .string nm
                | 2 => v = .bool true
                | 3 => v = .bool false
                | 4 => v = .bool false
                | 5 => v = .pointer (some ⟨G, 1, none⟩)
                | 6 => v = .int .i64 sz
                | 7 => v = .bool false
                | 8 => v = .bool true
                | 9 => v = .bool true
                | 10 => v = .bool true
                | 11 => True
                | 12 => True
                | 13 => True
                | 14 => True
                | 15 => True
                | 16 => True
                | 17 => v = .bool true
                | _ => True) (fun u => Below W.heap.size W u) ?b1 (fun _ _ h1 h2 => h1.trans (h2.mono h1.size)) ⟨rfl, rfl, rfl, Nat.le_refl _, fun _ _ => rfl⟩ ?b2 ?b3
            case b1 =>
              intro iX v u u' h hr hb
              rcases iX with _ | _ | _ | _ | _ | _ | _ | _ | _ | _ | _ | _ | _ | _ | _ | _ | _ | _ | iX
              · exact h
              · exact h
              · exact h
              · exact h
              · exact h
              · exact h
              · exact h
              · exact h
              · exact h
              · exact h
              · exact h
              · trivial
              · trivial
              · trivial
              · trivial
              · trivial
              · trivial
              · exact h
              · trivial
            case b2 =>
              intro iX o ho aX u hr hk hpre K hK
              have e0 : aX.tmps.getD 0 undef = .slice A n c := hk.slot 0 (by simp)
              have e4 : aX.tmps.getD 4 undef = .int .i64 (k : Int) := hk.slot 4 (by simp)
              have e5 : aX.tmps.getD 5 undef = .pointer (some ⟨G, 0, none⟩) := hk.slot 5 (by simp)
              have d0 : u.cell? ⟨G, 0, none⟩ = some (.string nm) := (hr.cell (p := ⟨G, 0, none⟩) HGL.out).trans X0.out
              have d1 : u.cell? ⟨G, 1, none⟩ = some (.int .i64 sz) := (hr.cell (p := ⟨G, 1, none⟩) HGL.out).trans X1.out
              have rf : Below u.heap.size u u := Below.refl _ _
              rcases iX with _ | _ | _ | _ | _ | _ | _ | _ | _ | _ | _ | _ | _ | _ | _ | _ | _ | _ | iX
              · obtain rfl := Option.some.inj ho
                have y5 : aX.eval (.tmp 5) = .pointer (some ⟨G, 0, none⟩) := e5
                refine st_run (want_none rfl) (.pointer (some ⟨G, 0, none⟩)) (w' := u) ?_ (hK _ _ rfl rf)
                simp only [execOp, y5]
                go_simp
              · obtain rfl := Option.some.inj ho
                have y16 : aX.eval (.tmp 16) = .pointer (some ⟨G, 0, none⟩) := (hpre 0 _ rfl ⟨⟨0, .data⟩, by simp, rfl, rfl⟩)
                refine st_run (want_none rfl) (.string nm) (w' := u) ?_ (hK _ _ rfl rf)
                simp only [execOp, y16]
                go_simp
              · obtain rfl := Option.some.inj ho
                have x0 : aX.eval (.tmp 17) = .string nm := (hpre 1 _ rfl ⟨⟨1, .data⟩, by simp, rfl, rfl⟩)
                exact st_callN 53 _ _ rfl (want_none rfl) #[.string nm] (by simp [x0]) (by kernel_rfl) _ (nameRight_any nm u true HBN.out HNS.out) (fun e u' he => ⟨_, he.1, hK _ _ rfl he.2⟩)
              · obtain rfl := Option.some.inj ho
                have y18 : aX.eval (.tmp 18) = .bool true := (hpre 2 _ rfl ⟨⟨2, .data⟩, by simp, rfl, rfl⟩)
                refine st_run (want_none rfl) (.bool false) (w' := u) ?_ (hK _ _ rfl rf)
                simp only [execOp, y18]
                go_simp
              · obtain rfl := Option.some.inj ho
                exact st_move (.tmp 19) rfl (want_none rfl) _ (hpre 3 _ rfl ⟨⟨3, .data⟩, by simp, rfl, rfl⟩) (hK _ _ rfl rf)
              · obtain rfl := Option.some.inj ho
                have y5 : aX.eval (.tmp 5) = .pointer (some ⟨G, 0, none⟩) := e5
                refine st_run (want_some rfl rfl rfl (hpre 4 _ rfl ⟨⟨4, .guard⟩, by simp, rfl, rfl⟩)) (.pointer (some ⟨G, 1, none⟩)) (w' := u) ?_ (hK _ _ rfl rf)
                simp only [execOp, y5]
                go_simp
              · obtain rfl := Option.some.inj ho
                have y21 : aX.eval (.tmp 21) = .pointer (some ⟨G, 1, none⟩) := (hpre 5 _ rfl ⟨⟨5, .data⟩, by simp, rfl, rfl⟩)
                refine st_run (want_some rfl rfl rfl (hpre 4 _ rfl ⟨⟨4, .guard⟩, by simp, rfl, rfl⟩)) (.int .i64 sz) (w' := u) ?_ (hK _ _ rfl rf)
                simp only [execOp, y21]
                go_simp
              · obtain rfl := Option.some.inj ho
                have x0 : aX.eval (.tmp 22) = .int .i64 sz := (hpre 6 _ rfl ⟨⟨6, .data⟩, by simp, rfl, rfl⟩)
                exact st_callN 54 _ _ rfl (want_some rfl rfl rfl (hpre 4 _ rfl ⟨⟨4, .guard⟩, by simp, rfl, rfl⟩)) #[.int .i64 sz] (by simp [x0]) (by kernel_rfl) _ (HSR.out u) (fun e u' he => ⟨_, he.1, hK _ _ rfl (he.2 ▸ rf)⟩)
              · obtain rfl := Option.some.inj ho
                have y23 : aX.eval (.tmp 23) = .bool false := (hpre 7 _ rfl ⟨⟨7, .data⟩, by simp, rfl, rfl⟩)
                refine st_run (want_some rfl rfl rfl (hpre 4 _ rfl ⟨⟨4, .guard⟩, by simp, rfl, rfl⟩)) (.bool true) (w' := u) ?_ (hK _ _ rfl rf)
                simp only [execOp, y23]
                go_simp
              · obtain rfl := Option.some.inj ho
                exact st_pick (.tmp 20) (.const (.bool true)) (.tmp 24) rfl (want_none rfl) false (hpre 4 _ rfl ⟨⟨4, .data⟩, by simp, rfl, rfl⟩) _ ((if_neg (by decide)).trans (hpre 8 _ rfl ⟨⟨8, .data⟩, by simp, rfl, rfl⟩)) (hK _ _ rfl rf)
              · obtain rfl := Option.some.inj ho
                exact st_move (.tmp 25) rfl (want_none rfl) _ (hpre 9 _ rfl ⟨⟨9, .data⟩, by simp, rfl, rfl⟩) (hK _ _ rfl rf)
              · obtain rfl := Option.some.inj ho
                exact st_fall (want_fall rfl rfl rfl (hpre 10 _ rfl ⟨⟨10, .guard⟩, by simp, rfl, rfl⟩) (by decide)) (hK undef _ trivial rf)
              · obtain rfl := Option.some.inj ho
                exact st_fall (want_fall rfl rfl rfl (hpre 10 _ rfl ⟨⟨10, .guard⟩, by simp, rfl, rfl⟩) (by decide)) (hK undef _ trivial rf)
              · obtain rfl := Option.some.inj ho
                exact st_fall (want_fall rfl rfl rfl (hpre 10 _ rfl ⟨⟨10, .guard⟩, by simp, rfl, rfl⟩) (by decide)) (hK undef _ trivial rf)
              · obtain rfl := Option.some.inj ho
                exact st_fall (want_fall rfl rfl rfl (hpre 10 _ rfl ⟨⟨10, .guard⟩, by simp, rfl, rfl⟩) (by decide)) (hK undef _ trivial rf)
              · obtain rfl := Option.some.inj ho
                exact st_fall (want_fall rfl rfl rfl (hpre 10 _ rfl ⟨⟨10, .guard⟩, by simp, rfl, rfl⟩) (by decide)) (hK undef _ trivial rf)
              · obtain rfl := Option.some.inj ho
                exact st_fall (want_fall rfl rfl rfl (hpre 10 _ rfl ⟨⟨10, .guard⟩, by simp, rfl, rfl⟩) (by decide)) (hK undef _ trivial rf)
              · obtain rfl := Option.some.inj ho
                exact st_pick (.tmp 26) (.const (.bool true)) (.tmp 32) rfl (want_none rfl) true (hpre 10 _ rfl ⟨⟨10, .data⟩, by simp, rfl, rfl⟩) _ ((if_pos rfl).trans rfl) (hK _ _ rfl rf)
              · cases ho
            case b3 =>
              intro aX u hr hk hv
              have q33 : aX.tmps.getD 33 undef = .bool true := hv 17 _ rfl
              have hfr := keeps_frameP (fun s => decide ((16 ≤ s ∧ s ≤ 33))) hk (by simp)
              refine hKx aX u ?_
              rw [hfr]
              generalize hff : (fun s => aX.tmps.getD s undef) = ff
              have hf33 : ff 33 = .bool true := by rw [← hff]; exact q33
              simp only [mixP, hf33, decide_eq_true_eq, Nat.reduceAdd, Nat.reduceLeDiff, Nat.reduceEqDiff, false_or, true_or, or_false, or_true, and_true, and_false, true_and, false_and, and_self, if_true, if_false, Nat.zero_le]
              clear hfr hff hf33 q33 hv hk
              go_wp2
              go_ret
              exact ⟨by rw [HER.out]; rfl, HBW.out.trans (hr.mono HBW.out.size)⟩
        · have HBN : Hid (false = true ↔ NameOk nm) := ⟨(fun h => by cases h), fun h => absurd h hn1⟩
          have HER : Hid (er = 40) := by have h1 := HE.out; have h2 : ¬ Right ps := fun hr => hn1 (hr.1 _ (List.mem_of_getElem? HP.out)).1; rcases h1 with h1 | h1 | h1 | h1 <;> first | exact h1.2.2 | exact absurd h1.2.1 h2 | exact h1.2
          clear hn1
          refine wp_region_eachW (by kernel_rfl) (by kernel_rfl) (fun u u' => Below u.heap.size u u') (fun iX v u => match iX with
              | 0 => v = .pointer (some ⟨G, 0, none⟩)
              | 1 => v = .string nm
              | 2 => v = .bool false
              | 3 => v = .bool true
              | 4 => v = .bool true
              | 5 => True
              | 6 => True
              | 7 => True
              | 8 => True
              | 9 => v = .bool true
              | 10 => v = .bool true
              | 11 => True
              | 12 => True
              | 13 => True
              | 14 => True
              | 15 => True
              | 16 => True
              | 17 => v = .bool true
              | _ => True) (fun u => Below W.heap.size W u) ?a1 (fun _ _ h1 h2 => h1.trans (h2.mono h1.size)) ⟨rfl, rfl, rfl, Nat.le_refl _, fun _ _ => rfl⟩ ?a2 ?a3
          case a1 =>
            intro iX v u u' h hr hb
            rcases iX with _ | _ | _ | _ | _ | _ | _ | _ | _ | _ | _ | _ | _ | _ | _ | _ | _ | _ | iX
            · exact h
            · exact h
            · exact h
            · exact h
            · exact h
            · trivial
            · trivial
            · trivial
            · trivial
            · exact h
            · exact h
            · trivial
            · trivial
            · trivial
            · trivial
            · trivial
            · trivial
            · exact h
            · trivial
          case a2 =>
            intro iX o ho aX u hr hk hpre K hK
            have e0 : aX.tmps.getD 0 undef = .slice A n c := hk.slot 0 (by simp)
            have e4 : aX.tmps.getD 4 undef = .int .i64 (k : Int) := hk.slot 4 (by simp)
            have e5 : aX.tmps.getD 5 undef = .pointer (some ⟨G, 0, none⟩) := hk.slot 5 (by simp)
            have d0 : u.cell? ⟨G, 0, none⟩ = some (.string nm) := (hr.cell (p := ⟨G, 0, none⟩) HGL.out).trans X0.out
            have d1 : u.cell? ⟨G, 1, none⟩ = some (.int .i64 sz) := (hr.cell (p := ⟨G, 1, none⟩) HGL.out).trans X1.out
            have rf : Below u.heap.size u u := Below.refl _ _
            rcases iX with _ | _ | _ | _ | _ | _ | _ | _ | _ | _ | _ | _ | _ | _ | _ | _ | _ | _ | iX
            · obtain rfl := Option.some.inj ho
              have y5 : aX.eval (.tmp 5) = .pointer (some ⟨G, 0, none⟩) := e5
              refine st_run (want_none rfl) (.pointer (some ⟨G, 0, none⟩)) (w' := u) ?_ (hK _ _ rfl rf)
              simp only [execOp, y5]
              go_simp
            · obtain rfl := Option.some.inj ho
              have y16 : aX.eval (.tmp 16) = .pointer (some ⟨G, 0, none⟩) := (hpre 0 _ rfl ⟨⟨0, .data⟩, by simp, rfl, rfl⟩)
              refine st_run (want_none rfl) (.string nm) (w' := u) ?_ (hK _ _ rfl rf)
              simp only [execOp, y16]
              go_simp
            · obtain rfl := Option.some.inj ho
              have x0 : aX.eval (.tmp 17) = .string nm := (hpre 1 _ rfl ⟨⟨1, .data⟩, by simp, rfl, rfl⟩)
              exact st_callN 53 _ _ rfl (want_none rfl) #[.string nm] (by simp [x0]) (by kernel_rfl) _ (nameRight_any nm u false HBN.out HNS.out) (fun e u' he => ⟨_, he.1, hK _ _ rfl he.2⟩)
            · obtain rfl := Option.some.inj ho
              have y18 : aX.eval (.tmp 18) = .bool false := (hpre 2 _ rfl ⟨⟨2, .data⟩, by simp, rfl, rfl⟩)
              refine st_run (want_none rfl) (.bool true) (w' := u) ?_ (hK _ _ rfl rf)
              simp only [execOp, y18]
              go_simp
            · obtain rfl := Option.some.inj ho
              exact st_move (.tmp 19) rfl (want_none rfl) _ (hpre 3 _ rfl ⟨⟨3, .data⟩, by simp, rfl, rfl⟩) (hK _ _ rfl rf)
            · obtain rfl := Option.some.inj ho
              exact st_fall (want_fall rfl rfl rfl (hpre 4 _ rfl ⟨⟨4, .guard⟩, by simp, rfl, rfl⟩) (by decide)) (hK undef _ trivial rf)
            · obtain rfl := Option.some.inj ho
              exact st_fall (want_fall rfl rfl rfl (hpre 4 _ rfl ⟨⟨4, .guard⟩, by simp, rfl, rfl⟩) (by decide)) (hK undef _ trivial rf)
            · obtain rfl := Option.some.inj ho
              exact st_fall (want_fall rfl rfl rfl (hpre 4 _ rfl ⟨⟨4, .guard⟩, by simp, rfl, rfl⟩) (by decide)) (hK undef _ trivial rf)
            · obtain rfl := Option.some.inj ho
              exact st_fall (want_fall rfl rfl rfl (hpre 4 _ rfl ⟨⟨4, .guard⟩, by simp, rfl, rfl⟩) (by decide)) (hK undef _ trivial rf)
            · obtain rfl := Option.some.inj ho
              exact st_pick (.tmp 20) (.const (.bool true)) (.tmp 24) rfl (want_none rfl) true (hpre 4 _ rfl ⟨⟨4, .data⟩, by simp, rfl, rfl⟩) _ ((if_pos rfl).trans rfl) (hK _ _ rfl rf)
            · obtain rfl := Option.some.inj ho
              exact st_move (.tmp 25) rfl (want_none rfl) _ (hpre 9 _ rfl ⟨⟨9, .data⟩, by simp, rfl, rfl⟩) (hK _ _ rfl rf)
            · obtain rfl := Option.some.inj ho
              exact st_fall (want_fall rfl rfl rfl (hpre 10 _ rfl ⟨⟨10, .guard⟩, by simp, rfl, rfl⟩) (by decide)) (hK undef _ trivial rf)
            · obtain rfl := Option.some.inj ho
              exact st_fall (want_fall rfl rfl rfl (hpre 10 _ rfl ⟨⟨10, .guard⟩, by simp, rfl, rfl⟩) (by decide)) (hK undef _ trivial rf)
            · obtain rfl := Option.some.inj ho
              exact st_fall (want_fall rfl rfl rfl (hpre 10 _ rfl ⟨⟨10, .guard⟩, by simp, rfl, rfl⟩) (by decide)) (hK undef _ trivial rf)
            · obtain rfl := Option.some.inj ho
              exact st_fall (want_fall rfl rfl rfl (hpre 10 _ rfl ⟨⟨10, .guard⟩, by simp, rfl, rfl⟩) (by decide)) (hK undef _ trivial rf)
            · obtain rfl := Option.some.inj ho
              exact st_fall (want_fall rfl rfl rfl (hpre 10 _ rfl ⟨⟨10, .guard⟩, by simp, rfl, rfl⟩) (by decide)) (hK undef _ trivial rf)
            · obtain rfl := Option.some.inj ho
              exact st_fall (want_fall rfl rfl rfl (hpre 10 _ rfl ⟨⟨10, .guard⟩, by simp, rfl, rfl⟩) (by decide)) (hK undef _ trivial rf)
            · obtain rfl := Option.some.inj ho
              exact st_pick (.tmp 26) (.const (.bool true)) (.tmp 32) rfl (want_none rfl) true (hpre 10 _ rfl ⟨⟨10, .data⟩, by simp, rfl, rfl⟩) _ ((if_pos rfl).trans rfl) (hK _ _ rfl rf)
            · cases ho
          case a3 =>
            intro aX u hr hk hv
            have q33 : aX.tmps.getD 33 undef = .bool true := hv 17 _ rfl
            have hfr := keeps_frameP (fun s => decide ((16 ≤ s ∧ s ≤ 33))) hk (by simp)
            refine hKx aX u ?_
            rw [hfr]
            generalize hff : (fun s => aX.tmps.getD s undef) = ff
            have hf33 : ff 33 = .bool true := by rw [← hff]; exact q33
            simp only [mixP, hf33, decide_eq_true_eq, Nat.reduceAdd, Nat.reduceLeDiff, Nat.reduceEqDiff, false_or, true_or, or_false, or_true, and_true, and_false, true_and, false_and, and_self, if_true, if_false, Nat.zero_le]
            clear hfr hff hf33 q33 hv hk
            go_wp2
            go_ret
            exact ⟨by rw [HER.out]; rfl, HBW.out.trans (hr.mono HBW.out.size)⟩
      · have hall : ps.take k = ps := List.take_of_length_le (by rw [HN.out]; omega)
        rw [hall] at HRK HTK
        by_cases ht : 1048576 < T
        · obtain rfl : er = 11 := by have h1 := HE.out; rw [HTK.out] at h1; have h2 := HN.out; rcases h1 with h1 | h1 | h1 | h1 <;> first | exact h1.2.2.2 | exact absurd HRK.out h1.2.1 | omega
          go_wp2
          go_ret
          exact ⟨rfl, HB.out⟩
        · obtain rfl : er = 0 := by have h1 := HE.out; rw [HTK.out] at h1; have h2 := HN.out; rcases h1 with h1 | h1 | h1 | h1 <;> first | exact h1.2.2.2 | exact absurd HRK.out h1.2.1 | omega
          go_wp2
          go_ret
          exact ⟨rfl, HB.out⟩
end Go.Proofs.Ythepbadecpnepaa
