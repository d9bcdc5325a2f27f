/-
  TailParses: any bytes are the tail that the document says, or have its first error. No condition but what the statement says.
-/
import Derived.Test.YthepbadecpnepaaAn
import Derived.Test.YthepbadecpnepaaRn
namespace Go.Proofs.Ythepbadecpnepaa
open Go.RowKit Go.MapKept
set_option linter.unusedVariables false
set_option linter.unusedSimpArgs false
set_option maxRecDepth 100000

theorem rget_of {s : List Nat} (h : s.length = 8) (hf : Fit 256 s) (hn : num s ≤ 1099511627776) : rget s = (num s : Int) := by
  unfold rget
  have h1 : num s = num (s.take 7) * 256 + num (s.drop 7) := by
    rcases List.eq_nil_or_concat s with rfl | ⟨r, x, rfl⟩
    · simp at h
    · rw [List.concat_eq_append] at h ⊢
      have hr : r.length = 7 := by simp at h; exact h
      rw [List.take_append_of_le_length (by omega), List.take_of_length_le (by omega), List.drop_append_of_le_length (by omega), List.drop_of_length_le (by omega), num_snoc]
      simp [num]
  rw [h, if_neg (by show ¬ _ < num (s.take 7); omega)]
theorem rget_num {s : List Nat} (h : 0 ≤ rget s) : rget s = (num s : Int) := by
  unfold rget at h ⊢
  split
  · rw [if_pos (by assumption)] at h; omega
  · rfl
theorem rget_ok {l : List Nat} (h : TOk (rget (sl l 8 8)) (rget (sl l 16 8)) (rget (sl l 24 8))) : rget (sl l 8 8) = ta l ∧ rget (sl l 16 8) = tb l ∧ rget (sl l 24 8) = tc l := by
  unfold TOk at h
  exact ⟨rget_num h.1, rget_num (by omega), rget_num (by omega)⟩
/-- What is so behind the region: the tail of a right one is the bytes, just if they are one's. -/
theorem tis_iff {l : List Nat} (hf : Fit 256 l) (h : l.length = 64) (hm : l.take 4 = mag) (hv : num (sl l 4 4) = 1) : tbytes (ta l) (tb l) (tc l) = l ↔ l.drop 32 = List.replicate 32 0 :=
  ⟨fun e => by rw [← e]; exact tbytes_rest _ _ _, fun e => (split_bytes hf h hm hv e).symm⟩
theorem ver_iff {l : List Nat} (hf : Fit 256 l) (h : l.length = 64) : sl l 4 4 = ver ↔ num (sl l 4 4) = 1 :=
  ⟨fun e => by rw [e]; rfl, fun e => four (sl_length (by omega)) (sl_fit hf _ _) e⟩
theorem i64_rget (s : List Nat) (h : num s < 256 ^ 8) : True := trivial
theorem run_midA (A : Option Addr) (k cap lo hi : Nat) (h1 : lo ≤ hi) (h2 : hi ≤ cap) (L H : Int) (hL : L = (lo : Int)) (hH : H = (hi : Int)) (w : World) :
    (Instr.sliceAt 25 (.slice A k cap) (some (.int .i64 L)) (some (.int .i64 H)) none).run Try.prog w = .ok (.slice (if cap = lo then A else A.map (·.add lo)) (hi - lo) (cap - lo)) w := by
  simp only [Instr.sliceAt, Sem.run_bind, run_underlying Try.underlying25, Result.andThen_ok]
  exact run_mid8 A k cap lo hi h1 h2 L H hL hH w
abbrev ParsesWalk (A : Option Addr) (n cap : Nat) (W : World) : Prop := Calls Try.prog 4 #[.slice A n cap] W fun e w' => e = .returned (.bool true) ∧ Below W.heap.size W w'
theorem parses_big (A : Option Addr) (n cap : Nat) (W : World) (hn : 300 < n) : ParsesWalk A n cap W := by
  have z : (300 : Int) < (n : Int) := by omega
  go_enter Try.func4, Try.ntmps4
  go_wp2_with fail
  refine (anchor_any W).mono ?_
  rintro e w1 ⟨rfl, hb1⟩
  go_wp2
  go_ret
  exact ⟨rfl, hb1⟩
theorem tis_rget {l : List Nat} (hf : Fit 256 l) (hl : l.length = 64) (h : TIs l) : rget (sl l 8 8) = ta l ∧ rget (sl l 16 8) = tb l ∧ rget (sl l 24 8) = tc l := by
  have h1 := h.1
  unfold TOk at h1
  exact ⟨rget_of (sl_length (by omega)) (sl_fit hf _ _) (by show ta l ≤ _; omega), rget_of (sl_length (by omega)) (sl_fit hf _ _) (by show tb l ≤ _; omega), rget_of (sl_length (by omega)) (sl_fit hf _ _) (by show tc l ≤ _; omega)⟩
set_option maxHeartbeats 4000000 in
theorem parses_10 (A : Option Addr) (n cap : Nat) (l : List Nat) (W : World) (g : Bs W A n cap l) (hn : n ≤ 300) (h64 : n ≠ 64) : ParsesWalk A n cap W := by
  have HG := Lib.hid g
  have hle := g.le
  have hmx := g.max
  have HP := Lib.hid (fun w (hb : Below W.heap.size W w) => Parse_any A n cap l w (g.below hb) (by omega))
  have HTE : Hid (terr l = 10) := by have := g.rd.1; show _ = _; unfold terr; rw [if_pos (by omega)]
  have hne : ((n : Int) != 64) = true := by simp; omega
  clear g
  go_enter Try.func4, Try.ntmps4
  go_wp2_with fail
  refine (anchor_any W).mono ?_
  rintro e w1 ⟨rfl, hb1⟩
  go_wp2_with fail
  refine (HP.out w1 hb1).mono ?_
  rintro e w2 ⟨a, b, c, rfl, hab, hno, hb2⟩
  have H2 : Hid (Below W.heap.size W w2) := hb1.trans (hb2.mono hb1.size)
  clear hb1 hb2
  have H3 : Hid (Below w2.heap.size w2 (w2.alloc (.cells #[.int .i64 0, .int .i64 0, .int .i64 0] 23)) ∧ Blk (w2.alloc (.cells #[.int .i64 0, .int .i64 0, .int .i64 0] 23)) w2.heap.size 23 tz) := ⟨(Below.refl _ _).alloc (Nat.le_refl _) _, Blk.new w2 _ tz⟩
  rw [HTE.out]
  obtain ⟨rfl, rfl, rfl⟩ := hno (by rw [HTE.out]; decide)
  clear hno hab
  go_wp2_with ((with_reducible refine at_dst none ?_); refine stopper ?_)
  refine ⟨?_, trivial⟩
  refine wpList_storeBlk (op := ⟨none, _, _, _, _, _⟩) rfl 23 (.tmp 3) (.tmp 15) rfl (g := w2.heap.size) (t := 23) (old := tz) (cs := tcells 0 0 0) rfl rfl H3.out.2 rfl iT (tcells_one _ _ _) ?_
  intro u0 hU0 hT0
  have HT0 := Lib.hid hT0
  clear hT0
  have HBU : Hid (Below W.heap.size W u0) := (H2.out.trans (H3.out.1.mono H2.out.size)).trans (HT0.out.below (fun y hy => by rw [List.mem_singleton.1 hy]; exact H2.out.size) (Nat.le_trans H2.out.size H3.out.1.size))
  have HX1 : Hid (Blk u0 w2.heap.size 23 (tcells 0 0 0)) := hU0
  have HBS := Lib.hid (HG.out.below HBU.out)
  have c0 : u0.cell? ⟨w2.heap.size, 0, none⟩ = some (.int .i64 0) := HX1.out.cell 0
  have c1 : u0.cell? ⟨w2.heap.size, 1, none⟩ = some (.int .i64 0) := HX1.out.cell 1
  have c2 : u0.cell? ⟨w2.heap.size, 2, none⟩ = some (.int .i64 0) := HX1.out.cell 2
  have heq := fun w => eqlTT 0 0 0 w
  go_wp2
  go_ret
  exact ⟨rfl, HBU.out⟩
set_option maxHeartbeats 4000000 in
theorem parses_30 (A : Option Addr) (n cap : Nat) (l : List Nat) (W : World) (g : Bs W A n cap l) (h64 : n = 64) (hm : l.take 4 ≠ mag) : ParsesWalk A n cap W := by
  subst h64
  have HG := Lib.hid g
  have hle := g.le
  have hmx := g.max
  have HP := Lib.hid (fun w (hb : Below W.heap.size W w) => Parse_any A 64 cap l w (g.below hb) (by omega))
  have HTE : Hid (terr l = 30) := by have := g.rd.1; show _ = _; unfold terr; rw [if_neg (by omega), if_pos hm]
  have hup := fun w => run_upto A 64 cap 4 (by omega) w
  have hss := str_same (g.fit.take 4) (l' := mag) (by unfold Fit mag; decide)
  rw [decide_eq_false hm] at hss
  rw [str_toList mag] at hss
  clear g hm
  go_enter Try.func4, Try.ntmps4
  go_wp2_with fail
  refine (anchor_any W).mono ?_
  rintro e w1 ⟨rfl, hb1⟩
  go_wp2_with fail
  refine (HP.out w1 hb1).mono ?_
  rintro e w2 ⟨a, b, c, rfl, hab, hno, hb2⟩
  have H2 : Hid (Below W.heap.size W w2) := hb1.trans (hb2.mono hb1.size)
  clear hb1 hb2
  have H3 : Hid (Below w2.heap.size w2 (w2.alloc (.cells #[.int .i64 0, .int .i64 0, .int .i64 0] 23)) ∧ Blk (w2.alloc (.cells #[.int .i64 0, .int .i64 0, .int .i64 0] 23)) w2.heap.size 23 tz) := ⟨(Below.refl _ _).alloc (Nat.le_refl _) _, Blk.new w2 _ tz⟩
  rw [HTE.out]
  obtain ⟨rfl, rfl, rfl⟩ := hno (by rw [HTE.out]; decide)
  clear hno hab
  go_wp2_with ((with_reducible refine at_dst none ?_); refine stopper ?_)
  refine ⟨?_, trivial⟩
  refine wpList_storeBlk (op := ⟨none, _, _, _, _, _⟩) rfl 23 (.tmp 3) (.tmp 15) rfl (g := w2.heap.size) (t := 23) (old := tz) (cs := tcells 0 0 0) rfl rfl H3.out.2 rfl iT (tcells_one _ _ _) ?_
  intro u0 hU0 hT0
  have HT0 := Lib.hid hT0
  clear hT0
  have HBU : Hid (Below W.heap.size W u0) := (H2.out.trans (H3.out.1.mono H2.out.size)).trans (HT0.out.below (fun y hy => by rw [List.mem_singleton.1 hy]; exact H2.out.size) (Nat.le_trans H2.out.size H3.out.1.size))
  have HX1 : Hid (Blk u0 w2.heap.size 23 (tcells 0 0 0)) := hU0
  have HBS := Lib.hid (HG.out.below HBU.out)
  have c0 : u0.cell? ⟨w2.heap.size, 0, none⟩ = some (.int .i64 0) := HX1.out.cell 0
  have c1 : u0.cell? ⟨w2.heap.size, 1, none⟩ = some (.int .i64 0) := HX1.out.cell 1
  have c2 : u0.cell? ⟨w2.heap.size, 2, none⟩ = some (.int .i64 0) := HX1.out.cell 2
  have heq := fun w => eqlTT 0 0 0 w
  have hstr := rd_str (HBS.out.rd.take 4 (by omega)) cap
  generalize str (l.take 4) = S1 at hss hstr
  have hss2 : (S1.toList == [65, 86, 66, 102]) = false := hss
  go_wp2
  go_ret
  exact ⟨rfl, HBU.out⟩
set_option maxHeartbeats 4000000 in
theorem parses_31 (A : Option Addr) (n cap : Nat) (l : List Nat) (W : World) (g : Bs W A n cap l) (h64 : n = 64) (hm : l.take 4 = mag) (hv : num (sl l 4 4) ≠ 1) : ParsesWalk A n cap W := by
  subst h64
  have HG := Lib.hid g
  have hle := g.le
  have hmx := g.max
  have HP := Lib.hid (fun w (hb : Below W.heap.size W w) => Parse_any A 64 cap l w (g.below hb) (by omega))
  have HTE : Hid (terr l = 31) := by have := g.rd.1; show _ = _; unfold terr; rw [if_neg (by omega), if_neg (fun h => h hm), if_pos hv]
  have hup := fun w => run_upto A 64 cap 4 (by omega) w
  have hss := str_same (g.fit.take 4) (l' := mag) (by unfold Fit mag; decide)
  rw [decide_eq_true hm] at hss
  rw [str_toList mag] at hss
  have hmd := fun w => run_mid8 A 64 cap 4 8 (by omega) (by omega) 4 8 rfl rfl w
  have hvs := str_same (sl_fit g.fit 4 4) (l' := ver) (by unfold Fit ver; decide)
  rw [str_toList ver] at hvs
  have HMR : Hid (∀ w', Below W.heap.size W w' → Rd .u8 w' (if cap = 4 then A else A.map (·.add 4)) 4 (sl l 4 4)) := fun w' hb => (g.below hb).rd.mid 4 4 cap (by omega) g.le
  generalize (if cap = 4 then A else A.map (·.add 4)) = B4 at hmd HMR
  rw [show 8 - 4 = 4 from rfl] at hmd
  obtain ⟨D4, hD4⟩ : ∃ D4, cap - 4 = D4 := ⟨_, rfl⟩
  rw [hD4] at hmd
  rw [decide_eq_false (fun e => hv ((ver_iff g.fit g.rd.1).1 e))] at hvs
  clear g hm  hv hD4
  go_enter Try.func4, Try.ntmps4
  go_wp2_with fail
  refine (anchor_any W).mono ?_
  rintro e w1 ⟨rfl, hb1⟩
  go_wp2_with fail
  refine (HP.out w1 hb1).mono ?_
  rintro e w2 ⟨a, b, c, rfl, hab, hno, hb2⟩
  have H2 : Hid (Below W.heap.size W w2) := hb1.trans (hb2.mono hb1.size)
  clear hb1 hb2
  have H3 : Hid (Below w2.heap.size w2 (w2.alloc (.cells #[.int .i64 0, .int .i64 0, .int .i64 0] 23)) ∧ Blk (w2.alloc (.cells #[.int .i64 0, .int .i64 0, .int .i64 0] 23)) w2.heap.size 23 tz) := ⟨(Below.refl _ _).alloc (Nat.le_refl _) _, Blk.new w2 _ tz⟩
  rw [HTE.out]
  obtain ⟨rfl, rfl, rfl⟩ := hno (by rw [HTE.out]; decide)
  clear hno hab
  go_wp2_with ((with_reducible refine at_dst none ?_); refine stopper ?_)
  refine ⟨?_, trivial⟩
  refine wpList_storeBlk (op := ⟨none, _, _, _, _, _⟩) rfl 23 (.tmp 3) (.tmp 15) rfl (g := w2.heap.size) (t := 23) (old := tz) (cs := tcells 0 0 0) rfl rfl H3.out.2 rfl iT (tcells_one _ _ _) ?_
  intro u0 hU0 hT0
  have HT0 := Lib.hid hT0
  clear hT0
  have HBU : Hid (Below W.heap.size W u0) := (H2.out.trans (H3.out.1.mono H2.out.size)).trans (HT0.out.below (fun y hy => by rw [List.mem_singleton.1 hy]; exact H2.out.size) (Nat.le_trans H2.out.size H3.out.1.size))
  have HX1 : Hid (Blk u0 w2.heap.size 23 (tcells 0 0 0)) := hU0
  have HBS := Lib.hid (HG.out.below HBU.out)
  have c0 : u0.cell? ⟨w2.heap.size, 0, none⟩ = some (.int .i64 0) := HX1.out.cell 0
  have c1 : u0.cell? ⟨w2.heap.size, 1, none⟩ = some (.int .i64 0) := HX1.out.cell 1
  have c2 : u0.cell? ⟨w2.heap.size, 2, none⟩ = some (.int .i64 0) := HX1.out.cell 2
  have heq := fun w => eqlTT 0 0 0 w
  have hstr := rd_str (HBS.out.rd.take 4 (by omega)) cap
  have hst2 := rd_str (HMR.out u0 HBU.out) D4
  generalize str (l.take 4) = S1 at hss hstr
  generalize str (sl l 4 4) = S2 at hvs hst2
  have hss2 : (S1.toList == [65, 86, 66, 102]) = true := hss
  have hvs2 : (S2.toList == [0, 0, 0, 1]) = false := hvs
  go_wp2
  go_ret
  exact ⟨rfl, HBU.out⟩
set_option maxHeartbeats 1000000 in
theorem parses_12r (A : Option Addr) (n cap : Nat) (l : List Nat) (W : World) (g : Bs W A n cap l) (h64 : n = 64) (hm : l.take 4 = mag) (hv : num (sl l 4 4) = 1) (hr : ¬ TOk (rget (sl l 8 8)) (rget (sl l 16 8)) (rget (sl l 24 8))) : ParsesWalk A n cap W := by
  subst h64
  have ht : ¬ TIs l := fun h => hr (by rw [(tis_rget g.fit g.rd.1 h).1, (tis_rget g.fit g.rd.1 h).2.1, (tis_rget g.fit g.rd.1 h).2.2]; exact h.1)
  have HG := Lib.hid g
  have hle := g.le
  have hmx := g.max
  have HP := Lib.hid (fun w (hb : Below W.heap.size W w) => Parse_any A 64 cap l w (g.below hb) (by omega))
  have HTE : Hid (terr l = 12) := by have := g.rd.1; show _ = _; unfold terr; rw [if_neg (by omega), if_neg (fun h => h hm), if_neg (fun h => h hv), if_neg ht]
  have HR1 := Lib.hid (fun w (hb : Below W.heap.size W w) => RGet_any A 64 cap l w (g.below hb) 8 8 8 8 rfl rfl (by omega) (by omega) (by omega))
  have HR2 := Lib.hid (fun w (hb : Below W.heap.size W w) => RGet_any A 64 cap l w (g.below hb) 16 8 16 8 rfl rfl (by omega) (by omega) (by omega))
  have HR3 := Lib.hid (fun w (hb : Below W.heap.size W w) => RGet_any A 64 cap l w (g.below hb) 24 8 24 8 rfl rfl (by omega) (by omega) (by omega))
  have HRT : Hid (decide (TOk (rget (sl l 8 8)) (rget (sl l 16 8)) (rget (sl l 24 8))) = false) := decide_eq_false hr
  have hup := fun w => run_upto A 64 cap 4 (by omega) w
  have hss := str_same (g.fit.take 4) (l' := mag) (by unfold Fit mag; decide)
  rw [decide_eq_true hm] at hss
  rw [str_toList mag] at hss
  have hmd := fun w => run_mid8 A 64 cap 4 8 (by omega) (by omega) 4 8 rfl rfl w
  have hvs := str_same (sl_fit g.fit 4 4) (l' := ver) (by unfold Fit ver; decide)
  rw [str_toList ver] at hvs
  have HMR : Hid (∀ w', Below W.heap.size W w' → Rd .u8 w' (if cap = 4 then A else A.map (·.add 4)) 4 (sl l 4 4)) := fun w' hb => (g.below hb).rd.mid 4 4 cap (by omega) g.le
  generalize (if cap = 4 then A else A.map (·.add 4)) = B4 at hmd HMR
  rw [show 8 - 4 = 4 from rfl] at hmd
  obtain ⟨D4, hD4⟩ : ∃ D4, cap - 4 = D4 := ⟨_, rfl⟩
  rw [hD4] at hmd
  rw [decide_eq_true ((ver_iff g.fit g.rd.1).2 hv)] at hvs
  clear g hm  hv hD4 hr ht
  go_enter Try.func4, Try.ntmps4
  go_wp2_with fail
  refine (anchor_any W).mono ?_
  rintro e w1 ⟨rfl, hb1⟩
  go_wp2_with fail
  refine (HP.out w1 hb1).mono ?_
  rintro e w2 ⟨a, b, c, rfl, hab, hno, hb2⟩
  have H2 : Hid (Below W.heap.size W w2) := hb1.trans (hb2.mono hb1.size)
  clear hb1 hb2
  have H3 : Hid (Below w2.heap.size w2 (w2.alloc (.cells #[.int .i64 0, .int .i64 0, .int .i64 0] 23)) ∧ Blk (w2.alloc (.cells #[.int .i64 0, .int .i64 0, .int .i64 0] 23)) w2.heap.size 23 tz) := ⟨(Below.refl _ _).alloc (Nat.le_refl _) _, Blk.new w2 _ tz⟩
  rw [HTE.out]
  obtain ⟨rfl, rfl, rfl⟩ := hno (by rw [HTE.out]; decide)
  clear hno hab
  go_wp2_with ((with_reducible refine at_dst none ?_); refine stopper ?_)
  refine ⟨?_, trivial⟩
  refine wpList_storeBlk (op := ⟨none, _, _, _, _, _⟩) rfl 23 (.tmp 3) (.tmp 15) rfl (g := w2.heap.size) (t := 23) (old := tz) (cs := tcells 0 0 0) rfl rfl H3.out.2 rfl iT (tcells_one _ _ _) ?_
  intro u0 hU0 hT0
  have HT0 := Lib.hid hT0
  clear hT0
  have HBU : Hid (Below W.heap.size W u0) := (H2.out.trans (H3.out.1.mono H2.out.size)).trans (HT0.out.below (fun y hy => by rw [List.mem_singleton.1 hy]; exact H2.out.size) (Nat.le_trans H2.out.size H3.out.1.size))
  have HX1 : Hid (Blk u0 w2.heap.size 23 (tcells 0 0 0)) := hU0
  have HBS := Lib.hid (HG.out.below HBU.out)
  have hstr := rd_str (HBS.out.rd.take 4 (by omega)) cap
  have hst2 := rd_str (HMR.out u0 HBU.out) D4
  generalize str (l.take 4) = S1 at hss hstr
  generalize str (sl l 4 4) = S2 at hvs hst2
  have hss2 : (S1.toList == [65, 86, 66, 102]) = true := hss
  have hvs2 : (S2.toList == [0, 0, 0, 1]) = true := hvs
  go_wp2_with fail
  refine (HR1.out u0 HBU.out).mono ?_
  rintro e w7 ⟨rfl, rfl⟩
  go_wp2_with fail
  refine (HR2.out _ HBU.out).mono ?_
  rintro e w7 ⟨rfl, rfl⟩
  go_wp2_with fail
  refine (HR3.out _ HBU.out).mono ?_
  rintro e u0 ⟨rfl, rfl⟩
  have H5 : Hid (Below u0.heap.size u0 (u0.alloc (.cells #[.int .i64 0, .int .i64 0, .int .i64 0] 23)) ∧ Blk (u0.alloc (.cells #[.int .i64 0, .int .i64 0, .int .i64 0] 23)) u0.heap.size 23 tz) := ⟨(Below.refl _ _).alloc (Nat.le_refl _) _, Blk.new u0 _ tz⟩
  clear HR1 HR2 HR3 HP
  generalize rget (sl l 8 8) = x at *
  generalize rget (sl l 16 8) = y at *
  generalize rget (sl l 24 8) = z at *
  go_wp2_with ((with_reducible refine at_dst none ?_); refine stopper ?_)
  refine ⟨?_, trivial⟩
  refine wpList_storeBlk (op := ⟨none, _, _, _, _, _⟩) rfl 23 (.tmp 6) (.tmp 23) rfl (g := u0.heap.size) (t := 23) (old := tz) (cs := tcells x y z) rfl rfl H5.out.2 rfl iT (tcells_one _ _ _) ?_
  intro v0 hV hTV
  have HTV := Lib.hid hTV
  clear hTV
  have HX1v := Lib.hid ((HX1.out.below H5.out.1 HX1.out.lt).touch HTV.out (by have := HX1.out.lt; simp; omega))
  have HBV : Hid (Below W.heap.size W v0) := (HBU.out.trans (H5.out.1.mono HBU.out.size)).trans (HTV.out.below (fun y hy => by rw [List.mem_singleton.1 hy]; exact HBU.out.size) (Nat.le_trans HBU.out.size H5.out.1.size))
  have HX : Hid (Blk v0 u0.heap.size 23 (tcells x y z)) := hV
  have HBSV := Lib.hid (HG.out.below HBV.out)
  clear HX1 hV H5 HTV HT0 hU0 hss hstr hvs hst2 hss2 hvs2 hup hmd HBS
  have HX1 := Lib.hid HX1v.out
  clear HX1v
  go_wp2
  generalize u0.heap.size = X at *
  generalize w2.heap.size = X1 at *
  rename_i hKx
  refine wp_region_eachW (by kernel_rfl) (by kernel_rfl) (fun u u' => Below u.heap.size u u') (fun iX v u => match iX with
      | 0 => v = TV x y z
      | 1 => v = .bool false
      | 2 => v = .bool true
      | 3 => v = .bool true
      | 4 => True
      | 5 => True
      | 6 => True
      | 7 => True
      | 8 => True
      | 9 => True
      | 10 => v = .bool true
      | _ => True) (fun u => Below v0.heap.size v0 u) ?m1 (fun _ _ h1 h2 => h1.trans (h2.mono h1.size)) ⟨rfl, rfl, rfl, Nat.le_refl _, fun _ _ => rfl⟩ ?m2 ?m3
  case m1 =>
    intro iX v u u' h hr hb
    rcases iX with _ | _ | _ | _ | _ | _ | _ | _ | _ | _ | _ | iX
    · exact h
    · exact h
    · exact h
    · exact h
    · trivial
    · trivial
    · trivial
    · trivial
    · trivial
    · trivial
    · exact h
    · trivial
  case m2 =>
    intro iX o ho aX u hr hk hpre K hK
    have e0 : aX.tmps.getD 0 undef = .slice A 64 cap := hk.slot 0 (by simp)
    have e6 : aX.tmps.getD 6 undef = .pointer (some ⟨X, 0, none⟩) := hk.slot 6 (by simp)
    have hk4 : Blk u X 23 (tcells x y z) := HX.out.below hr HX.out.lt
    have c0 : u.cell? ⟨X, 0, none⟩ = some (.int .i64 x) := hk4.cell 0
    have c1 : u.cell? ⟨X, 1, none⟩ = some (.int .i64 y) := hk4.cell 1
    have c2 : u.cell? ⟨X, 2, none⟩ = some (.int .i64 z) := hk4.cell 2
    have rf : Below u.heap.size u u := Below.refl _ _
    rcases iX with _ | _ | _ | _ | _ | _ | _ | _ | _ | _ | _ | iX
    · obtain rfl := Option.some.inj ho
      have y6 : aX.eval (.tmp 6) = .pointer (some ⟨X, 0, none⟩) := e6
      refine st_run (want_none rfl) (TV x y z) (w' := u) ?_ (hK _ _ rfl rf)
      simp only [execOp, y6]
      go_simp
    · obtain rfl := Option.some.inj ho
      have x0 : aX.eval (.tmp 24) = TV x y z := (hpre 0 _ rfl ⟨⟨0, .data⟩, by simp, rfl, rfl⟩)
      exact st_callN 12 _ _ rfl (want_none rfl) #[TV x y z] (by simp [x0]) (by kernel_rfl) _ (lright_any x y z u false HRT.out) (fun e u' he => ⟨_, he.1, hK _ _ rfl he.2⟩)
    · obtain rfl := Option.some.inj ho
      have y25 : aX.eval (.tmp 25) = .bool false := (hpre 1 _ rfl ⟨⟨1, .data⟩, by simp, rfl, rfl⟩)
      refine st_run (want_none rfl) (.bool true) (w' := u) ?_ (hK _ _ rfl rf)
      simp only [execOp, y25]
      go_simp
    · obtain rfl := Option.some.inj ho
      exact st_move (.tmp 26) rfl (want_none rfl) _ (hpre 2 _ rfl ⟨⟨2, .data⟩, by simp, rfl, rfl⟩) (hK _ _ rfl rf)
    · obtain rfl := Option.some.inj ho
      exact st_fall (want_fall rfl rfl rfl (hpre 3 _ rfl ⟨⟨3, .guard⟩, by simp, rfl, rfl⟩) (by decide)) (hK undef _ trivial rf)
    · obtain rfl := Option.some.inj ho
      exact st_fall (want_fall rfl rfl rfl (hpre 3 _ rfl ⟨⟨3, .guard⟩, by simp, rfl, rfl⟩) (by decide)) (hK undef _ trivial rf)
    · obtain rfl := Option.some.inj ho
      exact st_fall (want_fall rfl rfl rfl (hpre 3 _ rfl ⟨⟨3, .guard⟩, by simp, rfl, rfl⟩) (by decide)) (hK undef _ trivial rf)
    · obtain rfl := Option.some.inj ho
      exact st_fall (want_fall rfl rfl rfl (hpre 3 _ rfl ⟨⟨3, .guard⟩, by simp, rfl, rfl⟩) (by decide)) (hK undef _ trivial rf)
    · obtain rfl := Option.some.inj ho
      exact st_fall (want_fall rfl rfl rfl (hpre 3 _ rfl ⟨⟨3, .guard⟩, by simp, rfl, rfl⟩) (by decide)) (hK undef _ trivial rf)
    · obtain rfl := Option.some.inj ho
      exact st_fall (want_fall rfl rfl rfl (hpre 3 _ rfl ⟨⟨3, .guard⟩, by simp, rfl, rfl⟩) (by decide)) (hK undef _ trivial rf)
    · obtain rfl := Option.some.inj ho
      exact st_pick (.tmp 27) (.const (.bool true)) (.tmp 33) rfl (want_none rfl) true (hpre 3 _ rfl ⟨⟨3, .data⟩, by simp, rfl, rfl⟩) _ ((if_pos rfl).trans rfl) (hK _ _ rfl rf)
    · cases ho
  case m3 =>
    intro aX u hr hk hv
    have q34 : aX.tmps.getD 34 undef = .bool true := hv 10 _ rfl
    have hfr := keeps_frameP (fun s => decide ((24 ≤ s ∧ s ≤ 34))) hk (by simp)
    refine hKx aX u ?_
    rw [hfr]
    generalize hff : (fun s => aX.tmps.getD s undef) = ff
    have hf34 : ff 34 = .bool true := by rw [← hff]; exact q34
    simp only [mixP, hf34, decide_eq_true_eq, Nat.reduceAdd, Nat.reduceLeDiff, Nat.reduceEqDiff, false_or, true_or, or_false, or_true, and_true, and_false, true_and, false_and, and_self, if_true, if_false, Nat.zero_le]
    clear hfr hff hf34 q34 hv hk
    have HRR := Lib.hid hr
    clear hr hKx
    have hx2 := HX1.out.below HRR.out HX1.out.lt
    have d0 : u.cell? ⟨X1, 0, none⟩ = some (.int .i64 0) := hx2.cell 0
    have d1 : u.cell? ⟨X1, 1, none⟩ = some (.int .i64 0) := hx2.cell 1
    have d2 : u.cell? ⟨X1, 2, none⟩ = some (.int .i64 0) := hx2.cell 2
    have heq := fun w => eqlTT 0 0 0 w
    clear hx2
    go_wp2
    go_ret
    exact ⟨rfl, HBV.out.trans (HRR.out.mono HBV.out.size)⟩
set_option maxHeartbeats 1000000 in
theorem parses_12b (A : Option Addr) (n cap : Nat) (l : List Nat) (W : World) (g : Bs W A n cap l) (h64 : n = 64) (hm : l.take 4 = mag) (hv : num (sl l 4 4) = 1) (hr : TOk (rget (sl l 8 8)) (rget (sl l 16 8)) (rget (sl l 24 8))) (hz : l.drop 32 ≠ List.replicate 32 0) : ParsesWalk A n cap W := by
  subst h64
  have ht : ¬ TIs l := fun h => hz h.2
  have HG := Lib.hid g
  have hle := g.le
  have hmx := g.max
  have HP := Lib.hid (fun w (hb : Below W.heap.size W w) => Parse_any A 64 cap l w (g.below hb) (by omega))
  have HTE : Hid (terr l = 12) := by have := g.rd.1; show _ = _; unfold terr; rw [if_neg (by omega), if_neg (fun h => h hm), if_neg (fun h => h hv), if_neg ht]
  have HR1 := Lib.hid (fun w (hb : Below W.heap.size W w) => RGet_any A 64 cap l w (g.below hb) 8 8 8 8 rfl rfl (by omega) (by omega) (by omega))
  have HR2 := Lib.hid (fun w (hb : Below W.heap.size W w) => RGet_any A 64 cap l w (g.below hb) 16 8 16 8 rfl rfl (by omega) (by omega) (by omega))
  have HR3 := Lib.hid (fun w (hb : Below W.heap.size W w) => RGet_any A 64 cap l w (g.below hb) 24 8 24 8 rfl rfl (by omega) (by omega) (by omega))
  have HRT : Hid (decide (TOk (rget (sl l 8 8)) (rget (sl l 16 8)) (rget (sl l 24 8))) = true) := decide_eq_true hr
  have HRV := Lib.hid (rget_ok hr)
  have HLB : Hid (∀ w, Calls Try.prog 14 #[TV (rget (sl l 8 8)) (rget (sl l 16 8)) (rget (sl l 24 8))] w (GivesRow w 64 (tbytes (ta l) (tb l) (tc l)))) := fun w => by
    have h2 := rget_ok hr
    rw [h2.1, h2.2.1, h2.2.2] at hr ⊢
    exact lbytes_any (ta l) (tb l) (tc l) w hr
  have HFT : Hid (Fit 256 (tbytes (ta l) (tb l) (tc l))) := tbytes_fit _ _ _
  have HEQ : Hid (decide (tbytes (ta l) (tb l) (tc l) = l) = false) := decide_eq_false fun e => hz ((tis_iff g.fit g.rd.1 hm hv).1 e)
  have hup := fun w => run_upto A 64 cap 4 (by omega) w
  have hss := str_same (g.fit.take 4) (l' := mag) (by unfold Fit mag; decide)
  rw [decide_eq_true hm] at hss
  rw [str_toList mag] at hss
  have hmd := fun w => run_mid8 A 64 cap 4 8 (by omega) (by omega) 4 8 rfl rfl w
  have hvs := str_same (sl_fit g.fit 4 4) (l' := ver) (by unfold Fit ver; decide)
  rw [str_toList ver] at hvs
  have HMR : Hid (∀ w', Below W.heap.size W w' → Rd .u8 w' (if cap = 4 then A else A.map (·.add 4)) 4 (sl l 4 4)) := fun w' hb => (g.below hb).rd.mid 4 4 cap (by omega) g.le
  generalize (if cap = 4 then A else A.map (·.add 4)) = B4 at hmd HMR
  rw [show 8 - 4 = 4 from rfl] at hmd
  obtain ⟨D4, hD4⟩ : ∃ D4, cap - 4 = D4 := ⟨_, rfl⟩
  rw [hD4] at hmd
  rw [decide_eq_true ((ver_iff g.fit g.rd.1).2 hv)] at hvs
  clear g hm  hv hD4 hr ht hz
  go_enter Try.func4, Try.ntmps4
  go_wp2_with fail
  refine (anchor_any W).mono ?_
  rintro e w1 ⟨rfl, hb1⟩
  go_wp2_with fail
  refine (HP.out w1 hb1).mono ?_
  rintro e w2 ⟨a, b, c, rfl, hab, hno, hb2⟩
  have H2 : Hid (Below W.heap.size W w2) := hb1.trans (hb2.mono hb1.size)
  clear hb1 hb2
  have H3 : Hid (Below w2.heap.size w2 (w2.alloc (.cells #[.int .i64 0, .int .i64 0, .int .i64 0] 23)) ∧ Blk (w2.alloc (.cells #[.int .i64 0, .int .i64 0, .int .i64 0] 23)) w2.heap.size 23 tz) := ⟨(Below.refl _ _).alloc (Nat.le_refl _) _, Blk.new w2 _ tz⟩
  rw [HTE.out]
  obtain ⟨rfl, rfl, rfl⟩ := hno (by rw [HTE.out]; decide)
  clear hno hab
  go_wp2_with ((with_reducible refine at_dst none ?_); refine stopper ?_)
  refine ⟨?_, trivial⟩
  refine wpList_storeBlk (op := ⟨none, _, _, _, _, _⟩) rfl 23 (.tmp 3) (.tmp 15) rfl (g := w2.heap.size) (t := 23) (old := tz) (cs := tcells 0 0 0) rfl rfl H3.out.2 rfl iT (tcells_one _ _ _) ?_
  intro u0 hU0 hT0
  have HT0 := Lib.hid hT0
  clear hT0
  have HBU : Hid (Below W.heap.size W u0) := (H2.out.trans (H3.out.1.mono H2.out.size)).trans (HT0.out.below (fun y hy => by rw [List.mem_singleton.1 hy]; exact H2.out.size) (Nat.le_trans H2.out.size H3.out.1.size))
  have HX1 : Hid (Blk u0 w2.heap.size 23 (tcells 0 0 0)) := hU0
  have HBS := Lib.hid (HG.out.below HBU.out)
  have hstr := rd_str (HBS.out.rd.take 4 (by omega)) cap
  have hst2 := rd_str (HMR.out u0 HBU.out) D4
  generalize str (l.take 4) = S1 at hss hstr
  generalize str (sl l 4 4) = S2 at hvs hst2
  have hss2 : (S1.toList == [65, 86, 66, 102]) = true := hss
  have hvs2 : (S2.toList == [0, 0, 0, 1]) = true := hvs
  go_wp2_with fail
  refine (HR1.out u0 HBU.out).mono ?_
  rintro e w7 ⟨rfl, rfl⟩
  go_wp2_with fail
  refine (HR2.out _ HBU.out).mono ?_
  rintro e w7 ⟨rfl, rfl⟩
  go_wp2_with fail
  refine (HR3.out _ HBU.out).mono ?_
  rintro e u0 ⟨rfl, rfl⟩
  have H5 : Hid (Below u0.heap.size u0 (u0.alloc (.cells #[.int .i64 0, .int .i64 0, .int .i64 0] 23)) ∧ Blk (u0.alloc (.cells #[.int .i64 0, .int .i64 0, .int .i64 0] 23)) u0.heap.size 23 tz) := ⟨(Below.refl _ _).alloc (Nat.le_refl _) _, Blk.new u0 _ tz⟩
  clear HR1 HR2 HR3 HP
  generalize rget (sl l 8 8) = x at *
  generalize rget (sl l 16 8) = y at *
  generalize rget (sl l 24 8) = z at *
  obtain ⟨BT, hBT⟩ : ∃ BT, tbytes (ta l) (tb l) (tc l) = BT := ⟨_, rfl⟩
  rw [hBT] at HLB HFT HEQ
  clear hBT HRV
  go_wp2_with ((with_reducible refine at_dst none ?_); refine stopper ?_)
  refine ⟨?_, trivial⟩
  refine wpList_storeBlk (op := ⟨none, _, _, _, _, _⟩) rfl 23 (.tmp 6) (.tmp 23) rfl (g := u0.heap.size) (t := 23) (old := tz) (cs := tcells x y z) rfl rfl H5.out.2 rfl iT (tcells_one _ _ _) ?_
  intro v0 hV hTV
  have HTV := Lib.hid hTV
  clear hTV
  have HX1v := Lib.hid ((HX1.out.below H5.out.1 HX1.out.lt).touch HTV.out (by have := HX1.out.lt; simp; omega))
  have HBV : Hid (Below W.heap.size W v0) := (HBU.out.trans (H5.out.1.mono HBU.out.size)).trans (HTV.out.below (fun y hy => by rw [List.mem_singleton.1 hy]; exact HBU.out.size) (Nat.le_trans HBU.out.size H5.out.1.size))
  have HX : Hid (Blk v0 u0.heap.size 23 (tcells x y z)) := hV
  have HBSV := Lib.hid (HG.out.below HBV.out)
  clear HX1 hV H5 HTV HT0 hU0 hss hstr hvs hst2 hss2 hvs2 hup hmd HBS
  have HX1 := Lib.hid HX1v.out
  clear HX1v
  go_wp2
  generalize u0.heap.size = X at *
  generalize w2.heap.size = X1 at *
  rename_i hKx
  refine wp_region_eachW (by kernel_rfl) (by kernel_rfl) (fun u u' => Below u.heap.size u u') (fun iX v u => match iX with
      | 0 => v = TV x y z
      | 1 => v = .bool true
      | 2 => v = .bool false
      | 3 => v = .bool false
      | 4 => v = TV x y z
      | 5 => ∃ A9 c9, v = .slice A9 64 c9 ∧ Row u W.heap.size 5 A9 64 c9 (cn .u8 BT)
      | 6 => v = .string (str BT)
      | 7 => v = .slice A 64 cap
      | 8 => v = .string (str l)
      | 9 => v = .bool true
      | 10 => v = .bool true
      | _ => True) (fun u => Below v0.heap.size v0 u) ?m1 (fun _ _ h1 h2 => h1.trans (h2.mono h1.size)) ⟨rfl, rfl, rfl, Nat.le_refl _, fun _ _ => rfl⟩ ?m2 ?m3
  case m1 =>
    intro iX v u u' h hr hb
    rcases iX with _ | _ | _ | _ | _ | _ | _ | _ | _ | _ | _ | iX
    · exact h
    · exact h
    · exact h
    · exact h
    · exact h
    · obtain ⟨A9, c9, h1, h2⟩ := h; exact ⟨A9, c9, h1, h2.below hb⟩
    · exact h
    · exact h
    · exact h
    · exact h
    · exact h
    · trivial
  case m2 =>
    intro iX o ho aX u hr hk hpre K hK
    have e0 : aX.tmps.getD 0 undef = .slice A 64 cap := hk.slot 0 (by simp)
    have e6 : aX.tmps.getD 6 undef = .pointer (some ⟨X, 0, none⟩) := hk.slot 6 (by simp)
    have hk4 : Blk u X 23 (tcells x y z) := HX.out.below hr HX.out.lt
    have c0 : u.cell? ⟨X, 0, none⟩ = some (.int .i64 x) := hk4.cell 0
    have c1 : u.cell? ⟨X, 1, none⟩ = some (.int .i64 y) := hk4.cell 1
    have c2 : u.cell? ⟨X, 2, none⟩ = some (.int .i64 z) := hk4.cell 2
    have rf : Below u.heap.size u u := Below.refl _ _
    rcases iX with _ | _ | _ | _ | _ | _ | _ | _ | _ | _ | _ | iX
    · obtain rfl := Option.some.inj ho
      have y6 : aX.eval (.tmp 6) = .pointer (some ⟨X, 0, none⟩) := e6
      refine st_run (want_none rfl) (TV x y z) (w' := u) ?_ (hK _ _ rfl rf)
      simp only [execOp, y6]
      go_simp
    · obtain rfl := Option.some.inj ho
      have x0 : aX.eval (.tmp 24) = TV x y z := (hpre 0 _ rfl ⟨⟨0, .data⟩, by simp, rfl, rfl⟩)
      exact st_callN 12 _ _ rfl (want_none rfl) #[TV x y z] (by simp [x0]) (by kernel_rfl) _ (lright_any x y z u true HRT.out) (fun e u' he => ⟨_, he.1, hK _ _ rfl he.2⟩)
    · obtain rfl := Option.some.inj ho
      have y25 : aX.eval (.tmp 25) = .bool true := (hpre 1 _ rfl ⟨⟨1, .data⟩, by simp, rfl, rfl⟩)
      refine st_run (want_none rfl) (.bool false) (w' := u) ?_ (hK _ _ rfl rf)
      simp only [execOp, y25]
      go_simp
    · obtain rfl := Option.some.inj ho
      exact st_move (.tmp 26) rfl (want_none rfl) _ (hpre 2 _ rfl ⟨⟨2, .data⟩, by simp, rfl, rfl⟩) (hK _ _ rfl rf)
    · obtain rfl := Option.some.inj ho
      have y6 : aX.eval (.tmp 6) = .pointer (some ⟨X, 0, none⟩) := e6
      refine st_run (want_some rfl rfl rfl (hpre 3 _ rfl ⟨⟨3, .guard⟩, by simp, rfl, rfl⟩)) (TV x y z) (w' := u) ?_ (hK _ _ rfl rf)
      simp only [execOp, y6]
      go_simp
    · obtain rfl := Option.some.inj ho
      have x0 : aX.eval (.tmp 28) = TV x y z := (hpre 4 _ rfl ⟨⟨4, .data⟩, by simp, rfl, rfl⟩)
      exact st_callN 14 _ _ rfl (want_some rfl rfl rfl (hpre 3 _ rfl ⟨⟨3, .guard⟩, by simp, rfl, rfl⟩)) #[TV x y z] (by simp [x0]) (by kernel_rfl) _ (HLB.out u) (fun e u' he => by obtain ⟨A9, c9, he1, he2, he3⟩ := he; exact ⟨_, he1, hK _ _ ⟨A9, c9, rfl, he2.mono (Nat.le_trans HBV.out.size hr.size)⟩ he3⟩)
    · obtain rfl := Option.some.inj ho
      obtain ⟨A9, c9, e9, h9⟩ := (hpre 5 _ rfl ⟨⟨5, .data⟩, by simp, rfl, rfl⟩)
      exact st_conv (.tmp 29) rfl (want_some rfl rfl rfl (hpre 3 _ rfl ⟨⟨3, .guard⟩, by simp, rfl, rfl⟩)) _ _ _ _ e9 h9.rd (hK _ _ rfl rf)
    · obtain rfl := Option.some.inj ho
      exact st_move (.tmp 0) rfl (want_some rfl rfl rfl (hpre 3 _ rfl ⟨⟨3, .guard⟩, by simp, rfl, rfl⟩)) _ e0 (hK _ _ rfl rf)
    · obtain rfl := Option.some.inj ho
      exact st_conv (.tmp 31) rfl (want_some rfl rfl rfl (hpre 3 _ rfl ⟨⟨3, .guard⟩, by simp, rfl, rfl⟩)) _ _ _ _ (hpre 7 _ rfl ⟨⟨7, .data⟩, by simp, rfl, rfl⟩) (HBSV.out.rd.below hr) (hK _ _ rfl rf)
    · obtain rfl := Option.some.inj ho
      refine st_neqStrB (.tmp 30) (.tmp 32) rfl (want_some rfl rfl rfl (hpre 3 _ rfl ⟨⟨3, .guard⟩, by simp, rfl, rfl⟩)) BT l HFT.out HG.out.fit (hpre 6 _ rfl ⟨⟨6, .data⟩, by simp, rfl, rfl⟩) (hpre 8 _ rfl ⟨⟨8, .data⟩, by simp, rfl, rfl⟩) (hK _ _ ?_ rf)
      show _ = _
      rw [HEQ.out]
      rfl
    · obtain rfl := Option.some.inj ho
      exact st_pick (.tmp 27) (.const (.bool true)) (.tmp 33) rfl (want_none rfl) false (hpre 3 _ rfl ⟨⟨3, .data⟩, by simp, rfl, rfl⟩) _ ((if_neg (by decide)).trans (hpre 9 _ rfl ⟨⟨9, .data⟩, by simp, rfl, rfl⟩)) (hK _ _ rfl rf)
    · cases ho
  case m3 =>
    intro aX u hr hk hv
    have q34 : aX.tmps.getD 34 undef = .bool true := hv 10 _ rfl
    have hfr := keeps_frameP (fun s => decide ((24 ≤ s ∧ s ≤ 34))) hk (by simp)
    refine hKx aX u ?_
    rw [hfr]
    generalize hff : (fun s => aX.tmps.getD s undef) = ff
    have hf34 : ff 34 = .bool true := by rw [← hff]; exact q34
    simp only [mixP, hf34, decide_eq_true_eq, Nat.reduceAdd, Nat.reduceLeDiff, Nat.reduceEqDiff, false_or, true_or, or_false, or_true, and_true, and_false, true_and, false_and, and_self, if_true, if_false, Nat.zero_le]
    clear hfr hff hf34 q34 hv hk
    have HRR := Lib.hid hr
    clear hr hKx
    have hx2 := HX1.out.below HRR.out HX1.out.lt
    have d0 : u.cell? ⟨X1, 0, none⟩ = some (.int .i64 0) := hx2.cell 0
    have d1 : u.cell? ⟨X1, 1, none⟩ = some (.int .i64 0) := hx2.cell 1
    have d2 : u.cell? ⟨X1, 2, none⟩ = some (.int .i64 0) := hx2.cell 2
    have heq := fun w => eqlTT 0 0 0 w
    clear hx2
    go_wp2
    go_ret
    exact ⟨rfl, HBV.out.trans (HRR.out.mono HBV.out.size)⟩
set_option maxHeartbeats 1000000 in
theorem parses_0 (A : Option Addr) (n cap : Nat) (l : List Nat) (W : World) (g : Bs W A n cap l) (h64 : n = 64) (hm : l.take 4 = mag) (hv : num (sl l 4 4) = 1) (ht : TIs l) : ParsesWalk A n cap W := by
  subst h64
  have hr : TOk (rget (sl l 8 8)) (rget (sl l 16 8)) (rget (sl l 24 8)) := by rw [(tis_rget g.fit g.rd.1 ht).1, (tis_rget g.fit g.rd.1 ht).2.1, (tis_rget g.fit g.rd.1 ht).2.2]; exact ht.1
  have HG := Lib.hid g
  have hle := g.le
  have hmx := g.max
  have HP := Lib.hid (fun w (hb : Below W.heap.size W w) => Parse_any A 64 cap l w (g.below hb) (by omega))
  have HTE : Hid (terr l = 0) := by have := g.rd.1; show _ = _; unfold terr; rw [if_neg (by omega), if_neg (fun h => h hm), if_neg (fun h => h hv), if_pos ht]
  have HR1 := Lib.hid (fun w (hb : Below W.heap.size W w) => RGet_any A 64 cap l w (g.below hb) 8 8 8 8 rfl rfl (by omega) (by omega) (by omega))
  have HR2 := Lib.hid (fun w (hb : Below W.heap.size W w) => RGet_any A 64 cap l w (g.below hb) 16 8 16 8 rfl rfl (by omega) (by omega) (by omega))
  have HR3 := Lib.hid (fun w (hb : Below W.heap.size W w) => RGet_any A 64 cap l w (g.below hb) 24 8 24 8 rfl rfl (by omega) (by omega) (by omega))
  have HRT : Hid (decide (TOk (rget (sl l 8 8)) (rget (sl l 16 8)) (rget (sl l 24 8))) = true) := decide_eq_true hr
  have HRV := Lib.hid (rget_ok hr)
  have HLB : Hid (∀ w, Calls Try.prog 14 #[TV (rget (sl l 8 8)) (rget (sl l 16 8)) (rget (sl l 24 8))] w (GivesRow w 64 (tbytes (ta l) (tb l) (tc l)))) := fun w => by
    have h2 := rget_ok hr
    rw [h2.1, h2.2.1, h2.2.2] at hr ⊢
    exact lbytes_any (ta l) (tb l) (tc l) w hr
  have HFT : Hid (Fit 256 (tbytes (ta l) (tb l) (tc l))) := tbytes_fit _ _ _
  have HEQ : Hid (decide (tbytes (ta l) (tb l) (tc l) = l) = true) := decide_eq_true ((tis_iff g.fit g.rd.1 hm hv).2 ht.2)
  have hup := fun w => run_upto A 64 cap 4 (by omega) w
  have hss := str_same (g.fit.take 4) (l' := mag) (by unfold Fit mag; decide)
  rw [decide_eq_true hm] at hss
  rw [str_toList mag] at hss
  have hmd := fun w => run_mid8 A 64 cap 4 8 (by omega) (by omega) 4 8 rfl rfl w
  have hvs := str_same (sl_fit g.fit 4 4) (l' := ver) (by unfold Fit ver; decide)
  rw [str_toList ver] at hvs
  have HMR : Hid (∀ w', Below W.heap.size W w' → Rd .u8 w' (if cap = 4 then A else A.map (·.add 4)) 4 (sl l 4 4)) := fun w' hb => (g.below hb).rd.mid 4 4 cap (by omega) g.le
  generalize (if cap = 4 then A else A.map (·.add 4)) = B4 at hmd HMR
  rw [show 8 - 4 = 4 from rfl] at hmd
  obtain ⟨D4, hD4⟩ : ∃ D4, cap - 4 = D4 := ⟨_, rfl⟩
  rw [hD4] at hmd
  rw [decide_eq_true ((ver_iff g.fit g.rd.1).2 hv)] at hvs
  clear g hm  hv hD4 hr ht
  go_enter Try.func4, Try.ntmps4
  go_wp2_with fail
  refine (anchor_any W).mono ?_
  rintro e w1 ⟨rfl, hb1⟩
  go_wp2_with fail
  refine (HP.out w1 hb1).mono ?_
  rintro e w2 ⟨a, b, c, rfl, hab, hno, hb2⟩
  have H2 : Hid (Below W.heap.size W w2) := hb1.trans (hb2.mono hb1.size)
  clear hb1 hb2
  have H3 : Hid (Below w2.heap.size w2 (w2.alloc (.cells #[.int .i64 0, .int .i64 0, .int .i64 0] 23)) ∧ Blk (w2.alloc (.cells #[.int .i64 0, .int .i64 0, .int .i64 0] 23)) w2.heap.size 23 tz) := ⟨(Below.refl _ _).alloc (Nat.le_refl _) _, Blk.new w2 _ tz⟩
  rw [HTE.out]
  obtain ⟨rfl, rfl, rfl⟩ := hab HTE.out
  clear hno hab
  go_wp2_with ((with_reducible refine at_dst none ?_); refine stopper ?_)
  refine ⟨?_, trivial⟩
  refine wpList_storeBlk (op := ⟨none, _, _, _, _, _⟩) rfl 23 (.tmp 3) (.tmp 15) rfl (g := w2.heap.size) (t := 23) (old := tz) (cs := tcells (ta l : Nat) (tb l : Nat) (tc l : Nat)) rfl rfl H3.out.2 rfl iT (tcells_one _ _ _) ?_
  intro u0 hU0 hT0
  have HT0 := Lib.hid hT0
  clear hT0
  have HBU : Hid (Below W.heap.size W u0) := (H2.out.trans (H3.out.1.mono H2.out.size)).trans (HT0.out.below (fun y hy => by rw [List.mem_singleton.1 hy]; exact H2.out.size) (Nat.le_trans H2.out.size H3.out.1.size))
  have HX1 : Hid (Blk u0 w2.heap.size 23 (tcells (ta l : Nat) (tb l : Nat) (tc l : Nat))) := hU0
  have HBS := Lib.hid (HG.out.below HBU.out)
  have hstr := rd_str (HBS.out.rd.take 4 (by omega)) cap
  have hst2 := rd_str (HMR.out u0 HBU.out) D4
  generalize str (l.take 4) = S1 at hss hstr
  generalize str (sl l 4 4) = S2 at hvs hst2
  have hss2 : (S1.toList == [65, 86, 66, 102]) = true := hss
  have hvs2 : (S2.toList == [0, 0, 0, 1]) = true := hvs
  go_wp2_with fail
  refine (HR1.out u0 HBU.out).mono ?_
  rintro e w7 ⟨rfl, rfl⟩
  go_wp2_with fail
  refine (HR2.out _ HBU.out).mono ?_
  rintro e w7 ⟨rfl, rfl⟩
  go_wp2_with fail
  refine (HR3.out _ HBU.out).mono ?_
  rintro e u0 ⟨rfl, rfl⟩
  have H5 : Hid (Below u0.heap.size u0 (u0.alloc (.cells #[.int .i64 0, .int .i64 0, .int .i64 0] 23)) ∧ Blk (u0.alloc (.cells #[.int .i64 0, .int .i64 0, .int .i64 0] 23)) u0.heap.size 23 tz) := ⟨(Below.refl _ _).alloc (Nat.le_refl _) _, Blk.new u0 _ tz⟩
  have HX1b : Hid (Blk u0 w2.heap.size 23 (tcells (rget (sl l 8 8)) (rget (sl l 16 8)) (rget (sl l 24 8)))) := by have := HX1.out; rw [← HRV.out.1, ← HRV.out.2.1, ← HRV.out.2.2] at this; exact this
  clear HX1
  have HX1 := Lib.hid HX1b.out
  clear HX1b
  clear HR1 HR2 HR3 HP
  generalize rget (sl l 8 8) = x at *
  generalize rget (sl l 16 8) = y at *
  generalize rget (sl l 24 8) = z at *
  obtain ⟨BT, hBT⟩ : ∃ BT, tbytes (ta l) (tb l) (tc l) = BT := ⟨_, rfl⟩
  rw [hBT] at HLB HFT HEQ
  clear hBT HRV
  go_wp2_with ((with_reducible refine at_dst none ?_); refine stopper ?_)
  refine ⟨?_, trivial⟩
  refine wpList_storeBlk (op := ⟨none, _, _, _, _, _⟩) rfl 23 (.tmp 6) (.tmp 23) rfl (g := u0.heap.size) (t := 23) (old := tz) (cs := tcells x y z) rfl rfl H5.out.2 rfl iT (tcells_one _ _ _) ?_
  intro v0 hV hTV
  have HTV := Lib.hid hTV
  clear hTV
  have HX1v := Lib.hid ((HX1.out.below H5.out.1 HX1.out.lt).touch HTV.out (by have := HX1.out.lt; simp; omega))
  have HBV : Hid (Below W.heap.size W v0) := (HBU.out.trans (H5.out.1.mono HBU.out.size)).trans (HTV.out.below (fun y hy => by rw [List.mem_singleton.1 hy]; exact HBU.out.size) (Nat.le_trans HBU.out.size H5.out.1.size))
  have HX : Hid (Blk v0 u0.heap.size 23 (tcells x y z)) := hV
  have HBSV := Lib.hid (HG.out.below HBV.out)
  clear HX1 hV H5 HTV HT0 hU0 hss hstr hvs hst2 hss2 hvs2 hup hmd HBS
  have HX1 := Lib.hid HX1v.out
  clear HX1v
  go_wp2
  generalize u0.heap.size = X at *
  generalize w2.heap.size = X1 at *
  rename_i hKx
  refine wp_region_eachW (by kernel_rfl) (by kernel_rfl) (fun u u' => Below u.heap.size u u') (fun iX v u => match iX with
      | 0 => v = TV x y z
      | 1 => v = .bool true
      | 2 => v = .bool false
      | 3 => v = .bool false
      | 4 => v = TV x y z
      | 5 => ∃ A9 c9, v = .slice A9 64 c9 ∧ Row u W.heap.size 5 A9 64 c9 (cn .u8 BT)
      | 6 => v = .string (str BT)
      | 7 => v = .slice A 64 cap
      | 8 => v = .string (str l)
      | 9 => v = .bool false
      | 10 => v = .bool false
      | _ => True) (fun u => Below v0.heap.size v0 u) ?m1 (fun _ _ h1 h2 => h1.trans (h2.mono h1.size)) ⟨rfl, rfl, rfl, Nat.le_refl _, fun _ _ => rfl⟩ ?m2 ?m3
  case m1 =>
    intro iX v u u' h hr hb
    rcases iX with _ | _ | _ | _ | _ | _ | _ | _ | _ | _ | _ | iX
    · exact h
    · exact h
    · exact h
    · exact h
    · exact h
    · obtain ⟨A9, c9, h1, h2⟩ := h; exact ⟨A9, c9, h1, h2.below hb⟩
    · exact h
    · exact h
    · exact h
    · exact h
    · exact h
    · trivial
  case m2 =>
    intro iX o ho aX u hr hk hpre K hK
    have e0 : aX.tmps.getD 0 undef = .slice A 64 cap := hk.slot 0 (by simp)
    have e6 : aX.tmps.getD 6 undef = .pointer (some ⟨X, 0, none⟩) := hk.slot 6 (by simp)
    have hk4 : Blk u X 23 (tcells x y z) := HX.out.below hr HX.out.lt
    have c0 : u.cell? ⟨X, 0, none⟩ = some (.int .i64 x) := hk4.cell 0
    have c1 : u.cell? ⟨X, 1, none⟩ = some (.int .i64 y) := hk4.cell 1
    have c2 : u.cell? ⟨X, 2, none⟩ = some (.int .i64 z) := hk4.cell 2
    have rf : Below u.heap.size u u := Below.refl _ _
    rcases iX with _ | _ | _ | _ | _ | _ | _ | _ | _ | _ | _ | iX
    · obtain rfl := Option.some.inj ho
      have y6 : aX.eval (.tmp 6) = .pointer (some ⟨X, 0, none⟩) := e6
      refine st_run (want_none rfl) (TV x y z) (w' := u) ?_ (hK _ _ rfl rf)
      simp only [execOp, y6]
      go_simp
    · obtain rfl := Option.some.inj ho
      have x0 : aX.eval (.tmp 24) = TV x y z := (hpre 0 _ rfl ⟨⟨0, .data⟩, by simp, rfl, rfl⟩)
      exact st_callN 12 _ _ rfl (want_none rfl) #[TV x y z] (by simp [x0]) (by kernel_rfl) _ (lright_any x y z u true HRT.out) (fun e u' he => ⟨_, he.1, hK _ _ rfl he.2⟩)
    · obtain rfl := Option.some.inj ho
      have y25 : aX.eval (.tmp 25) = .bool true := (hpre 1 _ rfl ⟨⟨1, .data⟩, by simp, rfl, rfl⟩)
      refine st_run (want_none rfl) (.bool false) (w' := u) ?_ (hK _ _ rfl rf)
      simp only [execOp, y25]
      go_simp
    · obtain rfl := Option.some.inj ho
      exact st_move (.tmp 26) rfl (want_none rfl) _ (hpre 2 _ rfl ⟨⟨2, .data⟩, by simp, rfl, rfl⟩) (hK _ _ rfl rf)
    · obtain rfl := Option.some.inj ho
      have y6 : aX.eval (.tmp 6) = .pointer (some ⟨X, 0, none⟩) := e6
      refine st_run (want_some rfl rfl rfl (hpre 3 _ rfl ⟨⟨3, .guard⟩, by simp, rfl, rfl⟩)) (TV x y z) (w' := u) ?_ (hK _ _ rfl rf)
      simp only [execOp, y6]
      go_simp
    · obtain rfl := Option.some.inj ho
      have x0 : aX.eval (.tmp 28) = TV x y z := (hpre 4 _ rfl ⟨⟨4, .data⟩, by simp, rfl, rfl⟩)
      exact st_callN 14 _ _ rfl (want_some rfl rfl rfl (hpre 3 _ rfl ⟨⟨3, .guard⟩, by simp, rfl, rfl⟩)) #[TV x y z] (by simp [x0]) (by kernel_rfl) _ (HLB.out u) (fun e u' he => by obtain ⟨A9, c9, he1, he2, he3⟩ := he; exact ⟨_, he1, hK _ _ ⟨A9, c9, rfl, he2.mono (Nat.le_trans HBV.out.size hr.size)⟩ he3⟩)
    · obtain rfl := Option.some.inj ho
      obtain ⟨A9, c9, e9, h9⟩ := (hpre 5 _ rfl ⟨⟨5, .data⟩, by simp, rfl, rfl⟩)
      exact st_conv (.tmp 29) rfl (want_some rfl rfl rfl (hpre 3 _ rfl ⟨⟨3, .guard⟩, by simp, rfl, rfl⟩)) _ _ _ _ e9 h9.rd (hK _ _ rfl rf)
    · obtain rfl := Option.some.inj ho
      exact st_move (.tmp 0) rfl (want_some rfl rfl rfl (hpre 3 _ rfl ⟨⟨3, .guard⟩, by simp, rfl, rfl⟩)) _ e0 (hK _ _ rfl rf)
    · obtain rfl := Option.some.inj ho
      exact st_conv (.tmp 31) rfl (want_some rfl rfl rfl (hpre 3 _ rfl ⟨⟨3, .guard⟩, by simp, rfl, rfl⟩)) _ _ _ _ (hpre 7 _ rfl ⟨⟨7, .data⟩, by simp, rfl, rfl⟩) (HBSV.out.rd.below hr) (hK _ _ rfl rf)
    · obtain rfl := Option.some.inj ho
      refine st_neqStrB (.tmp 30) (.tmp 32) rfl (want_some rfl rfl rfl (hpre 3 _ rfl ⟨⟨3, .guard⟩, by simp, rfl, rfl⟩)) BT l HFT.out HG.out.fit (hpre 6 _ rfl ⟨⟨6, .data⟩, by simp, rfl, rfl⟩) (hpre 8 _ rfl ⟨⟨8, .data⟩, by simp, rfl, rfl⟩) (hK _ _ ?_ rf)
      show _ = _
      rw [HEQ.out]
      rfl
    · obtain rfl := Option.some.inj ho
      exact st_pick (.tmp 27) (.const (.bool true)) (.tmp 33) rfl (want_none rfl) false (hpre 3 _ rfl ⟨⟨3, .data⟩, by simp, rfl, rfl⟩) _ ((if_neg (by decide)).trans (hpre 9 _ rfl ⟨⟨9, .data⟩, by simp, rfl, rfl⟩)) (hK _ _ rfl rf)
    · cases ho
  case m3 =>
    intro aX u hr hk hv
    have q34 : aX.tmps.getD 34 undef = .bool false := hv 10 _ rfl
    have hfr := keeps_frameP (fun s => decide ((24 ≤ s ∧ s ≤ 34))) hk (by simp)
    refine hKx aX u ?_
    rw [hfr]
    generalize hff : (fun s => aX.tmps.getD s undef) = ff
    have hf34 : ff 34 = .bool false := by rw [← hff]; exact q34
    simp only [mixP, hf34, decide_eq_true_eq, Nat.reduceAdd, Nat.reduceLeDiff, Nat.reduceEqDiff, false_or, true_or, or_false, or_true, and_true, and_false, true_and, false_and, and_self, if_true, if_false, Nat.zero_le]
    clear hfr hff hf34 q34 hv hk
    have HRR := Lib.hid hr
    clear hr hKx
    have hx1 := HX.out.below HRR.out HX.out.lt
    have hx2 := HX1.out.below HRR.out HX1.out.lt
    have c0 : u.cell? ⟨X, 0, none⟩ = some (.int .i64 x) := hx1.cell 0
    have c1 : u.cell? ⟨X, 1, none⟩ = some (.int .i64 y) := hx1.cell 1
    have c2 : u.cell? ⟨X, 2, none⟩ = some (.int .i64 z) := hx1.cell 2
    have d0 : u.cell? ⟨X1, 0, none⟩ = some (.int .i64 x) := hx2.cell 0
    have d1 : u.cell? ⟨X1, 1, none⟩ = some (.int .i64 y) := hx2.cell 1
    have d2 : u.cell? ⟨X1, 2, none⟩ = some (.int .i64 z) := hx2.cell 2
    have heq := fun w => eqlTT x y z w
    clear hx1 hx2
    go_wp2
    go_ret
    exact ⟨rfl, HBV.out.trans (HRR.out.mono HBV.out.size)⟩
theorem parses_walk (A : Option Addr) (n cap : Nat) (l : List Nat) (W : World) (g : Bs W A n cap l) : ParsesWalk A n cap W := by
  by_cases hn : 300 < n
  · exact parses_big A n cap W hn
  · by_cases h64 : n = 64
    · by_cases hm : l.take 4 = mag
      · by_cases hv : num (sl l 4 4) = 1
        · by_cases ht : TIs l
          · exact parses_0 A n cap l W g h64 hm hv ht
          · by_cases hr : TOk (rget (sl l 8 8)) (rget (sl l 16 8)) (rget (sl l 24 8))
            · refine parses_12b A n cap l W g h64 hm hv hr fun hz => ht ⟨?_, hz⟩
              have h2 := rget_ok hr
              rw [h2.1, h2.2.1, h2.2.2] at hr
              exact hr
            · exact parses_12r A n cap l W g h64 hm hv hr
        · exact parses_31 A n cap l W g h64 hm hv
      · exact parses_30 A n cap l W g h64 hm
    · exact parses_10 A n cap l W g (by omega) h64
end Go.Proofs.Ythepbadecpnepaa
