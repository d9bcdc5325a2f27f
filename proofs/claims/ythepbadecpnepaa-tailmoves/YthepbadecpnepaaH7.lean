/-
  What find answers: the tail that a partition's last bytes are, if its blob is ahead of it. No condition but that the drive is on.
-/
import Derived.Test.YthepbadecpnepaaH6
import Derived.Test.YthepbadecpnepaaD12
namespace Go.Proofs.Ythepbadecpnepaa
open Go.RowKit Go.MapKept
set_option linter.unusedVariables false
set_option linter.unusedSimpArgs false
set_option maxRecDepth 100000

/-- A partition's last bytes. -/
def lastOf (l : List Nat) : List Nat := l.drop (l.length - 64)
/-- What is wrong with a partition's tail. -/
def FindIs (p : Pt) (er : Int) : Prop := Spoilt p.bad (p.l.length - 64) 64 ∧ er = 41 ∨ ¬ Spoilt p.bad (p.l.length - 64) 64 ∧ (terr (lastOf p.l) ≠ 0 ∧ er = terr (lastOf p.l) ∨ terr (lastOf p.l) = 0 ∧ (¬ tb (lastOf p.l) + tc (lastOf p.l) ≤ p.l.length - 64 ∧ er = 13 ∨ tb (lastOf p.l) + tc (lastOf p.l) ≤ p.l.length - 64 ∧ er = 0))
/-- So much was read, at most; nothing else of the drive has turned. -/
def Ran (w : World) (D : Dv) (n m : Nat) (w' : World) : Prop := ∃ ct td : Int, Drv w' { D with count := ct, told := td } ∧ D.count ≤ ct ∧ ct ≤ D.count + n ∧ D.told ≤ td ∧ td ≤ D.told + m ∧ Touch [D.g] w w'
theorem Ran.none {w w' : World} {D : Dv} (h : Drv w D) (hb : Below w.heap.size w w') (n m : Nat) : Ran w D n m w' := ⟨D.count, D.told, h.below hb, by omega, by omega, by omega, by omega, Touch.of_below _ hb⟩
theorem terr_ok {l : List Nat} (h : terr l = 0) : TIs l := by
  unfold terr at h
  split at h
  · cases h
  · split at h
    · cases h
    · split at h
      · cases h
      · split at h
        · assumption
        · cases h
def GivesFind (w : World) (D : Dv) (p : Pt) (e : Ending) (w' : World) : Prop := ∃ a b c er : Int, e = .returned (.tuple #[TV a b c, .int .i64 er]) ∧ FindIs p er ∧ (er = 0 → a = ta (lastOf p.l) ∧ b = tb (lastOf p.l) ∧ c = tc (lastOf p.l)) ∧ Ran w D 1 64 w'
set_option maxHeartbeats 4000000 in
theorem find_part (D : Dv) (w : World) (h : Drv w D) (hd : D.down = false) (s : ByteArray) (hs : ∀ p ∈ D.pts, p.nm ≠ s) : Calls Try.prog 37 #[.pointer (some ⟨D.g, 0, none⟩), .string s] w (Fails w (.tuple #[TV 0 0 0, .int .i64 40])) := by
  obtain ⟨d0, hu0, hd0⟩ := uT
  have hb0 : Below w.heap.size w (w.alloc (.cells #[.int .i64 0, .int .i64 0, .int .i64 0] 23)) := (Below.refl _ _).alloc (Nat.le_refl _) _
  have hk0 : Blk (w.alloc (.cells #[.int .i64 0, .int .i64 0, .int .i64 0] 23)) w.heap.size 23 tz := Blk.new w _ tz
  obtain ⟨W, hW⟩ : ∃ W, w.alloc (.cells #[.int .i64 0, .int .i64 0, .int .i64 0] 23) = W := ⟨_, rfl⟩
  rw [hW] at hb0 hk0
  have H0 : Hid (Below w.heap.size w W ∧ Blk W w.heap.size 23 tz ∧ Drv W D) := ⟨hb0, hk0, h.below hb0⟩
  clear hb0 hk0
  have HSZ := Lib.hid (Size_no D W H0.out.2.2 s hs)
  have HRD := Lib.hid (fun w' (hD : Drv w' D) off => Read_part D w' hD hd s hs off 64)
  clear h hd hs
  go_enter Try.func37, Try.ntmps37
  (try rw [hW])
  go_wp2_with fail
  refine HSZ.out.mono ?_
  rintro e w1 ⟨rfl, hb1⟩
  have H1 : Hid (Below w.heap.size w w1 ∧ Blk w1 w.heap.size 23 tz ∧ Drv w1 D) := ⟨H0.out.1.trans (hb1.mono H0.out.1.size), H0.out.2.1.below hb1 H0.out.2.1.lt, H0.out.2.2.below hb1⟩
  clear hb1
  go_wp2_with fail
  refine (tend_any 0 w1 (by omega)).mono ?_
  rintro e w2 ⟨rfl, rfl⟩
  go_wp2_with fail
  refine (HRD.out w1 H1.out.2.2 _).mono ?_
  rintro e w2 ⟨rfl, hb2⟩
  have H2 : Hid (Below w.heap.size w w2 ∧ Blk w2 w.heap.size 23 tz) := ⟨H1.out.1.trans (hb2.mono H1.out.1.size), H1.out.2.1.below hb2 H1.out.2.1.lt⟩
  clear hb2
  go_wp2_with ((with_reducible refine at_dst none ?_); refine wpList_storeBlk (op := ⟨none, _, _, _, _, _⟩) rfl 23 (.tmp 4) (.tmp 27) rfl (g := w.heap.size) (t := 23) (old := tz) (cs := tz) rfl rfl H2.out.2 rfl iT (tz_one) ?_; intro u0 hU0 hT0; have HT0 := Lib.hid hT0; clear hT0)
  exact ret_cell_tmp rfl rfl hU0.out.at hu0 hd0 iT rfl ⟨rfl, H2.out.1.trans (HT0.out.below (fun y hy => by rw [List.mem_singleton.1 hy]; omega) H2.out.1.size)⟩
set_option maxHeartbeats 8000000 in
theorem find_any (D : Dv) (w : World) (h : Drv w D) (hd : D.down = false) (p : Pt) (hp : p ∈ D.pts) (s : ByteArray) (hs : p.nm = s) (hc : D.count + 1 ≤ 1152921504606846976) (ht : D.told + 64 ≤ 1152921504606846976) :
    Calls Try.prog 37 #[.pointer (some ⟨D.g, 0, none⟩), .string s] w (GivesFind w D p) := by
  obtain ⟨d0, hu0, hd0⟩ := uT
  have hb0 : Below w.heap.size w (w.alloc (.cells #[.int .i64 0, .int .i64 0, .int .i64 0] 23)) := (Below.refl _ _).alloc (Nat.le_refl _) _
  have hk0 : Blk (w.alloc (.cells #[.int .i64 0, .int .i64 0, .int .i64 0] 23)) w.heap.size 23 tz := Blk.new w _ tz
  obtain ⟨W, hW⟩ : ∃ W, w.alloc (.cells #[.int .i64 0, .int .i64 0, .int .i64 0] 23) = W := ⟨_, rfl⟩
  rw [hW] at hb0 hk0
  have H0 : Hid (Below w.heap.size w W ∧ Blk W w.heap.size 23 tz ∧ Drv W D) := ⟨hb0, hk0, h.below hb0⟩
  clear hb0 hk0
  have hsz := h.size p hp
  obtain ⟨n, hn⟩ : ∃ n, p.l.length = n := ⟨_, rfl⟩
  obtain ⟨m, hm⟩ : ∃ m, n - 64 = m := ⟨_, rfl⟩
  have hmn : m + 64 = n := by omega
  have hn2 : n ≤ 1048576 := by omega
  have HGL : Hid (D.g < w.heap.size) := h.lt _ (own_g D)
  have HFAR : Hid (D.far w.heap.size) := h.far_new (Nat.le_refl _)
  have HSZ := Size_yes D W H0.out.2.2 p hp s hs
  have hsp := Classical.em (Spoilt p.bad m 64)
  have HFB : Hid (∀ w', Drv w' D → Spoilt p.bad m 64 → Calls Try.prog 18 #[.pointer (some ⟨D.g, 0, none⟩), .string s, .int .i64 (m : Int), .int .i64 64] w' (Fails w' (.tuple #[.slice none 0 0, .int .i64 41]))) := fun w' hD hb => Read_bad D w' hD hd p hp s hs m 64 (by omega) hb
  have HFO : Hid (∀ w', Drv w' D → ¬ Spoilt p.bad m 64 → Calls Try.prog 18 #[.pointer (some ⟨D.g, 0, none⟩), .string s, .int .i64 (m : Int), .int .i64 64] w' (GivesRead w' D 64 ((p.l.drop m).take 64))) := fun w' hD hb => Read_ok D w' hD hd p hp s hs m 64 (by omega) hb hc ht
  have HFIT : Hid (Fit 256 ((p.l.drop m).take 64)) := ((h.fit p hp).drop m).take 64
  have HLL : Hid ((p.l.drop m).take 64 = lastOf p.l) := by show _ = _; unfold lastOf; rw [hn, hm, List.take_of_length_le (by rw [List.length_drop]; omega)]
  have HFN : Hid (FindIs p = fun er => Spoilt p.bad m 64 ∧ er = 41 ∨ ¬ Spoilt p.bad m 64 ∧ (terr (lastOf p.l) ≠ 0 ∧ er = terr (lastOf p.l) ∨ terr (lastOf p.l) = 0 ∧ (¬ tb (lastOf p.l) + tc (lastOf p.l) ≤ m ∧ er = 13 ∨ tb (lastOf p.l) + tc (lastOf p.l) ≤ m ∧ er = 0))) := by show _ = _; funext er; unfold FindIs; rw [hn, hm]
  have HNL : Hid (p.l.length = n) := hn
  rw [hn] at HSZ
  have HSZ := Lib.hid HSZ
  have HTE : Hid (∀ w, Calls Try.prog 40 #[.int .i64 (n : Int)] w fun e w' => e = .returned (.int .i64 (m : Int)) ∧ w = w') := fun w => tend_m n m w hmn hn2
  have HDH := Lib.hid h
  clear h hd hs hc ht hp hn hm hsz
  go_enter Try.func37, Try.ntmps37
  (try rw [hW])
  go_wp2_with fail
  refine HSZ.out.mono ?_
  rintro e w1 ⟨rfl, hb1⟩
  have H1 : Hid (Below w.heap.size w w1 ∧ Blk w1 w.heap.size 23 tz ∧ Drv w1 D) := ⟨H0.out.1.trans (hb1.mono H0.out.1.size), H0.out.2.1.below hb1 H0.out.2.1.lt, H0.out.2.2.below hb1⟩
  clear hb1
  go_wp2_with fail
  refine (HTE.out w1).mono ?_
  rintro e w2 ⟨rfl, rfl⟩
  go_wp2_with fail
  rcases hsp with hsp | hsp
  · refine (HFB.out w1 H1.out.2.2 hsp).mono ?_
    rintro e w2 ⟨rfl, hb2⟩
    have H2 : Hid (Below w.heap.size w w2 ∧ Blk w2 w.heap.size 23 tz) := ⟨H1.out.1.trans (hb2.mono H1.out.1.size), H1.out.2.1.below hb2 H1.out.2.1.lt⟩
    clear hb2
    go_wp2_with ((with_reducible refine at_dst none ?_); refine wpList_storeBlk (op := ⟨none, _, _, _, _, _⟩) rfl 23 (.tmp 4) (.tmp 27) rfl (g := w.heap.size) (t := 23) (old := tz) (cs := tz) rfl rfl H2.out.2 rfl iT (tz_one) ?_; intro u0 hU0 hT0; have HT0 := Lib.hid hT0; clear hT0)
    refine ret_cell_tmp rfl rfl hU0.out.at hu0 hd0 iT rfl ⟨0, 0, 0, 41, rfl, by rw [HFN.out]; exact .inl ⟨hsp, rfl⟩, (fun h => by cases h), Ran.none HDH.out (H2.out.1.trans (HT0.out.below (fun y hy => by rw [List.mem_singleton.1 hy]; omega) H2.out.1.size)) 1 64⟩
  · refine (HFO.out w1 H1.out.2.2 hsp).mono ?_
    rintro e w2 ⟨g, rfl, hg, hB, hD, hT⟩
    rw [HLL.out] at hB
    have HF2 := HFIT.out
    rw [HLL.out] at HF2
    have hll : (lastOf p.l).length = 64 := by unfold lastOf; rw [List.length_drop, HNL.out]; omega
    have HBS : Hid (Bs w2 (some ⟨g, 0, none⟩) 64 64 (lastOf p.l)) := ⟨hB.rd 64 hll, HF2, Nat.le_refl _, by omega, fun e => by cases e⟩
    have HPA := Lib.hid (Parse_any (some ⟨g, 0, none⟩) 64 64 (lastOf p.l) w2 HBS.out (by omega))
    have HND : Hid (w.heap.size ∉ [D.g]) := by have := HGL.out; show _ ∉ _; simp; omega
    have H2 : Hid (Touch [D.g] w w2 ∧ Blk w2 w.heap.size 23 tz ∧ Drv w2 { D with count := D.count + 1, told := D.told + 64 }) := ⟨(Touch.of_below _ H1.out.1 : Touch [D.g] w w1).trans hT, H1.out.2.1.touch hT HND.out, hD⟩
    have HRAN : Hid (∀ w', Drv w' { D with count := D.count + 1, told := D.told + 64 } → Touch [D.g] w w' → Ran w D 1 64 w') := fun w' h1 h2 => ⟨D.count + 1, D.told + 64, h1, by omega, by omega, by omega, by omega, h2⟩
    clear hB hD hT hg HF2 hll
    go_wp2_with fail
    refine HPA.out.mono ?_
    rintro e w3 ⟨a, b, c, rfl, hab, hno, hb3⟩
    obtain ⟨X, hX⟩ : ∃ X, w3.heap.size = X := ⟨_, rfl⟩
    have hTW : Touch [D.g] w w3 := H2.out.1.then_below hb3
    have H3 : Hid (Below w3.heap.size w3 (w3.alloc (.cells #[.int .i64 0, .int .i64 0, .int .i64 0] 23)) ∧ Blk (w3.alloc (.cells #[.int .i64 0, .int .i64 0, .int .i64 0] 23)) w3.heap.size 23 tz) := ⟨(Below.refl _ _).alloc (Nat.le_refl _) _, Blk.new w3 _ tz⟩
    have H4 : Hid (Touch [D.g] w w3 ∧ Blk w3 w.heap.size 23 tz ∧ Drv w3 { D with count := D.count + 1, told := D.told + 64 }) := ⟨hTW, H2.out.2.1.below hb3 H2.out.2.1.lt, H2.out.2.2.below hb3⟩
    have HXN : Hid (w.heap.size ∉ [w3.heap.size]) := by have := H4.out.2.1.lt; show _ ∉ _; simp; omega
    have HAB := Lib.hid hab
    clear hb3 hab hTW hX
    by_cases hte : terr (lastOf p.l) = 0
    · have hti := (terr_ok hte).1
      have hab2 := HAB.out hte
      obtain ⟨rfl, rfl, rfl⟩ := hab2
      rw [hte]
      obtain ⟨a, ha⟩ : ∃ a, ta (lastOf p.l) = a := ⟨_, rfl⟩
      obtain ⟨b, hb⟩ : ∃ b, tb (lastOf p.l) = b := ⟨_, rfl⟩
      obtain ⟨c, hc⟩ : ∃ c, tc (lastOf p.l) = c := ⟨_, rfl⟩
      rw [ha, hb, hc] at hti ⊢
      unfold TOk at hti
      rw [hb, hc] at HFN
      have HABC : Hid ((a : Int) = ta (lastOf p.l) ∧ (b : Int) = tb (lastOf p.l) ∧ (c : Int) = tc (lastOf p.l)) := by show _ ∧ _; rw [ha, hb, hc]; exact ⟨rfl, rfl, rfl⟩
      have HSP : Hid (¬ Spoilt p.bad m 64 ∧ terr (lastOf p.l) = 0) := ⟨hsp, hte⟩
      clear hno ha hb hc hsp hte
      go_wp2_with ((with_reducible refine at_dst none ?_); refine wpList_storeBlk (op := ⟨none, _, _, _, _, _⟩) rfl 23 (.tmp 10) (.tmp 32) rfl (g := w3.heap.size) (t := 23) (old := tz) (cs := tcells a b c) rfl rfl H3.out.2 rfl iT (tcells_one _ _ _) ?_; intro u0 hU0 hT0; have HT0 := Lib.hid hT0; clear hT0)
      have HX : Hid (Blk u0 w3.heap.size 23 (tcells a b c)) := hU0
      have HRES : Hid (Blk u0 w.heap.size 23 tz) := (H4.out.2.1.below H3.out.1 H4.out.2.1.lt).touch HT0.out HXN.out
      have HTU : Hid (Touch [D.g] w u0) := (H4.out.1.then_below H3.out.1).then HT0.out (fun x hx => .inr (by rw [List.mem_singleton.1 hx]; exact H4.out.1.size))
      have HDU : Hid (Drv u0 { D with count := D.count + 1, told := D.told + 64 }) := (H4.out.2.2.below H3.out.1).touchFar HT0.out (fun x hx => by rw [List.mem_singleton.1 hx]; exact H4.out.2.2.far_new (Nat.le_refl _))
      have HXL := Lib.hid hU0.out.lt
      have C1 : Hid (u0.cell? ⟨w3.heap.size, 1, none⟩ = some (.int .i64 (b : Int))) := hU0.out.cell 1
      have C2 : Hid (u0.cell? ⟨w3.heap.size, 2, none⟩ = some (.int .i64 (c : Int))) := hU0.out.cell 2
      generalize w3.heap.size = X at *
      clear HT0 hU0 H3
      by_cases hwi : b + c ≤ m
      · have HWI : Hid (∀ w, Calls Try.prog 49 #[.int .i64 (b : Int), .int .i64 (c : Int), .int .i64 (m : Int)] w fun e w' => e = .returned (.bool true) ∧ w = w') := fun w => Within_yes b c m w hwi (by omega)
        have HFI : Hid (FindIs p 0) := by show FindIs p 0; rw [HFN.out]; exact .inr ⟨HSP.out.1, .inr ⟨HSP.out.2, .inr ⟨hwi, rfl⟩⟩⟩
        clear hwi hti
        rename_i hKx
        refine wp_region_eachW (by kernel_rfl) (by kernel_rfl) (fun u u' => Below u.heap.size u u') (fun iX v u => match iX with
            | 0 => v = .pointer (some ⟨X, 1, none⟩)
            | 1 => v = .int .i64 (b : Int)
            | 2 => v = .pointer (some ⟨X, 2, none⟩)
            | 3 => v = .int .i64 (c : Int)
            | 4 => v = .int .i64 (n : Int)
            | 5 => v = .int .i64 (m : Int)
            | 6 => v = .bool true
            | 7 => v = .bool false
            | _ => True) (fun u => Below u0.heap.size u0 u) ?m1 (fun _ _ h1 h2 => h1.trans (h2.mono h1.size)) ⟨rfl, rfl, rfl, Nat.le_refl _, fun _ _ => rfl⟩ ?m2 ?m3
        case m1 =>
          intro iX v u u' h hr hb
          rcases iX with _ | _ | _ | _ | _ | _ | _ | _ | iX
          · exact h
          · exact h
          · exact h
          · exact h
          · exact h
          · exact h
          · exact h
          · exact h
          · trivial
        case m2 =>
          intro iX o ho aX u hr hk hpre K hK
          have e10 : aX.tmps.getD 10 undef = .pointer (some ⟨X, 0, none⟩) := hk.slot 10 (by simp)
          have e6 : aX.tmps.getD 6 undef = .int .i64 (n : Int) := hk.slot 6 (by simp)
          have c1 : u.cell? ⟨X, 1, none⟩ = some (.int .i64 (b : Int)) := (hr.cell (p := ⟨X, 1, none⟩) HXL.out).trans C1.out
          have c2 : u.cell? ⟨X, 2, none⟩ = some (.int .i64 (c : Int)) := (hr.cell (p := ⟨X, 2, none⟩) HXL.out).trans C2.out
          have rf : Below u.heap.size u u := Below.refl _ _
          rcases iX with _ | _ | _ | _ | _ | _ | _ | _ | iX
          · obtain rfl := Option.some.inj ho
            have y10 : aX.eval (.tmp 10) = .pointer (some ⟨X, 0, none⟩) := e10
            refine st_run (want_none rfl) (.pointer (some ⟨X, 1, none⟩)) (w' := u) ?_ (hK _ _ rfl rf)
            simp only [execOp, y10]
            go_simp
          · obtain rfl := Option.some.inj ho
            have y38 : aX.eval (.tmp 38) = .pointer (some ⟨X, 1, none⟩) := (hpre 0 _ rfl ⟨⟨0, .data⟩, by simp, rfl, rfl⟩)
            refine st_run (want_none rfl) (.int .i64 (b : Int)) (w' := u) ?_ (hK _ _ rfl rf)
            simp only [execOp, y38]
            go_simp
          · obtain rfl := Option.some.inj ho
            have y10 : aX.eval (.tmp 10) = .pointer (some ⟨X, 0, none⟩) := e10
            refine st_run (want_none rfl) (.pointer (some ⟨X, 2, none⟩)) (w' := u) ?_ (hK _ _ rfl rf)
            simp only [execOp, y10]
            go_simp
          · obtain rfl := Option.some.inj ho
            have y40 : aX.eval (.tmp 40) = .pointer (some ⟨X, 2, none⟩) := (hpre 2 _ rfl ⟨⟨2, .data⟩, by simp, rfl, rfl⟩)
            refine st_run (want_none rfl) (.int .i64 (c : Int)) (w' := u) ?_ (hK _ _ rfl rf)
            simp only [execOp, y40]
            go_simp
          · obtain rfl := Option.some.inj ho
            exact st_move (.tmp 6) rfl (want_none rfl) _ e6 (hK _ _ rfl rf)
          · obtain rfl := Option.some.inj ho
            have x0 : aX.eval (.tmp 42) = .int .i64 (n : Int) := (hpre 4 _ rfl ⟨⟨4, .data⟩, by simp, rfl, rfl⟩)
            exact st_callN 40 _ _ rfl (want_none rfl) #[.int .i64 (n : Int)] (by simp [x0]) (by kernel_rfl) _ (HTE.out u) (fun e u' he => ⟨_, he.1, hK _ _ rfl (he.2 ▸ rf)⟩)
          · obtain rfl := Option.some.inj ho
            have x0 : aX.eval (.tmp 39) = .int .i64 (b : Int) := (hpre 1 _ rfl ⟨⟨1, .data⟩, by simp, rfl, rfl⟩)
            have x1 : aX.eval (.tmp 41) = .int .i64 (c : Int) := (hpre 3 _ rfl ⟨⟨3, .data⟩, by simp, rfl, rfl⟩)
            have x2 : aX.eval (.tmp 43) = .int .i64 (m : Int) := (hpre 5 _ rfl ⟨⟨5, .data⟩, by simp, rfl, rfl⟩)
            exact st_callN 49 _ _ rfl (want_none rfl) #[.int .i64 (b : Int), .int .i64 (c : Int), .int .i64 (m : Int)] (by simp [x0, x1, x2]) (by kernel_rfl) _ (HWI.out u) (fun e u' he => ⟨_, he.1, hK _ _ rfl (he.2 ▸ rf)⟩)
          · obtain rfl := Option.some.inj ho
            have y44 : aX.eval (.tmp 44) = .bool true := (hpre 6 _ rfl ⟨⟨6, .data⟩, by simp, rfl, rfl⟩)
            refine st_run (want_none rfl) (.bool false) (w' := u) ?_ (hK _ _ rfl rf)
            simp only [execOp, y44]
            go_simp
          · cases ho
        case m3 =>
          intro aX u hr hk hv
          have q45 : aX.tmps.getD 45 undef = .bool false := hv 7 _ rfl
          have hfr := keeps_frameP (fun s => decide ((38 ≤ s ∧ s ≤ 45))) hk (by simp)
          refine hKx aX u ?_
          rw [hfr]
          generalize hff : (fun s => aX.tmps.getD s undef) = ff
          have hf45 : ff 45 = .bool false := by rw [← hff]; exact q45
          simp only [mixP, hf45, decide_eq_true_eq, Nat.reduceAdd, Nat.reduceLeDiff, Nat.reduceEqDiff, false_or, true_or, or_false, or_true, and_true, and_false, true_and, false_and, and_self, if_true, if_false, Nat.zero_le]
          clear hfr hff hf45 q45 hv hk
          clear hKx
          have HBW := Lib.hid hr
          clear hr
          have HXU : Hid (Blk u X 23 (tcells a b c)) := HX.out.below HBW.out HX.out.lt
          go_wp2_with (first
            | ((with_reducible refine at_dst (some 47) ?_); refine wpList_loadAt (op := ⟨some 47, _, _, _, _, _⟩) rfl 23 (.tmp 10) rfl ⟨X, 0, none⟩ rfl (tcells a b c) d0 HXU.out.at hu0 hd0 iT ?_)
            | ((with_reducible refine at_dst none ?_); refine wpList_storeBlk (op := ⟨none, _, _, _, _, _⟩) rfl 23 (.tmp 4) (.tmp 47) rfl (g := w.heap.size) (t := 23) (old := tz) (cs := tcells a b c) rfl rfl (HRES.out.below HBW.out HRES.out.lt) rfl iT (tcells_one _ _ _) ?_; intro u1 hU1 hT1; have HT1 := Lib.hid hT1; clear hT1))
          refine ret_cell_tmp rfl rfl hU1.out.at hu0 hd0 iT rfl ⟨a, b, c, 0, rfl, HFI.out, fun _ => HABC.out, HRAN.out _ ?_ ?_⟩
          · exact (HDU.out.below HBW.out).touchFar HT1.out (fun x hx => by rw [List.mem_singleton.1 hx]; exact HFAR.out)
          · exact (HTU.out.then_below HBW.out).then HT1.out (fun x hx => .inr (by rw [List.mem_singleton.1 hx]; exact Nat.le_refl _))

      · have HWI : Hid (∀ w, Calls Try.prog 49 #[.int .i64 (b : Int), .int .i64 (c : Int), .int .i64 (m : Int)] w fun e w' => e = .returned (.bool false) ∧ w = w') := fun w => Within_no b c m w (by unfold Lies; omega) (by omega) (by omega) (by omega)
        have HFI : Hid (FindIs p 13) := by show FindIs p 13; rw [HFN.out]; exact .inr ⟨HSP.out.1, .inr ⟨HSP.out.2, .inl ⟨hwi, rfl⟩⟩⟩
        clear hwi hti
        rename_i hKx
        refine wp_region_eachW (by kernel_rfl) (by kernel_rfl) (fun u u' => Below u.heap.size u u') (fun iX v u => match iX with
            | 0 => v = .pointer (some ⟨X, 1, none⟩)
            | 1 => v = .int .i64 (b : Int)
            | 2 => v = .pointer (some ⟨X, 2, none⟩)
            | 3 => v = .int .i64 (c : Int)
            | 4 => v = .int .i64 (n : Int)
            | 5 => v = .int .i64 (m : Int)
            | 6 => v = .bool false
            | 7 => v = .bool true
            | _ => True) (fun u => Below u0.heap.size u0 u) ?m4 (fun _ _ h1 h2 => h1.trans (h2.mono h1.size)) ⟨rfl, rfl, rfl, Nat.le_refl _, fun _ _ => rfl⟩ ?m5 ?m6
        case m4 =>
          intro iX v u u' h hr hb
          rcases iX with _ | _ | _ | _ | _ | _ | _ | _ | iX
          · exact h
          · exact h
          · exact h
          · exact h
          · exact h
          · exact h
          · exact h
          · exact h
          · trivial
        case m5 =>
          intro iX o ho aX u hr hk hpre K hK
          have e10 : aX.tmps.getD 10 undef = .pointer (some ⟨X, 0, none⟩) := hk.slot 10 (by simp)
          have e6 : aX.tmps.getD 6 undef = .int .i64 (n : Int) := hk.slot 6 (by simp)
          have c1 : u.cell? ⟨X, 1, none⟩ = some (.int .i64 (b : Int)) := (hr.cell (p := ⟨X, 1, none⟩) HXL.out).trans C1.out
          have c2 : u.cell? ⟨X, 2, none⟩ = some (.int .i64 (c : Int)) := (hr.cell (p := ⟨X, 2, none⟩) HXL.out).trans C2.out
          have rf : Below u.heap.size u u := Below.refl _ _
          rcases iX with _ | _ | _ | _ | _ | _ | _ | _ | iX
          · obtain rfl := Option.some.inj ho
            have y10 : aX.eval (.tmp 10) = .pointer (some ⟨X, 0, none⟩) := e10
            refine st_run (want_none rfl) (.pointer (some ⟨X, 1, none⟩)) (w' := u) ?_ (hK _ _ rfl rf)
            simp only [execOp, y10]
            go_simp
          · obtain rfl := Option.some.inj ho
            have y38 : aX.eval (.tmp 38) = .pointer (some ⟨X, 1, none⟩) := (hpre 0 _ rfl ⟨⟨0, .data⟩, by simp, rfl, rfl⟩)
            refine st_run (want_none rfl) (.int .i64 (b : Int)) (w' := u) ?_ (hK _ _ rfl rf)
            simp only [execOp, y38]
            go_simp
          · obtain rfl := Option.some.inj ho
            have y10 : aX.eval (.tmp 10) = .pointer (some ⟨X, 0, none⟩) := e10
            refine st_run (want_none rfl) (.pointer (some ⟨X, 2, none⟩)) (w' := u) ?_ (hK _ _ rfl rf)
            simp only [execOp, y10]
            go_simp
          · obtain rfl := Option.some.inj ho
            have y40 : aX.eval (.tmp 40) = .pointer (some ⟨X, 2, none⟩) := (hpre 2 _ rfl ⟨⟨2, .data⟩, by simp, rfl, rfl⟩)
            refine st_run (want_none rfl) (.int .i64 (c : Int)) (w' := u) ?_ (hK _ _ rfl rf)
            simp only [execOp, y40]
            go_simp
          · obtain rfl := Option.some.inj ho
            exact st_move (.tmp 6) rfl (want_none rfl) _ e6 (hK _ _ rfl rf)
          · obtain rfl := Option.some.inj ho
            have x0 : aX.eval (.tmp 42) = .int .i64 (n : Int) := (hpre 4 _ rfl ⟨⟨4, .data⟩, by simp, rfl, rfl⟩)
            exact st_callN 40 _ _ rfl (want_none rfl) #[.int .i64 (n : Int)] (by simp [x0]) (by kernel_rfl) _ (HTE.out u) (fun e u' he => ⟨_, he.1, hK _ _ rfl (he.2 ▸ rf)⟩)
          · obtain rfl := Option.some.inj ho
            have x0 : aX.eval (.tmp 39) = .int .i64 (b : Int) := (hpre 1 _ rfl ⟨⟨1, .data⟩, by simp, rfl, rfl⟩)
            have x1 : aX.eval (.tmp 41) = .int .i64 (c : Int) := (hpre 3 _ rfl ⟨⟨3, .data⟩, by simp, rfl, rfl⟩)
            have x2 : aX.eval (.tmp 43) = .int .i64 (m : Int) := (hpre 5 _ rfl ⟨⟨5, .data⟩, by simp, rfl, rfl⟩)
            exact st_callN 49 _ _ rfl (want_none rfl) #[.int .i64 (b : Int), .int .i64 (c : Int), .int .i64 (m : Int)] (by simp [x0, x1, x2]) (by kernel_rfl) _ (HWI.out u) (fun e u' he => ⟨_, he.1, hK _ _ rfl (he.2 ▸ rf)⟩)
          · obtain rfl := Option.some.inj ho
            have y44 : aX.eval (.tmp 44) = .bool false := (hpre 6 _ rfl ⟨⟨6, .data⟩, by simp, rfl, rfl⟩)
            refine st_run (want_none rfl) (.bool true) (w' := u) ?_ (hK _ _ rfl rf)
            simp only [execOp, y44]
            go_simp
          · cases ho
        case m6 =>
          intro aX u hr hk hv
          have q45 : aX.tmps.getD 45 undef = .bool true := hv 7 _ rfl
          have hfr := keeps_frameP (fun s => decide ((38 ≤ s ∧ s ≤ 45))) hk (by simp)
          refine hKx aX u ?_
          rw [hfr]
          generalize hff : (fun s => aX.tmps.getD s undef) = ff
          have hf45 : ff 45 = .bool true := by rw [← hff]; exact q45
          simp only [mixP, hf45, decide_eq_true_eq, Nat.reduceAdd, Nat.reduceLeDiff, Nat.reduceEqDiff, false_or, true_or, or_false, or_true, and_true, and_false, true_and, false_and, and_self, if_true, if_false, Nat.zero_le]
          clear hfr hff hf45 q45 hv hk
          clear hKx
          have HBW := Lib.hid hr
          clear hr
          go_wp2_with ((with_reducible refine at_dst none ?_); refine wpList_storeBlk (op := ⟨none, _, _, _, _, _⟩) rfl 23 (.tmp 4) (.tmp 46) rfl (g := w.heap.size) (t := 23) (old := tz) (cs := tz) rfl rfl (HRES.out.below HBW.out HRES.out.lt) rfl iT (tz_one) ?_; intro u1 hU1 hT1; have HT1 := Lib.hid hT1; clear hT1)
          refine ret_cell_tmp rfl rfl hU1.out.at hu0 hd0 iT rfl ⟨0, 0, 0, 13, rfl, HFI.out, (fun h => by cases h), HRAN.out _ ?_ ?_⟩
          · exact (HDU.out.below HBW.out).touchFar HT1.out (fun x hx => by rw [List.mem_singleton.1 hx]; exact HFAR.out)
          · exact (HTU.out.then_below HBW.out).then HT1.out (fun x hx => .inr (by rw [List.mem_singleton.1 hx]; exact Nat.le_refl _))

    · obtain ⟨er, her⟩ : ∃ er, terr (lastOf p.l) = er := ⟨_, rfl⟩
      have HER : Hid (FindIs p er ∧ er ≠ 0) := by
        refine ⟨?_, by rw [← her]; exact hte⟩
        rw [HFN.out]
        exact .inr ⟨hsp, .inl ⟨hte, her.symm⟩⟩
      rw [her]
      have hne : (er != 0) = true := by simpa using HER.out.2
      obtain ⟨rfl, rfl, rfl⟩ := hno hte
      clear hte hno her hsp
      go_wp2_with (first
        | ((with_reducible refine at_dst none ?_); refine wpList_storeBlk (op := ⟨none, _, _, _, _, _⟩) rfl 23 (.tmp 10) (.tmp 32) rfl (g := w3.heap.size) (t := 23) (old := tz) (cs := tcells 0 0 0) rfl rfl H3.out.2 rfl iT (tcells_one _ _ _) ?_; intro u0 hU0 hT0; have HT0 := Lib.hid hT0; clear hT0)
        | ((with_reducible refine at_dst none ?_); refine wpList_storeBlk (op := ⟨none, _, _, _, _, _⟩) rfl 23 (.tmp 4) (.tmp 36) rfl (g := w.heap.size) (t := 23) (old := tz) (cs := tz) rfl rfl ((H4.out.2.1.below H3.out.1 H4.out.2.1.lt).touch HT0.out HXN.out) rfl iT (tz_one) ?_; intro u1 hU1 hT1; have HT1 := Lib.hid hT1; clear hT1))
      refine ret_cell_tmp rfl rfl hU1.out.at hu0 hd0 iT rfl ⟨0, 0, 0, er, rfl, HER.out.1, fun h => absurd h HER.out.2, HRAN.out _ ?_ ?_⟩
      · exact ((H4.out.2.2.below H3.out.1).touchFar HT0.out (fun x hx => by rw [List.mem_singleton.1 hx]; exact H4.out.2.2.far_new (Nat.le_refl _))).touchFar HT1.out (fun x hx => by rw [List.mem_singleton.1 hx]; exact HFAR.out)
      · exact ((H4.out.1.then_below H3.out.1).then HT0.out (fun x hx => .inr (by rw [List.mem_singleton.1 hx]; exact H4.out.1.size))).then HT1.out (fun x hx => .inr (by rw [List.mem_singleton.1 hx]; exact Nat.le_refl _))
end Go.Proofs.Ythepbadecpnepaa
