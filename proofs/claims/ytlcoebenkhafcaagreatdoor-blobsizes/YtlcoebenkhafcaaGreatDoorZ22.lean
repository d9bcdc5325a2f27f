/-
  What fault of package blob answers. No condition but that the numbers are no greater than the least above the limits.
-/
import Derived.Test.YtlcoebenkhafcaaGreatDoorZ21
namespace Go.Proofs.YtlcoebenkhafcaaGreatDoor
open Go.RowKit
set_option linter.unusedVariables false
set_option linter.unusedSimpArgs false
set_option maxRecDepth 100000
theorem faultOf_cap (o : Ol) (n : Nat) : faultOf (capO o) n = faultOf o n := by
  unfold faultOf
  have u := fun m : Nat => (show m ≤ up64 m by unfold up64; omega)
  have e1 : (capn o.ver ≠ 1) = (o.ver ≠ 1) := by unfold capn; split <;> simp <;> omega
  have e2 : (65536 < capn o.auth) = (65536 < o.auth) := by unfold capn; split <;> simp <;> omega
  have e3 : (65536 < capn o.aux) = (65536 < o.aux) := by unfold capn; split <;> simp <;> omega
  have e4 : (2 < capn o.alg) = (2 < o.alg) := by unfold capn; split <;> simp <;> omega
  show (if capn o.ver ≠ 1 then 31 else if 65536 < capn o.auth ∨ 65536 < capn o.aux ∨ 65536 < n then 11 else if n < 128 + capn o.auth + capn o.aux then 10 else if 128 + capn o.auth + capn o.aux < n then 12 else if 2 < capn o.alg then 20 else if capn o.auth ≠ up64 (capn o.hash + capn o.sig) ∨ capn o.aux ≠ up64 (capn o.list + capn o.key) then 12 else 0) = _
  simp only [e1, e2, e3, e4]
  by_cases h1 : o.ver ≠ 1
  · rw [if_pos h1, if_pos h1]
  · rw [if_neg h1, if_neg h1]
    by_cases h2 : 65536 < o.auth ∨ 65536 < o.aux ∨ 65536 < n
    · rw [if_pos h2, if_pos h2]
    · rw [if_neg h2, if_neg h2]
      have a1 : capn o.auth = o.auth := capn_of (by omega)
      have a2 : capn o.aux = o.aux := capn_of (by omega)
      rw [a1, a2]
      have key : ∀ (a x y : Nat), a ≤ 65536 → (a ≠ up64 (capn x + capn y)) = (a ≠ up64 (x + y)) := by
        intro a x y ha
        by_cases hx : x ≤ 281474976710657
        · rw [capn_of hx]
          by_cases hy : y ≤ 281474976710657
          · rw [capn_of hy]
          · have hc : capn y = 281474976710657 := by unfold capn; rw [if_neg hy]
            have h5 := u (x + capn y)
            have h6 := u (x + y)
            rw [eq_true (show a ≠ up64 (x + capn y) by omega), eq_true (show a ≠ up64 (x + y) by omega)]
        · have hc : capn x = 281474976710657 := by unfold capn; rw [if_neg hx]
          have h5 := u (capn x + capn y)
          have h6 := u (x + y)
          rw [eq_true (show a ≠ up64 (capn x + capn y) by omega), eq_true (show a ≠ up64 (x + y) by omega)]
      simp only [key o.auth o.hash o.sig (by omega), key o.aux o.list o.key (by omega)]
structure CapO (o : Ol) : Prop where
  alg : o.alg ≤ 281474976710657
  idx : o.idx ≤ 281474976710657
  flags : o.flags ≤ 281474976710657
  loc : o.loc ≤ 281474976710657
  ver : o.ver ≤ 281474976710657
  auth : o.auth ≤ 281474976710657
  aux : o.aux ≤ 281474976710657
  hash : o.hash ≤ 281474976710657
  sig : o.sig ≤ 281474976710657
  key : o.key ≤ 281474976710657
  list : o.list ≤ 281474976710657
theorem capO_cap (o : Ol) : CapO (capO o) := ⟨capn_le _, capn_le _, capn_le _, capn_le _, capn_le _, capn_le _, capn_le _, capn_le _, capn_le _, capn_le _, capn_le _⟩
theorem wpList_max3 {P : Program} {ops : Array Oper} {rest : List Oper} {o : Oper} {a : Act} {w : World} {Q : Exit → Act → World → Prop} (hgd : o.guard = none) (x y z : Operand) (ho : o.op = .call { callee := .builtin .max, args := #[x, y, z], argTypes := #[3, 3, 3] }) (a1 b1 c1 : Int) (hx : a.eval x = .int .i64 a1) (hy : a.eval y = .int .i64 b1) (hz : a.eval z = .int .i64 c1) (M : Int) (hM : (if c1 > (if b1 > a1 then b1 else a1) then c1 else (if b1 > a1 then b1 else a1)) = M)
    (h : wpList P ops Q rest (a.put o.dst (.int .i64 M)) w) : wpList P ops Q (o :: rest) a w := by
  have hr := run_max_int3 (P := P) (w := w) #[3, 3, 3] o.type .i64 .i64 .i64 a1 b1 c1
  rw [hM] at hr
  refine wpList_plain hgd fun K hK => ?_
  unfold Oper.wp
  simp [execOp, ho, resolve, invoke, builtin, hx, hy, hz, hr, Result.andThen]
  exact hK _ _ h
set_option maxHeartbeats 8000000 in
theorem fault_any (q : Ol) (n : Nat) (w : World) (hc : CapO q) (hn : n ≤ 9223372036854775807) : Calls Tryz.prog 45 #[.agg (ocells q).toArray, .int .i64 (n : Int)] w fun e w' => e = .returned (.int .i64 ((faultOf q n : Nat) : Int)) ∧ Below w.heap.size w w' := by
  have hb1 : Below w.heap.size w (w.alloc (.cells (ocells q).toArray 65)) := (Below.refl _ _).alloc (Nat.le_refl _) _
  have hk1 : Blk (w.alloc (.cells (ocells q).toArray 65)) w.heap.size 65 (ocells q) := Blk.new _ _ _
  obtain ⟨W, hW⟩ : ∃ W, w.alloc (.cells (ocells q).toArray 65) = W := ⟨_, rfl⟩
  rw [hW] at hb1 hk1
  have k0 : W.cell? ⟨w.heap.size, 0, none⟩ = some (.int .i64 (q.alg : Nat)) := hk1.cell 0
  have k4 : W.cell? ⟨w.heap.size, 4, none⟩ = some (.int .i64 (q.ver : Nat)) := hk1.cell 4
  have k5 : W.cell? ⟨w.heap.size, 5, none⟩ = some (.int .i64 (q.auth : Nat)) := hk1.cell 5
  have k6 : W.cell? ⟨w.heap.size, 6, none⟩ = some (.int .i64 (q.aux : Nat)) := hk1.cell 6
  have k7 : W.cell? ⟨w.heap.size, 7, none⟩ = some (.int .i64 (q.hash : Nat)) := hk1.cell 7
  have k8 : W.cell? ⟨w.heap.size, 8, none⟩ = some (.int .i64 (q.sig : Nat)) := hk1.cell 8
  have k9 : W.cell? ⟨w.heap.size, 9, none⟩ = some (.int .i64 (q.key : Nat)) := hk1.cell 9
  have k10 : W.cell? ⟨w.heap.size, 10, none⟩ = some (.int .i64 (q.list : Nat)) := hk1.cell 10
  have HB := Lib.hid hb1
  have HK := Lib.hid hk1
  have b5 := hc.auth
  have b6 := hc.aux
  have b7 := hc.hash
  have b8 := hc.sig
  have b9 := hc.key
  have b10 := hc.list
  obtain ⟨M, hM⟩ : ∃ M : Int, (if (n : Int) > (if (q.aux : Int) > (q.auth : Int) then (q.aux : Int) else (q.auth : Int)) then (n : Int) else (if (q.aux : Int) > (q.auth : Int) then (q.aux : Int) else (q.auth : Int))) = M := ⟨_, rfl⟩
  have HM := Lib.hid hM
  have hMM : (65536 : Int) < M ↔ (65536 < q.auth ∨ 65536 < q.aux ∨ 65536 < n) := by rw [← hM]; split <;> split <;> omega
  clear hM
  obtain ⟨f, hf⟩ : ∃ f, faultOf q n = f := ⟨_, rfl⟩
  rw [hf]
  have HF := Lib.hid hf
  clear hb1 hk1 hc hf
  by_cases h0 : q.ver = 1
  · have z1 : ((q.ver : Int) != 1) = false := by simp [h0]
    by_cases h1 : 65536 < q.auth ∨ 65536 < q.aux ∨ 65536 < n
    · have E : Hid (f = 11) := by show _ = _; rw [← HF.out]; unfold faultOf; rw [if_neg (fun h => h h0), if_pos h1]
      have z2 : (65536 : Int) < M := hMM.2 h1
      clear h0 h1
      go_enter Tryz.func45, Tryz.ntmps45
      go_wp2_with ((with_reducible refine at_dst (some 14) ?_); refine wpList_max3 (o := ⟨some 14, _, _, _, _, _⟩) rfl (.tmp 10) (.tmp 12) (.tmp 13) rfl _ _ _ rfl rfl rfl M HM.out ?_)
      go_ret
      exact ⟨by rw [E.out]; rfl, HB.out⟩
    · have z2 : ¬ (65536 : Int) < M := fun h => h1 (hMM.1 h)
      by_cases h2 : n < 128 + q.auth + q.aux
      · have E : Hid (f = 10) := by show _ = _; rw [← HF.out]; unfold faultOf; rw [if_neg (fun h => h h0), if_neg h1, if_pos h2]
        have z3 : (n : Int) < 128 + (q.auth : Int) + (q.aux : Int) := by omega
        clear h0 h1 h2
        go_enter Tryz.func45, Tryz.ntmps45
        go_wp2_with ((with_reducible refine at_dst (some 14) ?_); refine wpList_max3 (o := ⟨some 14, _, _, _, _, _⟩) rfl (.tmp 10) (.tmp 12) (.tmp 13) rfl _ _ _ rfl rfl rfl M HM.out ?_)
        go_ret
        exact ⟨by rw [E.out]; rfl, HB.out⟩
      · have z3 : ¬ (n : Int) < 128 + (q.auth : Int) + (q.aux : Int) := by omega
        by_cases h3 : 128 + q.auth + q.aux < n
        · have E : Hid (f = 12) := by show _ = _; rw [← HF.out]; unfold faultOf; rw [if_neg (fun h => h h0), if_neg h1, if_neg h2, if_pos h3]
          have z4 : 128 + (q.auth : Int) + (q.aux : Int) < (n : Int) := by omega
          clear h0 h1 h2 h3
          go_enter Tryz.func45, Tryz.ntmps45
          go_wp2_with ((with_reducible refine at_dst (some 14) ?_); refine wpList_max3 (o := ⟨some 14, _, _, _, _, _⟩) rfl (.tmp 10) (.tmp 12) (.tmp 13) rfl _ _ _ rfl rfl rfl M HM.out ?_)
          go_ret
          exact ⟨by rw [E.out]; rfl, HB.out⟩
        · have z4 : ¬ 128 + (q.auth : Int) + (q.aux : Int) < (n : Int) := by omega
          by_cases h4 : 2 < q.alg
          · have E : Hid (f = 20) := by show _ = _; rw [← HF.out]; unfold faultOf; rw [if_neg (fun h => h h0), if_neg h1, if_neg h2, if_neg h3, if_pos h4]
            have z5 : (2 : Int) < (q.alg : Int) := by omega
            clear h0 h1 h2 h3 h4
            go_enter Tryz.func45, Tryz.ntmps45
            go_wp2_with ((with_reducible refine at_dst (some 14) ?_); refine wpList_max3 (o := ⟨some 14, _, _, _, _, _⟩) rfl (.tmp 10) (.tmp 12) (.tmp 13) rfl _ _ _ rfl rfl rfl M HM.out ?_)
            go_ret
            exact ⟨by rw [E.out]; rfl, HB.out⟩
          · have z5 : ¬ (2 : Int) < (q.alg : Int) := by omega
            obtain ⟨U1, hU1⟩ : ∃ U1, up64 (q.hash + q.sig) = U1 := ⟨_, rfl⟩
            obtain ⟨U2, hU2⟩ : ∃ U2, up64 (q.list + q.key) = U2 := ⟨_, rfl⟩
            have HA1 : Hid (∀ w : World, Calls Tryz.prog 80 #[.int .i64 ((q.hash : Int) + (q.sig : Int))] w fun e w' => e = .returned (.int .i64 (U1 : Nat)) ∧ w' = w) := fun w => (aligned_any (q.hash + q.sig) _ (by omega) w (by omega)).mono (fun e w' q => ⟨by rw [q.1, hU1], q.2.symm⟩)
            have HA2 : Hid (∀ w : World, Calls Tryz.prog 80 #[.int .i64 ((q.list : Int) + (q.key : Int))] w fun e w' => e = .returned (.int .i64 (U2 : Nat)) ∧ w' = w) := fun w => (aligned_any (q.list + q.key) _ (by omega) w (by omega)).mono (fun e w' q => ⟨by rw [q.1, hU2], q.2.symm⟩)
            have HU := Lib.hid (And.intro hU1 hU2)
            clear hU1 hU2
            by_cases h5 : q.auth = U1
            · have z6 : ((q.auth : Int) != (U1 : Int)) = false := by simp [h5]
              by_cases h6 : q.aux = U2
              · have z7 : ((q.aux : Int) != (U2 : Int)) = false := by simp [h6]
                have E : Hid (f = 0) := by show _ = _; rw [← HF.out]; unfold faultOf; rw [if_neg (fun h => h h0), if_neg h1, if_neg h2, if_neg h3, if_neg h4, if_neg (fun h => h.elim (fun g => g (by rw [HU.out.1]; exact h5)) (fun g => g (by rw [HU.out.2]; exact h6)))]
                clear h0 h1 h2 h3 h4 h5 h6
                clear hMM
                go_enter Tryz.func45, Tryz.ntmps45
                go_wp2_with ((with_reducible refine at_dst (some 14) ?_); refine wpList_max3 (o := ⟨some 14, _, _, _, _, _⟩) rfl (.tmp 10) (.tmp 12) (.tmp 13) rfl _ _ _ rfl rfl rfl M HM.out ?_)
                rename_i hKx
                refine wp_region_eachW (by kernel_rfl) (by kernel_rfl) (fun u u' => Below u.heap.size u u') (fun iX v u => match iX with
                    | 0 => v = .pointer (some ⟨w.heap.size, 5, none⟩)
                    | 1 => v = .int .i64 (q.auth : Int)
                    | 2 => v = .pointer (some ⟨w.heap.size, 7, none⟩)
                    | 3 => v = .int .i64 (q.hash : Int)
                    | 4 => v = .pointer (some ⟨w.heap.size, 8, none⟩)
                    | 5 => v = .int .i64 (q.sig : Int)
                    | 6 => v = .int .i64 ((q.hash : Int) + (q.sig : Int))
                    | 7 => v = .int .i64 (U1 : Int)
                    | 8 => v = .bool false
                    | 9 => v = .bool false
                    | 10 => v = .pointer (some ⟨w.heap.size, 6, none⟩)
                    | 11 => v = .int .i64 (q.aux : Int)
                    | 12 => v = .pointer (some ⟨w.heap.size, 10, none⟩)
                    | 13 => v = .int .i64 (q.list : Int)
                    | 14 => v = .pointer (some ⟨w.heap.size, 9, none⟩)
                    | 15 => v = .int .i64 (q.key : Int)
                    | 16 => v = .int .i64 ((q.list : Int) + (q.key : Int))
                    | 17 => v = .int .i64 (U2 : Int)
                    | 18 => v = .bool false
                    | 19 => v = .bool false
                    | _ => True) (fun u => Below W.heap.size W u) ?m1 (fun _ _ h1 h2 => h1.trans (h2.mono h1.size)) ⟨rfl, rfl, rfl, Nat.le_refl _, fun _ _ => rfl⟩ ?m2 ?m3
                case m1 =>
                  intro iX v u u' h hr hb
                  rcases iX with _ | _ | _ | _ | _ | _ | _ | _ | _ | _ | _ | _ | _ | _ | _ | _ | _ | _ | _ | _ | iX
                  · exact h
                  · exact h
                  · exact h
                  · exact h
                  · exact h
                  · exact h
                  · exact h
                  · exact h
                  · exact h
                  · exact h
                  · exact h
                  · exact h
                  · exact h
                  · exact h
                  · exact h
                  · exact h
                  · exact h
                  · exact h
                  · exact h
                  · exact h
                  · trivial
                case m2 =>
                  intro iX o ho aX u hr hk hpre K hK
                  have e2 : aX.tmps.getD 2 undef = .pointer (some ⟨w.heap.size, 0, none⟩) := hk.slot 2 (by simp)
                  have u5 : u.cell? ⟨w.heap.size, 5, none⟩ = some (.int .i64 (q.auth : Nat)) := (hr.cell (p := ⟨w.heap.size, 5, none⟩) HK.out.lt).trans k5
                  have u6 : u.cell? ⟨w.heap.size, 6, none⟩ = some (.int .i64 (q.aux : Nat)) := (hr.cell (p := ⟨w.heap.size, 6, none⟩) HK.out.lt).trans k6
                  have u7 : u.cell? ⟨w.heap.size, 7, none⟩ = some (.int .i64 (q.hash : Nat)) := (hr.cell (p := ⟨w.heap.size, 7, none⟩) HK.out.lt).trans k7
                  have u8 : u.cell? ⟨w.heap.size, 8, none⟩ = some (.int .i64 (q.sig : Nat)) := (hr.cell (p := ⟨w.heap.size, 8, none⟩) HK.out.lt).trans k8
                  have u9 : u.cell? ⟨w.heap.size, 9, none⟩ = some (.int .i64 (q.key : Nat)) := (hr.cell (p := ⟨w.heap.size, 9, none⟩) HK.out.lt).trans k9
                  have u10 : u.cell? ⟨w.heap.size, 10, none⟩ = some (.int .i64 (q.list : Nat)) := (hr.cell (p := ⟨w.heap.size, 10, none⟩) HK.out.lt).trans k10
                  have rf : Below u.heap.size u u := Below.refl _ _
                  rcases iX with _ | _ | _ | _ | _ | _ | _ | _ | _ | _ | _ | _ | _ | _ | _ | _ | _ | _ | _ | _ | iX
                  · obtain rfl := Option.some.inj ho
                    have y2 : aX.eval (.tmp 2) = .pointer (some ⟨w.heap.size, 0, none⟩) := e2
                    refine st_run (want_none rfl) (.pointer (some ⟨w.heap.size, 5, none⟩)) (w' := u) ?_ (hK _ _ rfl rf)
                    simp only [execOp, y2]
                    go_simp
                  · obtain rfl := Option.some.inj ho
                    have y32 : aX.eval (.tmp 32) = .pointer (some ⟨w.heap.size, 5, none⟩) := (hpre 0 _ rfl ⟨⟨0, .data⟩, by simp, rfl, rfl⟩)
                    refine st_run (want_none rfl) (.int .i64 (q.auth : Int)) (w' := u) ?_ (hK _ _ rfl rf)
                    simp only [execOp, y32]
                    go_simp
                  · obtain rfl := Option.some.inj ho
                    have y2 : aX.eval (.tmp 2) = .pointer (some ⟨w.heap.size, 0, none⟩) := e2
                    refine st_run (want_none rfl) (.pointer (some ⟨w.heap.size, 7, none⟩)) (w' := u) ?_ (hK _ _ rfl rf)
                    simp only [execOp, y2]
                    go_simp
                  · obtain rfl := Option.some.inj ho
                    have y34 : aX.eval (.tmp 34) = .pointer (some ⟨w.heap.size, 7, none⟩) := (hpre 2 _ rfl ⟨⟨2, .data⟩, by simp, rfl, rfl⟩)
                    refine st_run (want_none rfl) (.int .i64 (q.hash : Int)) (w' := u) ?_ (hK _ _ rfl rf)
                    simp only [execOp, y34]
                    go_simp
                  · obtain rfl := Option.some.inj ho
                    have y2 : aX.eval (.tmp 2) = .pointer (some ⟨w.heap.size, 0, none⟩) := e2
                    refine st_run (want_none rfl) (.pointer (some ⟨w.heap.size, 8, none⟩)) (w' := u) ?_ (hK _ _ rfl rf)
                    simp only [execOp, y2]
                    go_simp
                  · obtain rfl := Option.some.inj ho
                    have y36 : aX.eval (.tmp 36) = .pointer (some ⟨w.heap.size, 8, none⟩) := (hpre 4 _ rfl ⟨⟨4, .data⟩, by simp, rfl, rfl⟩)
                    refine st_run (want_none rfl) (.int .i64 (q.sig : Int)) (w' := u) ?_ (hK _ _ rfl rf)
                    simp only [execOp, y36]
                    go_simp
                  · obtain rfl := Option.some.inj ho
                    have y35 : aX.eval (.tmp 35) = .int .i64 (q.hash : Int) := (hpre 3 _ rfl ⟨⟨3, .data⟩, by simp, rfl, rfl⟩)
                    have y37 : aX.eval (.tmp 37) = .int .i64 (q.sig : Int) := (hpre 5 _ rfl ⟨⟨5, .data⟩, by simp, rfl, rfl⟩)
                    refine st_run (want_none rfl) (.int .i64 ((q.hash : Int) + (q.sig : Int))) (w' := u) ?_ (hK _ _ rfl rf)
                    simp only [execOp, y35, y37]
                    go_simp
                    rw [IntKind.wrap_i64]
                    omega
                  · obtain rfl := Option.some.inj ho
                    have x0 : aX.eval (.tmp 38) = .int .i64 ((q.hash : Int) + (q.sig : Int)) := (hpre 6 _ rfl ⟨⟨6, .data⟩, by simp, rfl, rfl⟩)
                    exact st_callN 80 _ _ rfl (want_none rfl) #[.int .i64 ((q.hash : Int) + (q.sig : Int))] (by simp [x0] <;> (first | rfl | exact ⟨rfl, rfl⟩)) (by kernel_rfl) _ (HA1.out u) (by rintro _ u2 ⟨rfl, rfl⟩; exact ⟨_, rfl, hK _ _ rfl rf⟩)
                  · obtain rfl := Option.some.inj ho
                    have y33 : aX.eval (.tmp 33) = .int .i64 (q.auth : Int) := (hpre 1 _ rfl ⟨⟨1, .data⟩, by simp, rfl, rfl⟩)
                    have y39 : aX.eval (.tmp 39) = .int .i64 (U1 : Int) := (hpre 7 _ rfl ⟨⟨7, .data⟩, by simp, rfl, rfl⟩)
                    refine st_run (want_none rfl) (.bool false) (w' := u) ?_ (hK _ _ rfl rf)
                    simp only [execOp, y33, y39]
                    first
                      | (go_simp; done)
                      | (go_simp; simp [z6])
                  · obtain rfl := Option.some.inj ho
                    exact st_move (.tmp 40) rfl (want_none rfl) _ (hpre 8 _ rfl ⟨⟨8, .data⟩, by simp, rfl, rfl⟩) (hK _ _ rfl rf)
                  · obtain rfl := Option.some.inj ho
                    have y2 : aX.eval (.tmp 2) = .pointer (some ⟨w.heap.size, 0, none⟩) := e2
                    refine st_run (want_some rfl rfl rfl (hpre 9 _ rfl ⟨⟨9, .guard⟩, by simp, rfl, rfl⟩)) (.pointer (some ⟨w.heap.size, 6, none⟩)) (w' := u) ?_ (hK _ _ rfl rf)
                    simp only [execOp, y2]
                    go_simp
                  · obtain rfl := Option.some.inj ho
                    have y42 : aX.eval (.tmp 42) = .pointer (some ⟨w.heap.size, 6, none⟩) := (hpre 10 _ rfl ⟨⟨10, .data⟩, by simp, rfl, rfl⟩)
                    refine st_run (want_some rfl rfl rfl (hpre 9 _ rfl ⟨⟨9, .guard⟩, by simp, rfl, rfl⟩)) (.int .i64 (q.aux : Int)) (w' := u) ?_ (hK _ _ rfl rf)
                    simp only [execOp, y42]
                    go_simp
                  · obtain rfl := Option.some.inj ho
                    have y2 : aX.eval (.tmp 2) = .pointer (some ⟨w.heap.size, 0, none⟩) := e2
                    refine st_run (want_some rfl rfl rfl (hpre 9 _ rfl ⟨⟨9, .guard⟩, by simp, rfl, rfl⟩)) (.pointer (some ⟨w.heap.size, 10, none⟩)) (w' := u) ?_ (hK _ _ rfl rf)
                    simp only [execOp, y2]
                    go_simp
                  · obtain rfl := Option.some.inj ho
                    have y44 : aX.eval (.tmp 44) = .pointer (some ⟨w.heap.size, 10, none⟩) := (hpre 12 _ rfl ⟨⟨12, .data⟩, by simp, rfl, rfl⟩)
                    refine st_run (want_some rfl rfl rfl (hpre 9 _ rfl ⟨⟨9, .guard⟩, by simp, rfl, rfl⟩)) (.int .i64 (q.list : Int)) (w' := u) ?_ (hK _ _ rfl rf)
                    simp only [execOp, y44]
                    go_simp
                  · obtain rfl := Option.some.inj ho
                    have y2 : aX.eval (.tmp 2) = .pointer (some ⟨w.heap.size, 0, none⟩) := e2
                    refine st_run (want_some rfl rfl rfl (hpre 9 _ rfl ⟨⟨9, .guard⟩, by simp, rfl, rfl⟩)) (.pointer (some ⟨w.heap.size, 9, none⟩)) (w' := u) ?_ (hK _ _ rfl rf)
                    simp only [execOp, y2]
                    go_simp
                  · obtain rfl := Option.some.inj ho
                    have y46 : aX.eval (.tmp 46) = .pointer (some ⟨w.heap.size, 9, none⟩) := (hpre 14 _ rfl ⟨⟨14, .data⟩, by simp, rfl, rfl⟩)
                    refine st_run (want_some rfl rfl rfl (hpre 9 _ rfl ⟨⟨9, .guard⟩, by simp, rfl, rfl⟩)) (.int .i64 (q.key : Int)) (w' := u) ?_ (hK _ _ rfl rf)
                    simp only [execOp, y46]
                    go_simp
                  · obtain rfl := Option.some.inj ho
                    have y45 : aX.eval (.tmp 45) = .int .i64 (q.list : Int) := (hpre 13 _ rfl ⟨⟨13, .data⟩, by simp, rfl, rfl⟩)
                    have y47 : aX.eval (.tmp 47) = .int .i64 (q.key : Int) := (hpre 15 _ rfl ⟨⟨15, .data⟩, by simp, rfl, rfl⟩)
                    refine st_run (want_some rfl rfl rfl (hpre 9 _ rfl ⟨⟨9, .guard⟩, by simp, rfl, rfl⟩)) (.int .i64 ((q.list : Int) + (q.key : Int))) (w' := u) ?_ (hK _ _ rfl rf)
                    simp only [execOp, y45, y47]
                    go_simp
                    rw [IntKind.wrap_i64]
                    omega
                  · obtain rfl := Option.some.inj ho
                    have x0 : aX.eval (.tmp 48) = .int .i64 ((q.list : Int) + (q.key : Int)) := (hpre 16 _ rfl ⟨⟨16, .data⟩, by simp, rfl, rfl⟩)
                    exact st_callN 80 _ _ rfl (want_some rfl rfl rfl (hpre 9 _ rfl ⟨⟨9, .guard⟩, by simp, rfl, rfl⟩)) #[.int .i64 ((q.list : Int) + (q.key : Int))] (by simp [x0] <;> (first | rfl | exact ⟨rfl, rfl⟩)) (by kernel_rfl) _ (HA2.out u) (by rintro _ u2 ⟨rfl, rfl⟩; exact ⟨_, rfl, hK _ _ rfl rf⟩)
                  · obtain rfl := Option.some.inj ho
                    have y43 : aX.eval (.tmp 43) = .int .i64 (q.aux : Int) := (hpre 11 _ rfl ⟨⟨11, .data⟩, by simp, rfl, rfl⟩)
                    have y49 : aX.eval (.tmp 49) = .int .i64 (U2 : Int) := (hpre 17 _ rfl ⟨⟨17, .data⟩, by simp, rfl, rfl⟩)
                    refine st_run (want_some rfl rfl rfl (hpre 9 _ rfl ⟨⟨9, .guard⟩, by simp, rfl, rfl⟩)) (.bool false) (w' := u) ?_ (hK _ _ rfl rf)
                    simp only [execOp, y43, y49]
                    first
                      | (go_simp; done)
                      | (go_simp; simp [z7])
                  · obtain rfl := Option.some.inj ho
                    exact st_pick (.tmp 41) (.const (.bool true)) (.tmp 50) rfl (want_none rfl) false (hpre 9 _ rfl ⟨⟨9, .data⟩, by simp, rfl, rfl⟩) _ ((if_neg (by decide)).trans (hpre 18 _ rfl ⟨⟨18, .data⟩, by simp, rfl, rfl⟩)) (hK _ _ rfl rf)
                  · cases ho
                case m3 =>
                  intro aX u hr hk hv
                  have q51 : aX.tmps.getD 51 undef = .bool false := hv 19 _ rfl
                  have hfr := keeps_frameP (fun s => decide ((32 ≤ s ∧ s ≤ 51))) hk (by simp)
                  refine hKx aX u ?_
                  rw [hfr]
                  generalize hff : (fun s => aX.tmps.getD s undef) = ff
                  have hf51 : ff 51 = .bool false := by rw [← hff]; exact q51
                  simp only [mixP, hf51, decide_eq_true_eq, Nat.reduceAdd, Nat.reduceLeDiff, Nat.reduceEqDiff, false_or, true_or, or_false, or_true, and_true, and_false, true_and, false_and, and_self, if_true, if_false, Nat.zero_le]
                  clear hfr hff hf51 q51 hv hk
                  have HBU : Hid (Below w.heap.size w u) := below_then HB.out hr
                  clear hr hKx
                  go_wp2
                  go_ret
                  exact ⟨by rw [E.out]; rfl, HBU.out⟩
              · have z7 : ((q.aux : Int) != (U2 : Int)) = true := by simp; omega
                have E : Hid (f = 12) := by show _ = _; rw [← HF.out]; unfold faultOf; rw [if_neg (fun h => h h0), if_neg h1, if_neg h2, if_neg h3, if_neg h4, if_pos (.inr (by rw [HU.out.2]; exact h6))]
                clear h0 h1 h2 h3 h4 h5 h6
                clear hMM
                go_enter Tryz.func45, Tryz.ntmps45
                go_wp2_with ((with_reducible refine at_dst (some 14) ?_); refine wpList_max3 (o := ⟨some 14, _, _, _, _, _⟩) rfl (.tmp 10) (.tmp 12) (.tmp 13) rfl _ _ _ rfl rfl rfl M HM.out ?_)
                rename_i hKx
                refine wp_region_eachW (by kernel_rfl) (by kernel_rfl) (fun u u' => Below u.heap.size u u') (fun iX v u => match iX with
                    | 0 => v = .pointer (some ⟨w.heap.size, 5, none⟩)
                    | 1 => v = .int .i64 (q.auth : Int)
                    | 2 => v = .pointer (some ⟨w.heap.size, 7, none⟩)
                    | 3 => v = .int .i64 (q.hash : Int)
                    | 4 => v = .pointer (some ⟨w.heap.size, 8, none⟩)
                    | 5 => v = .int .i64 (q.sig : Int)
                    | 6 => v = .int .i64 ((q.hash : Int) + (q.sig : Int))
                    | 7 => v = .int .i64 (U1 : Int)
                    | 8 => v = .bool false
                    | 9 => v = .bool false
                    | 10 => v = .pointer (some ⟨w.heap.size, 6, none⟩)
                    | 11 => v = .int .i64 (q.aux : Int)
                    | 12 => v = .pointer (some ⟨w.heap.size, 10, none⟩)
                    | 13 => v = .int .i64 (q.list : Int)
                    | 14 => v = .pointer (some ⟨w.heap.size, 9, none⟩)
                    | 15 => v = .int .i64 (q.key : Int)
                    | 16 => v = .int .i64 ((q.list : Int) + (q.key : Int))
                    | 17 => v = .int .i64 (U2 : Int)
                    | 18 => v = .bool true
                    | 19 => v = .bool true
                    | _ => True) (fun u => Below W.heap.size W u) ?m1 (fun _ _ h1 h2 => h1.trans (h2.mono h1.size)) ⟨rfl, rfl, rfl, Nat.le_refl _, fun _ _ => rfl⟩ ?m2 ?m3
                case m1 =>
                  intro iX v u u' h hr hb
                  rcases iX with _ | _ | _ | _ | _ | _ | _ | _ | _ | _ | _ | _ | _ | _ | _ | _ | _ | _ | _ | _ | iX
                  · exact h
                  · exact h
                  · exact h
                  · exact h
                  · exact h
                  · exact h
                  · exact h
                  · exact h
                  · exact h
                  · exact h
                  · exact h
                  · exact h
                  · exact h
                  · exact h
                  · exact h
                  · exact h
                  · exact h
                  · exact h
                  · exact h
                  · exact h
                  · trivial
                case m2 =>
                  intro iX o ho aX u hr hk hpre K hK
                  have e2 : aX.tmps.getD 2 undef = .pointer (some ⟨w.heap.size, 0, none⟩) := hk.slot 2 (by simp)
                  have u5 : u.cell? ⟨w.heap.size, 5, none⟩ = some (.int .i64 (q.auth : Nat)) := (hr.cell (p := ⟨w.heap.size, 5, none⟩) HK.out.lt).trans k5
                  have u6 : u.cell? ⟨w.heap.size, 6, none⟩ = some (.int .i64 (q.aux : Nat)) := (hr.cell (p := ⟨w.heap.size, 6, none⟩) HK.out.lt).trans k6
                  have u7 : u.cell? ⟨w.heap.size, 7, none⟩ = some (.int .i64 (q.hash : Nat)) := (hr.cell (p := ⟨w.heap.size, 7, none⟩) HK.out.lt).trans k7
                  have u8 : u.cell? ⟨w.heap.size, 8, none⟩ = some (.int .i64 (q.sig : Nat)) := (hr.cell (p := ⟨w.heap.size, 8, none⟩) HK.out.lt).trans k8
                  have u9 : u.cell? ⟨w.heap.size, 9, none⟩ = some (.int .i64 (q.key : Nat)) := (hr.cell (p := ⟨w.heap.size, 9, none⟩) HK.out.lt).trans k9
                  have u10 : u.cell? ⟨w.heap.size, 10, none⟩ = some (.int .i64 (q.list : Nat)) := (hr.cell (p := ⟨w.heap.size, 10, none⟩) HK.out.lt).trans k10
                  have rf : Below u.heap.size u u := Below.refl _ _
                  rcases iX with _ | _ | _ | _ | _ | _ | _ | _ | _ | _ | _ | _ | _ | _ | _ | _ | _ | _ | _ | _ | iX
                  · obtain rfl := Option.some.inj ho
                    have y2 : aX.eval (.tmp 2) = .pointer (some ⟨w.heap.size, 0, none⟩) := e2
                    refine st_run (want_none rfl) (.pointer (some ⟨w.heap.size, 5, none⟩)) (w' := u) ?_ (hK _ _ rfl rf)
                    simp only [execOp, y2]
                    go_simp
                  · obtain rfl := Option.some.inj ho
                    have y32 : aX.eval (.tmp 32) = .pointer (some ⟨w.heap.size, 5, none⟩) := (hpre 0 _ rfl ⟨⟨0, .data⟩, by simp, rfl, rfl⟩)
                    refine st_run (want_none rfl) (.int .i64 (q.auth : Int)) (w' := u) ?_ (hK _ _ rfl rf)
                    simp only [execOp, y32]
                    go_simp
                  · obtain rfl := Option.some.inj ho
                    have y2 : aX.eval (.tmp 2) = .pointer (some ⟨w.heap.size, 0, none⟩) := e2
                    refine st_run (want_none rfl) (.pointer (some ⟨w.heap.size, 7, none⟩)) (w' := u) ?_ (hK _ _ rfl rf)
                    simp only [execOp, y2]
                    go_simp
                  · obtain rfl := Option.some.inj ho
                    have y34 : aX.eval (.tmp 34) = .pointer (some ⟨w.heap.size, 7, none⟩) := (hpre 2 _ rfl ⟨⟨2, .data⟩, by simp, rfl, rfl⟩)
                    refine st_run (want_none rfl) (.int .i64 (q.hash : Int)) (w' := u) ?_ (hK _ _ rfl rf)
                    simp only [execOp, y34]
                    go_simp
                  · obtain rfl := Option.some.inj ho
                    have y2 : aX.eval (.tmp 2) = .pointer (some ⟨w.heap.size, 0, none⟩) := e2
                    refine st_run (want_none rfl) (.pointer (some ⟨w.heap.size, 8, none⟩)) (w' := u) ?_ (hK _ _ rfl rf)
                    simp only [execOp, y2]
                    go_simp
                  · obtain rfl := Option.some.inj ho
                    have y36 : aX.eval (.tmp 36) = .pointer (some ⟨w.heap.size, 8, none⟩) := (hpre 4 _ rfl ⟨⟨4, .data⟩, by simp, rfl, rfl⟩)
                    refine st_run (want_none rfl) (.int .i64 (q.sig : Int)) (w' := u) ?_ (hK _ _ rfl rf)
                    simp only [execOp, y36]
                    go_simp
                  · obtain rfl := Option.some.inj ho
                    have y35 : aX.eval (.tmp 35) = .int .i64 (q.hash : Int) := (hpre 3 _ rfl ⟨⟨3, .data⟩, by simp, rfl, rfl⟩)
                    have y37 : aX.eval (.tmp 37) = .int .i64 (q.sig : Int) := (hpre 5 _ rfl ⟨⟨5, .data⟩, by simp, rfl, rfl⟩)
                    refine st_run (want_none rfl) (.int .i64 ((q.hash : Int) + (q.sig : Int))) (w' := u) ?_ (hK _ _ rfl rf)
                    simp only [execOp, y35, y37]
                    go_simp
                    rw [IntKind.wrap_i64]
                    omega
                  · obtain rfl := Option.some.inj ho
                    have x0 : aX.eval (.tmp 38) = .int .i64 ((q.hash : Int) + (q.sig : Int)) := (hpre 6 _ rfl ⟨⟨6, .data⟩, by simp, rfl, rfl⟩)
                    exact st_callN 80 _ _ rfl (want_none rfl) #[.int .i64 ((q.hash : Int) + (q.sig : Int))] (by simp [x0] <;> (first | rfl | exact ⟨rfl, rfl⟩)) (by kernel_rfl) _ (HA1.out u) (by rintro _ u2 ⟨rfl, rfl⟩; exact ⟨_, rfl, hK _ _ rfl rf⟩)
                  · obtain rfl := Option.some.inj ho
                    have y33 : aX.eval (.tmp 33) = .int .i64 (q.auth : Int) := (hpre 1 _ rfl ⟨⟨1, .data⟩, by simp, rfl, rfl⟩)
                    have y39 : aX.eval (.tmp 39) = .int .i64 (U1 : Int) := (hpre 7 _ rfl ⟨⟨7, .data⟩, by simp, rfl, rfl⟩)
                    refine st_run (want_none rfl) (.bool false) (w' := u) ?_ (hK _ _ rfl rf)
                    simp only [execOp, y33, y39]
                    first
                      | (go_simp; done)
                      | (go_simp; simp [z6])
                  · obtain rfl := Option.some.inj ho
                    exact st_move (.tmp 40) rfl (want_none rfl) _ (hpre 8 _ rfl ⟨⟨8, .data⟩, by simp, rfl, rfl⟩) (hK _ _ rfl rf)
                  · obtain rfl := Option.some.inj ho
                    have y2 : aX.eval (.tmp 2) = .pointer (some ⟨w.heap.size, 0, none⟩) := e2
                    refine st_run (want_some rfl rfl rfl (hpre 9 _ rfl ⟨⟨9, .guard⟩, by simp, rfl, rfl⟩)) (.pointer (some ⟨w.heap.size, 6, none⟩)) (w' := u) ?_ (hK _ _ rfl rf)
                    simp only [execOp, y2]
                    go_simp
                  · obtain rfl := Option.some.inj ho
                    have y42 : aX.eval (.tmp 42) = .pointer (some ⟨w.heap.size, 6, none⟩) := (hpre 10 _ rfl ⟨⟨10, .data⟩, by simp, rfl, rfl⟩)
                    refine st_run (want_some rfl rfl rfl (hpre 9 _ rfl ⟨⟨9, .guard⟩, by simp, rfl, rfl⟩)) (.int .i64 (q.aux : Int)) (w' := u) ?_ (hK _ _ rfl rf)
                    simp only [execOp, y42]
                    go_simp
                  · obtain rfl := Option.some.inj ho
                    have y2 : aX.eval (.tmp 2) = .pointer (some ⟨w.heap.size, 0, none⟩) := e2
                    refine st_run (want_some rfl rfl rfl (hpre 9 _ rfl ⟨⟨9, .guard⟩, by simp, rfl, rfl⟩)) (.pointer (some ⟨w.heap.size, 10, none⟩)) (w' := u) ?_ (hK _ _ rfl rf)
                    simp only [execOp, y2]
                    go_simp
                  · obtain rfl := Option.some.inj ho
                    have y44 : aX.eval (.tmp 44) = .pointer (some ⟨w.heap.size, 10, none⟩) := (hpre 12 _ rfl ⟨⟨12, .data⟩, by simp, rfl, rfl⟩)
                    refine st_run (want_some rfl rfl rfl (hpre 9 _ rfl ⟨⟨9, .guard⟩, by simp, rfl, rfl⟩)) (.int .i64 (q.list : Int)) (w' := u) ?_ (hK _ _ rfl rf)
                    simp only [execOp, y44]
                    go_simp
                  · obtain rfl := Option.some.inj ho
                    have y2 : aX.eval (.tmp 2) = .pointer (some ⟨w.heap.size, 0, none⟩) := e2
                    refine st_run (want_some rfl rfl rfl (hpre 9 _ rfl ⟨⟨9, .guard⟩, by simp, rfl, rfl⟩)) (.pointer (some ⟨w.heap.size, 9, none⟩)) (w' := u) ?_ (hK _ _ rfl rf)
                    simp only [execOp, y2]
                    go_simp
                  · obtain rfl := Option.some.inj ho
                    have y46 : aX.eval (.tmp 46) = .pointer (some ⟨w.heap.size, 9, none⟩) := (hpre 14 _ rfl ⟨⟨14, .data⟩, by simp, rfl, rfl⟩)
                    refine st_run (want_some rfl rfl rfl (hpre 9 _ rfl ⟨⟨9, .guard⟩, by simp, rfl, rfl⟩)) (.int .i64 (q.key : Int)) (w' := u) ?_ (hK _ _ rfl rf)
                    simp only [execOp, y46]
                    go_simp
                  · obtain rfl := Option.some.inj ho
                    have y45 : aX.eval (.tmp 45) = .int .i64 (q.list : Int) := (hpre 13 _ rfl ⟨⟨13, .data⟩, by simp, rfl, rfl⟩)
                    have y47 : aX.eval (.tmp 47) = .int .i64 (q.key : Int) := (hpre 15 _ rfl ⟨⟨15, .data⟩, by simp, rfl, rfl⟩)
                    refine st_run (want_some rfl rfl rfl (hpre 9 _ rfl ⟨⟨9, .guard⟩, by simp, rfl, rfl⟩)) (.int .i64 ((q.list : Int) + (q.key : Int))) (w' := u) ?_ (hK _ _ rfl rf)
                    simp only [execOp, y45, y47]
                    go_simp
                    rw [IntKind.wrap_i64]
                    omega
                  · obtain rfl := Option.some.inj ho
                    have x0 : aX.eval (.tmp 48) = .int .i64 ((q.list : Int) + (q.key : Int)) := (hpre 16 _ rfl ⟨⟨16, .data⟩, by simp, rfl, rfl⟩)
                    exact st_callN 80 _ _ rfl (want_some rfl rfl rfl (hpre 9 _ rfl ⟨⟨9, .guard⟩, by simp, rfl, rfl⟩)) #[.int .i64 ((q.list : Int) + (q.key : Int))] (by simp [x0] <;> (first | rfl | exact ⟨rfl, rfl⟩)) (by kernel_rfl) _ (HA2.out u) (by rintro _ u2 ⟨rfl, rfl⟩; exact ⟨_, rfl, hK _ _ rfl rf⟩)
                  · obtain rfl := Option.some.inj ho
                    have y43 : aX.eval (.tmp 43) = .int .i64 (q.aux : Int) := (hpre 11 _ rfl ⟨⟨11, .data⟩, by simp, rfl, rfl⟩)
                    have y49 : aX.eval (.tmp 49) = .int .i64 (U2 : Int) := (hpre 17 _ rfl ⟨⟨17, .data⟩, by simp, rfl, rfl⟩)
                    refine st_run (want_some rfl rfl rfl (hpre 9 _ rfl ⟨⟨9, .guard⟩, by simp, rfl, rfl⟩)) (.bool true) (w' := u) ?_ (hK _ _ rfl rf)
                    simp only [execOp, y43, y49]
                    first
                      | (go_simp; done)
                      | (go_simp; simp [z7])
                  · obtain rfl := Option.some.inj ho
                    exact st_pick (.tmp 41) (.const (.bool true)) (.tmp 50) rfl (want_none rfl) false (hpre 9 _ rfl ⟨⟨9, .data⟩, by simp, rfl, rfl⟩) _ ((if_neg (by decide)).trans (hpre 18 _ rfl ⟨⟨18, .data⟩, by simp, rfl, rfl⟩)) (hK _ _ rfl rf)
                  · cases ho
                case m3 =>
                  intro aX u hr hk hv
                  have q51 : aX.tmps.getD 51 undef = .bool true := hv 19 _ rfl
                  have hfr := keeps_frameP (fun s => decide ((32 ≤ s ∧ s ≤ 51))) hk (by simp)
                  refine hKx aX u ?_
                  rw [hfr]
                  generalize hff : (fun s => aX.tmps.getD s undef) = ff
                  have hf51 : ff 51 = .bool true := by rw [← hff]; exact q51
                  simp only [mixP, hf51, decide_eq_true_eq, Nat.reduceAdd, Nat.reduceLeDiff, Nat.reduceEqDiff, false_or, true_or, or_false, or_true, and_true, and_false, true_and, false_and, and_self, if_true, if_false, Nat.zero_le]
                  clear hfr hff hf51 q51 hv hk
                  have HBU : Hid (Below w.heap.size w u) := below_then HB.out hr
                  clear hr hKx
                  go_wp2
                  go_ret
                  exact ⟨by rw [E.out]; rfl, HBU.out⟩
            · have z6 : ((q.auth : Int) != (U1 : Int)) = true := by simp; omega
              have E : Hid (f = 12) := by show _ = _; rw [← HF.out]; unfold faultOf; rw [if_neg (fun h => h h0), if_neg h1, if_neg h2, if_neg h3, if_neg h4, if_pos (.inl (by rw [HU.out.1]; exact h5))]
              clear h0 h1 h2 h3 h4 h5
              clear hMM
              go_enter Tryz.func45, Tryz.ntmps45
              go_wp2_with ((with_reducible refine at_dst (some 14) ?_); refine wpList_max3 (o := ⟨some 14, _, _, _, _, _⟩) rfl (.tmp 10) (.tmp 12) (.tmp 13) rfl _ _ _ rfl rfl rfl M HM.out ?_)
              rename_i hKx
              refine wp_region_eachW (by kernel_rfl) (by kernel_rfl) (fun u u' => Below u.heap.size u u') (fun iX v u => match iX with
                  | 0 => v = .pointer (some ⟨w.heap.size, 5, none⟩)
                  | 1 => v = .int .i64 (q.auth : Int)
                  | 2 => v = .pointer (some ⟨w.heap.size, 7, none⟩)
                  | 3 => v = .int .i64 (q.hash : Int)
                  | 4 => v = .pointer (some ⟨w.heap.size, 8, none⟩)
                  | 5 => v = .int .i64 (q.sig : Int)
                  | 6 => v = .int .i64 ((q.hash : Int) + (q.sig : Int))
                  | 7 => v = .int .i64 (U1 : Int)
                  | 8 => v = .bool true
                  | 9 => v = .bool true
                  | 10 => True
                  | 11 => True
                  | 12 => True
                  | 13 => True
                  | 14 => True
                  | 15 => True
                  | 16 => True
                  | 17 => True
                  | 18 => True
                  | 19 => v = .bool true
                  | _ => True) (fun u => Below W.heap.size W u) ?m1 (fun _ _ h1 h2 => h1.trans (h2.mono h1.size)) ⟨rfl, rfl, rfl, Nat.le_refl _, fun _ _ => rfl⟩ ?m2 ?m3
              case m1 =>
                intro iX v u u' h hr hb
                rcases iX with _ | _ | _ | _ | _ | _ | _ | _ | _ | _ | _ | _ | _ | _ | _ | _ | _ | _ | _ | _ | iX
                · exact h
                · exact h
                · exact h
                · exact h
                · exact h
                · exact h
                · exact h
                · exact h
                · exact h
                · exact h
                · trivial
                · trivial
                · trivial
                · trivial
                · trivial
                · trivial
                · trivial
                · trivial
                · trivial
                · exact h
                · trivial
              case m2 =>
                intro iX o ho aX u hr hk hpre K hK
                have e2 : aX.tmps.getD 2 undef = .pointer (some ⟨w.heap.size, 0, none⟩) := hk.slot 2 (by simp)
                have u5 : u.cell? ⟨w.heap.size, 5, none⟩ = some (.int .i64 (q.auth : Nat)) := (hr.cell (p := ⟨w.heap.size, 5, none⟩) HK.out.lt).trans k5
                have u6 : u.cell? ⟨w.heap.size, 6, none⟩ = some (.int .i64 (q.aux : Nat)) := (hr.cell (p := ⟨w.heap.size, 6, none⟩) HK.out.lt).trans k6
                have u7 : u.cell? ⟨w.heap.size, 7, none⟩ = some (.int .i64 (q.hash : Nat)) := (hr.cell (p := ⟨w.heap.size, 7, none⟩) HK.out.lt).trans k7
                have u8 : u.cell? ⟨w.heap.size, 8, none⟩ = some (.int .i64 (q.sig : Nat)) := (hr.cell (p := ⟨w.heap.size, 8, none⟩) HK.out.lt).trans k8
                have u9 : u.cell? ⟨w.heap.size, 9, none⟩ = some (.int .i64 (q.key : Nat)) := (hr.cell (p := ⟨w.heap.size, 9, none⟩) HK.out.lt).trans k9
                have u10 : u.cell? ⟨w.heap.size, 10, none⟩ = some (.int .i64 (q.list : Nat)) := (hr.cell (p := ⟨w.heap.size, 10, none⟩) HK.out.lt).trans k10
                have rf : Below u.heap.size u u := Below.refl _ _
                rcases iX with _ | _ | _ | _ | _ | _ | _ | _ | _ | _ | _ | _ | _ | _ | _ | _ | _ | _ | _ | _ | iX
                · obtain rfl := Option.some.inj ho
                  have y2 : aX.eval (.tmp 2) = .pointer (some ⟨w.heap.size, 0, none⟩) := e2
                  refine st_run (want_none rfl) (.pointer (some ⟨w.heap.size, 5, none⟩)) (w' := u) ?_ (hK _ _ rfl rf)
                  simp only [execOp, y2]
                  go_simp
                · obtain rfl := Option.some.inj ho
                  have y32 : aX.eval (.tmp 32) = .pointer (some ⟨w.heap.size, 5, none⟩) := (hpre 0 _ rfl ⟨⟨0, .data⟩, by simp, rfl, rfl⟩)
                  refine st_run (want_none rfl) (.int .i64 (q.auth : Int)) (w' := u) ?_ (hK _ _ rfl rf)
                  simp only [execOp, y32]
                  go_simp
                · obtain rfl := Option.some.inj ho
                  have y2 : aX.eval (.tmp 2) = .pointer (some ⟨w.heap.size, 0, none⟩) := e2
                  refine st_run (want_none rfl) (.pointer (some ⟨w.heap.size, 7, none⟩)) (w' := u) ?_ (hK _ _ rfl rf)
                  simp only [execOp, y2]
                  go_simp
                · obtain rfl := Option.some.inj ho
                  have y34 : aX.eval (.tmp 34) = .pointer (some ⟨w.heap.size, 7, none⟩) := (hpre 2 _ rfl ⟨⟨2, .data⟩, by simp, rfl, rfl⟩)
                  refine st_run (want_none rfl) (.int .i64 (q.hash : Int)) (w' := u) ?_ (hK _ _ rfl rf)
                  simp only [execOp, y34]
                  go_simp
                · obtain rfl := Option.some.inj ho
                  have y2 : aX.eval (.tmp 2) = .pointer (some ⟨w.heap.size, 0, none⟩) := e2
                  refine st_run (want_none rfl) (.pointer (some ⟨w.heap.size, 8, none⟩)) (w' := u) ?_ (hK _ _ rfl rf)
                  simp only [execOp, y2]
                  go_simp
                · obtain rfl := Option.some.inj ho
                  have y36 : aX.eval (.tmp 36) = .pointer (some ⟨w.heap.size, 8, none⟩) := (hpre 4 _ rfl ⟨⟨4, .data⟩, by simp, rfl, rfl⟩)
                  refine st_run (want_none rfl) (.int .i64 (q.sig : Int)) (w' := u) ?_ (hK _ _ rfl rf)
                  simp only [execOp, y36]
                  go_simp
                · obtain rfl := Option.some.inj ho
                  have y35 : aX.eval (.tmp 35) = .int .i64 (q.hash : Int) := (hpre 3 _ rfl ⟨⟨3, .data⟩, by simp, rfl, rfl⟩)
                  have y37 : aX.eval (.tmp 37) = .int .i64 (q.sig : Int) := (hpre 5 _ rfl ⟨⟨5, .data⟩, by simp, rfl, rfl⟩)
                  refine st_run (want_none rfl) (.int .i64 ((q.hash : Int) + (q.sig : Int))) (w' := u) ?_ (hK _ _ rfl rf)
                  simp only [execOp, y35, y37]
                  go_simp
                  rw [IntKind.wrap_i64]
                  omega
                · obtain rfl := Option.some.inj ho
                  have x0 : aX.eval (.tmp 38) = .int .i64 ((q.hash : Int) + (q.sig : Int)) := (hpre 6 _ rfl ⟨⟨6, .data⟩, by simp, rfl, rfl⟩)
                  exact st_callN 80 _ _ rfl (want_none rfl) #[.int .i64 ((q.hash : Int) + (q.sig : Int))] (by simp [x0] <;> (first | rfl | exact ⟨rfl, rfl⟩)) (by kernel_rfl) _ (HA1.out u) (by rintro _ u2 ⟨rfl, rfl⟩; exact ⟨_, rfl, hK _ _ rfl rf⟩)
                · obtain rfl := Option.some.inj ho
                  have y33 : aX.eval (.tmp 33) = .int .i64 (q.auth : Int) := (hpre 1 _ rfl ⟨⟨1, .data⟩, by simp, rfl, rfl⟩)
                  have y39 : aX.eval (.tmp 39) = .int .i64 (U1 : Int) := (hpre 7 _ rfl ⟨⟨7, .data⟩, by simp, rfl, rfl⟩)
                  refine st_run (want_none rfl) (.bool true) (w' := u) ?_ (hK _ _ rfl rf)
                  simp only [execOp, y33, y39]
                  first
                    | (go_simp; done)
                    | (go_simp; simp [z6])
                · obtain rfl := Option.some.inj ho
                  exact st_move (.tmp 40) rfl (want_none rfl) _ (hpre 8 _ rfl ⟨⟨8, .data⟩, by simp, rfl, rfl⟩) (hK _ _ rfl rf)
                · obtain rfl := Option.some.inj ho
                  exact st_fall (want_fall rfl rfl rfl (hpre 9 _ rfl ⟨⟨9, .guard⟩, by simp, rfl, rfl⟩) (by decide)) (hK undef _ trivial rf)
                · obtain rfl := Option.some.inj ho
                  exact st_fall (want_fall rfl rfl rfl (hpre 9 _ rfl ⟨⟨9, .guard⟩, by simp, rfl, rfl⟩) (by decide)) (hK undef _ trivial rf)
                · obtain rfl := Option.some.inj ho
                  exact st_fall (want_fall rfl rfl rfl (hpre 9 _ rfl ⟨⟨9, .guard⟩, by simp, rfl, rfl⟩) (by decide)) (hK undef _ trivial rf)
                · obtain rfl := Option.some.inj ho
                  exact st_fall (want_fall rfl rfl rfl (hpre 9 _ rfl ⟨⟨9, .guard⟩, by simp, rfl, rfl⟩) (by decide)) (hK undef _ trivial rf)
                · obtain rfl := Option.some.inj ho
                  exact st_fall (want_fall rfl rfl rfl (hpre 9 _ rfl ⟨⟨9, .guard⟩, by simp, rfl, rfl⟩) (by decide)) (hK undef _ trivial rf)
                · obtain rfl := Option.some.inj ho
                  exact st_fall (want_fall rfl rfl rfl (hpre 9 _ rfl ⟨⟨9, .guard⟩, by simp, rfl, rfl⟩) (by decide)) (hK undef _ trivial rf)
                · obtain rfl := Option.some.inj ho
                  exact st_fall (want_fall rfl rfl rfl (hpre 9 _ rfl ⟨⟨9, .guard⟩, by simp, rfl, rfl⟩) (by decide)) (hK undef _ trivial rf)
                · obtain rfl := Option.some.inj ho
                  exact st_fall (want_fall rfl rfl rfl (hpre 9 _ rfl ⟨⟨9, .guard⟩, by simp, rfl, rfl⟩) (by decide)) (hK undef _ trivial rf)
                · obtain rfl := Option.some.inj ho
                  exact st_fall (want_fall rfl rfl rfl (hpre 9 _ rfl ⟨⟨9, .guard⟩, by simp, rfl, rfl⟩) (by decide)) (hK undef _ trivial rf)
                · obtain rfl := Option.some.inj ho
                  exact st_pick (.tmp 41) (.const (.bool true)) (.tmp 50) rfl (want_none rfl) true (hpre 9 _ rfl ⟨⟨9, .data⟩, by simp, rfl, rfl⟩) _ ((if_pos rfl).trans rfl) (hK _ _ rfl rf)
                · cases ho
              case m3 =>
                intro aX u hr hk hv
                have q51 : aX.tmps.getD 51 undef = .bool true := hv 19 _ rfl
                have hfr := keeps_frameP (fun s => decide ((32 ≤ s ∧ s ≤ 51))) hk (by simp)
                refine hKx aX u ?_
                rw [hfr]
                generalize hff : (fun s => aX.tmps.getD s undef) = ff
                have hf51 : ff 51 = .bool true := by rw [← hff]; exact q51
                simp only [mixP, hf51, decide_eq_true_eq, Nat.reduceAdd, Nat.reduceLeDiff, Nat.reduceEqDiff, false_or, true_or, or_false, or_true, and_true, and_false, true_and, false_and, and_self, if_true, if_false, Nat.zero_le]
                clear hfr hff hf51 q51 hv hk
                have HBU : Hid (Below w.heap.size w u) := below_then HB.out hr
                clear hr hKx
                go_wp2
                go_ret
                exact ⟨by rw [E.out]; rfl, HBU.out⟩
  · have E : Hid (f = 31) := by show _ = _; rw [← HF.out]; unfold faultOf; rw [if_pos h0]
    have z1 : ((q.ver : Int) != 1) = true := by simp; omega
    clear h0
    go_enter Tryz.func45, Tryz.ntmps45
    go_wp2
    go_ret
    exact ⟨by rw [E.out]; rfl, HB.out⟩
end Go.Proofs.YtlcoebenkhafcaaGreatDoor
