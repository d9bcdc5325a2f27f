/-
  Blobs in memory; what Right of package blob answers. No condition but that texts are bytes that fit.
-/
import Derived.Test.YtlcoebenkhafcaaGreatDoorZ16
namespace Go.Proofs.YtlcoebenkhafcaaGreatDoor
open Go.RowKit
set_option linter.unusedVariables false
set_option linter.unusedSimpArgs false
set_option maxRecDepth 100000
structure BX where
  b : Bl
  xs : List Dx
  sd : Sl
  sk : Sl
  sh : Sl
  ss : Sl
def BX.tail (x : BX) : List Value := [x.sd.v, x.sk.v, x.sh.v, x.ss.v]
def BX.cells (x : BX) : List Value := hcells x.b ++ x.tail
def BX.val (x : BX) : Value := .agg x.cells.toArray
theorem BX.cells_len (x : BX) : x.cells.length = 8 := rfl
theorem BX.one (x : BX) : ∀ v ∈ x.cells, v.oneCell' = true := by
  intro v hv
  rcases List.mem_append.1 hv with hv | hv
  · exact hcells_one x.b v hv
  · simp only [BX.tail, List.mem_cons, List.not_mem_nil, or_false] at hv
    rcases hv with rfl | rfl | rfl | rfl <;> rfl
structure BXOk (w : World) (x : BX) : Prop where
  alg : I64 x.b.alg
  idx : I64 x.b.idx
  flags : I64 x.b.flags
  loc : I64 x.b.loc
  dl : DL w x.sd.A x.sd.n x.xs
  ds : des x.xs = x.b.ds
  dn : x.sd.n ≤ 100000
  dc : x.sd.n ≤ x.sd.cap
  dm : x.sd.cap ≤ 9223372036854775807
  nm : ∀ y ∈ x.xs, y.d.name.length ≤ 100000
  key : Bs w x.sk.A x.sk.n x.sk.cap x.b.key
  hash : Bs w x.sh.A x.sh.n x.sh.cap x.b.hash
  sig : Bs w x.ss.A x.ss.n x.ss.cap x.b.sig
theorem BXOk.below {w w' : World} {x : BX} (h : BXOk w x) (hb : Below w.heap.size w w') : BXOk w' x :=
  { h with dl := h.dl.below hb, key := h.key.below hb, hash := h.hash.below hb, sig := h.sig.below hb }
theorem BXOk.fits {w : World} {x : BX} (h : BXOk w x) : x.b.Fits := ⟨fun d hd => by
  rw [← h.ds] at hd
  obtain ⟨y, hy, rfl⟩ := List.mem_map.1 hd
  exact (h.dl.ok y hy).fits, h.key.fit, h.hash.fit, h.sig.fit⟩
structure BIn (w : World) (g : Nat) (x : BX) (wr : World) : Prop where
  below : Below w.heap.size w wr
  blk : Blk wr g 27 x.cells
  ok : BXOk wr x
section
variable {w wr w2 : World} {g : Nat} {x : BX}
theorem BIn.next (h : BIn w g x wr) (hb : Below wr.heap.size wr w2) : BIn w g x w2 := ⟨h.below.trans (hb.mono h.below.size), h.blk.below hb h.blk.lt, h.ok.below hb⟩
theorem BIn.new (hx : BXOk w x) (hW : w.alloc (.cells x.cells.toArray 27) = wr) : BIn w w.heap.size x wr := by
  have hb : Below w.heap.size w (w.alloc (.cells x.cells.toArray 27)) := (Below.refl _ _).alloc (Nat.le_refl _) _
  have hk : Blk (w.alloc (.cells x.cells.toArray 27)) w.heap.size 27 x.cells := Blk.new _ _ _
  rw [hW] at hb hk
  exact ⟨hb, hk, hx.below hb⟩
theorem BIn.c0 (h : BIn w g x wr) : wr.cell? ⟨g, 0, none⟩ = some (.int .i64 x.b.alg) := h.blk.cell 0
theorem BIn.c1 (h : BIn w g x wr) : wr.cell? ⟨g, 1, none⟩ = some (.int .i64 x.b.idx) := h.blk.cell 1
theorem BIn.c2 (h : BIn w g x wr) : wr.cell? ⟨g, 2, none⟩ = some (.int .i64 x.b.flags) := h.blk.cell 2
theorem BIn.c3 (h : BIn w g x wr) : wr.cell? ⟨g, 3, none⟩ = some (.int .i64 x.b.loc) := h.blk.cell 3
theorem BIn.c4 (h : BIn w g x wr) : wr.cell? ⟨g, 4, none⟩ = some (.slice x.sd.A x.sd.n x.sd.cap) := h.blk.cell 4
theorem BIn.c5 (h : BIn w g x wr) : wr.cell? ⟨g, 5, none⟩ = some (.slice x.sk.A x.sk.n x.sk.cap) := h.blk.cell 5
theorem BIn.c6 (h : BIn w g x wr) : wr.cell? ⟨g, 6, none⟩ = some (.slice x.sh.A x.sh.n x.sh.cap) := h.blk.cell 6
theorem BIn.c7 (h : BIn w g x wr) : wr.cell? ⟨g, 7, none⟩ = some (.slice x.ss.A x.ss.n x.ss.cap) := h.blk.cell 7
theorem BIn.hat (h : BIn w g x wr) : At wr ⟨g, 0, none⟩ (hcells x.b) := fun j v hj => by
  rw [addr_add, Nat.zero_add, h.blk.cell]
  show (hcells x.b ++ x.tail)[j]? = some v
  rw [List.getElem?_append_left (List.getElem?_eq_some_iff.1 hj).1]
  exact hj
end
theorem uH : ∃ d, Tryz.prog.underlying 23 = some d ∧ d.isRow = true := ⟨_, Tryz.underlying23, rfl⟩
theorem iH : (Tryz.prog.info? 23).map (·.size) = some 4 := by kernel_rfl
theorem uBl : ∃ d, Tryz.prog.underlying 27 = some d ∧ d.isRow = true := ⟨_, Tryz.underlying27, rfl⟩
theorem iBl : (Tryz.prog.info? 27).map (·.size) = some 8 := by kernel_rfl
theorem uPc : ∃ d, Tryz.prog.underlying 57 = some d ∧ d.isRow = true := ⟨_, Tryz.underlying57, rfl⟩
theorem iPc : (Tryz.prog.info? 57).map (·.size) = some 3 := by kernel_rfl
theorem uOl : ∃ d, Tryz.prog.underlying 65 = some d ∧ d.isRow = true := ⟨_, Tryz.underlying65, rfl⟩
theorem iOl : (Tryz.prog.info? 65).map (·.size) = some 11 := by kernel_rfl
set_option maxHeartbeats 4000000 in
theorem BRight_any (x : BX) (w : World) (hx : BXOk w x) : Calls Tryz.prog 14 #[x.val] w fun e w' => e = .returned (.bool (decide (BRight x.b))) ∧ Below w.heap.size w w' := by
  obtain ⟨dH, huH, hdH⟩ := uH
  obtain ⟨D, hD⟩ : ∃ D, decide (BRight x.b) = D := ⟨_, rfl⟩
  rw [hD]
  have HD := Lib.hid hD
  clear hD
  have HE := Lib.hid (fun (w' : World) (hb : Below w.heap.size w w') => encodes_any x.sd.A x.sd.n x.sd.cap x.xs w' (hx.dl.below hb) hx.dn hx.dc hx.dm hx.nm)
  have HDS := Lib.hid hx.ds
  unfold BX.val
  obtain ⟨W, hW⟩ : ∃ W, w.alloc (.cells x.cells.toArray 27) = W := ⟨_, rfl⟩
  have X := Lib.hid (BIn.new hx hW)
  have HLK : Hid (x.b.key.length = x.sk.n ∧ x.b.hash.length = x.sh.n ∧ x.b.sig.length = x.ss.n) := ⟨hx.key.rd.1, hx.hash.rd.1, hx.sig.rd.1⟩
  clear hx
  by_cases hh : Headed x.b
  · have e1 : decide (Headed x.b) = true := decide_eq_true hh
    have HR1 := Lib.hid (inRange_any x.b W)
    rw [e1] at HR1
    by_cases hl : Listed x.b.ds
    · have e2 : decide (Listed (des x.xs)) = true := by rw [HDS.out]; exact decide_eq_true hl
      rw [e2] at HE
      have HBR : Hid (BRight x.b ↔ Lens x.b) := ⟨fun h => h.2.2, fun h => ⟨hh, hl, h⟩⟩
      have HSG := Lib.hid (fun W => signed_any x.b W)
      clear hh hl e1 e2
      by_cases ha : x.b.alg = 0
      · have ea : (x.b.alg != 0) = false := by simp [ha]
        rw [ea] at HSG
        by_cases h0 : x.sk.n = 0
        · have z0 : ((x.sk.n : Int) == 0) = true := by simp [h0]
          by_cases h1 : x.sh.n = 0
          · have z1 : ((x.sh.n : Int) == 0) = true := by simp [h1]
            by_cases h2 : x.ss.n = 0
            · have z2 : ((x.ss.n : Int) == 0) = true := by simp [h2]
              have E : Hid (D = true) := HD.out.symm.trans (decide_eq_true (HBR.out.2 (.inl ⟨ha, HLK.out.1.trans h0, HLK.out.2.1.trans h1, HLK.out.2.2.trans h2⟩)))
              clear h0 h1 h2 ha
              go_enter Tryz.func14, Tryz.ntmps14
              go_wp2_with ((with_reducible refine at_dst (some 4) ?_); refine wpList_loadAt (op := ⟨some 4, _, _, _, _, _⟩) rfl 23 (.tmp 3) rfl ⟨w.heap.size, 0, none⟩ rfl (hcells x.b) dH X.out.hat huH hdH iH ?_)
              refine HR1.out.mono ?_
              rintro e w1 ⟨rfl, hb1⟩
              have X1 := Lib.hid (X.out.next hb1)
              have k4 := X1.out.c4
              go_wp2_with fail
              refine (HE.out w1 X1.out.below).mono ?_
              rintro e w2 ⟨rfl, hb2⟩
              have X2 := Lib.hid (X1.out.next hb2)
              clear hb1 hb2 k4
              go_wp2_with ((with_reducible refine at_dst (some 14) ?_); refine wpList_loadAt (op := ⟨some 14, _, _, _, _, _⟩) rfl 23 (.tmp 13) rfl ⟨w.heap.size, 0, none⟩ rfl (hcells x.b) dH X2.out.hat huH hdH iH ?_)
              refine (HSG.out w2).mono ?_
              rintro e w3 ⟨rfl, hb3⟩
              have X3 := Lib.hid (X2.out.next hb3)
              have k0 := X3.out.c0
              have k5 := X3.out.c5
              have k6 := X3.out.c6
              have k7 := X3.out.c7
              clear hb3
              go_wp2
              go_ret
              exact ⟨by rw [E.out]; rfl, X3.out.below⟩
            · have z2 : ((x.ss.n : Int) == 0) = false := by simp [h2]
              have E : Hid (D = false) := HD.out.symm.trans (decide_eq_false (fun h => (HBR.out.1 h).elim (fun g => h2 (HLK.out.2.2.symm.trans g.2.2.2)) (fun g => g.1 ha)))
              clear h0 h1 h2 ha
              go_enter Tryz.func14, Tryz.ntmps14
              go_wp2_with ((with_reducible refine at_dst (some 4) ?_); refine wpList_loadAt (op := ⟨some 4, _, _, _, _, _⟩) rfl 23 (.tmp 3) rfl ⟨w.heap.size, 0, none⟩ rfl (hcells x.b) dH X.out.hat huH hdH iH ?_)
              refine HR1.out.mono ?_
              rintro e w1 ⟨rfl, hb1⟩
              have X1 := Lib.hid (X.out.next hb1)
              have k4 := X1.out.c4
              go_wp2_with fail
              refine (HE.out w1 X1.out.below).mono ?_
              rintro e w2 ⟨rfl, hb2⟩
              have X2 := Lib.hid (X1.out.next hb2)
              clear hb1 hb2 k4
              go_wp2_with ((with_reducible refine at_dst (some 14) ?_); refine wpList_loadAt (op := ⟨some 14, _, _, _, _, _⟩) rfl 23 (.tmp 13) rfl ⟨w.heap.size, 0, none⟩ rfl (hcells x.b) dH X2.out.hat huH hdH iH ?_)
              refine (HSG.out w2).mono ?_
              rintro e w3 ⟨rfl, hb3⟩
              have X3 := Lib.hid (X2.out.next hb3)
              have k0 := X3.out.c0
              have k5 := X3.out.c5
              have k6 := X3.out.c6
              have k7 := X3.out.c7
              clear hb3
              go_wp2
              go_ret
              exact ⟨by rw [E.out]; rfl, X3.out.below⟩
          · have z1 : ((x.sh.n : Int) == 0) = false := by simp [h1]
            have E : Hid (D = false) := HD.out.symm.trans (decide_eq_false (fun h => (HBR.out.1 h).elim (fun g => h1 (HLK.out.2.1.symm.trans g.2.2.1)) (fun g => g.1 ha)))
            clear h0 h1 ha
            go_enter Tryz.func14, Tryz.ntmps14
            go_wp2_with ((with_reducible refine at_dst (some 4) ?_); refine wpList_loadAt (op := ⟨some 4, _, _, _, _, _⟩) rfl 23 (.tmp 3) rfl ⟨w.heap.size, 0, none⟩ rfl (hcells x.b) dH X.out.hat huH hdH iH ?_)
            refine HR1.out.mono ?_
            rintro e w1 ⟨rfl, hb1⟩
            have X1 := Lib.hid (X.out.next hb1)
            have k4 := X1.out.c4
            go_wp2_with fail
            refine (HE.out w1 X1.out.below).mono ?_
            rintro e w2 ⟨rfl, hb2⟩
            have X2 := Lib.hid (X1.out.next hb2)
            clear hb1 hb2 k4
            go_wp2_with ((with_reducible refine at_dst (some 14) ?_); refine wpList_loadAt (op := ⟨some 14, _, _, _, _, _⟩) rfl 23 (.tmp 13) rfl ⟨w.heap.size, 0, none⟩ rfl (hcells x.b) dH X2.out.hat huH hdH iH ?_)
            refine (HSG.out w2).mono ?_
            rintro e w3 ⟨rfl, hb3⟩
            have X3 := Lib.hid (X2.out.next hb3)
            have k0 := X3.out.c0
            have k5 := X3.out.c5
            have k6 := X3.out.c6
            have k7 := X3.out.c7
            clear hb3
            go_wp2
            go_ret
            exact ⟨by rw [E.out]; rfl, X3.out.below⟩
        · have z0 : ((x.sk.n : Int) == 0) = false := by simp [h0]
          have E : Hid (D = false) := HD.out.symm.trans (decide_eq_false (fun h => (HBR.out.1 h).elim (fun g => h0 (HLK.out.1.symm.trans g.2.1)) (fun g => g.1 ha)))
          clear h0 ha
          go_enter Tryz.func14, Tryz.ntmps14
          go_wp2_with ((with_reducible refine at_dst (some 4) ?_); refine wpList_loadAt (op := ⟨some 4, _, _, _, _, _⟩) rfl 23 (.tmp 3) rfl ⟨w.heap.size, 0, none⟩ rfl (hcells x.b) dH X.out.hat huH hdH iH ?_)
          refine HR1.out.mono ?_
          rintro e w1 ⟨rfl, hb1⟩
          have X1 := Lib.hid (X.out.next hb1)
          have k4 := X1.out.c4
          go_wp2_with fail
          refine (HE.out w1 X1.out.below).mono ?_
          rintro e w2 ⟨rfl, hb2⟩
          have X2 := Lib.hid (X1.out.next hb2)
          clear hb1 hb2 k4
          go_wp2_with ((with_reducible refine at_dst (some 14) ?_); refine wpList_loadAt (op := ⟨some 14, _, _, _, _, _⟩) rfl 23 (.tmp 13) rfl ⟨w.heap.size, 0, none⟩ rfl (hcells x.b) dH X2.out.hat huH hdH iH ?_)
          refine (HSG.out w2).mono ?_
          rintro e w3 ⟨rfl, hb3⟩
          have X3 := Lib.hid (X2.out.next hb3)
          have k0 := X3.out.c0
          have k5 := X3.out.c5
          have k6 := X3.out.c6
          have k7 := X3.out.c7
          clear hb3
          go_wp2
          go_ret
          exact ⟨by rw [E.out]; rfl, X3.out.below⟩
      · have ea : (x.b.alg != 0) = true := by simp [ha]
        rw [ea] at HSG
        have HS := Lib.hid (fun w => (SizeS_any x.b.alg w).mono (fun e w' h => (⟨h.1, h.2.symm⟩ : e = .returned (.int .i64 (szOf x.b.alg)) ∧ w' = w)))
        obtain ⟨S, hS⟩ : ∃ S, szOf x.b.alg = S := ⟨_, rfl⟩
        rw [hS] at HS
        have HSS := Lib.hid hS
        clear hS
        by_cases h0 : (x.sh.n : Int) = S
        · have z0 : ((x.sh.n : Int) == S) = true := beq_iff_eq.2 h0
          by_cases h1 : (1 : Int) ≤ (x.sk.n : Int) ∧ (x.sk.n : Int) ≤ 1032
          · have HW1 : Hid (∀ w : World, Calls Tryz.prog 39 #[.int .i64 (x.sk.n : Int), .int .i64 1, .int .i64 1032] w fun e w' => e = .returned (.bool true) ∧ w' = w) := fun w => (within_any (x.sk.n : Int) 1 1032 w).mono (fun e w' q => ⟨by rw [q.1, decide_eq_true h1], q.2.symm⟩)
            by_cases h2 : (1 : Int) ≤ (x.ss.n : Int) ∧ (x.ss.n : Int) ≤ 512
            · have HW2 : Hid (∀ w : World, Calls Tryz.prog 39 #[.int .i64 (x.ss.n : Int), .int .i64 1, .int .i64 512] w fun e w' => e = .returned (.bool true) ∧ w' = w) := fun w => (within_any (x.ss.n : Int) 1 512 w).mono (fun e w' q => ⟨by rw [q.1, decide_eq_true h2], q.2.symm⟩)
              have E : Hid (D = true) := HD.out.symm.trans (decide_eq_true (HBR.out.2 (.inr ⟨ha, (by rw [HLK.out.2.1, HSS.out]; exact h0), ⟨by rw [HLK.out.1]; omega, by rw [HLK.out.1]; omega⟩, ⟨by rw [HLK.out.2.2]; omega, by rw [HLK.out.2.2]; omega⟩⟩)))
              clear h0 h1 h2 ha
              go_enter Tryz.func14, Tryz.ntmps14
              go_wp2_with ((with_reducible refine at_dst (some 4) ?_); refine wpList_loadAt (op := ⟨some 4, _, _, _, _, _⟩) rfl 23 (.tmp 3) rfl ⟨w.heap.size, 0, none⟩ rfl (hcells x.b) dH X.out.hat huH hdH iH ?_)
              refine HR1.out.mono ?_
              rintro e w1 ⟨rfl, hb1⟩
              have X1 := Lib.hid (X.out.next hb1)
              have k4 := X1.out.c4
              go_wp2_with fail
              refine (HE.out w1 X1.out.below).mono ?_
              rintro e w2 ⟨rfl, hb2⟩
              have X2 := Lib.hid (X1.out.next hb2)
              clear hb1 hb2 k4
              go_wp2_with ((with_reducible refine at_dst (some 14) ?_); refine wpList_loadAt (op := ⟨some 14, _, _, _, _, _⟩) rfl 23 (.tmp 13) rfl ⟨w.heap.size, 0, none⟩ rfl (hcells x.b) dH X2.out.hat huH hdH iH ?_)
              refine (HSG.out w2).mono ?_
              rintro e w3 ⟨rfl, hb3⟩
              have X3 := Lib.hid (X2.out.next hb3)
              have k0 := X3.out.c0
              have k5 := X3.out.c5
              have k6 := X3.out.c6
              have k7 := X3.out.c7
              clear hb3
              go_wp2
              rename_i hKx
              refine wp_region_eachW (by kernel_rfl) (by kernel_rfl) (fun u u' => Below u.heap.size u u') (fun iX v u => match iX with
                  | 0 => v = .pointer (some ⟨w.heap.size, 6, none⟩)
                  | 1 => v = .slice x.sh.A x.sh.n x.sh.cap
                  | 2 => v = .int .i64 (x.sh.n : Int)
                  | 3 => v = .pointer (some ⟨w.heap.size, 0, none⟩)
                  | 4 => v = .pointer (some ⟨w.heap.size, 0, none⟩)
                  | 5 => v = .int .i64 x.b.alg
                  | 6 => v = .int .i64 S
                  | 7 => v = .bool true
                  | 8 => v = .bool true
                  | 9 => v = .pointer (some ⟨w.heap.size, 5, none⟩)
                  | 10 => v = .slice x.sk.A x.sk.n x.sk.cap
                  | 11 => v = .int .i64 (x.sk.n : Int)
                  | 12 => v = .bool true
                  | 13 => v = .bool true
                  | 14 => v = .bool true
                  | 15 => v = .pointer (some ⟨w.heap.size, 7, none⟩)
                  | 16 => v = .slice x.ss.A x.ss.n x.ss.cap
                  | 17 => v = .int .i64 (x.ss.n : Int)
                  | 18 => v = .bool true
                  | 19 => v = .bool true
                  | 20 => v = .bool true
                  | _ => True) (fun u => Below w3.heap.size w3 u) ?m1 (fun _ _ h1 h2 => h1.trans (h2.mono h1.size)) ⟨rfl, rfl, rfl, Nat.le_refl _, fun _ _ => rfl⟩ ?m2 ?m3
              case m1 =>
                intro iX v u u' h hr hb
                rcases iX with _ | _ | _ | _ | _ | _ | _ | _ | _ | _ | _ | _ | _ | _ | _ | _ | _ | _ | _ | _ | _ | iX
                · exact h
                · exact h
                · exact h
                · exact h
                · exact h
                · exact h
                · exact h
                · exact h
                · exact h
                · exact h
                · exact h
                · exact h
                · exact h
                · exact h
                · exact h
                · exact h
                · exact h
                · exact h
                · exact h
                · exact h
                · exact h
                · trivial
              case m2 =>
                intro iX o ho aX u hr hk hpre K hK
                have e1 : aX.tmps.getD 1 undef = .pointer (some ⟨w.heap.size, 0, none⟩) := hk.slot 1 (by simp)
                have u0 : u.cell? ⟨w.heap.size, 0, none⟩ = some (.int .i64 x.b.alg) := (hr.cell (p := ⟨w.heap.size, 0, none⟩) X3.out.blk.lt).trans k0
                have u5 : u.cell? ⟨w.heap.size, 5, none⟩ = some (.slice x.sk.A x.sk.n x.sk.cap) := (hr.cell (p := ⟨w.heap.size, 5, none⟩) X3.out.blk.lt).trans k5
                have u6 : u.cell? ⟨w.heap.size, 6, none⟩ = some (.slice x.sh.A x.sh.n x.sh.cap) := (hr.cell (p := ⟨w.heap.size, 6, none⟩) X3.out.blk.lt).trans k6
                have u7 : u.cell? ⟨w.heap.size, 7, none⟩ = some (.slice x.ss.A x.ss.n x.ss.cap) := (hr.cell (p := ⟨w.heap.size, 7, none⟩) X3.out.blk.lt).trans k7
                have rf : Below u.heap.size u u := Below.refl _ _
                rcases iX with _ | _ | _ | _ | _ | _ | _ | _ | _ | _ | _ | _ | _ | _ | _ | _ | _ | _ | _ | _ | _ | iX
                · obtain rfl := Option.some.inj ho
                  have y1 : aX.eval (.tmp 1) = .pointer (some ⟨w.heap.size, 0, none⟩) := e1
                  refine st_run (want_none rfl) (.pointer (some ⟨w.heap.size, 6, none⟩)) (w' := u) ?_ (hK _ _ rfl rf)
                  simp only [execOp, y1]
                  go_simp
                · obtain rfl := Option.some.inj ho
                  have y33 : aX.eval (.tmp 33) = .pointer (some ⟨w.heap.size, 6, none⟩) := (hpre 0 _ rfl ⟨⟨0, .data⟩, by simp, rfl, rfl⟩)
                  refine st_run (want_none rfl) (.slice x.sh.A x.sh.n x.sh.cap) (w' := u) ?_ (hK _ _ rfl rf)
                  simp only [execOp, y33]
                  go_simp
                · obtain rfl := Option.some.inj ho
                  exact st_len (.tmp 34) rfl (want_none rfl) _ _ _ (hpre 1 _ rfl ⟨⟨1, .data⟩, by simp, rfl, rfl⟩) (hK _ _ rfl rf)
                · obtain rfl := Option.some.inj ho
                  have y1 : aX.eval (.tmp 1) = .pointer (some ⟨w.heap.size, 0, none⟩) := e1
                  refine st_run (want_none rfl) (.pointer (some ⟨w.heap.size, 0, none⟩)) (w' := u) ?_ (hK _ _ rfl rf)
                  simp only [execOp, y1]
                  go_simp
                · obtain rfl := Option.some.inj ho
                  have y36 : aX.eval (.tmp 36) = .pointer (some ⟨w.heap.size, 0, none⟩) := (hpre 3 _ rfl ⟨⟨3, .data⟩, by simp, rfl, rfl⟩)
                  refine st_run (want_none rfl) (.pointer (some ⟨w.heap.size, 0, none⟩)) (w' := u) ?_ (hK _ _ rfl rf)
                  simp only [execOp, y36]
                  go_simp
                · obtain rfl := Option.some.inj ho
                  have y37 : aX.eval (.tmp 37) = .pointer (some ⟨w.heap.size, 0, none⟩) := (hpre 4 _ rfl ⟨⟨4, .data⟩, by simp, rfl, rfl⟩)
                  refine st_run (want_none rfl) (.int .i64 x.b.alg) (w' := u) ?_ (hK _ _ rfl rf)
                  simp only [execOp, y37]
                  go_simp
                · obtain rfl := Option.some.inj ho
                  have x0 : aX.eval (.tmp 38) = .int .i64 x.b.alg := (hpre 5 _ rfl ⟨⟨5, .data⟩, by simp, rfl, rfl⟩)
                  exact st_callN 38 _ _ rfl (want_none rfl) #[.int .i64 x.b.alg] (by simp [x0] <;> (first | rfl | exact ⟨rfl, rfl⟩)) (by kernel_rfl) _ (HS.out u) (by rintro _ u2 ⟨rfl, rfl⟩; exact ⟨_, rfl, hK _ _ rfl rf⟩)
                · obtain rfl := Option.some.inj ho
                  have y35 : aX.eval (.tmp 35) = .int .i64 (x.sh.n : Int) := (hpre 2 _ rfl ⟨⟨2, .data⟩, by simp, rfl, rfl⟩)
                  have y39 : aX.eval (.tmp 39) = .int .i64 S := (hpre 6 _ rfl ⟨⟨6, .data⟩, by simp, rfl, rfl⟩)
                  refine st_run (want_none rfl) (.bool true) (w' := u) ?_ (hK _ _ rfl rf)
                  simp only [execOp, y35, y39]
                  first
                    | (go_simp; done)
                    | (go_simp; simp [z0])
                · obtain rfl := Option.some.inj ho
                  exact st_move (.tmp 40) rfl (want_none rfl) _ (hpre 7 _ rfl ⟨⟨7, .data⟩, by simp, rfl, rfl⟩) (hK _ _ rfl rf)
                · obtain rfl := Option.some.inj ho
                  have y1 : aX.eval (.tmp 1) = .pointer (some ⟨w.heap.size, 0, none⟩) := e1
                  refine st_run (want_some rfl rfl rfl (hpre 8 _ rfl ⟨⟨8, .guard⟩, by simp, rfl, rfl⟩)) (.pointer (some ⟨w.heap.size, 5, none⟩)) (w' := u) ?_ (hK _ _ rfl rf)
                  simp only [execOp, y1]
                  go_simp
                · obtain rfl := Option.some.inj ho
                  have y42 : aX.eval (.tmp 42) = .pointer (some ⟨w.heap.size, 5, none⟩) := (hpre 9 _ rfl ⟨⟨9, .data⟩, by simp, rfl, rfl⟩)
                  refine st_run (want_some rfl rfl rfl (hpre 8 _ rfl ⟨⟨8, .guard⟩, by simp, rfl, rfl⟩)) (.slice x.sk.A x.sk.n x.sk.cap) (w' := u) ?_ (hK _ _ rfl rf)
                  simp only [execOp, y42]
                  go_simp
                · obtain rfl := Option.some.inj ho
                  exact st_len (.tmp 43) rfl (want_some rfl rfl rfl (hpre 8 _ rfl ⟨⟨8, .guard⟩, by simp, rfl, rfl⟩)) _ _ _ (hpre 10 _ rfl ⟨⟨10, .data⟩, by simp, rfl, rfl⟩) (hK _ _ rfl rf)
                · obtain rfl := Option.some.inj ho
                  have x0 : aX.eval (.tmp 44) = .int .i64 (x.sk.n : Int) := (hpre 11 _ rfl ⟨⟨11, .data⟩, by simp, rfl, rfl⟩)
                  exact st_callN 39 _ _ rfl (want_some rfl rfl rfl (hpre 8 _ rfl ⟨⟨8, .guard⟩, by simp, rfl, rfl⟩)) #[.int .i64 (x.sk.n : Int), .int .i64 1, .int .i64 1032] (by simp [x0] <;> (first | rfl | exact ⟨rfl, rfl⟩)) (by kernel_rfl) _ (HW1.out u) (by rintro _ u2 ⟨rfl, rfl⟩; exact ⟨_, rfl, hK _ _ rfl rf⟩)
                · obtain rfl := Option.some.inj ho
                  exact st_pick (.tmp 41) (.tmp 45) (.const (.bool false)) rfl (want_none rfl) true (hpre 8 _ rfl ⟨⟨8, .data⟩, by simp, rfl, rfl⟩) _ ((if_pos rfl).trans (hpre 12 _ rfl ⟨⟨12, .data⟩, by simp, rfl, rfl⟩)) (hK _ _ rfl rf)
                · obtain rfl := Option.some.inj ho
                  exact st_move (.tmp 46) rfl (want_none rfl) _ (hpre 13 _ rfl ⟨⟨13, .data⟩, by simp, rfl, rfl⟩) (hK _ _ rfl rf)
                · obtain rfl := Option.some.inj ho
                  have y1 : aX.eval (.tmp 1) = .pointer (some ⟨w.heap.size, 0, none⟩) := e1
                  refine st_run (want_some rfl rfl rfl (hpre 14 _ rfl ⟨⟨14, .guard⟩, by simp, rfl, rfl⟩)) (.pointer (some ⟨w.heap.size, 7, none⟩)) (w' := u) ?_ (hK _ _ rfl rf)
                  simp only [execOp, y1]
                  go_simp
                · obtain rfl := Option.some.inj ho
                  have y48 : aX.eval (.tmp 48) = .pointer (some ⟨w.heap.size, 7, none⟩) := (hpre 15 _ rfl ⟨⟨15, .data⟩, by simp, rfl, rfl⟩)
                  refine st_run (want_some rfl rfl rfl (hpre 14 _ rfl ⟨⟨14, .guard⟩, by simp, rfl, rfl⟩)) (.slice x.ss.A x.ss.n x.ss.cap) (w' := u) ?_ (hK _ _ rfl rf)
                  simp only [execOp, y48]
                  go_simp
                · obtain rfl := Option.some.inj ho
                  exact st_len (.tmp 49) rfl (want_some rfl rfl rfl (hpre 14 _ rfl ⟨⟨14, .guard⟩, by simp, rfl, rfl⟩)) _ _ _ (hpre 16 _ rfl ⟨⟨16, .data⟩, by simp, rfl, rfl⟩) (hK _ _ rfl rf)
                · obtain rfl := Option.some.inj ho
                  have x0 : aX.eval (.tmp 50) = .int .i64 (x.ss.n : Int) := (hpre 17 _ rfl ⟨⟨17, .data⟩, by simp, rfl, rfl⟩)
                  exact st_callN 39 _ _ rfl (want_some rfl rfl rfl (hpre 14 _ rfl ⟨⟨14, .guard⟩, by simp, rfl, rfl⟩)) #[.int .i64 (x.ss.n : Int), .int .i64 1, .int .i64 512] (by simp [x0] <;> (first | rfl | exact ⟨rfl, rfl⟩)) (by kernel_rfl) _ (HW2.out u) (by rintro _ u2 ⟨rfl, rfl⟩; exact ⟨_, rfl, hK _ _ rfl rf⟩)
                · obtain rfl := Option.some.inj ho
                  exact st_pick (.tmp 47) (.tmp 51) (.const (.bool false)) rfl (want_none rfl) true (hpre 14 _ rfl ⟨⟨14, .data⟩, by simp, rfl, rfl⟩) _ ((if_pos rfl).trans (hpre 18 _ rfl ⟨⟨18, .data⟩, by simp, rfl, rfl⟩)) (hK _ _ rfl rf)
                · obtain rfl := Option.some.inj ho
                  exact st_assign (.tmp 52) rfl (want_none rfl) _ (hpre 19 _ rfl ⟨⟨19, .data⟩, by simp, rfl, rfl⟩) (hK _ _ rfl rf)
                · cases ho
              case m3 =>
                intro aX u hr hk hv
                have h6 := hv 20 _ rfl
                refine hKx aX u (wp_ret (bodyPost_ret (results_tmp rfl _ _ _) hk.defers ⟨?_, below_then X3.out.below hr⟩))
                rw [E.out]
                exact congrArg Ending.returned h6
            · have HW2 : Hid (∀ w : World, Calls Tryz.prog 39 #[.int .i64 (x.ss.n : Int), .int .i64 1, .int .i64 512] w fun e w' => e = .returned (.bool false) ∧ w' = w) := fun w => (within_any (x.ss.n : Int) 1 512 w).mono (fun e w' q => ⟨by rw [q.1, decide_eq_false h2], q.2.symm⟩)
              have E : Hid (D = false) := HD.out.symm.trans (decide_eq_false (fun h => (HBR.out.1 h).elim (fun g => ha g.1) (fun g => h2 (by have := g.2.2.2; rw [HLK.out.2.2] at this; omega))))
              clear h0 h1 h2 ha
              go_enter Tryz.func14, Tryz.ntmps14
              go_wp2_with ((with_reducible refine at_dst (some 4) ?_); refine wpList_loadAt (op := ⟨some 4, _, _, _, _, _⟩) rfl 23 (.tmp 3) rfl ⟨w.heap.size, 0, none⟩ rfl (hcells x.b) dH X.out.hat huH hdH iH ?_)
              refine HR1.out.mono ?_
              rintro e w1 ⟨rfl, hb1⟩
              have X1 := Lib.hid (X.out.next hb1)
              have k4 := X1.out.c4
              go_wp2_with fail
              refine (HE.out w1 X1.out.below).mono ?_
              rintro e w2 ⟨rfl, hb2⟩
              have X2 := Lib.hid (X1.out.next hb2)
              clear hb1 hb2 k4
              go_wp2_with ((with_reducible refine at_dst (some 14) ?_); refine wpList_loadAt (op := ⟨some 14, _, _, _, _, _⟩) rfl 23 (.tmp 13) rfl ⟨w.heap.size, 0, none⟩ rfl (hcells x.b) dH X2.out.hat huH hdH iH ?_)
              refine (HSG.out w2).mono ?_
              rintro e w3 ⟨rfl, hb3⟩
              have X3 := Lib.hid (X2.out.next hb3)
              have k0 := X3.out.c0
              have k5 := X3.out.c5
              have k6 := X3.out.c6
              have k7 := X3.out.c7
              clear hb3
              go_wp2
              rename_i hKx
              refine wp_region_eachW (by kernel_rfl) (by kernel_rfl) (fun u u' => Below u.heap.size u u') (fun iX v u => match iX with
                  | 0 => v = .pointer (some ⟨w.heap.size, 6, none⟩)
                  | 1 => v = .slice x.sh.A x.sh.n x.sh.cap
                  | 2 => v = .int .i64 (x.sh.n : Int)
                  | 3 => v = .pointer (some ⟨w.heap.size, 0, none⟩)
                  | 4 => v = .pointer (some ⟨w.heap.size, 0, none⟩)
                  | 5 => v = .int .i64 x.b.alg
                  | 6 => v = .int .i64 S
                  | 7 => v = .bool true
                  | 8 => v = .bool true
                  | 9 => v = .pointer (some ⟨w.heap.size, 5, none⟩)
                  | 10 => v = .slice x.sk.A x.sk.n x.sk.cap
                  | 11 => v = .int .i64 (x.sk.n : Int)
                  | 12 => v = .bool true
                  | 13 => v = .bool true
                  | 14 => v = .bool true
                  | 15 => v = .pointer (some ⟨w.heap.size, 7, none⟩)
                  | 16 => v = .slice x.ss.A x.ss.n x.ss.cap
                  | 17 => v = .int .i64 (x.ss.n : Int)
                  | 18 => v = .bool false
                  | 19 => v = .bool false
                  | 20 => v = .bool false
                  | _ => True) (fun u => Below w3.heap.size w3 u) ?m1 (fun _ _ h1 h2 => h1.trans (h2.mono h1.size)) ⟨rfl, rfl, rfl, Nat.le_refl _, fun _ _ => rfl⟩ ?m2 ?m3
              case m1 =>
                intro iX v u u' h hr hb
                rcases iX with _ | _ | _ | _ | _ | _ | _ | _ | _ | _ | _ | _ | _ | _ | _ | _ | _ | _ | _ | _ | _ | iX
                · exact h
                · exact h
                · exact h
                · exact h
                · exact h
                · exact h
                · exact h
                · exact h
                · exact h
                · exact h
                · exact h
                · exact h
                · exact h
                · exact h
                · exact h
                · exact h
                · exact h
                · exact h
                · exact h
                · exact h
                · exact h
                · trivial
              case m2 =>
                intro iX o ho aX u hr hk hpre K hK
                have e1 : aX.tmps.getD 1 undef = .pointer (some ⟨w.heap.size, 0, none⟩) := hk.slot 1 (by simp)
                have u0 : u.cell? ⟨w.heap.size, 0, none⟩ = some (.int .i64 x.b.alg) := (hr.cell (p := ⟨w.heap.size, 0, none⟩) X3.out.blk.lt).trans k0
                have u5 : u.cell? ⟨w.heap.size, 5, none⟩ = some (.slice x.sk.A x.sk.n x.sk.cap) := (hr.cell (p := ⟨w.heap.size, 5, none⟩) X3.out.blk.lt).trans k5
                have u6 : u.cell? ⟨w.heap.size, 6, none⟩ = some (.slice x.sh.A x.sh.n x.sh.cap) := (hr.cell (p := ⟨w.heap.size, 6, none⟩) X3.out.blk.lt).trans k6
                have u7 : u.cell? ⟨w.heap.size, 7, none⟩ = some (.slice x.ss.A x.ss.n x.ss.cap) := (hr.cell (p := ⟨w.heap.size, 7, none⟩) X3.out.blk.lt).trans k7
                have rf : Below u.heap.size u u := Below.refl _ _
                rcases iX with _ | _ | _ | _ | _ | _ | _ | _ | _ | _ | _ | _ | _ | _ | _ | _ | _ | _ | _ | _ | _ | iX
                · obtain rfl := Option.some.inj ho
                  have y1 : aX.eval (.tmp 1) = .pointer (some ⟨w.heap.size, 0, none⟩) := e1
                  refine st_run (want_none rfl) (.pointer (some ⟨w.heap.size, 6, none⟩)) (w' := u) ?_ (hK _ _ rfl rf)
                  simp only [execOp, y1]
                  go_simp
                · obtain rfl := Option.some.inj ho
                  have y33 : aX.eval (.tmp 33) = .pointer (some ⟨w.heap.size, 6, none⟩) := (hpre 0 _ rfl ⟨⟨0, .data⟩, by simp, rfl, rfl⟩)
                  refine st_run (want_none rfl) (.slice x.sh.A x.sh.n x.sh.cap) (w' := u) ?_ (hK _ _ rfl rf)
                  simp only [execOp, y33]
                  go_simp
                · obtain rfl := Option.some.inj ho
                  exact st_len (.tmp 34) rfl (want_none rfl) _ _ _ (hpre 1 _ rfl ⟨⟨1, .data⟩, by simp, rfl, rfl⟩) (hK _ _ rfl rf)
                · obtain rfl := Option.some.inj ho
                  have y1 : aX.eval (.tmp 1) = .pointer (some ⟨w.heap.size, 0, none⟩) := e1
                  refine st_run (want_none rfl) (.pointer (some ⟨w.heap.size, 0, none⟩)) (w' := u) ?_ (hK _ _ rfl rf)
                  simp only [execOp, y1]
                  go_simp
                · obtain rfl := Option.some.inj ho
                  have y36 : aX.eval (.tmp 36) = .pointer (some ⟨w.heap.size, 0, none⟩) := (hpre 3 _ rfl ⟨⟨3, .data⟩, by simp, rfl, rfl⟩)
                  refine st_run (want_none rfl) (.pointer (some ⟨w.heap.size, 0, none⟩)) (w' := u) ?_ (hK _ _ rfl rf)
                  simp only [execOp, y36]
                  go_simp
                · obtain rfl := Option.some.inj ho
                  have y37 : aX.eval (.tmp 37) = .pointer (some ⟨w.heap.size, 0, none⟩) := (hpre 4 _ rfl ⟨⟨4, .data⟩, by simp, rfl, rfl⟩)
                  refine st_run (want_none rfl) (.int .i64 x.b.alg) (w' := u) ?_ (hK _ _ rfl rf)
                  simp only [execOp, y37]
                  go_simp
                · obtain rfl := Option.some.inj ho
                  have x0 : aX.eval (.tmp 38) = .int .i64 x.b.alg := (hpre 5 _ rfl ⟨⟨5, .data⟩, by simp, rfl, rfl⟩)
                  exact st_callN 38 _ _ rfl (want_none rfl) #[.int .i64 x.b.alg] (by simp [x0] <;> (first | rfl | exact ⟨rfl, rfl⟩)) (by kernel_rfl) _ (HS.out u) (by rintro _ u2 ⟨rfl, rfl⟩; exact ⟨_, rfl, hK _ _ rfl rf⟩)
                · obtain rfl := Option.some.inj ho
                  have y35 : aX.eval (.tmp 35) = .int .i64 (x.sh.n : Int) := (hpre 2 _ rfl ⟨⟨2, .data⟩, by simp, rfl, rfl⟩)
                  have y39 : aX.eval (.tmp 39) = .int .i64 S := (hpre 6 _ rfl ⟨⟨6, .data⟩, by simp, rfl, rfl⟩)
                  refine st_run (want_none rfl) (.bool true) (w' := u) ?_ (hK _ _ rfl rf)
                  simp only [execOp, y35, y39]
                  first
                    | (go_simp; done)
                    | (go_simp; simp [z0])
                · obtain rfl := Option.some.inj ho
                  exact st_move (.tmp 40) rfl (want_none rfl) _ (hpre 7 _ rfl ⟨⟨7, .data⟩, by simp, rfl, rfl⟩) (hK _ _ rfl rf)
                · obtain rfl := Option.some.inj ho
                  have y1 : aX.eval (.tmp 1) = .pointer (some ⟨w.heap.size, 0, none⟩) := e1
                  refine st_run (want_some rfl rfl rfl (hpre 8 _ rfl ⟨⟨8, .guard⟩, by simp, rfl, rfl⟩)) (.pointer (some ⟨w.heap.size, 5, none⟩)) (w' := u) ?_ (hK _ _ rfl rf)
                  simp only [execOp, y1]
                  go_simp
                · obtain rfl := Option.some.inj ho
                  have y42 : aX.eval (.tmp 42) = .pointer (some ⟨w.heap.size, 5, none⟩) := (hpre 9 _ rfl ⟨⟨9, .data⟩, by simp, rfl, rfl⟩)
                  refine st_run (want_some rfl rfl rfl (hpre 8 _ rfl ⟨⟨8, .guard⟩, by simp, rfl, rfl⟩)) (.slice x.sk.A x.sk.n x.sk.cap) (w' := u) ?_ (hK _ _ rfl rf)
                  simp only [execOp, y42]
                  go_simp
                · obtain rfl := Option.some.inj ho
                  exact st_len (.tmp 43) rfl (want_some rfl rfl rfl (hpre 8 _ rfl ⟨⟨8, .guard⟩, by simp, rfl, rfl⟩)) _ _ _ (hpre 10 _ rfl ⟨⟨10, .data⟩, by simp, rfl, rfl⟩) (hK _ _ rfl rf)
                · obtain rfl := Option.some.inj ho
                  have x0 : aX.eval (.tmp 44) = .int .i64 (x.sk.n : Int) := (hpre 11 _ rfl ⟨⟨11, .data⟩, by simp, rfl, rfl⟩)
                  exact st_callN 39 _ _ rfl (want_some rfl rfl rfl (hpre 8 _ rfl ⟨⟨8, .guard⟩, by simp, rfl, rfl⟩)) #[.int .i64 (x.sk.n : Int), .int .i64 1, .int .i64 1032] (by simp [x0] <;> (first | rfl | exact ⟨rfl, rfl⟩)) (by kernel_rfl) _ (HW1.out u) (by rintro _ u2 ⟨rfl, rfl⟩; exact ⟨_, rfl, hK _ _ rfl rf⟩)
                · obtain rfl := Option.some.inj ho
                  exact st_pick (.tmp 41) (.tmp 45) (.const (.bool false)) rfl (want_none rfl) true (hpre 8 _ rfl ⟨⟨8, .data⟩, by simp, rfl, rfl⟩) _ ((if_pos rfl).trans (hpre 12 _ rfl ⟨⟨12, .data⟩, by simp, rfl, rfl⟩)) (hK _ _ rfl rf)
                · obtain rfl := Option.some.inj ho
                  exact st_move (.tmp 46) rfl (want_none rfl) _ (hpre 13 _ rfl ⟨⟨13, .data⟩, by simp, rfl, rfl⟩) (hK _ _ rfl rf)
                · obtain rfl := Option.some.inj ho
                  have y1 : aX.eval (.tmp 1) = .pointer (some ⟨w.heap.size, 0, none⟩) := e1
                  refine st_run (want_some rfl rfl rfl (hpre 14 _ rfl ⟨⟨14, .guard⟩, by simp, rfl, rfl⟩)) (.pointer (some ⟨w.heap.size, 7, none⟩)) (w' := u) ?_ (hK _ _ rfl rf)
                  simp only [execOp, y1]
                  go_simp
                · obtain rfl := Option.some.inj ho
                  have y48 : aX.eval (.tmp 48) = .pointer (some ⟨w.heap.size, 7, none⟩) := (hpre 15 _ rfl ⟨⟨15, .data⟩, by simp, rfl, rfl⟩)
                  refine st_run (want_some rfl rfl rfl (hpre 14 _ rfl ⟨⟨14, .guard⟩, by simp, rfl, rfl⟩)) (.slice x.ss.A x.ss.n x.ss.cap) (w' := u) ?_ (hK _ _ rfl rf)
                  simp only [execOp, y48]
                  go_simp
                · obtain rfl := Option.some.inj ho
                  exact st_len (.tmp 49) rfl (want_some rfl rfl rfl (hpre 14 _ rfl ⟨⟨14, .guard⟩, by simp, rfl, rfl⟩)) _ _ _ (hpre 16 _ rfl ⟨⟨16, .data⟩, by simp, rfl, rfl⟩) (hK _ _ rfl rf)
                · obtain rfl := Option.some.inj ho
                  have x0 : aX.eval (.tmp 50) = .int .i64 (x.ss.n : Int) := (hpre 17 _ rfl ⟨⟨17, .data⟩, by simp, rfl, rfl⟩)
                  exact st_callN 39 _ _ rfl (want_some rfl rfl rfl (hpre 14 _ rfl ⟨⟨14, .guard⟩, by simp, rfl, rfl⟩)) #[.int .i64 (x.ss.n : Int), .int .i64 1, .int .i64 512] (by simp [x0] <;> (first | rfl | exact ⟨rfl, rfl⟩)) (by kernel_rfl) _ (HW2.out u) (by rintro _ u2 ⟨rfl, rfl⟩; exact ⟨_, rfl, hK _ _ rfl rf⟩)
                · obtain rfl := Option.some.inj ho
                  exact st_pick (.tmp 47) (.tmp 51) (.const (.bool false)) rfl (want_none rfl) true (hpre 14 _ rfl ⟨⟨14, .data⟩, by simp, rfl, rfl⟩) _ ((if_pos rfl).trans (hpre 18 _ rfl ⟨⟨18, .data⟩, by simp, rfl, rfl⟩)) (hK _ _ rfl rf)
                · obtain rfl := Option.some.inj ho
                  exact st_assign (.tmp 52) rfl (want_none rfl) _ (hpre 19 _ rfl ⟨⟨19, .data⟩, by simp, rfl, rfl⟩) (hK _ _ rfl rf)
                · cases ho
              case m3 =>
                intro aX u hr hk hv
                have h6 := hv 20 _ rfl
                refine hKx aX u (wp_ret (bodyPost_ret (results_tmp rfl _ _ _) hk.defers ⟨?_, below_then X3.out.below hr⟩))
                rw [E.out]
                exact congrArg Ending.returned h6
          · have HW1 : Hid (∀ w : World, Calls Tryz.prog 39 #[.int .i64 (x.sk.n : Int), .int .i64 1, .int .i64 1032] w fun e w' => e = .returned (.bool false) ∧ w' = w) := fun w => (within_any (x.sk.n : Int) 1 1032 w).mono (fun e w' q => ⟨by rw [q.1, decide_eq_false h1], q.2.symm⟩)
            have E : Hid (D = false) := HD.out.symm.trans (decide_eq_false (fun h => (HBR.out.1 h).elim (fun g => ha g.1) (fun g => h1 (by have := g.2.2.1; rw [HLK.out.1] at this; omega))))
            clear h0 h1 ha
            go_enter Tryz.func14, Tryz.ntmps14
            go_wp2_with ((with_reducible refine at_dst (some 4) ?_); refine wpList_loadAt (op := ⟨some 4, _, _, _, _, _⟩) rfl 23 (.tmp 3) rfl ⟨w.heap.size, 0, none⟩ rfl (hcells x.b) dH X.out.hat huH hdH iH ?_)
            refine HR1.out.mono ?_
            rintro e w1 ⟨rfl, hb1⟩
            have X1 := Lib.hid (X.out.next hb1)
            have k4 := X1.out.c4
            go_wp2_with fail
            refine (HE.out w1 X1.out.below).mono ?_
            rintro e w2 ⟨rfl, hb2⟩
            have X2 := Lib.hid (X1.out.next hb2)
            clear hb1 hb2 k4
            go_wp2_with ((with_reducible refine at_dst (some 14) ?_); refine wpList_loadAt (op := ⟨some 14, _, _, _, _, _⟩) rfl 23 (.tmp 13) rfl ⟨w.heap.size, 0, none⟩ rfl (hcells x.b) dH X2.out.hat huH hdH iH ?_)
            refine (HSG.out w2).mono ?_
            rintro e w3 ⟨rfl, hb3⟩
            have X3 := Lib.hid (X2.out.next hb3)
            have k0 := X3.out.c0
            have k5 := X3.out.c5
            have k6 := X3.out.c6
            have k7 := X3.out.c7
            clear hb3
            go_wp2
            rename_i hKx
            refine wp_region_eachW (by kernel_rfl) (by kernel_rfl) (fun u u' => Below u.heap.size u u') (fun iX v u => match iX with
                | 0 => v = .pointer (some ⟨w.heap.size, 6, none⟩)
                | 1 => v = .slice x.sh.A x.sh.n x.sh.cap
                | 2 => v = .int .i64 (x.sh.n : Int)
                | 3 => v = .pointer (some ⟨w.heap.size, 0, none⟩)
                | 4 => v = .pointer (some ⟨w.heap.size, 0, none⟩)
                | 5 => v = .int .i64 x.b.alg
                | 6 => v = .int .i64 S
                | 7 => v = .bool true
                | 8 => v = .bool true
                | 9 => v = .pointer (some ⟨w.heap.size, 5, none⟩)
                | 10 => v = .slice x.sk.A x.sk.n x.sk.cap
                | 11 => v = .int .i64 (x.sk.n : Int)
                | 12 => v = .bool false
                | 13 => v = .bool false
                | 14 => v = .bool false
                | 15 => True
                | 16 => True
                | 17 => True
                | 18 => True
                | 19 => v = .bool false
                | 20 => v = .bool false
                | _ => True) (fun u => Below w3.heap.size w3 u) ?m1 (fun _ _ h1 h2 => h1.trans (h2.mono h1.size)) ⟨rfl, rfl, rfl, Nat.le_refl _, fun _ _ => rfl⟩ ?m2 ?m3
            case m1 =>
              intro iX v u u' h hr hb
              rcases iX with _ | _ | _ | _ | _ | _ | _ | _ | _ | _ | _ | _ | _ | _ | _ | _ | _ | _ | _ | _ | _ | iX
              · exact h
              · exact h
              · exact h
              · exact h
              · exact h
              · exact h
              · exact h
              · exact h
              · exact h
              · exact h
              · exact h
              · exact h
              · exact h
              · exact h
              · exact h
              · trivial
              · trivial
              · trivial
              · trivial
              · exact h
              · exact h
              · trivial
            case m2 =>
              intro iX o ho aX u hr hk hpre K hK
              have e1 : aX.tmps.getD 1 undef = .pointer (some ⟨w.heap.size, 0, none⟩) := hk.slot 1 (by simp)
              have u0 : u.cell? ⟨w.heap.size, 0, none⟩ = some (.int .i64 x.b.alg) := (hr.cell (p := ⟨w.heap.size, 0, none⟩) X3.out.blk.lt).trans k0
              have u5 : u.cell? ⟨w.heap.size, 5, none⟩ = some (.slice x.sk.A x.sk.n x.sk.cap) := (hr.cell (p := ⟨w.heap.size, 5, none⟩) X3.out.blk.lt).trans k5
              have u6 : u.cell? ⟨w.heap.size, 6, none⟩ = some (.slice x.sh.A x.sh.n x.sh.cap) := (hr.cell (p := ⟨w.heap.size, 6, none⟩) X3.out.blk.lt).trans k6
              have u7 : u.cell? ⟨w.heap.size, 7, none⟩ = some (.slice x.ss.A x.ss.n x.ss.cap) := (hr.cell (p := ⟨w.heap.size, 7, none⟩) X3.out.blk.lt).trans k7
              have rf : Below u.heap.size u u := Below.refl _ _
              rcases iX with _ | _ | _ | _ | _ | _ | _ | _ | _ | _ | _ | _ | _ | _ | _ | _ | _ | _ | _ | _ | _ | iX
              · obtain rfl := Option.some.inj ho
                have y1 : aX.eval (.tmp 1) = .pointer (some ⟨w.heap.size, 0, none⟩) := e1
                refine st_run (want_none rfl) (.pointer (some ⟨w.heap.size, 6, none⟩)) (w' := u) ?_ (hK _ _ rfl rf)
                simp only [execOp, y1]
                go_simp
              · obtain rfl := Option.some.inj ho
                have y33 : aX.eval (.tmp 33) = .pointer (some ⟨w.heap.size, 6, none⟩) := (hpre 0 _ rfl ⟨⟨0, .data⟩, by simp, rfl, rfl⟩)
                refine st_run (want_none rfl) (.slice x.sh.A x.sh.n x.sh.cap) (w' := u) ?_ (hK _ _ rfl rf)
                simp only [execOp, y33]
                go_simp
              · obtain rfl := Option.some.inj ho
                exact st_len (.tmp 34) rfl (want_none rfl) _ _ _ (hpre 1 _ rfl ⟨⟨1, .data⟩, by simp, rfl, rfl⟩) (hK _ _ rfl rf)
              · obtain rfl := Option.some.inj ho
                have y1 : aX.eval (.tmp 1) = .pointer (some ⟨w.heap.size, 0, none⟩) := e1
                refine st_run (want_none rfl) (.pointer (some ⟨w.heap.size, 0, none⟩)) (w' := u) ?_ (hK _ _ rfl rf)
                simp only [execOp, y1]
                go_simp
              · obtain rfl := Option.some.inj ho
                have y36 : aX.eval (.tmp 36) = .pointer (some ⟨w.heap.size, 0, none⟩) := (hpre 3 _ rfl ⟨⟨3, .data⟩, by simp, rfl, rfl⟩)
                refine st_run (want_none rfl) (.pointer (some ⟨w.heap.size, 0, none⟩)) (w' := u) ?_ (hK _ _ rfl rf)
                simp only [execOp, y36]
                go_simp
              · obtain rfl := Option.some.inj ho
                have y37 : aX.eval (.tmp 37) = .pointer (some ⟨w.heap.size, 0, none⟩) := (hpre 4 _ rfl ⟨⟨4, .data⟩, by simp, rfl, rfl⟩)
                refine st_run (want_none rfl) (.int .i64 x.b.alg) (w' := u) ?_ (hK _ _ rfl rf)
                simp only [execOp, y37]
                go_simp
              · obtain rfl := Option.some.inj ho
                have x0 : aX.eval (.tmp 38) = .int .i64 x.b.alg := (hpre 5 _ rfl ⟨⟨5, .data⟩, by simp, rfl, rfl⟩)
                exact st_callN 38 _ _ rfl (want_none rfl) #[.int .i64 x.b.alg] (by simp [x0] <;> (first | rfl | exact ⟨rfl, rfl⟩)) (by kernel_rfl) _ (HS.out u) (by rintro _ u2 ⟨rfl, rfl⟩; exact ⟨_, rfl, hK _ _ rfl rf⟩)
              · obtain rfl := Option.some.inj ho
                have y35 : aX.eval (.tmp 35) = .int .i64 (x.sh.n : Int) := (hpre 2 _ rfl ⟨⟨2, .data⟩, by simp, rfl, rfl⟩)
                have y39 : aX.eval (.tmp 39) = .int .i64 S := (hpre 6 _ rfl ⟨⟨6, .data⟩, by simp, rfl, rfl⟩)
                refine st_run (want_none rfl) (.bool true) (w' := u) ?_ (hK _ _ rfl rf)
                simp only [execOp, y35, y39]
                first
                  | (go_simp; done)
                  | (go_simp; simp [z0])
              · obtain rfl := Option.some.inj ho
                exact st_move (.tmp 40) rfl (want_none rfl) _ (hpre 7 _ rfl ⟨⟨7, .data⟩, by simp, rfl, rfl⟩) (hK _ _ rfl rf)
              · obtain rfl := Option.some.inj ho
                have y1 : aX.eval (.tmp 1) = .pointer (some ⟨w.heap.size, 0, none⟩) := e1
                refine st_run (want_some rfl rfl rfl (hpre 8 _ rfl ⟨⟨8, .guard⟩, by simp, rfl, rfl⟩)) (.pointer (some ⟨w.heap.size, 5, none⟩)) (w' := u) ?_ (hK _ _ rfl rf)
                simp only [execOp, y1]
                go_simp
              · obtain rfl := Option.some.inj ho
                have y42 : aX.eval (.tmp 42) = .pointer (some ⟨w.heap.size, 5, none⟩) := (hpre 9 _ rfl ⟨⟨9, .data⟩, by simp, rfl, rfl⟩)
                refine st_run (want_some rfl rfl rfl (hpre 8 _ rfl ⟨⟨8, .guard⟩, by simp, rfl, rfl⟩)) (.slice x.sk.A x.sk.n x.sk.cap) (w' := u) ?_ (hK _ _ rfl rf)
                simp only [execOp, y42]
                go_simp
              · obtain rfl := Option.some.inj ho
                exact st_len (.tmp 43) rfl (want_some rfl rfl rfl (hpre 8 _ rfl ⟨⟨8, .guard⟩, by simp, rfl, rfl⟩)) _ _ _ (hpre 10 _ rfl ⟨⟨10, .data⟩, by simp, rfl, rfl⟩) (hK _ _ rfl rf)
              · obtain rfl := Option.some.inj ho
                have x0 : aX.eval (.tmp 44) = .int .i64 (x.sk.n : Int) := (hpre 11 _ rfl ⟨⟨11, .data⟩, by simp, rfl, rfl⟩)
                exact st_callN 39 _ _ rfl (want_some rfl rfl rfl (hpre 8 _ rfl ⟨⟨8, .guard⟩, by simp, rfl, rfl⟩)) #[.int .i64 (x.sk.n : Int), .int .i64 1, .int .i64 1032] (by simp [x0] <;> (first | rfl | exact ⟨rfl, rfl⟩)) (by kernel_rfl) _ (HW1.out u) (by rintro _ u2 ⟨rfl, rfl⟩; exact ⟨_, rfl, hK _ _ rfl rf⟩)
              · obtain rfl := Option.some.inj ho
                exact st_pick (.tmp 41) (.tmp 45) (.const (.bool false)) rfl (want_none rfl) true (hpre 8 _ rfl ⟨⟨8, .data⟩, by simp, rfl, rfl⟩) _ ((if_pos rfl).trans (hpre 12 _ rfl ⟨⟨12, .data⟩, by simp, rfl, rfl⟩)) (hK _ _ rfl rf)
              · obtain rfl := Option.some.inj ho
                exact st_move (.tmp 46) rfl (want_none rfl) _ (hpre 13 _ rfl ⟨⟨13, .data⟩, by simp, rfl, rfl⟩) (hK _ _ rfl rf)
              · obtain rfl := Option.some.inj ho
                exact st_fall (want_fall rfl rfl rfl (hpre 14 _ rfl ⟨⟨14, .guard⟩, by simp, rfl, rfl⟩) (by decide)) (hK undef _ trivial rf)
              · obtain rfl := Option.some.inj ho
                exact st_fall (want_fall rfl rfl rfl (hpre 14 _ rfl ⟨⟨14, .guard⟩, by simp, rfl, rfl⟩) (by decide)) (hK undef _ trivial rf)
              · obtain rfl := Option.some.inj ho
                exact st_fall (want_fall rfl rfl rfl (hpre 14 _ rfl ⟨⟨14, .guard⟩, by simp, rfl, rfl⟩) (by decide)) (hK undef _ trivial rf)
              · obtain rfl := Option.some.inj ho
                exact st_fall (want_fall rfl rfl rfl (hpre 14 _ rfl ⟨⟨14, .guard⟩, by simp, rfl, rfl⟩) (by decide)) (hK undef _ trivial rf)
              · obtain rfl := Option.some.inj ho
                exact st_pick (.tmp 47) (.tmp 51) (.const (.bool false)) rfl (want_none rfl) false (hpre 14 _ rfl ⟨⟨14, .data⟩, by simp, rfl, rfl⟩) _ ((if_neg (by decide)).trans rfl) (hK _ _ rfl rf)
              · obtain rfl := Option.some.inj ho
                exact st_assign (.tmp 52) rfl (want_none rfl) _ (hpre 19 _ rfl ⟨⟨19, .data⟩, by simp, rfl, rfl⟩) (hK _ _ rfl rf)
              · cases ho
            case m3 =>
              intro aX u hr hk hv
              have h6 := hv 20 _ rfl
              refine hKx aX u (wp_ret (bodyPost_ret (results_tmp rfl _ _ _) hk.defers ⟨?_, below_then X3.out.below hr⟩))
              rw [E.out]
              exact congrArg Ending.returned h6
        · have z0 : ((x.sh.n : Int) == S) = false := beq_eq_false_iff_ne.2 h0
          have E : Hid (D = false) := HD.out.symm.trans (decide_eq_false (fun h => (HBR.out.1 h).elim (fun g => ha g.1) (fun g => h0 (by have := g.2.1; rw [HLK.out.2.1, HSS.out] at this; exact this))))
          clear h0 ha
          go_enter Tryz.func14, Tryz.ntmps14
          go_wp2_with ((with_reducible refine at_dst (some 4) ?_); refine wpList_loadAt (op := ⟨some 4, _, _, _, _, _⟩) rfl 23 (.tmp 3) rfl ⟨w.heap.size, 0, none⟩ rfl (hcells x.b) dH X.out.hat huH hdH iH ?_)
          refine HR1.out.mono ?_
          rintro e w1 ⟨rfl, hb1⟩
          have X1 := Lib.hid (X.out.next hb1)
          have k4 := X1.out.c4
          go_wp2_with fail
          refine (HE.out w1 X1.out.below).mono ?_
          rintro e w2 ⟨rfl, hb2⟩
          have X2 := Lib.hid (X1.out.next hb2)
          clear hb1 hb2 k4
          go_wp2_with ((with_reducible refine at_dst (some 14) ?_); refine wpList_loadAt (op := ⟨some 14, _, _, _, _, _⟩) rfl 23 (.tmp 13) rfl ⟨w.heap.size, 0, none⟩ rfl (hcells x.b) dH X2.out.hat huH hdH iH ?_)
          refine (HSG.out w2).mono ?_
          rintro e w3 ⟨rfl, hb3⟩
          have X3 := Lib.hid (X2.out.next hb3)
          have k0 := X3.out.c0
          have k5 := X3.out.c5
          have k6 := X3.out.c6
          have k7 := X3.out.c7
          clear hb3
          go_wp2
          rename_i hKx
          refine wp_region_eachW (by kernel_rfl) (by kernel_rfl) (fun u u' => Below u.heap.size u u') (fun iX v u => match iX with
              | 0 => v = .pointer (some ⟨w.heap.size, 6, none⟩)
              | 1 => v = .slice x.sh.A x.sh.n x.sh.cap
              | 2 => v = .int .i64 (x.sh.n : Int)
              | 3 => v = .pointer (some ⟨w.heap.size, 0, none⟩)
              | 4 => v = .pointer (some ⟨w.heap.size, 0, none⟩)
              | 5 => v = .int .i64 x.b.alg
              | 6 => v = .int .i64 S
              | 7 => v = .bool false
              | 8 => v = .bool false
              | 9 => True
              | 10 => True
              | 11 => True
              | 12 => True
              | 13 => v = .bool false
              | 14 => v = .bool false
              | 15 => True
              | 16 => True
              | 17 => True
              | 18 => True
              | 19 => v = .bool false
              | 20 => v = .bool false
              | _ => True) (fun u => Below w3.heap.size w3 u) ?m1 (fun _ _ h1 h2 => h1.trans (h2.mono h1.size)) ⟨rfl, rfl, rfl, Nat.le_refl _, fun _ _ => rfl⟩ ?m2 ?m3
          case m1 =>
            intro iX v u u' h hr hb
            rcases iX with _ | _ | _ | _ | _ | _ | _ | _ | _ | _ | _ | _ | _ | _ | _ | _ | _ | _ | _ | _ | _ | iX
            · exact h
            · exact h
            · exact h
            · exact h
            · exact h
            · exact h
            · exact h
            · exact h
            · exact h
            · trivial
            · trivial
            · trivial
            · trivial
            · exact h
            · exact h
            · trivial
            · trivial
            · trivial
            · trivial
            · exact h
            · exact h
            · trivial
          case m2 =>
            intro iX o ho aX u hr hk hpre K hK
            have e1 : aX.tmps.getD 1 undef = .pointer (some ⟨w.heap.size, 0, none⟩) := hk.slot 1 (by simp)
            have u0 : u.cell? ⟨w.heap.size, 0, none⟩ = some (.int .i64 x.b.alg) := (hr.cell (p := ⟨w.heap.size, 0, none⟩) X3.out.blk.lt).trans k0
            have u5 : u.cell? ⟨w.heap.size, 5, none⟩ = some (.slice x.sk.A x.sk.n x.sk.cap) := (hr.cell (p := ⟨w.heap.size, 5, none⟩) X3.out.blk.lt).trans k5
            have u6 : u.cell? ⟨w.heap.size, 6, none⟩ = some (.slice x.sh.A x.sh.n x.sh.cap) := (hr.cell (p := ⟨w.heap.size, 6, none⟩) X3.out.blk.lt).trans k6
            have u7 : u.cell? ⟨w.heap.size, 7, none⟩ = some (.slice x.ss.A x.ss.n x.ss.cap) := (hr.cell (p := ⟨w.heap.size, 7, none⟩) X3.out.blk.lt).trans k7
            have rf : Below u.heap.size u u := Below.refl _ _
            rcases iX with _ | _ | _ | _ | _ | _ | _ | _ | _ | _ | _ | _ | _ | _ | _ | _ | _ | _ | _ | _ | _ | iX
            · obtain rfl := Option.some.inj ho
              have y1 : aX.eval (.tmp 1) = .pointer (some ⟨w.heap.size, 0, none⟩) := e1
              refine st_run (want_none rfl) (.pointer (some ⟨w.heap.size, 6, none⟩)) (w' := u) ?_ (hK _ _ rfl rf)
              simp only [execOp, y1]
              go_simp
            · obtain rfl := Option.some.inj ho
              have y33 : aX.eval (.tmp 33) = .pointer (some ⟨w.heap.size, 6, none⟩) := (hpre 0 _ rfl ⟨⟨0, .data⟩, by simp, rfl, rfl⟩)
              refine st_run (want_none rfl) (.slice x.sh.A x.sh.n x.sh.cap) (w' := u) ?_ (hK _ _ rfl rf)
              simp only [execOp, y33]
              go_simp
            · obtain rfl := Option.some.inj ho
              exact st_len (.tmp 34) rfl (want_none rfl) _ _ _ (hpre 1 _ rfl ⟨⟨1, .data⟩, by simp, rfl, rfl⟩) (hK _ _ rfl rf)
            · obtain rfl := Option.some.inj ho
              have y1 : aX.eval (.tmp 1) = .pointer (some ⟨w.heap.size, 0, none⟩) := e1
              refine st_run (want_none rfl) (.pointer (some ⟨w.heap.size, 0, none⟩)) (w' := u) ?_ (hK _ _ rfl rf)
              simp only [execOp, y1]
              go_simp
            · obtain rfl := Option.some.inj ho
              have y36 : aX.eval (.tmp 36) = .pointer (some ⟨w.heap.size, 0, none⟩) := (hpre 3 _ rfl ⟨⟨3, .data⟩, by simp, rfl, rfl⟩)
              refine st_run (want_none rfl) (.pointer (some ⟨w.heap.size, 0, none⟩)) (w' := u) ?_ (hK _ _ rfl rf)
              simp only [execOp, y36]
              go_simp
            · obtain rfl := Option.some.inj ho
              have y37 : aX.eval (.tmp 37) = .pointer (some ⟨w.heap.size, 0, none⟩) := (hpre 4 _ rfl ⟨⟨4, .data⟩, by simp, rfl, rfl⟩)
              refine st_run (want_none rfl) (.int .i64 x.b.alg) (w' := u) ?_ (hK _ _ rfl rf)
              simp only [execOp, y37]
              go_simp
            · obtain rfl := Option.some.inj ho
              have x0 : aX.eval (.tmp 38) = .int .i64 x.b.alg := (hpre 5 _ rfl ⟨⟨5, .data⟩, by simp, rfl, rfl⟩)
              exact st_callN 38 _ _ rfl (want_none rfl) #[.int .i64 x.b.alg] (by simp [x0] <;> (first | rfl | exact ⟨rfl, rfl⟩)) (by kernel_rfl) _ (HS.out u) (by rintro _ u2 ⟨rfl, rfl⟩; exact ⟨_, rfl, hK _ _ rfl rf⟩)
            · obtain rfl := Option.some.inj ho
              have y35 : aX.eval (.tmp 35) = .int .i64 (x.sh.n : Int) := (hpre 2 _ rfl ⟨⟨2, .data⟩, by simp, rfl, rfl⟩)
              have y39 : aX.eval (.tmp 39) = .int .i64 S := (hpre 6 _ rfl ⟨⟨6, .data⟩, by simp, rfl, rfl⟩)
              refine st_run (want_none rfl) (.bool false) (w' := u) ?_ (hK _ _ rfl rf)
              simp only [execOp, y35, y39]
              first
                | (go_simp; done)
                | (go_simp; simp [z0])
            · obtain rfl := Option.some.inj ho
              exact st_move (.tmp 40) rfl (want_none rfl) _ (hpre 7 _ rfl ⟨⟨7, .data⟩, by simp, rfl, rfl⟩) (hK _ _ rfl rf)
            · obtain rfl := Option.some.inj ho
              exact st_fall (want_fall rfl rfl rfl (hpre 8 _ rfl ⟨⟨8, .guard⟩, by simp, rfl, rfl⟩) (by decide)) (hK undef _ trivial rf)
            · obtain rfl := Option.some.inj ho
              exact st_fall (want_fall rfl rfl rfl (hpre 8 _ rfl ⟨⟨8, .guard⟩, by simp, rfl, rfl⟩) (by decide)) (hK undef _ trivial rf)
            · obtain rfl := Option.some.inj ho
              exact st_fall (want_fall rfl rfl rfl (hpre 8 _ rfl ⟨⟨8, .guard⟩, by simp, rfl, rfl⟩) (by decide)) (hK undef _ trivial rf)
            · obtain rfl := Option.some.inj ho
              exact st_fall (want_fall rfl rfl rfl (hpre 8 _ rfl ⟨⟨8, .guard⟩, by simp, rfl, rfl⟩) (by decide)) (hK undef _ trivial rf)
            · obtain rfl := Option.some.inj ho
              exact st_pick (.tmp 41) (.tmp 45) (.const (.bool false)) rfl (want_none rfl) false (hpre 8 _ rfl ⟨⟨8, .data⟩, by simp, rfl, rfl⟩) _ ((if_neg (by decide)).trans rfl) (hK _ _ rfl rf)
            · obtain rfl := Option.some.inj ho
              exact st_move (.tmp 46) rfl (want_none rfl) _ (hpre 13 _ rfl ⟨⟨13, .data⟩, by simp, rfl, rfl⟩) (hK _ _ rfl rf)
            · obtain rfl := Option.some.inj ho
              exact st_fall (want_fall rfl rfl rfl (hpre 14 _ rfl ⟨⟨14, .guard⟩, by simp, rfl, rfl⟩) (by decide)) (hK undef _ trivial rf)
            · obtain rfl := Option.some.inj ho
              exact st_fall (want_fall rfl rfl rfl (hpre 14 _ rfl ⟨⟨14, .guard⟩, by simp, rfl, rfl⟩) (by decide)) (hK undef _ trivial rf)
            · obtain rfl := Option.some.inj ho
              exact st_fall (want_fall rfl rfl rfl (hpre 14 _ rfl ⟨⟨14, .guard⟩, by simp, rfl, rfl⟩) (by decide)) (hK undef _ trivial rf)
            · obtain rfl := Option.some.inj ho
              exact st_fall (want_fall rfl rfl rfl (hpre 14 _ rfl ⟨⟨14, .guard⟩, by simp, rfl, rfl⟩) (by decide)) (hK undef _ trivial rf)
            · obtain rfl := Option.some.inj ho
              exact st_pick (.tmp 47) (.tmp 51) (.const (.bool false)) rfl (want_none rfl) false (hpre 14 _ rfl ⟨⟨14, .data⟩, by simp, rfl, rfl⟩) _ ((if_neg (by decide)).trans rfl) (hK _ _ rfl rf)
            · obtain rfl := Option.some.inj ho
              exact st_assign (.tmp 52) rfl (want_none rfl) _ (hpre 19 _ rfl ⟨⟨19, .data⟩, by simp, rfl, rfl⟩) (hK _ _ rfl rf)
            · cases ho
          case m3 =>
            intro aX u hr hk hv
            have h6 := hv 20 _ rfl
            refine hKx aX u (wp_ret (bodyPost_ret (results_tmp rfl _ _ _) hk.defers ⟨?_, below_then X3.out.below hr⟩))
            rw [E.out]
            exact congrArg Ending.returned h6
    · have e2 : decide (Listed (des x.xs)) = false := by rw [HDS.out]; exact decide_eq_false hl
      rw [e2] at HE
      have E : Hid (D = false) := HD.out.symm.trans (decide_eq_false (fun h => hl h.2.1))
      clear hh hl e1 e2
      go_enter Tryz.func14, Tryz.ntmps14
      go_wp2_with ((with_reducible refine at_dst (some 4) ?_); refine wpList_loadAt (op := ⟨some 4, _, _, _, _, _⟩) rfl 23 (.tmp 3) rfl ⟨w.heap.size, 0, none⟩ rfl (hcells x.b) dH X.out.hat huH hdH iH ?_)
      refine HR1.out.mono ?_
      rintro e w1 ⟨rfl, hb1⟩
      have X1 := Lib.hid (X.out.next hb1)
      have k4 := X1.out.c4
      go_wp2_with fail
      refine (HE.out w1 X1.out.below).mono ?_
      rintro e w2 ⟨rfl, hb2⟩
      have X2 := Lib.hid (X1.out.next hb2)
      clear hb1 hb2 k4
      go_wp2
      go_ret
      exact ⟨by rw [E.out]; rfl, X2.out.below⟩
  · have E : Hid (D = false) := HD.out.symm.trans (decide_eq_false (fun h => hh h.1))
    have HR1 := Lib.hid (inRange_any x.b W)
    rw [decide_eq_false hh] at HR1
    clear hh
    go_enter Tryz.func14, Tryz.ntmps14
    go_wp2_with ((with_reducible refine at_dst (some 4) ?_); refine wpList_loadAt (op := ⟨some 4, _, _, _, _, _⟩) rfl 23 (.tmp 3) rfl ⟨w.heap.size, 0, none⟩ rfl (hcells x.b) dH X.out.hat huH hdH iH ?_)
    refine HR1.out.mono ?_
    rintro e w1 ⟨rfl, hb1⟩
    have X1 := Lib.hid (X.out.next hb1)
    clear hb1
    go_wp2
    go_ret
    exact ⟨by rw [E.out]; rfl, X1.out.below⟩
end Go.Proofs.YtlcoebenkhafcaaGreatDoor
