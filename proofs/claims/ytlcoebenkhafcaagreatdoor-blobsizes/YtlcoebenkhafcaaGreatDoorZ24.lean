/-
  What fill of package blob answers. No condition but that the outline has no fault. What Parse of package blob answers. No condition but that the bytes are bytes, and not too many.
-/
import Derived.Test.YtlcoebenkhafcaaGreatDoorZ22
import Derived.Test.YtlcoebenkhafcaaGreatDoorZ23
namespace Go.Proofs.YtlcoebenkhafcaaGreatDoor
open Go.RowKit
set_option linter.unusedVariables false
set_option linter.unusedSimpArgs false
set_option maxRecDepth 100000
theorem faultOf_ok {o : Ol} {n : Nat} (h : faultOf o n = 0) : o.ver = 1 ∧ o.auth ≤ 65536 ∧ o.aux ≤ 65536 ∧ n ≤ 65536 ∧ 128 + o.auth + o.aux = n ∧ o.alg ≤ 2 ∧ o.auth = up64 (o.hash + o.sig) ∧ o.aux = up64 (o.list + o.key) := by
  unfold faultOf at h
  split at h
  · cases h
  split at h
  · cases h
  split at h
  · cases h
  split at h
  · cases h
  split at h
  · cases h
  split at h
  · cases h
  · omega
def zeroX : BX := ⟨Bl.zero, [], nilS, nilS, nilS, nilS⟩
def zeroB : List Value := [.int .i64 0, .int .i64 0, .int .i64 0, .int .i64 0, .slice none 0 0, .slice none 0 0, .slice none 0 0, .slice none 0 0]
theorem zeroX_cells : zeroX.cells = zeroB := rfl
theorem zeroB_one : ∀ v ∈ zeroB, v.oneCell' = true := by rw [← zeroX_cells]; exact BX.one _
theorem zeroX_ok (w : World) : BXOk w zeroX := ⟨⟨by decide, by decide⟩, ⟨by decide, by decide⟩, ⟨by decide, by decide⟩, ⟨by decide, by decide⟩, DL.nil _ _, rfl, by decide, by decide, by decide, (fun y h => by cases h), Bs.none _, Bs.none _, Bs.none _⟩
theorem Bs.part13 {w : World} {A : Option Addr} {n cap : Nat} {l : List Nat} (hb : Bs w A n cap l) (o m : Nat) (h : o + m ≤ n) : Bs w (if cap = o then A else A.map (·.add o)) m (cap - o) (sl l o m) := by
  have hle := hb.le
  have hmx := hb.max
  refine ⟨hb.rd.mid o m cap h hle, sl_fit hb.fit _ _, by omega, by omega, fun e => ?_⟩
  by_cases hce : cap = o
  · omega
  · rw [if_neg hce] at e
    cases A with
    | none => have := hb.nil rfl; omega
    | some a => cases e
theorem DL.touch13 {w w' : World} {A : Option Addr} {n g : Nat} {xs : List Dx} (h : DL w A n xs) (ht : Touch [g] w w') (hA : 0 < n → ∀ ad, A = some ad → ad.block ≠ g) (hN : ∀ x ∈ xs, ∀ s, (s = x.s1 ∨ s = x.s2 ∨ s = x.s3 ∨ s = x.s4) → ∀ ad, s.A = some ad → ad.block ≠ g) : DL w' A n xs :=
  ⟨h.len, fun hn => by
    obtain ⟨ad, e, hlt, hc⟩ := h.at_ hn
    exact ⟨ad, e, Nat.lt_of_lt_of_le hlt ht.size, fun i x hx => (hc i x hx).touch ht (by rw [block_add]; exact hlt) (by rw [block_add]; simpa using hA hn ad e)⟩,
   fun x hx => { h.ok x hx with salt := (h.ok x hx).salt.off13 ht (hN x hx _ (.inl rfl)), digest := (h.ok x hx).digest.off13 ht (hN x hx _ (.inr (.inl rfl))), key := (h.ok x hx).key.off13 ht (hN x hx _ (.inr (.inr (.inl rfl)))), value := (h.ok x hx).value.off13 ht (hN x hx _ (.inr (.inr (.inr rfl)))) }⟩
theorem Blk.neT {u : World} {g g' : Nat} {t t' : TypeId} {cs cs' : List Value} (h : Blk u g t cs) (k : Blk u g' t' cs') (ht : t ≠ t') : g ≠ g' := fun e => by
  subst e; have h1 := h.symm.trans k; injection h1 with h1; injection h1 with _ h1; exact ht h1
structure FS (w4 wr : World) (g9 : Nat) (cs : List Value) : Prop where
  below : Below w4.heap.size w4 wr
  d : Blk wr g9 27 cs
  ge : w4.heap.size ≤ g9
theorem FS.next {w4 wr w2 : World} {g9 : Nat} {cs : List Value} (h : FS w4 wr g9 cs) (hb : Below wr.heap.size wr w2) : FS w4 w2 g9 cs := ⟨h.below.trans (hb.mono h.below.size), h.d.below hb h.d.lt, h.ge⟩
theorem FS.put {w4 wr w2 : World} {g9 : Nat} {cs cs' : List Value} (h : FS w4 wr g9 cs) (ht : Touch [g9] wr w2) (hd : Blk w2 g9 27 cs') : FS w4 w2 g9 cs' := ⟨ht.belowAt h.below h.ge h.below.size, hd, h.ge⟩
structure NewX (B : Nat) (x : BX) : Prop where
  sd : ∀ ad, x.sd.A = some ad → B ≤ ad.block
  xs : NewD B x.xs
  sk : ∀ ad, x.sk.A = some ad → B ≤ ad.block
  sh : ∀ ad, x.sh.A = some ad → B ≤ ad.block
  ss : ∀ ad, x.ss.A = some ad → B ≤ ad.block
theorem NewX.mono {B B' : Nat} {x : BX} (h : NewX B x) (hB : B' ≤ B) : NewX B' x :=
  ⟨fun ad e => Nat.le_trans hB (h.sd ad e), fun y hy s hs => by obtain ⟨g, e, hg⟩ := h.xs y hy s hs; exact ⟨g, e, Nat.le_trans hB hg⟩, fun ad e => Nat.le_trans hB (h.sk ad e), fun ad e => Nat.le_trans hB (h.sh ad e), fun ad e => Nat.le_trans hB (h.ss ad e)⟩
theorem NewX.zero (B : Nat) : NewX B zeroX := ⟨(fun ad e => by cases e), (fun y hy => by cases hy), (fun ad e => by cases e), (fun ad e => by cases e), (fun ad e => by cases e)⟩
theorem BXOk.off {w w' : World} {x : BX} {B g : Nat} (h : BXOk w x) (hn : NewX B x) (ht : Touch [g] w w') (hg : g < B) : BXOk w' x :=
  { h with
    dl := h.dl.touch13 ht (fun _ ad e => by have := hn.sd ad e; omega) (fun y hy s hs ad e => by obtain ⟨g2, e2, h2⟩ := hn.xs y hy s hs; rw [e2] at e; injection e with e; rw [← e]; dsimp only; omega)
    key := h.key.off13 ht (fun ad e => by have := hn.sk ad e; omega)
    hash := h.hash.off13 ht (fun ad e => by have := hn.sh ad e; omega)
    sig := h.sig.off13 ht (fun ad e => by have := hn.ss ad e; omega) }
def FillP (q : Ol) (l : List Nat) (w : World) (e : Ending) (w' : World) : Prop :=
  ∃ x : BX, ∃ er : Nat, e = .returned (.tuple #[x.val, .int .i64 (er : Int)]) ∧ er = (parse (sl l (128 + q.auth) q.list)).2 ∧ (er = 0 → x.b = blOf l q (parse (sl l (128 + q.auth) q.list)).1 ∧ BXOk w' x ∧ NewX w.heap.size x) ∧ (er ≠ 0 → x = zeroX) ∧ Below w.heap.size w w'
set_option maxHeartbeats 8000000 in
theorem fill_any (q : Ol) (A : Option Addr) (n cap : Nat) (l : List Nat) (w : World) (hb : Bs w A n cap l) (hc : CapO q) (hf : faultOf q n = 0) : Calls Tryz.prog 46 #[.agg (ocells q).toArray, .slice A n cap] w (FillP q l w) := by
  obtain ⟨dH, huH, hdH⟩ := uH
  obtain ⟨dB, huB, hdB⟩ := uBl
  obtain ⟨_, ha1, ha2, hn, hsum, _, hau, hax⟩ := faultOf_ok hf
  have h1 : q.hash + q.sig ≤ q.auth := by rw [hau]; unfold up64; omega
  have h2 : q.list + q.key ≤ q.aux := by rw [hax]; unfold up64; omega
  have hle := hb.le
  have hmx := hb.max
  have hll := hb.rd.1
  have HB := Lib.hid hb
  have HC := Lib.hid hc
  have hbp := hb.part13 (128 + q.auth) q.list (by omega)
  have hsl := fun W => run_mid8 A n cap (128 + q.auth) (128 + q.auth + q.list) (by omega) (by omega) (128 + (q.auth : Int)) (128 + (q.auth : Int) + (q.list : Int)) (by omega) (by omega) W
  rw [show 128 + q.auth + q.list - (128 + q.auth) = q.list by omega] at hsl
  obtain ⟨A9, hA9⟩ : ∃ A9, (if cap = 128 + q.auth then A else A.map (·.add (128 + q.auth))) = A9 := ⟨_, rfl⟩
  obtain ⟨c9, hc9⟩ : ∃ c9, cap - (128 + q.auth) = c9 := ⟨_, rfl⟩
  rw [hA9, hc9] at hsl hbp
  have HBP := Lib.hid hbp
  have hb1 : Below w.heap.size w (w.alloc (.cells (ocells q).toArray 65)) := (Below.refl _ _).alloc (Nat.le_refl _) _
  have hk1 : Blk (w.alloc (.cells (ocells q).toArray 65)) w.heap.size 65 (ocells q) := Blk.new _ _ _
  obtain ⟨W, hW⟩ : ∃ W, w.alloc (.cells (ocells q).toArray 65) = W := ⟨_, rfl⟩
  rw [hW] at hb1 hk1
  have hb2 : Below W.heap.size W (W.alloc (.cells zeroB.toArray 27)) := (Below.refl _ _).alloc (Nat.le_refl _) _
  have hk2 : Blk (W.alloc (.cells zeroB.toArray 27)) W.heap.size 27 zeroB := Blk.new _ _ _
  obtain ⟨W2, hW2⟩ : ∃ W2, W.alloc (.cells zeroB.toArray 27) = W2 := ⟨_, rfl⟩
  rw [hW2] at hb2 hk2
  have hz : zeroB.toArray = #[.int .i64 0, .int .i64 0, .int .i64 0, .int .i64 0, .slice none 0 0, .slice none 0 0, .slice none 0 0, .slice none 0 0] := rfl
  rw [hz] at hW2
  obtain ⟨g4, hg4⟩ : ∃ g4, W.heap.size = g4 := ⟨_, rfl⟩
  rw [hg4] at hk2
  have I2 : Hid (Below w.heap.size w W2 ∧ Blk W2 w.heap.size 65 (ocells q) ∧ Blk W2 g4 27 zeroB ∧ w.heap.size ≤ g4) := ⟨hb1.trans (hb2.mono hb1.size), hk1.below hb2 hk1.lt, hk2, by rw [← hg4]; exact hb1.size⟩
  have k5 : W2.cell? ⟨w.heap.size, 5, none⟩ = some (.int .i64 (q.auth : Nat)) := I2.out.2.1.cell 5
  have k10 : W2.cell? ⟨w.heap.size, 10, none⟩ = some (.int .i64 (q.list : Nat)) := I2.out.2.1.cell 10
  have HPA := Lib.hid (Parse_any A9 q.list c9 (sl l (128 + q.auth) q.list) W2 (hbp.below I2.out.1) (by omega))
  clear hb hbp hb1 hk1 hb2 hk2 hz hA9 hc9 hf hau hax hc
  go_enter Tryz.func46, Tryz.ntmps46
  go_wp2_with fail
  refine HPA.out.mono ?_
  rintro e w4 ⟨Ad, nd, cd, xs, er, rfl, hpr, hpl, hnw, hb4⟩
  have I4 : Hid (Below w.heap.size w w4 ∧ Blk w4 w.heap.size 65 (ocells q) ∧ Blk w4 g4 27 zeroB ∧ w.heap.size ≤ g4) := ⟨I2.out.1.trans (hb4.mono I2.out.1.size), I2.out.2.1.below hb4 I2.out.2.1.lt, I2.out.2.2.1.below hb4 I2.out.2.2.1.lt, I2.out.2.2.2⟩
  have HPR := Lib.hid hpr
  have HPL := Lib.hid hpl
  have HNW := Lib.hid hnw
  clear k5 k10 hpr hpl hnw hb4 HPA
  by_cases he : er = 0
  · subst he
    have hff := HPR.out
    have hrt := parse_right HBP.out.fit hff
    have hln := pgo_len 32 [] _ _ _ hff
    have hnd : nd ≤ 32 := by have := HPL.out.len; simp [des] at hln; omega
    have HNM : Hid (∀ y ∈ xs, y.d.name.length ≤ 100000) := fun y hy => by have := (hrt y.d (List.mem_map.2 ⟨y, hy, rfl⟩)).bds.name; omega
    have hndc := HPL.out.le.1
    have hcdm : cd ≤ 9223372036854775807 := by have := HPL.out.le.2; unfold maxLen at this; omega
    clear hff hrt hln
    obtain ⟨hd4, hhd4⟩ : ∃ hd4 : List Value, hd4 = [.int .i64 (q.alg : Nat), .int .i64 (q.idx : Nat), .int .i64 (q.flags : Nat), .int .i64 (q.loc : Nat)] := ⟨_, rfl⟩
    have HAT : Hid (At w4 ⟨w.heap.size, 0, none⟩ hd4 ∧ hd4.length = 4) := by
      subst hhd4
      refine ⟨fun j v hj => ?_, rfl⟩
      rw [addr_add, Nat.zero_add, I4.out.2.1.cell]
      have e : ocells q = [.int .i64 (q.alg : Nat), .int .i64 (q.idx : Nat), .int .i64 (q.flags : Nat), .int .i64 (q.loc : Nat)] ++ ([.int .i64 (q.ver : Nat), .int .i64 (q.auth : Nat), .int .i64 (q.aux : Nat), .int .i64 (q.hash : Nat), .int .i64 (q.sig : Nat), .int .i64 (q.key : Nat), .int .i64 (q.list : Nat)] : List Value) := rfl
      rw [e, List.getElem?_append_left (List.getElem?_eq_some_iff.1 hj).1]
      exact hj
    obtain ⟨x1, hx1⟩ : ∃ x1 : BX, x1 = ⟨⟨q.alg, q.idx, q.flags, q.loc, des xs, [], [], []⟩, xs, ⟨Ad, nd, cd⟩, nilS, nilS, nilS⟩ := ⟨_, rfl⟩
    have HX1 : Hid (x1.cells = hd4 ++ [.slice Ad nd cd, .slice none 0 0, .slice none 0 0, .slice none 0 0]) := by
      subst hx1 hhd4; rfl
    have HQ1 := Lib.hid hx1
    clear hx1
    have HBLD : ∀ W : World, (Instr.build 27 #[(0, .agg hd4.toArray), (1, .slice Ad nd cd)]).run Tryz.prog W = .ok (.agg x1.cells.toArray) W := fun W => by
      rw [HX1.out]; subst hhd4; kernel_rfl
    have hb9 : Below w4.heap.size w4 (w4.alloc (.cells x1.cells.toArray 27)) := (Below.refl _ _).alloc (Nat.le_refl _) _
    have hk9 : Blk (w4.alloc (.cells x1.cells.toArray 27)) w4.heap.size 27 x1.cells := Blk.new _ _ _
    obtain ⟨w9, hw9⟩ : ∃ w9, w4.alloc (.cells x1.cells.toArray 27) = w9 := ⟨_, rfl⟩
    rw [hw9] at hb9 hk9
    obtain ⟨g9, hg9⟩ : ∃ g9, w4.heap.size = g9 := ⟨_, rfl⟩
    rw [hg9] at hk9
    have S9 : Hid (FS w4 w9 g9 x1.cells) := ⟨hb9, hk9, by omega⟩
    have HBX := fun (wr : World) (hbl : Below w4.heap.size w4 wr) => I4.out.2.1.below hbl I4.out.2.1.lt
    have HBX := Lib.hid HBX
    have k7 : w9.cell? ⟨w.heap.size, 7, none⟩ = some (.int .i64 (q.hash : Nat)) := (HBX.out w9 hb9).cell 7
    have HRW : Hid (∀ wr, Below w4.heap.size w4 wr → Bs wr A n cap l) := fun wr hbl => HB.out.below (I4.out.1.trans (hbl.mono I4.out.1.size))
    have HC1 := Lib.hid (Cut_ok A n cap l 128 q.hash w9 (HRW.out w9 hb9).rd (by omega) hle hmx (by omega))
    clear hb9 hk9 hhd4
    go_wp2_with (first
      | ((with_reducible refine at_dst (some 29) ?_); refine wpList_loadAt (op := ⟨some 29, _, _, _, _, _⟩) rfl 23 (.tmp 28) rfl ⟨w.heap.size, 0, none⟩ rfl hd4 dH HAT.out.1 huH hdH (by rw [HAT.out.2]; exact iH) ?_)
      | ((with_reducible refine at_dst (some 31) ?_); refine wpList_bld (op := ⟨some 31, _, _, _, _, _⟩) rfl 27 _ rfl #[(0, .agg hd4.toArray), (1, .slice Ad nd cd)] (by simp [Act.eval]) (.agg x1.cells.toArray) (HBLD _) ?_)
      | ((with_reducible refine at_dst none ?_); refine wpList_storeNew (w := w4) (op := ⟨none, _, _, _, _, _⟩) rfl 27 (.tmp 9) (.tmp 31) rfl zeroB x1.cells (by rw [← hg9]; rfl) rfl rfl iBl x1.one ?_; rw [hw9]))
    refine HC1.out.mono ?_
    rintro e u1 ⟨gh, rfl, hgh, hBh, hbu1⟩
    have S1 : Hid (FS w4 u1 g9 x1.cells ∧ Blk u1 gh 5 (cn .u8 ((l.drop 128).take q.hash)) ∧ gh ≠ g9) := ⟨S9.out.next hbu1, hBh, by have := S9.out.d.lt; omega⟩
    have HG1 : Hid (w.heap.size ≤ gh) := by have a := I4.out.1.size; have b := S9.out.below.size; show _ ≤ _; omega
    clear hgh hBh hbu1 k7
    go_wp2_with ((with_reducible refine at_dst none ?_); refine stopper ?_)
    refine ⟨?_, trivial⟩
    refine wpList_storeOne (op := ⟨none, _, _, _, _, _⟩) rfl 25 (.tmp 39) (.tmp 37) rfl (g := g9) (i := 6) (t := 27) (v := .slice (some ⟨gh, 0, none⟩) q.hash q.hash) rfl rfl S1.out.1.d (by rw [BX.cells_len]; omega) rfl rfl iB1 ?_
    intro u2 hU2 hT2
    have S2 : Hid (FS w4 u2 g9 (x1.cells.set 6 (.slice (some ⟨gh, 0, none⟩) q.hash q.hash)) ∧ Blk u2 gh 5 (cn .u8 ((l.drop 128).take q.hash)) ∧ gh ≠ g9) := ⟨S1.out.1.put hT2 hU2.out, S1.out.2.1.touch hT2 (by simpa using S1.out.2.2), S1.out.2.2⟩
    have k7 : u2.cell? ⟨w.heap.size, 7, none⟩ = some (.int .i64 (q.hash : Nat)) := (HBX.out u2 S2.out.1.below).cell 7
    have k8 : u2.cell? ⟨w.heap.size, 8, none⟩ = some (.int .i64 (q.sig : Nat)) := (HBX.out u2 S2.out.1.below).cell 8
    have HC2 := Lib.hid (Cut_ok A n cap l (128 + q.hash) q.sig u2 (HRW.out u2 S2.out.1.below).rd (by omega) hle hmx (by omega))
    rw [show (((128 + q.hash : Nat)) : Int) = 128 + (q.hash : Int) by omega] at HC2
    clear hU2 hT2
    go_wp2_with fail
    refine HC2.out.mono ?_
    rintro e u3 ⟨gs, rfl, hgs, hBs, hbu3⟩
    have S3 : Hid (FS w4 u3 g9 (x1.cells.set 6 (.slice (some ⟨gh, 0, none⟩) q.hash q.hash)) ∧ Blk u3 gh 5 (cn .u8 ((l.drop 128).take q.hash)) ∧ gh ≠ g9 ∧ Blk u3 gs 5 (cn .u8 ((l.drop (128 + q.hash)).take q.sig)) ∧ gs ≠ g9) := ⟨S2.out.1.next hbu3, S2.out.2.1.below hbu3 S2.out.2.1.lt, S2.out.2.2, hBs, by have := S2.out.1.d.lt; omega⟩
    have HG2 : Hid (w.heap.size ≤ gs) := by have a := I4.out.1.size; have b := S2.out.1.below.size; show _ ≤ _; omega
    clear hgs hBs hbu3 k7 k8
    go_wp2_with ((with_reducible refine at_dst none ?_); refine stopper ?_)
    refine ⟨?_, trivial⟩
    refine wpList_storeOne (op := ⟨none, _, _, _, _, _⟩) rfl 25 (.tmp 50) (.tmp 48) rfl (g := g9) (i := 7) (t := 27) (v := .slice (some ⟨gs, 0, none⟩) q.sig q.sig) rfl rfl S3.out.1.d (by rw [List.length_set, BX.cells_len]; omega) rfl rfl iB1 ?_
    intro u4 hU4 hT4
    have S4 : Hid (FS w4 u4 g9 ((x1.cells.set 6 (.slice (some ⟨gh, 0, none⟩) q.hash q.hash)).set 7 (.slice (some ⟨gs, 0, none⟩) q.sig q.sig)) ∧ Blk u4 gh 5 (cn .u8 ((l.drop 128).take q.hash)) ∧ gh ≠ g9 ∧ Blk u4 gs 5 (cn .u8 ((l.drop (128 + q.hash)).take q.sig)) ∧ gs ≠ g9) := ⟨S3.out.1.put hT4 hU4.out, S3.out.2.1.touch hT4 (by simpa using S3.out.2.2.1), S3.out.2.2.1, S3.out.2.2.2.1.touch hT4 (by simpa using S3.out.2.2.2.2), S3.out.2.2.2.2⟩
    have k10 : u4.cell? ⟨w.heap.size, 10, none⟩ = some (.int .i64 (q.list : Nat)) := (HBX.out u4 S4.out.1.below).cell 10
    have k9 : u4.cell? ⟨w.heap.size, 9, none⟩ = some (.int .i64 (q.key : Nat)) := (HBX.out u4 S4.out.1.below).cell 9
    have HC3 := Lib.hid (Cut_ok A n cap l (128 + q.auth + q.list) q.key u4 (HRW.out u4 S4.out.1.below).rd (by omega) hle hmx (by omega))
    rw [show (((128 + q.auth + q.list : Nat)) : Int) = 128 + (q.auth : Int) + (q.list : Int) by omega] at HC3
    clear hU4 hT4
    go_wp2_with fail
    refine HC3.out.mono ?_
    rintro e u5 ⟨gk, rfl, hgk, hBk, hbu5⟩
    have S5 : Hid (FS w4 u5 g9 ((x1.cells.set 6 (.slice (some ⟨gh, 0, none⟩) q.hash q.hash)).set 7 (.slice (some ⟨gs, 0, none⟩) q.sig q.sig)) ∧ Blk u5 gh 5 (cn .u8 ((l.drop 128).take q.hash)) ∧ gh ≠ g9 ∧ Blk u5 gs 5 (cn .u8 ((l.drop (128 + q.hash)).take q.sig)) ∧ gs ≠ g9 ∧ Blk u5 gk 5 (cn .u8 ((l.drop (128 + q.auth + q.list)).take q.key)) ∧ gk ≠ g9) := ⟨S4.out.1.next hbu5, S4.out.2.1.below hbu5 S4.out.2.1.lt, S4.out.2.2.1, S4.out.2.2.2.1.below hbu5 S4.out.2.2.2.1.lt, S4.out.2.2.2.2, hBk, by have := S4.out.1.d.lt; omega⟩
    have HG3 : Hid (w.heap.size ≤ gk) := by have a := I4.out.1.size; have b := S4.out.1.below.size; show _ ≤ _; omega
    clear hgk hBk hbu5 k9 k10
    go_wp2_with ((with_reducible refine at_dst none ?_); refine stopper ?_)
    refine ⟨?_, trivial⟩
    refine wpList_storeOne (op := ⟨none, _, _, _, _, _⟩) rfl 25 (.tmp 62) (.tmp 60) rfl (g := g9) (i := 5) (t := 27) (v := .slice (some ⟨gk, 0, none⟩) q.key q.key) rfl rfl S5.out.1.d (by rw [List.length_set, List.length_set, BX.cells_len]; omega) rfl rfl iB1 ?_
    intro u6 hU6 hT6
    obtain ⟨x9, hx9⟩ : ∃ x9 : BX, x9 = ⟨⟨q.alg, q.idx, q.flags, q.loc, des xs, (l.drop (128 + q.auth + q.list)).take q.key, (l.drop 128).take q.hash, (l.drop (128 + q.hash)).take q.sig⟩, xs, ⟨Ad, nd, cd⟩, ⟨some ⟨gk, 0, none⟩, q.key, q.key⟩, ⟨some ⟨gh, 0, none⟩, q.hash, q.hash⟩, ⟨some ⟨gs, 0, none⟩, q.sig, q.sig⟩⟩ := ⟨_, rfl⟩
    have hcs : ((x1.cells.set 6 (.slice (some ⟨gh, 0, none⟩) q.hash q.hash)).set 7 (.slice (some ⟨gs, 0, none⟩) q.sig q.sig)).set 5 (.slice (some ⟨gk, 0, none⟩) q.key q.key) = x9.cells := by have hx1 := HQ1.out; subst hx1 hx9; rfl
    rw [hcs] at hU6
    have S6 : Hid (FS w4 u6 g9 x9.cells ∧ BXOk u6 x9) := by
      have hS : FS w4 u6 g9 x9.cells := S5.out.1.put hT6 hU6.out
      have c1 := HC.out.alg
      have c2 := HC.out.idx
      have c3 := HC.out.flags
      have c4 := HC.out.loc
      have f1 : Fit 256 ((l.drop 128).take q.hash) := (HB.out.fit.drop _).take _
      have f2 : Fit 256 ((l.drop (128 + q.hash)).take q.sig) := (HB.out.fit.drop _).take _
      have f3 : Fit 256 ((l.drop (128 + q.auth + q.list)).take q.key) := (HB.out.fit.drop _).take _
      have b1 := (S5.out.2.1.touch hT6 (by simpa using S5.out.2.2.1)).bs f1 (n := q.hash) (by simp; omega) (by omega)
      have b2 := (S5.out.2.2.2.1.touch hT6 (by simpa using S5.out.2.2.2.2.1)).bs f2 (n := q.sig) (by simp; omega) (by omega)
      have b3 := (S5.out.2.2.2.2.2.1.touch hT6 (by simpa using S5.out.2.2.2.2.2.2)).bs f3 (n := q.key) (by simp; omega) (by omega)
      refine ⟨hS, ?_⟩
      subst hx9
      exact ⟨by unfold I64; dsimp only; omega, by unfold I64; dsimp only; omega, by unfold I64; dsimp only; omega, by unfold I64; dsimp only; omega, (HPL.out.below hS.below).dl, rfl, by dsimp only; omega, hndc, hcdm, HNM.out, b3, b1, b2⟩
    have HX9 : Hid (x9.b = blOf l q (des xs)) := by subst hx9; rfl
    have R6 : Hid (Blk u6 g4 27 zeroB) := I4.out.2.2.1.below S6.out.1.below I4.out.2.2.1.lt
    have R5 : Blk u5 g4 27 zeroB := I4.out.2.2.1.below S5.out.1.below I4.out.2.2.1.lt
    have HT7 : Hid (∀ u7, Touch [g4] u6 u7 → BXOk u7 x9) := fun u7 ht => by
      have hok := S6.out.2
      have n1 := S5.out.2.1.neT R5 (by decide)
      have n2 := S5.out.2.2.2.1.neT R5 (by decide)
      have n3 := S5.out.2.2.2.2.2.1.neT R5 (by decide)
      have hlt4 := I2.out.2.2.1.lt
      subst hx9
      exact { hok with dl := hok.dl.touch13 ht (fun _ ad e => by have := (HPL.out.ge ad e).1; omega) (fun y hy sl hs ad e => by obtain ⟨g, e2, hg⟩ := HNW.out y hy sl hs; rw [e2] at e; injection e with e; rw [← e]; dsimp only; omega), key := hok.key.off13 ht (fun ad e => by injection e with e; rw [← e]; exact n3), hash := hok.hash.off13 ht (fun ad e => by injection e with e; rw [← e]; exact n1), sig := hok.sig.off13 ht (fun ad e => by injection e with e; rw [← e]; exact n2) }
    have HNX : Hid (NewX w.heap.size x9) := by
      have a := I2.out.1.size
      subst hx9
      exact ⟨fun ad e => by have := (HPL.out.ge ad e).1; omega, fun y hy sl hs => by obtain ⟨g, e, hg⟩ := HNW.out y hy sl hs; exact ⟨g, e, by omega⟩, fun ad e => by injection e with e; rw [← e]; exact HG3.out, fun ad e => by injection e with e; rw [← e]; exact HG1.out, fun ad e => by injection e with e; rw [← e]; exact HG2.out⟩
    clear hU6 hT6 hcs hx9 R5
    go_wp2_with (first
      | ((with_reducible refine at_dst (some 63) ?_); refine wpList_loadAt (op := ⟨some 63, _, _, _, _, _⟩) rfl 27 (.tmp 9) rfl ⟨g9, 0, none⟩ rfl x9.cells dB S6.out.1.d.at huB hdB iBl ?_)
      | ((with_reducible refine at_dst none ?_); refine wpList_storeBlk (op := ⟨none, _, _, _, _, _⟩) rfl 27 (.tmp 4) (.tmp 63) rfl (g := g4) (t := 27) (old := zeroB) (cs := x9.cells) (by first | rfl | (rw [← hg4]; rfl)) rfl R6.out rfl iBl x9.one ?_; intro u7 hB7 ht7))
    have HFB : Hid (Below w.heap.size w u7 ∧ BXOk u7 x9) := by
      have h9 : Below w.heap.size w u6 := I4.out.1.trans (S6.out.1.below.mono I4.out.1.size)
      refine ⟨ht7.belowAt h9 I4.out.2.2.2 h9.size, ?_⟩
      exact HT7.out u7 ht7
    exact ret_cell_tmp rfl (by first | rfl | (rw [← hg4]; rfl)) hB7.out.at huB hdB iBl rfl ⟨x9, 0, rfl, by rw [HPR.out], fun _ => ⟨by rw [HPR.out]; exact HX9.out, HFB.out.2, HNX.out⟩, fun h => absurd rfl h, HFB.out.1⟩
  · have e0 : ((er : Int) != 0) = true := by simp [he]
    have HE := Lib.hid he
    clear he
    go_wp2_with ((with_reducible refine at_dst none ?_); refine wpList_storeBlk (op := ⟨none, _, _, _, _, _⟩) rfl 27 (.tmp 4) (.tmp 26) rfl (g := g4) (t := 27) (old := zeroB) (cs := zeroB) (by first | rfl | (rw [← hg4]; rfl)) rfl I4.out.2.2.1 rfl iBl zeroB_one ?_; intro u7 hB7 ht7)
    exact ret_cell_tmp rfl (by first | rfl | (rw [← hg4]; rfl)) hB7.out.at huB hdB iBl rfl ⟨zeroX, er, rfl, by rw [HPR.out], fun h => absurd h HE.out, fun _ => rfl, ht7.belowAt I4.out.1 I4.out.2.2.2 I4.out.1.size⟩
end Go.Proofs.YtlcoebenkhafcaaGreatDoor
namespace Go.Proofs.YtlcoebenkhafcaaGreatDoor
open Go.RowKit
set_option linter.unusedVariables false
set_option linter.unusedSimpArgs false
set_option maxRecDepth 100000
theorem HasPrefix_any (A : Option Addr) (n cap : Nat) (l : List Nat) (B : Option Addr) (m c2 : Nat) (p : List Nat) (w : World) (h : Bs w A n cap l) (hp : Rd .u8 w B m p) (hpf : Fit 256 p) (hm : m ≤ n) : Calls Tryz.prog 43 #[.slice A n cap, .slice B m c2] w fun e w' => e = .returned (.bool (decide (l.take m = p))) ∧ w = w' := by
  have hsl := run_upto A n cap
  have hle := h.le
  have hmx := h.max
  have z1 : (m : Int) ≤ (n : Int) := by omega
  have HE := Lib.hid (fun c => EqualB_any A m c (l.take m) B m c2 p w (h.rd.take m hm) (h.fit.take m) hp hpf)
  obtain ⟨D, hD⟩ : ∃ D, decide (l.take m = p) = D := ⟨_, rfl⟩
  rw [hD] at HE ⊢
  clear hD h hp
  go_enter Tryz.func43, Tryz.ntmps43
  go_wp2_with fail
  refine (HE.out _).mono ?_
  rintro e w1 ⟨rfl, rfl⟩
  go_wp2
  go_ret
  exact ⟨rfl, rfl⟩
theorem bparse_10 {l : List Nat} (h : l.length < 128) : bparse l = (Bl.zero, 10) := by unfold bparse; rw [if_pos h]
theorem bparse_30 {l : List Nat} (h : ¬ l.length < 128) (h1 : l.take 4 ≠ magicL) : bparse l = (Bl.zero, 30) := by unfold bparse; rw [if_neg h, if_pos h1]
theorem bparse_f {l : List Nat} (h : ¬ l.length < 128) (h1 : l.take 4 = magicL) (h2 : faultOf (rdo l) l.length ≠ 0) : bparse l = (Bl.zero, faultOf (rdo l) l.length) := by unfold bparse; rw [if_neg h, if_neg (fun k => k h1), if_pos h2]
theorem bparse_p {l : List Nat} (h : ¬ l.length < 128) (h1 : l.take 4 = magicL) (h2 : faultOf (rdo l) l.length = 0) (h3 : (parse (sl l (128 + (rdo l).auth) (rdo l).list)).2 ≠ 0) : bparse l = (Bl.zero, (parse (sl l (128 + (rdo l).auth) (rdo l).list)).2) := by unfold bparse; rw [if_neg h, if_neg (fun k => k h1), if_neg (fun k => k h2), if_pos h3]
theorem bparse_y {l : List Nat} (h : ¬ l.length < 128) (h1 : l.take 4 = magicL) (h2 : faultOf (rdo l) l.length = 0) (h3 : (parse (sl l (128 + (rdo l).auth) (rdo l).list)).2 = 0) (h4 : BRight (blOf l (rdo l) (parse (sl l (128 + (rdo l).auth) (rdo l).list)).1) ∧ bbytes (blOf l (rdo l) (parse (sl l (128 + (rdo l).auth) (rdo l).list)).1) = l) : bparse l = (blOf l (rdo l) (parse (sl l (128 + (rdo l).auth) (rdo l).list)).1, 0) := by unfold bparse; rw [if_neg h, if_neg (fun k => k h1), if_neg (fun k => k h2), if_neg (fun k => k h3), if_pos h4]
theorem bparse_n {l : List Nat} (h : ¬ l.length < 128) (h1 : l.take 4 = magicL) (h2 : faultOf (rdo l) l.length = 0) (h3 : (parse (sl l (128 + (rdo l).auth) (rdo l).list)).2 = 0) (h4 : ¬ (BRight (blOf l (rdo l) (parse (sl l (128 + (rdo l).auth) (rdo l).list)).1) ∧ bbytes (blOf l (rdo l) (parse (sl l (128 + (rdo l).auth) (rdo l).list)).1) = l)) : bparse l = (Bl.zero, 12) := by unfold bparse; rw [if_neg h, if_neg (fun k => k h1), if_neg (fun k => k h2), if_neg (fun k => k h3), if_neg h4]
theorem cap_blOf {o : Ol} {n : Nat} (l : List Nat) (ds : List De) (h : faultOf o n = 0) : (capO o).auth = o.auth ∧ (capO o).list = o.list ∧ (BRight (blOf l (capO o) ds) ↔ BRight (blOf l o ds)) ∧ (BRight (blOf l o ds) → blOf l (capO o) ds = blOf l o ds) := by
  obtain ⟨h1, h2, h3, h4, h5, h6, h7, h8⟩ := faultOf_ok h
  have u : ∀ m : Nat, m ≤ up64 m := fun m => by unfold up64; omega
  have u1 := u (o.hash + o.sig)
  have u2 := u (o.list + o.key)
  have c1 : capn o.auth = o.auth := capn_of (by omega)
  have c2 : capn o.list = o.list := capn_of (by omega)
  have c3 : capn o.hash = o.hash := capn_of (by omega)
  have c4 : capn o.sig = o.sig := capn_of (by omega)
  have c5 : capn o.key = o.key := capn_of (by omega)
  have c6 : capn o.alg = o.alg := capn_of (by omega)
  refine ⟨c1, c2, ?_⟩
  by_cases hb : o.idx ≤ 281474976710657 ∧ o.flags ≤ 281474976710657 ∧ o.loc ≤ 281474976710657
  · have e : blOf l (capO o) ds = blOf l o ds := by
      simp only [blOf, capO, c1, c2, c3, c4, c5, c6, capn_of hb.1, capn_of hb.2.1, capn_of hb.2.2]
    rw [e]
    exact ⟨Iff.rfl, fun _ => rfl⟩
  · have n1 : ¬ BRight (blOf l (capO o) ds) := fun hr => by
      have hh := hr.1
      simp only [Headed, blOf, capO] at hh
      have k : ∀ m : Nat, ¬ m ≤ 281474976710657 → capn m = 281474976710657 := fun m hm => by unfold capn; rw [if_neg hm]
      by_cases a1 : o.idx ≤ 281474976710657
      · by_cases a2 : o.flags ≤ 281474976710657
        · have := k o.loc (fun a3 => hb ⟨a1, a2, a3⟩); omega
        · have := k o.flags a2; omega
      · have := k o.idx a1; omega
    have n2 : ¬ BRight (blOf l o ds) := fun hr => by
      have hh := hr.1
      simp only [Headed, blOf] at hh
      omega
    exact ⟨⟨fun h => absurd h n1, fun h => absurd h n2⟩, fun h => absurd h n2⟩
def ParseBP (l : List Nat) (w : World) (e : Ending) (w' : World) : Prop :=
  ∃ x : BX, ∃ er : Nat, e = .returned (.tuple #[x.val, .int .i64 (er : Int)]) ∧ bparse l = (x.b, er) ∧ BXOk w' x ∧ NewX w.heap.size x ∧ (er ≠ 0 → x = zeroX) ∧ Below w.heap.size w w'
set_option maxHeartbeats 8000000 in
theorem BParse_any (A : Option Addr) (n cap : Nat) (l : List Nat) (w : World) (hb : Bs w A n cap l) (hn : n ≤ 100000) : Calls Tryz.prog 16 #[.slice A n cap] w (ParseBP l w) := by
  obtain ⟨dB, huB, hdB⟩ := uBl
  obtain ⟨dO, huO, hdO⟩ := uOl
  have HB := Lib.hid hb
  have hll := hb.rd.1
  have HLL := Lib.hid hll
  have hle := hb.le
  have hb1 : Below w.heap.size w (w.alloc (.cells zeroB.toArray 27)) := (Below.refl _ _).alloc (Nat.le_refl _) _
  have hk1 : Blk (w.alloc (.cells zeroB.toArray 27)) w.heap.size 27 zeroB := Blk.new _ _ _
  obtain ⟨W, hW⟩ : ∃ W, w.alloc (.cells zeroB.toArray 27) = W := ⟨_, rfl⟩
  rw [hW] at hb1 hk1
  have hz : zeroB.toArray = #[.int .i64 0, .int .i64 0, .int .i64 0, .int .i64 0, .slice none 0 0, .slice none 0 0, .slice none 0 0, .slice none 0 0] := rfl
  rw [hz] at hW
  have I1 : Hid (Below w.heap.size w W ∧ Blk W w.heap.size 27 zeroB) := ⟨hb1, hk1⟩
  clear hb1 hk1 hz hb hll
  by_cases h128 : n < 128
  · have z1 : (n : Int) < 128 := by omega
    have E : Hid (bparse l = (Bl.zero, 10)) := bparse_10 (by rw [HLL.out]; exact h128)
    clear h128
    go_enter Tryz.func16, Tryz.ntmps16
    go_wp2_with ((with_reducible refine at_dst none ?_); refine wpList_storeBlk (op := ⟨none, _, _, _, _, _⟩) rfl 27 (.tmp 2) (.tmp 13) rfl (g := w.heap.size) (t := 27) (old := zeroB) (cs := zeroB) rfl rfl I1.out.2 rfl iBl zeroB_one ?_; intro u7 hB7 ht7)
    exact ret_cell_tmp rfl rfl hB7.out.at huB hdB iBl rfl ⟨zeroX, 10, rfl, E.out, zeroX_ok _, NewX.zero _, fun _ => rfl, ht7.belowAt I1.out.1 (Nat.le_refl _) I1.out.1.size⟩
  · have z1 : ¬ (n : Int) < 128 := by omega
    have H128 : Hid (¬ l.length < 128) := by rw [HLL.out]; exact h128
    have hn4 : 4 ≤ n := by omega
    have hn128 : 128 ≤ n := by omega
    have kc := fun (w : World) (C : Array Value) (n c : Nat) => Lib.run_convert_bytes_const (P := Tryz.prog) w 25 5 C n c Tryz.underlying25 Tryz.underlying5
    have hb2 : Below W.heap.size W (W.alloc (.cells #[.int .u8 65, .int .u8 86, .int .u8 66, .int .u8 48] 5 (4, 5))) := (Below.refl _ _).alloc (Nat.le_refl _) _
    have hr2 : Rd .u8 (W.alloc (.cells #[.int .u8 65, .int .u8 86, .int .u8 66, .int .u8 48] 5 (4, 5))) (some ⟨W.heap.size, 0, none⟩) 4 magicL := rd_alloc13 W magicL (4, 5) _ rfl 4 rfl
    obtain ⟨W2, hW2⟩ : ∃ W2, W.alloc (.cells #[.int .u8 65, .int .u8 86, .int .u8 66, .int .u8 48] 5 (4, 5)) = W2 := ⟨_, rfl⟩
    rw [hW2] at hb2 hr2
    have I2 : Hid (Below w.heap.size w W2 ∧ Blk W2 w.heap.size 27 zeroB) := ⟨I1.out.1.trans (hb2.mono I1.out.1.size), I1.out.2.below hb2 I1.out.2.lt⟩
    have HHP := Lib.hid (fun c => HasPrefix_any A n cap l (some ⟨W.heap.size, 0, none⟩) 4 c magicL W2 (HB.out.below I2.out.1) hr2 (by unfold Fit magicL; decide) hn4)
    clear hb2 hr2 h128 hn4
    by_cases hm : l.take 4 = magicL
    · rw [decide_eq_true hm] at HHP
      have HM := Lib.hid hm
      clear hm
      have HRD := Lib.hid (bread_any A n cap l W2 (HB.out.below I2.out.1) hn hn128)
      have HCA := Lib.hid (capO_cap (rdo l))
      have HFC := Lib.hid (faultOf_cap (rdo l) n)
      obtain ⟨q, hq⟩ : ∃ q, capO (rdo l) = q := ⟨_, rfl⟩
      have HQ := Lib.hid hq
      rw [hq] at HRD HCA HFC
      clear hq
      go_enter Tryz.func16, Tryz.ntmps16
      go_wp2_with fail
      (try rw [hW2])
      refine (HHP.out _).mono ?_
      rintro e w3 ⟨rfl, rfl⟩
      clear kc
      go_wp2_with fail
      refine HRD.out.mono ?_
      rintro e w3 ⟨rfl, hb3⟩
      have hb4 : Below w3.heap.size w3 (w3.alloc (.cells (ocells q).toArray 65)) := (Below.refl _ _).alloc (Nat.le_refl _) _
      have hk4 : Blk (w3.alloc (.cells (ocells q).toArray 65)) w3.heap.size 65 (ocells q) := Blk.new _ _ _
      obtain ⟨w4, hw4⟩ : ∃ w4, w3.alloc (.cells (ocells q).toArray 65) = w4 := ⟨_, rfl⟩
      rw [hw4] at hb4 hk4
      obtain ⟨g4, hg4⟩ : ∃ g4, w3.heap.size = g4 := ⟨_, rfl⟩
      rw [hg4] at hk4
      have I4 : Hid (Below w.heap.size w w4 ∧ Blk w4 w.heap.size 27 zeroB ∧ Blk w4 g4 65 (ocells q)) := ⟨(I2.out.1.trans (hb3.mono I2.out.1.size)).trans (hb4.mono (I2.out.1.trans (hb3.mono I2.out.1.size)).size), (I2.out.2.below hb3 I2.out.2.lt).below hb4 (I2.out.2.below hb3 I2.out.2.lt).lt, hk4⟩
      have HFA := Lib.hid (fault_any q n w4 HCA.out (by omega))
      obtain ⟨f, hf⟩ : ∃ f, faultOf q n = f := ⟨_, rfl⟩
      have HFQ := Lib.hid hf
      rw [hf] at HFA
      clear hb3 hb4 hk4 hf
      go_wp2_with (first
        | ((with_reducible refine at_dst none ?_); refine wpList_storeNew (w := w3) (op := ⟨none, _, _, _, _, _⟩) rfl 65 (.tmp 4) (.tmp 21) rfl zeroO (ocells q) (by rw [← hg4]; rfl) rfl rfl iOl (ocells_one _) ?_; rw [hw4])
        | ((with_reducible refine at_dst (some 22) ?_); refine wpList_loadAt (op := ⟨some 22, _, _, _, _, _⟩) rfl 65 (.tmp 4) rfl ⟨g4, 0, none⟩ rfl (ocells q) dO I4.out.2.2.at huO hdO iOl ?_))
      refine HFA.out.mono ?_
      rintro e w5 ⟨rfl, hb5⟩
      have I5 : Hid (Below w.heap.size w w5 ∧ Blk w5 w.heap.size 27 zeroB ∧ Blk w5 g4 65 (ocells q)) := ⟨I4.out.1.trans (hb5.mono I4.out.1.size), I4.out.2.1.below hb5 I4.out.2.1.lt, I4.out.2.2.below hb5 I4.out.2.2.lt⟩
      clear hb5
      by_cases hf0 : f = 0
      · subst hf0
        have hq0 : faultOf (rdo l) n = 0 := by rw [← HFC.out]; exact HFQ.out
        have HQ0 : Hid (faultOf (rdo l) l.length = 0) := by rw [HLL.out]; exact hq0
        have HFI := Lib.hid (fill_any q A n cap l w5 (HB.out.below I5.out.1) HCA.out HFQ.out)
        have HCB := Lib.hid (fun ds => cap_blOf l ds hq0)
        clear hq0
        go_wp2_with ((with_reducible refine at_dst (some 31) ?_); refine wpList_loadAt (op := ⟨some 31, _, _, _, _, _⟩) rfl 65 (.tmp 4) rfl ⟨g4, 0, none⟩ rfl (ocells q) dO I5.out.2.2.at huO hdO iOl ?_)
        refine HFI.out.mono ?_
        rintro e w6 ⟨x, er, rfl, her, hyes, hno, hb6⟩
        have hb7 : Below w6.heap.size w6 (w6.alloc (.cells x.cells.toArray 27)) := (Below.refl _ _).alloc (Nat.le_refl _) _
        have hk7 : Blk (w6.alloc (.cells x.cells.toArray 27)) w6.heap.size 27 x.cells := Blk.new _ _ _
        obtain ⟨w7, hw7⟩ : ∃ w7, w6.alloc (.cells x.cells.toArray 27) = w7 := ⟨_, rfl⟩
        rw [hw7] at hb7 hk7
        obtain ⟨g7, hg7⟩ : ∃ g7, w6.heap.size = g7 := ⟨_, rfl⟩
        rw [hg7] at hk7
        have I6 : Below w.heap.size w w6 := I5.out.1.trans (hb6.mono I5.out.1.size)
        have I7 : Hid (Below w.heap.size w w7 ∧ Blk w7 w.heap.size 27 zeroB ∧ Blk w7 g7 27 x.cells ∧ Below w6.heap.size w6 w7 ∧ w.heap.size < g7) := ⟨I6.trans (hb7.mono I6.size), (I5.out.2.1.below hb6 I5.out.2.1.lt).below hb7 (I5.out.2.1.below hb6 I5.out.2.1.lt).lt, hk7, hb7, by have := (I5.out.2.1.below hb6 I5.out.2.1.lt).lt; omega⟩
        have hcap := HCB.out (parse (sl l (128 + (rdo l).auth) (rdo l).list)).1
        rw [HQ.out] at hcap
        rw [hcap.1, hcap.2.1] at her hyes
        have HER := Lib.hid her
        have HYES := Lib.hid hyes
        have HNO := Lib.hid hno
        have HCP := Lib.hid hcap.2.2
        clear hb6 hb7 hk7 I6 her hyes hno hcap
        by_cases he : er = 0
        · subst he
          obtain ⟨hxb, hxo, hxn⟩ := HYES.out rfl
          have HXN := Lib.hid hxn
          have HXB := Lib.hid hxb
          have HXO := Lib.hid (hxo.below I7.out.2.2.2.1)
          have HEN := Lib.hid (BEncode_any x w7 (hxo.below I7.out.2.2.2.1))
          clear hxb hxo hxn
          go_wp2_with (first
            | ((with_reducible refine at_dst none ?_); refine wpList_storeNew (w := w6) (op := ⟨none, _, _, _, _, _⟩) rfl 27 (.tmp 6) (.tmp 34) rfl zeroB x.cells (by rw [← hg7]; rfl) rfl rfl iBl x.one ?_; rw [hw7])
            | ((with_reducible refine at_dst (some 41) ?_); refine wpList_loadAt (op := ⟨some 41, _, _, _, _, _⟩) rfl 27 (.tmp 6) rfl ⟨g7, 0, none⟩ rfl x.cells dB I7.out.2.2.1.at huB hdB iBl ?_))
          refine HEN.out.mono ?_
          rintro e w8 ⟨A8, n8, c8, l8, er8, rfl, hr8, hy8, hn8, hb8⟩
          have I8 : Hid (Below w.heap.size w w8 ∧ Blk w8 w.heap.size 27 zeroB ∧ Blk w8 g7 27 x.cells ∧ BXOk w8 x) := ⟨I7.out.1.trans (hb8.mono I7.out.1.size), I7.out.2.1.below hb8 I7.out.2.1.lt, I7.out.2.2.1.below hb8 I7.out.2.2.1.lt, HXO.out.below hb8⟩
          have HR8 := Lib.hid hr8.rd
          by_cases hbr : BRight x.b
          · obtain ⟨rfl, rfl⟩ := hy8 hbr
            have HBRX := Lib.hid hbr
            have hfx := bbytes_fit HXO.out.fits
            have HEQ := Lib.hid (EqualB_any A8 n8 c8 (bbytes x.b) A n cap l w8 hr8.rd hfx (HB.out.below I8.out.1).rd HB.out.fit)
            clear hr8 hy8 hn8 hb8 hbr hfx
            by_cases hll : bbytes x.b = l
            · rw [decide_eq_true hll] at HEQ
              have E : Hid (bparse l = (x.b, 0)) := by
                have hb := HBRX.out
                have h2 := hll
                rw [HXB.out] at hb h2
                have h3 := HCP.out.1.1 hb
                have h4 := HCP.out.2 h3
                rw [h4] at h2
                show bparse l = (x.b, 0)
                rw [HXB.out, h4]
                exact bparse_y H128.out HM.out HQ0.out HER.out.symm ⟨h3, h2⟩
              clear hll
              go_wp2_with fail
              refine HEQ.out.mono ?_
              rintro e w9 ⟨rfl, rfl⟩
              go_wp2_with (first
                | ((with_reducible refine at_dst (some 54) ?_); refine wpList_loadAt (op := ⟨some 54, _, _, _, _, _⟩) rfl 27 (.tmp 6) rfl ⟨g7, 0, none⟩ rfl x.cells dB I8.out.2.2.1.at huB hdB iBl ?_)
                | ((with_reducible refine at_dst none ?_); refine wpList_storeBlk (op := ⟨none, _, _, _, _, _⟩) rfl 27 (.tmp 2) (.tmp 54) rfl (g := w.heap.size) (t := 27) (old := zeroB) (cs := x.cells) rfl rfl I8.out.2.1 rfl iBl x.one ?_; intro u9 hB9 ht9))
              exact ret_cell_tmp rfl rfl hB9.out.at huB hdB iBl rfl ⟨x, 0, rfl, E.out, I8.out.2.2.2.off HXN.out ht9 I5.out.2.1.lt, HXN.out.mono I5.out.1.size, fun h => absurd rfl h, ht9.belowAt I8.out.1 (Nat.le_refl _) I8.out.1.size⟩
            · rw [decide_eq_false hll] at HEQ
              have E : Hid (bparse l = (Bl.zero, 12)) := by
                refine bparse_n H128.out HM.out HQ0.out HER.out.symm (fun hh => hll ?_)
                rw [HXB.out, HCP.out.2 hh.1]
                exact hh.2
              clear hll
              go_wp2_with fail
              refine HEQ.out.mono ?_
              rintro e w9 ⟨rfl, rfl⟩
              go_wp2_with ((with_reducible refine at_dst none ?_); refine wpList_storeBlk (op := ⟨none, _, _, _, _, _⟩) rfl 27 (.tmp 2) (.tmp 53) rfl (g := w.heap.size) (t := 27) (old := zeroB) (cs := zeroB) rfl rfl I8.out.2.1 rfl iBl zeroB_one ?_; intro u9 hB9 ht9)
              exact ret_cell_tmp rfl rfl hB9.out.at huB hdB iBl rfl ⟨zeroX, 12, rfl, E.out, zeroX_ok _, NewX.zero _, fun _ => rfl, ht9.belowAt I8.out.1 (Nat.le_refl _) I8.out.1.size⟩
          · obtain ⟨rfl, rfl⟩ := hn8 hbr
            have E : Hid (bparse l = (Bl.zero, 12)) := by
              refine bparse_n H128.out HM.out HQ0.out HER.out.symm (fun hh => hbr ?_)
              rw [HXB.out]
              exact HCP.out.1.2 hh.1
            clear hr8 hy8 hn8 hb8 hbr
            go_wp2_with ((with_reducible refine at_dst none ?_); refine wpList_storeBlk (op := ⟨none, _, _, _, _, _⟩) rfl 27 (.tmp 2) (.tmp 53) rfl (g := w.heap.size) (t := 27) (old := zeroB) (cs := zeroB) rfl rfl I8.out.2.1 rfl iBl zeroB_one ?_; intro u9 hB9 ht9)
            exact ret_cell_tmp rfl rfl hB9.out.at huB hdB iBl rfl ⟨zeroX, 12, rfl, E.out, zeroX_ok _, NewX.zero _, fun _ => rfl, ht9.belowAt I8.out.1 (Nat.le_refl _) I8.out.1.size⟩
        · have e0 : ((er : Int) != 0) = true := by simp [he]
          have E : Hid (bparse l = (Bl.zero, er)) := by
            have := bparse_p H128.out HM.out HQ0.out (by rw [← HER.out]; exact he)
            rw [← HER.out] at this
            exact this
          have HE := Lib.hid he
          clear he
          go_wp2_with (first
            | ((with_reducible refine at_dst none ?_); refine wpList_storeNew (w := w6) (op := ⟨none, _, _, _, _, _⟩) rfl 27 (.tmp 6) (.tmp 34) rfl zeroB x.cells (by rw [← hg7]; rfl) rfl rfl iBl x.one ?_; rw [hw7])
            | ((with_reducible refine at_dst none ?_); refine wpList_storeBlk (op := ⟨none, _, _, _, _, _⟩) rfl 27 (.tmp 2) (.tmp 38) rfl (g := w.heap.size) (t := 27) (old := zeroB) (cs := zeroB) rfl rfl I7.out.2.1 rfl iBl zeroB_one ?_; intro u9 hB9 ht9))
          exact ret_cell_tmp rfl rfl hB9.out.at huB hdB iBl rfl ⟨zeroX, er, rfl, E.out, zeroX_ok _, NewX.zero _, fun _ => rfl, ht9.belowAt I7.out.1 (Nat.le_refl _) I7.out.1.size⟩
      · have e0 : ((f : Int) != 0) = true := by simp [hf0]
        have E : Hid (bparse l = (Bl.zero, f)) := by
          have h2 : faultOf (rdo l) l.length = f := by rw [HLL.out, ← HFC.out]; exact HFQ.out
          have := bparse_f H128.out HM.out (by rw [h2]; exact hf0)
          rw [h2] at this
          exact this
        clear hf0
        go_wp2_with ((with_reducible refine at_dst none ?_); refine wpList_storeBlk (op := ⟨none, _, _, _, _, _⟩) rfl 27 (.tmp 2) (.tmp 28) rfl (g := w.heap.size) (t := 27) (old := zeroB) (cs := zeroB) rfl rfl I5.out.2.1 rfl iBl zeroB_one ?_; intro u9 hB9 ht9)
        exact ret_cell_tmp rfl rfl hB9.out.at huB hdB iBl rfl ⟨zeroX, f, rfl, E.out, zeroX_ok _, NewX.zero _, fun _ => rfl, ht9.belowAt I5.out.1 (Nat.le_refl _) I5.out.1.size⟩
    · rw [decide_eq_false hm] at HHP
      have E : Hid (bparse l = (Bl.zero, 30)) := bparse_30 H128.out hm
      clear hm
      go_enter Tryz.func16, Tryz.ntmps16
      go_wp2_with fail
      (try rw [hW2])
      refine (HHP.out _).mono ?_
      rintro e w3 ⟨rfl, rfl⟩
      clear kc
      go_wp2_with ((with_reducible refine at_dst none ?_); refine wpList_storeBlk (op := ⟨none, _, _, _, _, _⟩) rfl 27 (.tmp 2) (.tmp 19) rfl (g := w.heap.size) (t := 27) (old := zeroB) (cs := zeroB) rfl rfl I2.out.2 rfl iBl zeroB_one ?_; intro u7 hB7 ht7)
      exact ret_cell_tmp rfl rfl hB7.out.at huB hdB iBl rfl ⟨zeroX, 30, rfl, E.out, zeroX_ok _, NewX.zero _, fun _ => rfl, ht7.belowAt I2.out.1 (Nat.le_refl _) I2.out.1.size⟩
end Go.Proofs.YtlcoebenkhafcaaGreatDoor
