/-
  A blob that is made with a fixed key holds. No condition. The document's example: two blobs that are made, one of them signed. No condition but that the sums' tables hold what their text lays there. The statements' arguments, as they are read; what the rows' lists of tables give. No condition. What the document's Number, Get and twice, and the statements' own conversions and comparisons answer. No condition but that bytes fit. What SmallDescrs and Same answer. No condition but that texts are bytes that fit.
-/
import Derived.Test.YtlcoebenkhafcaaGreatDoorZ31
import Derived.Test.YtlcoebenkhafcaaGreatDoorZ08
import Derived.Test.YtlcoebenkhafcaaGreatDoorRows
import Derived.Deep.Slices
import Derived.ProofKit
import Derived.LaidMore
import Derived.OpenShut
import Derived.Stop.Joined
import Derived.ChangeOld
import Derived.Below
import Derived.Lay
import Derived.Lib.LaidTab
import Derived.Stop.LaidErr
import Derived.Test.YtlcoebenkhafcaaGreatDoorZ23
namespace Go.Proofs.YtlcoebenkhafcaaGreatDoor
open Go.RowKit
set_option linter.unusedVariables false
set_option linter.unusedSimpArgs false
set_option maxRecDepth 100000
theorem keyBytes_bits {k N : Nat} (k2 : k ≤ 512) : bitsOf (keyBytes k N) = 8 * k := by
  have e : keyBytes k N = bytesOf 4 (8 * k) ++ (bytesOf 4 (n0of N) ++ (bytesOf k N ++ bytesOf k (256 ^ (2 * k) % N))) := by simp [keyBytes]
  rw [bitsOf, e, List.take_left' (bytesOf_length _ _)]
  exact bytesOf_val (by omega)
theorem keyBytes_mod {k N : Nat} : modOf (keyBytes k N) k = bytesOf k N := by
  have e : keyBytes k N = (bytesOf 4 (8 * k) ++ bytesOf 4 (n0of N)) ++ (bytesOf k N ++ bytesOf k (256 ^ (2 * k) % N)) := by simp [keyBytes]
  rw [modOf, e, List.drop_left' (by simp [bytesOf_length]), List.take_left' (bytesOf_length _ _)]
theorem keyBytes_good {k N : Nat} (hM : Modul k (bytesOf k N)) (hN : N < 256 ^ k) : GoodParse (keyBytes k N) k := by
  have k1 := hM.1
  have k2 := hM.2.1
  have k3 := hM.2.2.1
  refine ⟨?_, keyBytes_bits k2, keyBytes_length k N, by rw [keyBytes_mod]; exact hM, by rw [keyBytes_mod, bytesOf_val hN]⟩
  rw [keyBytes_bits k2]
  unfold BitsOk
  omega
theorem keyBytes_not_bad {k N : Nat} (hM : Modul k (bytesOf k N)) (hN : N < 256 ^ k) (er : Int) : ¬ BadParse (keyBytes k N) er := fun h => by
  have hg := keyBytes_good hM hN
  have k2 := hM.2.1
  have hb := keyBytes_bits (N := N) k2
  have hl := keyBytes_length k N
  cases h with
  | short h => omega
  | bits h1 h2 => exact h2 hg.ok
  | lack k' h1 h2 h3 h4 => omega
  | over k' h1 h2 h3 h4 => omega
  | form k' h1 h2 h3 h4 =>
    obtain rfl : k' = k := by omega
    exact h4 hg.modul
  | key k' h1 h2 h3 h4 h5 =>
    obtain rfl : k' = k := by omega
    exact h5 hg.same
theorem good_one {l : List Nat} {k k' : Nat} (h : GoodParse l k) (h' : GoodParse l k') : k' = k := by have := h.bits; have := h'.bits; omega
theorem sumOf_size {z : Nat} (hz : z = 1 ∨ z = 2) (l : List Nat) : (sumOf z l).length = sizeOfAlg z := by
  rcases hz with rfl | rfl
  · rw [sumOf_length1]; rfl
  · rw [sumOf_length2]; rfl
theorem madeBl_right {b : Bl} {k N z D : Nat} (hh : Headed b) (hl : Listed b.ds) (hz : z = 1 ∨ z = 2) (ha : b.alg = (z : Int)) (k1 : 64 ≤ k) (k2 : k ≤ 512) : BRight (madeBl b k N z D) :=
  made_right hh hl hz ha (sumOf_size hz _) (bytesOf_length _ _) k1 k2
theorem madeBl_text {b : Bl} {k N z D : Nat} (hz : z = 1 ∨ z = 2) : btext (madeBl b k N z D) = madeText b k N z := by
  unfold madeBl madeText
  exact made_text b k N (by rw [sumOf_size hz, List.length_replicate]) (by rw [bytesOf_length, List.length_replicate])
theorem made_tried {y k N D : Nat} (hF : Fixed y k N D) {b : Bl} {z : Nat} (hz : z = 1 ∨ z = 2) (ha : b.alg = (z : Int)) (hk : 30 + sizeOfAlg z ≤ k) {er : Int} (h : Tried (madeBl b k N z D) er) : er = 0 := by
  have hal : (madeBl b k N z D).alg = (z : Int) := ha
  have htx := madeBl_text (b := b) (k := k) (N := N) (D := D) hz
  rcases h with ⟨h0, _⟩ | ⟨z', hz', hz2, h⟩
  · rw [hal] at h0; omega
  · have hzz : z = z' := by rw [hal] at hz2; omega
    subst hzz
    rcases h with ⟨h1, _⟩ | ⟨h1, h⟩
    · rw [htx] at h1
      exact absurd rfl h1
    · rcases h with hb | ⟨k', hg, hv⟩
      · exact absurd hb (keyBytes_not_bad hF.modul hF.room er)
      · have hkk : k = k' := (good_one (keyBytes_good hF.modul hF.room) hg).symm
        subst hkk
        have hm : vbe (modOf (madeBl b k N z D).key k) = N := by
          show vbe (modOf (keyBytes k N) k) = N
          rw [keyBytes_mod, hF.vn]
        rw [hm, htx] at hv
        have hop : Opens k N (madeBl b k N z D).sig (blockOf z (sumOf z (madeText b k N z)) k) := (hF.opens hz rfl hk (madeText b k N z) (madeText b k N z)).2 rfl
        rcases hv with ⟨h2, _⟩ | ⟨_, _, h2⟩ | ⟨_, h2, _⟩
        · omega
        · exact h2
        · exact absurd hop h2
end Go.Proofs.YtlcoebenkhafcaaGreatDoor
namespace Go.Proofs.YtlcoebenkhafcaaGreatDoor
open Go.RowKit
set_option linter.unusedVariables false
set_option linter.unusedSimpArgs false
set_option maxRecDepth 100000
theorem zeroX_bare : Bare zeroX := ⟨rfl, rfl, rfl, rfl, rfl, rfl⟩
theorem headed0 : Headed zeroX.b := by decide
theorem listed0 : Listed [] := by decide
theorem zeroX_len : (bbytes zeroX.b).length = 128 := by rw [bbytes_length]; rfl
def oneB : Bl := ⟨1, 5, 0, 0, [], [], [], []⟩
def oneX : BX := ⟨oneB, [], nilS, nilS, nilS, nilS⟩
theorem oneX_bare : Bare oneX := ⟨rfl, rfl, rfl, rfl, rfl, rfl⟩
theorem headed1 : Headed oneX.b := by decide
theorem oneX_ok (w : World) : BXOk w oneX := ⟨⟨by decide, by decide⟩, ⟨by decide, by decide⟩, ⟨by decide, by decide⟩, ⟨by decide, by decide⟩, DL.nil _ _, rfl, by decide, by decide, by decide, (fun y h => by cases h), Bs.none _, Bs.none _, Bs.none _⟩
theorem madeBl_fits {b : Bl} {k N z D : Nat} (h : ∀ d ∈ b.ds, Go.Proofs.YtlcoebenkhafcaaGreatDoor.Fits d) : (madeBl b k N z D).Fits := by
  unfold madeBl made
  exact ⟨h, keyBytes_fit _ _, sumOf_fit _ _, bytesOf_fit _ _⟩
theorem made_checked {y k N D : Nat} (hF : Fixed y k N D) {b : Bl} (hh : Headed b) (hl : Listed b.ds) {z : Nat} (hz : z = 1 ∨ z = 2) (ha : b.alg = (z : Int)) (hk : 30 + sizeOfAlg z ≤ k) {w w' : World} {e : Ending} (h : CheckP (bbytes (madeBl b k N z D)) w e w') :
    ∃ x : BX, e = .returned (.tuple #[x.val, .int .i64 0]) ∧ x.b = madeBl b k N z D ∧ BXOk w' x ∧ NewX w.heap.size x ∧ Below w.heap.size w w' := by
  have k1 := hF.k1
  have k2 := hF.k2
  have hR := madeBl_right (N := N) (D := D) hh hl hz ha k1 (by omega)
  have hP := bparse_bbytes hR
  obtain ⟨x, er, rfl, h1, h2, h3, h4, h5⟩ := h
  rcases h1 with ⟨j, hj, h1, _⟩ | ⟨b', h1, ht, hy⟩
  · rw [hP] at h1
    injection h1 with _ h1
    exact absurd h1.symm hj
  · rw [hP] at h1
    injection h1 with h1 _
    subst h1
    have he := made_tried hF hz ha hk ht
    subst he
    exact ⟨x, rfl, hy rfl, h3, h4, h5⟩
set_option maxHeartbeats 4000000 in
theorem anchor_any (w : World) (ht : Both w) : Calls Tryz.prog 10 #[] w fun e w' => e = .returned (.bool true) ∧ Below w.heap.size w w' := by
  have HM0 := Lib.hid (BMake_open zeroX zeroX_bare none 0 0 none 0 0 w (zeroX_ok w) headed0 listed0 rfl)
  have HT := Lib.hid ht
  obtain ⟨k, N, D, hF⟩ := fixed_of (z := 0) (by omega)
  have hk : k = 64 := hF.small (by omega)
  subst hk
  have HF := Lib.hid hF
  clear hF ht
  go_enter Tryz.func10, Tryz.ntmps10
  go_wp2_with ((with_reducible refine at_dst (some 8) ?_); refine wpList_bld (op := ⟨some 8, _, _, _, _, _⟩) rfl 23 _ rfl #[] (by simp [Act.eval]) (.agg (hcells zeroX.b).toArray) (by kernel_rfl) ?_)
  refine HM0.out.mono ?_
  rintro e w1 ⟨A1, n1, c1, rfl, hr1, hb1⟩
  have hn1 : n1 = 128 := by have := hr1.length; rw [cn_length, zeroX_len] at this; exact this.symm
  subst hn1
  have HB1 := Lib.hid hb1
  have HMO := Lib.hid (HF.out.mo w1)
  clear hr1 hb1
  go_wp2_with ((with_reducible refine at_dst (some 13) ?_); refine wpList_bld (op := ⟨some 13, _, _, _, _, _⟩) rfl 23 _ rfl #[(0, .int .i64 1), (1, .int .i64 5)] (by simp [Act.eval]) (.agg (hcells oneX.b).toArray) (by kernel_rfl) ?_)
  refine HMO.out.mono ?_
  rintro e w2 ⟨A2, c2, rfl, hr2, hb2⟩
  have HB2 := Lib.hid (HB1.out.trans (hb2.mono HB1.out.size))
  have HR2 := Lib.hid (hr2.bs (bytesOf_fit _ _))
  have HSE := Lib.hid (HF.out.se w2)
  clear hr2 hb2
  go_wp2_with fail
  refine HSE.out.mono ?_
  rintro e w3 ⟨A3, c3, rfl, hr3, hb3⟩
  have HB3 := Lib.hid (HB2.out.trans (hb3.mono HB2.out.size))
  have HMA := Lib.hid (BMake_sig oneX oneX_bare 1 (.inl rfl) 32 rfl A2 64 c2 (bytesOf 64 N) A3 64 c3 (bytesOf 64 D) w3 (oneX_ok _) headed1 listed0 rfl (HR2.out.below hb3) HF.out.modul (hr3.bs (bytesOf_fit _ _)) (by omega) (HT.out.below HB3.out))
  rw [HF.out.vn, HF.out.vd] at HMA
  clear hr3 hb3
  go_wp2_with fail
  refine HMA.out.mono ?_
  rintro e w4 ⟨_, hy, hb4⟩
  obtain ⟨A4, n4, c4, rfl, hr4⟩ := hy (by omega)
  have HB4 := Lib.hid (HB3.out.trans (hb4.mono HB3.out.size))
  have hR := madeBl_right (b := oneX.b) (k := 64) (N := N) (D := D) headed1 listed0 (z := 1) (.inl rfl) rfl (by omega) (by omega)
  have hfit : Fit 256 (bbytes (madeBl oneX.b 64 N 1 D)) := bbytes_fit (madeBl_fits (fun d hd => by cases hd))
  have hn4 : n4 ≤ 100000 := by have h1 := hr4.length; have h2 := hR.len_le; rw [cn_length] at h1; omega
  have HCK := Lib.hid (BCheck_any A4 n4 c4 _ w4 (hr4.bs hfit) hn4 (HT.out.below HB4.out))
  clear hr4 hb4 hy hR hfit hn4
  go_wp2_with fail
  refine HCK.out.mono ?_
  intro e w5 h5
  obtain ⟨x, rfl, hxb, hxo, hxn, hb5⟩ := made_checked HF.out headed1 listed0 (.inl rfl) rfl (by decide) h5
  have HB5 := Lib.hid (HB4.out.trans (hb5.mono HB4.out.size))
  have hx5 : x.b.idx = 5 := by rw [hxb]; rfl
  have hsk : x.sk.n = 136 := by
    rw [← hxo.key.rd.1, hxb]
    exact keyBytes_length 64 N
  have hb6 : Below w5.heap.size w5 (w5.alloc (.cells x.cells.toArray 27)) := (Below.refl _ _).alloc (Nat.le_refl _) _
  have hk6 : Blk (w5.alloc (.cells x.cells.toArray 27)) w5.heap.size 27 x.cells := Blk.new _ _ _
  obtain ⟨w6, hw6⟩ : ∃ w6, w5.alloc (.cells x.cells.toArray 27) = w6 := ⟨_, rfl⟩
  rw [hw6] at hb6 hk6
  have HB6 := Lib.hid (HB5.out.trans (hb6.mono HB5.out.size))
  have k1 : w6.cell? ⟨w5.heap.size, 1, none⟩ = some (.int .i64 5) := by rw [← hx5]; exact hk6.cell 1
  have k5 : w6.cell? ⟨w5.heap.size, 5, none⟩ = some (.slice x.sk.A 136 x.sk.cap) := by rw [← hsk]; exact hk6.cell 5
  clear h5 hxb hxo hxn hb5 hx5 hsk hb6 hk6
  unfold BX.val
  go_wp2_with ((with_reducible refine at_dst none ?_); refine wpList_storeNew (w := w5) (op := ⟨none, _, _, _, _, _⟩) rfl 27 (.tmp 5) (.tmp 22) rfl zeroB x.cells rfl rfl rfl iBl x.one ?_; rw [hw6])
  go_ret
  exact ⟨by first | rfl | simp [*], HB6.out⟩
end Go.Proofs.YtlcoebenkhafcaaGreatDoor
namespace Go.Proofs.YtlcoebenkhafcaaGreatDoor
open Go.RowKit Go.ChangeShapes Go.WideShapes Go.ChangeAt
set_option linter.unusedVariables false
set_option linter.unusedSimpArgs false
set_option maxRecDepth 100000
theorem cells5 : Tryz.prog.cellsOf 5 = 1 := by kernel_rfl
theorem cells3 : Tryz.prog.cellsOf 3 = 1 := by kernel_rfl
theorem cells9 : Tryz.prog.cellsOf 9 = 1 := by kernel_rfl
theorem cellsB : Tryz.prog.cellsOf 25 = 1 := by kernel_rfl
theorem cellsDe : Tryz.prog.cellsOf 71 = 11 := by kernel_rfl
theorem own : ownKnob Tryz.prog.godebug = none := by kernel_rfl
theorem laidOut : laidOutB Tryz.prog = true := by kernel_rfl
def listed : List (String × DataW Unit) := Rows.blobOpenRow.laid
structure Dsc (w : World) (A : Option Addr) (n cap : Nat) (xs : List Dx) : Prop where
  dl : DL w A n xs
  le : n ≤ cap
  max : cap ≤ 9223372036854775807
theorem arr4 {α : Type} {cs : Array α} (h : cs.size = 4) : ∃ c0 c1 c2 c3, cs = #[c0, c1, c2, c3] := by
  obtain ⟨l⟩ := cs
  match l, h with
  | [c0, c1, c2, c3], _ => exact ⟨c0, c1, c2, c3, rfl⟩
structure BXLie (w : World) (x : BX) : Prop where
  alg : I64 x.b.alg
  idx : I64 x.b.idx
  flags : I64 x.b.flags
  loc : I64 x.b.loc
  dl : DL w x.sd.A x.sd.n x.xs
  ds : des x.xs = x.b.ds
  dc : x.sd.n ≤ x.sd.cap
  dm : x.sd.cap ≤ 9223372036854775807
  key : Bs w x.sk.A x.sk.n x.sk.cap x.b.key
  hash : Bs w x.sh.A x.sh.n x.sh.cap x.b.hash
  sig : Bs w x.ss.A x.ss.n x.ss.cap x.b.sig
theorem BXLie.ok {w : World} {x : BX} (h : BXLie w x) (hn : x.sd.n ≤ 100000) (hnm : ∀ y ∈ x.xs, y.d.name.length ≤ 100000) : BXOk w x :=
  ⟨h.alg, h.idx, h.flags, h.loc, h.dl, h.ds, hn, h.dc, h.dm, hnm, h.key, h.hash, h.sig⟩
theorem cellsH : Tryz.prog.cellsOf 23 = 4 := by kernel_rfl
section
variable {H : Type} {enc : TypeId × Value → H} {W : World} {base : Nat} {sp : Nat → Bool} {held : Bool}
theorem bytes_of_trod {fuel : Nat} {cs : List Value} {x : DataW H × List MemPlace} (h : DataW.trod enc Tryz.prog W base sp held fuel 25 cs = some x) :
    ∃ (A : Option Addr) (n cap : Nat) (l : List Nat), cs = [.slice A n cap] ∧ Bs W A n cap l := by
  rcases Deep.open_slice1 Tryz.underlying25 cells5 h with ⟨rfl, _⟩ | ⟨a, len, cap, m, k, V, D, Pl, rfl, _, hl, hm, hmm, hxx, hx⟩
  · exact ⟨none, 0, 0, [], rfl, ⟨Rd.nil _ _ _, fun x hx => (by cases hx), Nat.le_refl _, by simp, fun _ => rfl⟩⟩
  · have each : ∀ i, i < len → ∃ b : Nat, b < 256 ∧ W.cell? (a.add i) = some (.int .u8 (b : Int)) := by
      intro i hi
      obtain ⟨hc, ht⟩ := hx i (by rw [hmm]; split <;> omega)
      obtain ⟨z, e, _, hz⟩ := DataW.trod_int Tryz.underlying5 ht
      injection e with e
      rw [e] at hc
      have hb : 0 ≤ z ∧ z ≤ 255 := by
        simp [Lit.wf, IntKind.min, IntKind.max, IntKind.bits, IntKind.signed] at hz
        omega
      refine ⟨z.toNat, by omega, ?_⟩
      rw [hc, Int.toNat_of_nonneg hb.1]
    obtain ⟨b, hb⟩ := Deep.choose_lt each
    refine ⟨some a, len, cap, (List.range len).map b, rfl, ⟨⟨by simp, fun hn => ⟨a, rfl, ?_, fun j v hv => ?_⟩⟩, fun d hd => ?_, hl, by unfold maxLen at hm; omega, fun e => by cases e⟩⟩
    · have := World.block_lt_of_cell? W _ (hb 0 hn).2
      rwa [block_add] at this
    · have hj : j < len := by
        have := (List.getElem?_eq_some_iff.1 hv).1
        simpa using this
      have e : ((List.range len).map b)[j]? = some (b j) := by simp [hj]
      rw [e] at hv
      injection hv with hv
      rw [← hv]
      exact (hb j hj).2
    · obtain ⟨i, hi, rfl⟩ := List.mem_map.1 hd
      exact (hb i (List.mem_range.1 hi)).1
theorem descrs_of_trod {fuel : Nat} {cs : List Value} {x : DataW H × List MemPlace} (h : DataW.trod enc Tryz.prog W base sp held fuel 24 cs = some x) :
    ∃ (A : Option Addr) (n cap : Nat) (xs : List Dx), cs = [.slice A n cap] ∧ Dsc W A n cap xs := by
  rcases Deep.open_slice Tryz.underlying24 h with ⟨rfl, _⟩ | ⟨a, len, cap, m, n, D, Pl, rfl, _, hl, hm, hmm, _, hx⟩
  · exact ⟨none, 0, 0, [], rfl, DL.nil _ _, Nat.le_refl _, by simp⟩
  · have each : ∀ i, i < len → ∃ q : Dx, At W (a.add (i * 11)) q.cells ∧ DxOk W q := by
      intro i hi
      obtain ⟨cs', g1, g2⟩ := hx i (by rw [hmm]; split <;> omega)
      rw [cellsDe] at g1
      obtain ⟨_, hlen, hcell⟩ := World.cells?_some g1
      obtain ⟨xs, k, hk, hxy, _, hxl, hfe⟩ := DataW.trod_struct Tryz.underlying71 g2
      match xs, hxl, cs', hlen with
      | [y0, y1, y2, y3, y4, y5, y6, y7, y8, y9, y10], _, [v0, v1, v2, v3, v4, v5, v6, v7, v8, v9, v10], _ =>
        have f0 := hfe 0 _ rfl
        have f1 := hfe 1 _ rfl
        have f2 := hfe 2 _ rfl
        have f3 := hfe 3 _ rfl
        have f4 := hfe 4 _ rfl
        have f5 := hfe 5 _ rfl
        have f6 := hfe 6 _ rfl
        have f7 := hfe 7 _ rfl
        have f8 := hfe 8 _ rfl
        have f9 := hfe 9 _ rfl
        have f10 := hfe 10 _ rfl
        simp [cells3, cells9, cellsB] at f0 f1 f2 f3 f4 f5 f6 f7 f8 f9 f10
        obtain ⟨n0, e0, _, z0⟩ := DataW.trod_int Tryz.underlying3 f0
        obtain ⟨n1, e1, _, z1⟩ := DataW.trod_int Tryz.underlying3 f1
        obtain ⟨n2, e2, _, z2⟩ := DataW.trod_int Tryz.underlying3 f2
        obtain ⟨n3, e3, _, z3⟩ := DataW.trod_int Tryz.underlying3 f3
        obtain ⟨n4, e4, _, z4⟩ := DataW.trod_int Tryz.underlying3 f4
        obtain ⟨n5, e5, _, z5⟩ := DataW.trod_int Tryz.underlying3 f5
        obtain ⟨s6, e6, _⟩ := DataW.trod_string Tryz.underlying9 f6
        obtain ⟨A7, m7, c7, l7, e7, b7⟩ := bytes_of_trod f7
        obtain ⟨A8, m8, c8, l8, e8, b8⟩ := bytes_of_trod f8
        obtain ⟨A9, m9, c9, l9, e9, b9⟩ := bytes_of_trod f9
        obtain ⟨A10, m10, c10, l10, e10, b10⟩ := bytes_of_trod f10
        simp at e0 e1 e2 e3 e4 e5 e6 e7 e8 e9 e10
        subst e0 e1 e2 e3 e4 e5 e6 e7 e8 e9 e10
        obtain ⟨l6, hf6, rfl⟩ := str_of s6
        refine ⟨⟨⟨n0, n1, n2, n3, n4, n5, l6, l7, l8, l9, l10⟩, ⟨A7, m7, c7⟩, ⟨A8, m8, c8⟩, ⟨A9, m9, c9⟩, ⟨A10, m10, c10⟩⟩, fun j v hj => ?_, i64_wf z0, i64_wf z1, i64_wf z2, i64_wf z3, i64_wf z4, i64_wf z5, hf6, b7, b8, b9, b10⟩
        have hj11 : j < 11 := (List.getElem?_eq_some_iff.1 hj).1
        have t := hcell j hj11
        rw [t, ← hj]
        rcases (by omega : j = 0 ∨ j = 1 ∨ j = 2 ∨ j = 3 ∨ j = 4 ∨ j = 5 ∨ j = 6 ∨ j = 7 ∨ j = 8 ∨ j = 9 ∨ j = 10) with rfl | rfl | rfl | rfl | rfl | rfl | rfl | rfl | rfl | rfl | rfl <;> rfl
    obtain ⟨P, hP⟩ := Deep.choose_lt each
    refine ⟨some a, len, cap, (List.range len).map P, rfl, ⟨by simp, fun hn => ⟨a, rfl, ?_, fun i x hx => ?_⟩, fun x hx => ?_⟩, hl, by unfold maxLen at hm; omega⟩
    · have h0 := (hP 0 hn).1 0 _ rfl
      have := World.block_lt_of_cell? W _ h0
      rwa [block_add, block_add] at this
    · have hi : i < len := by
        have := (List.getElem?_eq_some_iff.1 hx).1
        simpa using this
      have e : ((List.range len).map P)[i]? = some (P i) := by simp [hi]
      rw [e] at hx
      injection hx with hx
      rw [← hx]
      exact (hP i hi).1
    · obtain ⟨i, hi, rfl⟩ := List.mem_map.1 hx
      exact (hP i (List.mem_range.1 hi)).2
theorem head_of_trod {fuel : Nat} {v0 v1 v2 v3 : Value} {x : DataW H × List MemPlace} (h : DataW.trod enc Tryz.prog W base sp held fuel 23 [v0, v1, v2, v3] = some x) :
    ∃ b : Bl, [v0, v1, v2, v3] = hcells b ∧ I64 b.alg ∧ I64 b.idx ∧ I64 b.flags ∧ I64 b.loc ∧ b.ds = [] ∧ b.key = [] ∧ b.hash = [] ∧ b.sig = [] := by
  obtain ⟨xs, k, hk, hxy, _, hxl, hfe⟩ := DataW.trod_struct Tryz.underlying23 h
  match xs, hxl with
  | [y0, y1, y2, y3], _ =>
    have f0 := hfe 0 _ rfl
    have f1 := hfe 1 _ rfl
    have f2 := hfe 2 _ rfl
    have f3 := hfe 3 _ rfl
    simp [cells3] at f0 f1 f2 f3
    obtain ⟨n0, e0, _, z0⟩ := DataW.trod_int Tryz.underlying3 f0
    obtain ⟨n1, e1, _, z1⟩ := DataW.trod_int Tryz.underlying3 f1
    obtain ⟨n2, e2, _, z2⟩ := DataW.trod_int Tryz.underlying3 f2
    obtain ⟨n3, e3, _, z3⟩ := DataW.trod_int Tryz.underlying3 f3
    simp at e0 e1 e2 e3
    subst e0 e1 e2 e3
    exact ⟨⟨n0, n1, n2, n3, [], [], [], []⟩, rfl, i64_wf z0, i64_wf z1, i64_wf z2, i64_wf z3, rfl, rfl, rfl, rfl⟩
end
theorem gLs : Tryz.prog.globalNamed (listed.getD 0 ("", .nil)).1 = some 1 := by kernel_rfl
theorem gLr : Tryz.prog.globalNamed (listed.getD 1 ("", .nil)).1 = some 4 := by kernel_rfl
theorem gSs : Tryz.prog.globalNamed (listed.getD 2 ("", .nil)).1 = some 0 := by kernel_rfl
theorem gSr : Tryz.prog.globalNamed (listed.getD 3 ("", .nil)).1 = some 3 := by kernel_rfl
theorem tLs : (Tryz.prog.globals[1]?).map (·.type) = some 224 := by kernel_rfl
theorem tLr : (Tryz.prog.globals[4]?).map (·.type) = some 238 := by kernel_rfl
theorem tSs : (Tryz.prog.globals[0]?).map (·.type) = some 219 := by kernel_rfl
theorem tSr : (Tryz.prog.globals[3]?).map (·.type) = some 235 := by kernel_rfl
theorem cellsL : Tryz.prog.cellsOf 135 = 1 := by kernel_rfl
theorem cellsL8 : Tryz.prog.cellsOf 224 = 8 := by kernel_rfl
theorem cellsL80 : Tryz.prog.cellsOf 238 = 80 := by kernel_rfl
theorem cellsW : Tryz.prog.cellsOf 133 = 1 := by kernel_rfl
theorem cellsW8 : Tryz.prog.cellsOf 219 = 8 := by kernel_rfl
theorem cellsW64 : Tryz.prog.cellsOf 235 = 64 := by kernel_rfl
def initS : List Int := YtlcoebenkhafcaaGreatDoorSh.init8.list.map YtlcoebenkhafcaaGreatDoorSh.ui
def kS : List Int := YtlcoebenkhafcaaGreatDoorSh.kTab.map YtlcoebenkhafcaaGreatDoorSh.ui
def initL : List Int := YtlcoebenkhafcaaGreatDoorLn.init8.list.map YtlcoebenkhafcaaGreatDoorLn.ui
def kL : List Int := YtlcoebenkhafcaaGreatDoorLn.kTab.map YtlcoebenkhafcaaGreatDoorLn.ui
theorem listed_eq : listed = ((listed.getD 0 ("", .nil)).1, Lib.tabData .u64 initL) :: ((listed.getD 1 ("", .nil)).1, Lib.tabData .u64 kL) :: ((listed.getD 2 ("", .nil)).1, Lib.tabData .u32 initS) :: ((listed.getD 3 ("", .nil)).1, Lib.tabData .u32 kS) :: listed.drop 4 := by kernel_rfl
theorem heap_of_var {W : World} {name : String} {g : Nat} {cs : Array Value} (hg : Tryz.prog.globalNamed name = some g) (h : W.var? Tryz.prog name = some cs) : ∃ t fr, W.heap[g]? = some (.cells cs t fr) := by
  unfold World.var? at h
  rw [hg] at h
  simp only [Option.bind_some] at h
  split at h
  · next c t fr hq =>
    injection h with h
    subst h
    exact ⟨_, _, hq⟩
  · cases h
theorem tabs_of_laid {W : World} (h : laidMetH Tryz.prog listed W) : Both W := by
  rw [MakeChecks.laidMetH_plain _ _ _ (by kernel_rfl), listed_eq] at h
  have h1 := Lib.tabIs_of_head gLs tLs Tryz.underlying224 Tryz.underlying135 cellsL cellsL8 h
  have h2 := Lib.tabIs_of_head gLr tLr Tryz.underlying238 Tryz.underlying135 cellsL cellsL80 h.tail
  have h3 := Lib.tabIs_of_head gSs tSs Tryz.underlying219 Tryz.underlying133 cellsW cellsW8 h.tail.tail
  have h4 := Lib.tabIs_of_head gSr tSr Tryz.underlying235 Tryz.underlying133 cellsW cellsW64 h.tail.tail.tail
  obtain ⟨t1, f1, e1⟩ := heap_of_var gLs h1
  obtain ⟨t2, f2, e2⟩ := heap_of_var gLr h2
  obtain ⟨t3, f3, e3⟩ := heap_of_var gSs h3
  obtain ⟨t4, f4, e4⟩ := heap_of_var gSr h4
  refine ⟨⟨⟨t3, f3, ?_⟩, t4, f4, ?_⟩, ⟨t1, f1, ?_⟩, t2, f2, ?_⟩
  · rw [e3, initS, List.map_map]; rfl
  · rw [e4, kS, List.map_map]; rfl
  · rw [e1, initL, List.map_map]; rfl
  · rw [e2, kL, List.map_map]; rfl
end Go.Proofs.YtlcoebenkhafcaaGreatDoor
namespace Go.Proofs.YtlcoebenkhafcaaGreatDoor
open Go.RowKit
set_option linter.unusedVariables false
set_option linter.unusedSimpArgs false
set_option maxRecDepth 100000
theorem MDescr_any (x : Dx) (w : World) : Calls Tryz.prog 52 #[x.val] w fun e w' => e = .returned x.val ∧ Below w.heap.size w w' := by
  obtain ⟨d0, hu0, hd0⟩ := uD
  obtain ⟨d1, hu1, hd1⟩ := uR
  unfold Dx.val
  obtain ⟨W, hW⟩ : ∃ W, w.alloc (.cells x.cells.toArray 71) = W := ⟨_, rfl⟩
  have X := Lib.hid (Bx.new hW)
  have hb2 : Below W.heap.size W (W.alloc (.cells zeroD.toArray 73)) := (Below.refl _ _).alloc (Nat.le_refl _) _
  have hk2 : Blk (W.alloc (.cells zeroD.toArray 73)) W.heap.size 73 zeroD := Blk.new _ _ _
  obtain ⟨W2, hW2⟩ : ∃ W2, W.alloc (.cells zeroD.toArray 73) = W2 := ⟨_, rfl⟩
  rw [hW2] at hb2 hk2
  have X2 := Lib.hid (X.out.next hb2)
  have HK2 := Lib.hid hk2
  unfold zeroD at hW2
  clear hb2 hk2
  go_enter Tryz.func52, Tryz.ntmps52
  go_wp2_with (first
    | ((with_reducible refine at_dst (some 3) ?_); refine wpList_loadAt (op := ⟨some 3, _, _, _, _, _⟩) rfl 71 (.tmp 1) rfl ⟨w.heap.size, 0, none⟩ rfl x.cells d0 X2.out.blk.at hu0 hd0 iD ?_)
    | ((with_reducible refine at_dst none ?_); refine wpList_storeBlk (op := ⟨none, _, _, _, _, _⟩) rfl 73 (.tmp 2) (.tmp 3) rfl (g := W.heap.size) (t := 73) (old := zeroD) (cs := x.cells) rfl rfl HK2.out rfl iR x.one ?_; intro w9 hB9 ht9))
  exact ret_cell rfl rfl hB9.out.at hu1 hd1 iR rfl ⟨rfl, X2.out.below.trans (ht9.below (fun y hy => by rw [List.mem_singleton.1 hy]; exact X.out.below.size) X2.out.below.size)⟩
def part : Nat → Nat → Nat → List Nat
  | s, 0, _ => List.replicate s 0
  | 0, _ + 1, _ => []
  | s + 1, k + 1, n => part s k (n / 256) ++ [n % 256]
theorem part_zero (s n : Nat) : part s 0 n = List.replicate s 0 := by cases s <;> rfl
theorem part_length : ∀ (s k n : Nat), (part s k n).length = s
  | s, 0, n => by simp [part]
  | 0, k + 1, n => by simp [part]
  | s + 1, k + 1, n => by rw [part, List.length_append, part_length s k]; rfl
theorem part_all : ∀ (s n : Nat), part s s n = be s n
  | 0, n => rfl
  | s + 1, n => by rw [part, part_all s, be]
theorem part_set : ∀ (s k n : Nat), k < s → (part s k n).set (s - 1 - k) (n / 256 ^ k % 256) = part s (k + 1) n
  | 0, k, n, h => by omega
  | s + 1, 0, n, h => by
    have e : part (s + 1) 0 n = List.replicate s 0 ++ [0] := by
      show List.replicate (s + 1) 0 = _
      rw [List.replicate_succ']
    rw [e, show s + 1 - 1 - 0 = s by omega, List.set_append_right _ _ (by simp)]
    simp [part]
  | s + 1, k + 1, n, h => by
    have ih := part_set s k (n / 256) (by omega)
    rw [part, part, ← ih, show s + 1 - 1 - (k + 1) = s - 1 - k by omega, List.set_append_left _ _ (by rw [part_length]; omega)]
    congr 2
    rw [Nat.div_div_eq_div_mul, Nat.pow_succ, Nat.mul_comm]
end Go.Proofs.YtlcoebenkhafcaaGreatDoor
namespace Go.Proofs.YtlcoebenkhafcaaGreatDoor
open Go.RowKit
set_option linter.unusedVariables false
set_option linter.unusedSimpArgs false
set_option maxRecDepth 100000
def SmallX (x : Dx) : Prop := x.d.name.length ≤ 200 ∧ x.s1.n ≤ 200 ∧ x.s2.n ≤ 200 ∧ x.s3.n ≤ 1100 ∧ x.s4.n ≤ 400
def SmallP (w : World) (xs : List Dx) (n : Nat) (e : Ending) (w' : World) : Prop := ∃ b, e = .returned (.bool b) ∧ (b = true → (∀ x ∈ xs, SmallX x) ∧ n ≤ 40) ∧ Below w.heap.size w w'
set_option maxHeartbeats 2000000 in
theorem Small_any (A : Option Addr) (n cap : Nat) (xs : List Dx) (w : World) (hd : DL w A n xs) (hc : n ≤ cap) (hm : cap ≤ 9223372036854775807) : Calls Tryz.prog 22 #[.slice A n cap] w (SmallP w xs n) := by
  obtain ⟨d0, hu0, hd0⟩ := uD
  have HD := Lib.hid hd
  clear hd
  go_enter Tryz.func22, Tryz.ntmps22
  go_wp2
  go_loopw [7] (fun o wr => ∃ i : Nat, i ≤ n ∧ o = .int .i64 (i : Int) ∧ (∀ (j : Nat) y, j < i → xs[j]? = some y → SmallX y) ∧ Hid (Below w.heap.size w wr)) (fun o _ => n - (intOf o).toNat)
  case atStart => exact ⟨0, Nat.zero_le _, rfl, fun j y h => absurd h (Nat.not_lt_zero j), Below.refl _ _⟩
  case round =>
    obtain ⟨i, hi, rfl, hall, HB⟩ := hrel
    have HA := Lib.hid hall
    clear hall
    by_cases hin : i < n
    · have hin2 : (i : Int) < (n : Int) := by omega
      obtain ⟨ad, y, rfl, had, hy, hym, hAt, hok⟩ := (HD.out.below HB.out).get hin
      have HAT := Lib.hid hAt
      have HY := Lib.hid hy
      have hb1 : Below wr.heap.size wr (wr.alloc (.cells y.cells.toArray 71)) := (Below.refl _ _).alloc (Nat.le_refl _) _
      have hk1 : Blk (wr.alloc (.cells y.cells.toArray 71)) wr.heap.size 71 y.cells := Blk.new _ _ _
      obtain ⟨wz, hwz⟩ : ∃ wz, wr.alloc (.cells y.cells.toArray 71) = wz := ⟨_, rfl⟩
      rw [hwz] at hb1 hk1
      have HBB : Hid (Below w.heap.size w wz) := HB.out.trans (hb1.mono HB.out.size)
      have c6 : wz.cell? ⟨wr.heap.size, 6, none⟩ = some (.string (str y.d.name)) := hk1.cell 6
      have c7 : wz.cell? ⟨wr.heap.size, 7, none⟩ = some (.slice y.s1.A y.s1.n y.s1.cap) := hk1.cell 7
      have c8 : wz.cell? ⟨wr.heap.size, 8, none⟩ = some (.slice y.s2.A y.s2.n y.s2.cap) := hk1.cell 8
      have c9 : wz.cell? ⟨wr.heap.size, 9, none⟩ = some (.slice y.s3.A y.s3.n y.s3.cap) := hk1.cell 9
      have c10 : wz.cell? ⟨wr.heap.size, 10, none⟩ = some (.slice y.s4.A y.s4.n y.s4.cap) := hk1.cell 10
      have hsz := str_size y.d.name
      obtain ⟨m0, hm0⟩ : ∃ m, y.d.name.length = m := ⟨_, rfl⟩
      have HM0 := Lib.hid hm0
      rw [hm0] at hsz
      obtain ⟨m1, hm1⟩ : ∃ m, y.s1.n = m := ⟨_, rfl⟩
      obtain ⟨m2, hm2⟩ : ∃ m, y.s2.n = m := ⟨_, rfl⟩
      obtain ⟨m3, hm3⟩ : ∃ m, y.s3.n = m := ⟨_, rfl⟩
      obtain ⟨m4, hm4⟩ : ∃ m, y.s4.n = m := ⟨_, rfl⟩
      have HMM := Lib.hid (And.intro hm1 (And.intro hm2 (And.intro hm3 hm4)))
      rw [hm1] at c7
      rw [hm2] at c8
      rw [hm3] at c9
      rw [hm4] at c10
      clear hAt hy hok had hb1 hk1 hym hm0 hm1 hm2 hm3 hm4
      by_cases hh0 : m0 ≤ 200
      · have z0 : ¬ (200 : Int) < (m0 : Int) := by omega
        by_cases hh1 : m1 ≤ 200
        · have z1 : ¬ (200 : Int) < (m1 : Int) := by omega
          by_cases hh2 : m2 ≤ 200
          · have z2 : ¬ (200 : Int) < (m2 : Int) := by omega
            by_cases hh3 : m3 ≤ 1100
            · have z3 : ¬ (1100 : Int) < (m3 : Int) := by omega
              by_cases hh4 : m4 ≤ 400
              · have z4 : ¬ (400 : Int) < (m4 : Int) := by omega
                have HSM : Hid (SmallX y) := by show SmallX y; unfold SmallX; rw [HM0.out, HMM.out.1, HMM.out.2.1, HMM.out.2.2.1, HMM.out.2.2.2]; omega
                clear hh0 hh1 hh2 hh3 hh4
                go_wp2_with (first
                  | ((with_reducible refine at_dst (some 10) ?_); refine wpList_loadAt (op := ⟨some 10, _, _, _, _, _⟩) rfl 71 (.tmp 9) rfl (ad.add (i * 11)) rfl y.cells d0 HAT.out hu0 hd0 iD ?_)
                  | ((with_reducible refine at_dst none ?_); refine wpList_storeNew (w := wr) (op := ⟨none, _, _, _, _, _⟩) rfl 71 (.tmp 4) (.tmp 10) rfl zeroD y.cells rfl rfl rfl iD y.one ?_; rw [hwz]))
                go_roundw
                case rel =>
                  refine ⟨i + 1, by omega, by go_num, fun j y' hj hy' => ?_, HBB⟩
                  by_cases e : j = i
                  · subst e
                    rw [HY.out] at hy'
                    injection hy' with hy'
                    rw [← hy']; exact HSM.out
                  · exact HA.out j y' (by omega) hy'
                case measure => simp [intOf]; omega
              · have z4 : (400 : Int) < (m4 : Int) := by omega
                clear hh0 hh1 hh2 hh3 hh4
                go_wp2_with (first
                  | ((with_reducible refine at_dst (some 10) ?_); refine wpList_loadAt (op := ⟨some 10, _, _, _, _, _⟩) rfl 71 (.tmp 9) rfl (ad.add (i * 11)) rfl y.cells d0 HAT.out hu0 hd0 iD ?_)
                  | ((with_reducible refine at_dst none ?_); refine wpList_storeNew (w := wr) (op := ⟨none, _, _, _, _, _⟩) rfl 71 (.tmp 4) (.tmp 10) rfl zeroD y.cells rfl rfl rfl iD y.one ?_; rw [hwz]))
                go_ret
                exact ⟨false, rfl, fun h => (by cases h), HBB.out⟩
            · have z3 : (1100 : Int) < (m3 : Int) := by omega
              clear hh0 hh1 hh2 hh3
              go_wp2_with (first
                | ((with_reducible refine at_dst (some 10) ?_); refine wpList_loadAt (op := ⟨some 10, _, _, _, _, _⟩) rfl 71 (.tmp 9) rfl (ad.add (i * 11)) rfl y.cells d0 HAT.out hu0 hd0 iD ?_)
                | ((with_reducible refine at_dst none ?_); refine wpList_storeNew (w := wr) (op := ⟨none, _, _, _, _, _⟩) rfl 71 (.tmp 4) (.tmp 10) rfl zeroD y.cells rfl rfl rfl iD y.one ?_; rw [hwz]))
              go_ret
              exact ⟨false, rfl, fun h => (by cases h), HBB.out⟩
          · have z2 : (200 : Int) < (m2 : Int) := by omega
            clear hh0 hh1 hh2
            go_wp2_with (first
              | ((with_reducible refine at_dst (some 10) ?_); refine wpList_loadAt (op := ⟨some 10, _, _, _, _, _⟩) rfl 71 (.tmp 9) rfl (ad.add (i * 11)) rfl y.cells d0 HAT.out hu0 hd0 iD ?_)
              | ((with_reducible refine at_dst none ?_); refine wpList_storeNew (w := wr) (op := ⟨none, _, _, _, _, _⟩) rfl 71 (.tmp 4) (.tmp 10) rfl zeroD y.cells rfl rfl rfl iD y.one ?_; rw [hwz]))
            go_ret
            exact ⟨false, rfl, fun h => (by cases h), HBB.out⟩
        · have z1 : (200 : Int) < (m1 : Int) := by omega
          clear hh0 hh1
          go_wp2_with (first
            | ((with_reducible refine at_dst (some 10) ?_); refine wpList_loadAt (op := ⟨some 10, _, _, _, _, _⟩) rfl 71 (.tmp 9) rfl (ad.add (i * 11)) rfl y.cells d0 HAT.out hu0 hd0 iD ?_)
            | ((with_reducible refine at_dst none ?_); refine wpList_storeNew (w := wr) (op := ⟨none, _, _, _, _, _⟩) rfl 71 (.tmp 4) (.tmp 10) rfl zeroD y.cells rfl rfl rfl iD y.one ?_; rw [hwz]))
          go_ret
          exact ⟨false, rfl, fun h => (by cases h), HBB.out⟩
      · have z0 : (200 : Int) < (m0 : Int) := by omega
        clear hh0
        go_wp2_with (first
          | ((with_reducible refine at_dst (some 10) ?_); refine wpList_loadAt (op := ⟨some 10, _, _, _, _, _⟩) rfl 71 (.tmp 9) rfl (ad.add (i * 11)) rfl y.cells d0 HAT.out hu0 hd0 iD ?_)
          | ((with_reducible refine at_dst none ?_); refine wpList_storeNew (w := wr) (op := ⟨none, _, _, _, _, _⟩) rfl 71 (.tmp 4) (.tmp 10) rfl zeroD y.cells rfl rfl rfl iD y.one ?_; rw [hwz]))
        go_ret
        exact ⟨false, rfl, fun h => (by cases h), HBB.out⟩
    · obtain rfl : i = n := by omega
      have HALL : Hid (∀ x ∈ xs, SmallX x) := fun x hx => by
        obtain ⟨j, hj, rfl⟩ := List.getElem_of_mem hx
        exact HA.out j _ (by rw [HD.out.len] at hj; exact hj) (List.getElem?_eq_getElem hj)
      by_cases h40 : i ≤ 40
      · have z40 : (i : Int) ≤ 40 := by omega
        go_wp2
        go_ret
        exact ⟨true, by first | rfl | simp [*], fun _ => ⟨HALL.out, h40⟩, HB.out⟩
      · have z40 : ¬ (i : Int) ≤ 40 := by omega
        go_wp2
        go_ret
        exact ⟨false, by first | rfl | simp [*], fun h => (by cases h), HB.out⟩
set_option maxHeartbeats 4000000 in
theorem Same_any (x y : Dx) (w : World) (hx : DxOk w x) (hy : DxOk w y) : Calls Tryz.prog 51 #[x.val, y.val] w fun e w' => e = .returned (.bool (decide (x.d = y.d))) ∧ Below w.heap.size w w' := by
  unfold Dx.val
  obtain ⟨W, hW⟩ : ∃ W, w.alloc (.cells x.cells.toArray 73) = W := ⟨_, rfl⟩
  have X := Lib.hid (Bx.new hW)
  have hb2 : Below W.heap.size W (W.alloc (.cells y.cells.toArray 73)) := (Below.refl _ _).alloc (Nat.le_refl _) _
  obtain ⟨W2, hW2⟩ : ∃ W2, W.alloc (.cells y.cells.toArray 73) = W2 := ⟨_, rfl⟩
  have Y := Lib.hid (Bx.new hW2)
  rw [hW2] at hb2
  have X2 := Lib.hid (X.out.next hb2)
  have c0 : W2.cell? ⟨w.heap.size, 0, none⟩ = some (.int .i64 x.d.kind) := X2.out.blk.cell 0
  have c1 : W2.cell? ⟨w.heap.size, 1, none⟩ = some (.int .i64 x.d.alg) := X2.out.blk.cell 1
  have c2 : W2.cell? ⟨w.heap.size, 2, none⟩ = some (.int .i64 x.d.size) := X2.out.blk.cell 2
  have c3 : W2.cell? ⟨w.heap.size, 3, none⟩ = some (.int .i64 x.d.block) := X2.out.blk.cell 3
  have c4 : W2.cell? ⟨w.heap.size, 4, none⟩ = some (.int .i64 x.d.off) := X2.out.blk.cell 4
  have c5 : W2.cell? ⟨w.heap.size, 5, none⟩ = some (.int .i64 x.d.loc) := X2.out.blk.cell 5
  have c6 : W2.cell? ⟨w.heap.size, 6, none⟩ = some (.string (str x.d.name)) := X2.out.blk.cell 6
  have c7 : W2.cell? ⟨w.heap.size, 7, none⟩ = some (.slice x.s1.A x.s1.n x.s1.cap) := X2.out.blk.cell 7
  have c8 : W2.cell? ⟨w.heap.size, 8, none⟩ = some (.slice x.s2.A x.s2.n x.s2.cap) := X2.out.blk.cell 8
  have c9 : W2.cell? ⟨w.heap.size, 9, none⟩ = some (.slice x.s3.A x.s3.n x.s3.cap) := X2.out.blk.cell 9
  have c10 : W2.cell? ⟨w.heap.size, 10, none⟩ = some (.slice x.s4.A x.s4.n x.s4.cap) := X2.out.blk.cell 10
  have e0 : W2.cell? ⟨W.heap.size, 0, none⟩ = some (.int .i64 y.d.kind) := Y.out.blk.cell 0
  have e1 : W2.cell? ⟨W.heap.size, 1, none⟩ = some (.int .i64 y.d.alg) := Y.out.blk.cell 1
  have e2 : W2.cell? ⟨W.heap.size, 2, none⟩ = some (.int .i64 y.d.size) := Y.out.blk.cell 2
  have e3 : W2.cell? ⟨W.heap.size, 3, none⟩ = some (.int .i64 y.d.block) := Y.out.blk.cell 3
  have e4 : W2.cell? ⟨W.heap.size, 4, none⟩ = some (.int .i64 y.d.off) := Y.out.blk.cell 4
  have e5 : W2.cell? ⟨W.heap.size, 5, none⟩ = some (.int .i64 y.d.loc) := Y.out.blk.cell 5
  have e6 : W2.cell? ⟨W.heap.size, 6, none⟩ = some (.string (str y.d.name)) := Y.out.blk.cell 6
  have e7 : W2.cell? ⟨W.heap.size, 7, none⟩ = some (.slice y.s1.A y.s1.n y.s1.cap) := Y.out.blk.cell 7
  have e8 : W2.cell? ⟨W.heap.size, 8, none⟩ = some (.slice y.s2.A y.s2.n y.s2.cap) := Y.out.blk.cell 8
  have e9 : W2.cell? ⟨W.heap.size, 9, none⟩ = some (.slice y.s3.A y.s3.n y.s3.cap) := Y.out.blk.cell 9
  have e10 : W2.cell? ⟨W.heap.size, 10, none⟩ = some (.slice y.s4.A y.s4.n y.s4.cap) := Y.out.blk.cell 10
  have hx2 := hx.below X2.out.below
  have hy2 := hy.below X2.out.below
  have r0 := rd_str hx2.salt.rd x.s1.cap
  have t0 := rd_str hy2.salt.rd y.s1.cap
  have u0 := str_same hx2.salt.fit hy2.salt.fit
  have r1 := rd_str hx2.digest.rd x.s2.cap
  have t1 := rd_str hy2.digest.rd y.s2.cap
  have u1 := str_same hx2.digest.fit hy2.digest.fit
  have r2 := rd_str hx2.key.rd x.s3.cap
  have t2 := rd_str hy2.key.rd y.s3.cap
  have u2 := str_same hx2.key.fit hy2.key.fit
  have r3 := rd_str hx2.value.rd x.s4.cap
  have t3 := rd_str hy2.value.rd y.s4.cap
  have u3 := str_same hx2.value.fit hy2.value.fit
  have un := str_same hx2.name hy2.name
  obtain ⟨D, hD⟩ : ∃ D, decide (x.d = y.d) = D := ⟨_, rfl⟩
  have HD := Lib.hid hD
  rw [hD]
  have HEQ : Hid (x.d.kind = y.d.kind → x.d.alg = y.d.alg → x.d.size = y.d.size → x.d.block = y.d.block → x.d.off = y.d.off → x.d.loc = y.d.loc → x.d.name = y.d.name → x.d.salt = y.d.salt → x.d.digest = y.d.digest → x.d.key = y.d.key → x.d.value = y.d.value → x.d = y.d) := by
    intro a1 a2 a3 a4 a5 a6 a7 a8 a9 a10 a11
    obtain ⟨d, _, _, _, _⟩ := x
    obtain ⟨d', _, _, _, _⟩ := y
    cases d; cases d'
    simp_all
  clear hx hy hx2 hy2 hb2 hD
  by_cases hh0 : x.d.kind = y.d.kind
  · have q0 : (x.d.kind != y.d.kind) = false := by simp [hh0]
    by_cases hh1 : x.d.alg = y.d.alg
    · have q1 : (x.d.alg != y.d.alg) = false := by simp [hh1]
      by_cases hh2 : x.d.size = y.d.size
      · have q2 : (x.d.size != y.d.size) = false := by simp [hh2]
        by_cases hh3 : x.d.block = y.d.block
        · have q3 : (x.d.block != y.d.block) = false := by simp [hh3]
          by_cases hh4 : x.d.off = y.d.off
          · have q4 : (x.d.off != y.d.off) = false := by simp [hh4]
            by_cases hh5 : x.d.loc = y.d.loc
            · have q5 : (x.d.loc != y.d.loc) = false := by simp [hh5]
              by_cases hh6 : x.d.name = y.d.name
              · rw [decide_eq_true hh6] at un
                by_cases hh7 : x.d.salt = y.d.salt
                · rw [decide_eq_true hh7] at u0
                  by_cases hh8 : x.d.digest = y.d.digest
                  · rw [decide_eq_true hh8] at u1
                    by_cases hh9 : x.d.key = y.d.key
                    · rw [decide_eq_true hh9] at u2
                      by_cases hh10 : x.d.value = y.d.value
                      · rw [decide_eq_true hh10] at u3
                        have E : Hid (D = true) := HD.out.symm.trans (decide_eq_true (HEQ.out hh0 hh1 hh2 hh3 hh4 hh5 hh6 hh7 hh8 hh9 hh10))
                        clear hh0 hh1 hh2 hh3 hh4 hh5 hh6 hh7 hh8 hh9 hh10
                        go_enter Tryz.func51, Tryz.ntmps51
                        go_wp2
                        go_ret
                        exact ⟨by rw [E.out]; first | rfl | simp [*], X2.out.below⟩
                      · rw [decide_eq_false hh10] at u3
                        have E : Hid (D = false) := HD.out.symm.trans (decide_eq_false (fun h => hh10 (by rw [h])))
                        clear hh0 hh1 hh2 hh3 hh4 hh5 hh6 hh7 hh8 hh9 hh10
                        go_enter Tryz.func51, Tryz.ntmps51
                        go_wp2
                        go_ret
                        exact ⟨by rw [E.out]; first | rfl | simp [*], X2.out.below⟩
                    · rw [decide_eq_false hh9] at u2
                      have E : Hid (D = false) := HD.out.symm.trans (decide_eq_false (fun h => hh9 (by rw [h])))
                      clear hh0 hh1 hh2 hh3 hh4 hh5 hh6 hh7 hh8 hh9
                      go_enter Tryz.func51, Tryz.ntmps51
                      go_wp2
                      go_ret
                      exact ⟨by rw [E.out]; first | rfl | simp [*], X2.out.below⟩
                  · rw [decide_eq_false hh8] at u1
                    have E : Hid (D = false) := HD.out.symm.trans (decide_eq_false (fun h => hh8 (by rw [h])))
                    clear hh0 hh1 hh2 hh3 hh4 hh5 hh6 hh7 hh8
                    go_enter Tryz.func51, Tryz.ntmps51
                    go_wp2
                    go_ret
                    exact ⟨by rw [E.out]; first | rfl | simp [*], X2.out.below⟩
                · rw [decide_eq_false hh7] at u0
                  have E : Hid (D = false) := HD.out.symm.trans (decide_eq_false (fun h => hh7 (by rw [h])))
                  clear hh0 hh1 hh2 hh3 hh4 hh5 hh6 hh7
                  go_enter Tryz.func51, Tryz.ntmps51
                  go_wp2
                  go_ret
                  exact ⟨by rw [E.out]; first | rfl | simp [*], X2.out.below⟩
              · rw [decide_eq_false hh6] at un
                have E : Hid (D = false) := HD.out.symm.trans (decide_eq_false (fun h => hh6 (by rw [h])))
                clear hh0 hh1 hh2 hh3 hh4 hh5 hh6
                go_enter Tryz.func51, Tryz.ntmps51
                go_wp2
                go_ret
                exact ⟨by rw [E.out]; first | rfl | simp [*], X2.out.below⟩
            · have q5 : (x.d.loc != y.d.loc) = true := by simp [hh5]
              have E : Hid (D = false) := HD.out.symm.trans (decide_eq_false (fun h => hh5 (by rw [h])))
              clear hh0 hh1 hh2 hh3 hh4 hh5
              go_enter Tryz.func51, Tryz.ntmps51
              go_wp2
              go_ret
              exact ⟨by rw [E.out]; first | rfl | simp [*], X2.out.below⟩
          · have q4 : (x.d.off != y.d.off) = true := by simp [hh4]
            have E : Hid (D = false) := HD.out.symm.trans (decide_eq_false (fun h => hh4 (by rw [h])))
            clear hh0 hh1 hh2 hh3 hh4
            go_enter Tryz.func51, Tryz.ntmps51
            go_wp2
            go_ret
            exact ⟨by rw [E.out]; first | rfl | simp [*], X2.out.below⟩
        · have q3 : (x.d.block != y.d.block) = true := by simp [hh3]
          have E : Hid (D = false) := HD.out.symm.trans (decide_eq_false (fun h => hh3 (by rw [h])))
          clear hh0 hh1 hh2 hh3
          go_enter Tryz.func51, Tryz.ntmps51
          go_wp2
          go_ret
          exact ⟨by rw [E.out]; first | rfl | simp [*], X2.out.below⟩
      · have q2 : (x.d.size != y.d.size) = true := by simp [hh2]
        have E : Hid (D = false) := HD.out.symm.trans (decide_eq_false (fun h => hh2 (by rw [h])))
        clear hh0 hh1 hh2
        go_enter Tryz.func51, Tryz.ntmps51
        go_wp2
        go_ret
        exact ⟨by rw [E.out]; first | rfl | simp [*], X2.out.below⟩
    · have q1 : (x.d.alg != y.d.alg) = true := by simp [hh1]
      have E : Hid (D = false) := HD.out.symm.trans (decide_eq_false (fun h => hh1 (by rw [h])))
      clear hh0 hh1
      go_enter Tryz.func51, Tryz.ntmps51
      go_wp2
      go_ret
      exact ⟨by rw [E.out]; first | rfl | simp [*], X2.out.below⟩
  · have q0 : (x.d.kind != y.d.kind) = true := by simp [hh0]
    have E : Hid (D = false) := HD.out.symm.trans (decide_eq_false (fun h => hh0 (by rw [h])))
    clear hh0
    go_enter Tryz.func51, Tryz.ntmps51
    go_wp2
    go_ret
    exact ⟨by rw [E.out]; first | rfl | simp [*], X2.out.below⟩
end Go.Proofs.YtlcoebenkhafcaaGreatDoor
