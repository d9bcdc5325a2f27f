/-
  What body and bytes answer of a right descriptor. No condition but that the texts are bytes that fit.
-/
import Derived.Test.YtfeihdmjcppbaaaDoorSq
namespace Go.Proofs.YtfeihdmjcppbaaaDoor
open Go.RowKit
set_option linter.unusedVariables false
set_option linter.unusedSimpArgs false
set_option maxRecDepth 100000

theorem Blk.row {w : World} {g B : Nat} {l : List Nat} (h : Blk w g 5 (cn .u8 l)) (hB : B ≤ g) (m : Nat) (hm : l.length = m) (hm2 : m ≤ 1000000) : Row w B 5 (some ⟨g, 0, none⟩) m m (cn .u8 l) :=
  ⟨by rw [cn_length]; omega, .inr ⟨g, m, (cn .u8 l).toArray, rfl, hB, h, Nat.le_refl _, by unfold maxLen; omega, by simp [cn_length]; omega, by simp [cn_length, hm]; rw [List.take_of_length_le (by rw [cn_length]; omega)]⟩⟩
theorem Row.mono {w : World} {B B' : Nat} {e : TypeId} {A : Option Addr} {n cap : Nat} {xs : List Value} (h : Row w B e A n cap xs) (hb : B' ≤ B) : Row w B' e A n cap xs :=
  ⟨h.1, h.2.imp id fun ⟨g, cap, cur, h1, h2, h3⟩ => ⟨g, cap, cur, h1, Nat.le_trans hb h2, h3⟩⟩
theorem Rd.srcs {k : IntKind} {w : World} {A : Option Addr} {n : Nat} {l : List Nat} (h : Rd k w A n l) (c : Nat) (hc : A = none → c = 0) : A = none ∧ c = 0 ∨ ∃ ad, A = some ad ∧ ∀ j u, (cn k l)[j]? = some u → w.cell? (ad.add j) = some u := by
  cases A with
  | none => exact .inl ⟨rfl, hc rfl⟩
  | some ad =>
    refine .inr ⟨ad, rfl, fun j u hu => ?_⟩
    have hj := (List.getElem?_eq_some_iff.1 hu).1
    rw [cn_length] at hj
    obtain ⟨x, hx⟩ := get_some hj
    rw [cn_get hx] at hu
    injection hu with hu
    obtain ⟨ad', e, _, hcell⟩ := h.2 (by rw [← h.1]; omega)
    injection e with e
    rw [← hu, e]; exact hcell j x hx
/-- The numbers' bytes, of which the first i are laid. -/
def numsTo (d : De) : Nat → List Nat
  | 0 => []
  | i + 1 => numsTo d i ++ be (szi i) (nv d i).toNat
theorem numsTo_all (d : De) : numsTo d 5 = nums d := by simp [numsTo, nums, nv, szi]
theorem numsTo_le (d : De) {i : Nat} (h : i ≤ 5) : (numsTo d i).length ≤ 28 := by
  rcases (by omega : i = 0 ∨ i = 1 ∨ i = 2 ∨ i = 3 ∨ i = 4 ∨ i = 5) with rfl | rfl | rfl | rfl | rfl | rfl <;> simp [numsTo, szi, be_length]
theorem numsTo_fit (d : De) : ∀ i, Fit 256 (numsTo d i)
  | 0 => Fit.nil _
  | i + 1 => (numsTo_fit d i).append (be_fit _ _)
theorem nv_bds {d : De} (h : Bds d) {i : Nat} (hi : i < 5) : ∃ v : Nat, nv d i = (v : Int) ∧ (nv d i).toNat = v ∧ v < 256 ^ szi i ∧ v ≤ 9223372036854775807 ∧ 1 ≤ szi i ∧ szi i ≤ 8 := by
  have a0 := h.alg
  have a1 := h.size
  have a2 := h.block
  have a3 := h.off
  have a4 := h.loc
  refine ⟨(nv d i).toNat, ?_⟩
  rcases (by omega : i = 0 ∨ i = 1 ∨ i = 2 ∨ i = 3 ∨ i = 4) with rfl | rfl | rfl | rfl | rfl <;> simp only [nv, szi] <;> refine ⟨by omega, trivial, by omega, by omega, by omega, by omega⟩
/-- The lengths' bytes. -/
def lensTo (ps : List Bt) : Nat → List Nat
  | 0 => []
  | i + 1 => lensTo ps i ++ be 4 ((ps.map (·.l.length)).getD i 0)
theorem lensTo_all {x : Dx} {ps : List Bt} (h : PartsOf x ps) : lensTo ps 5 = lens x.d := by
  simp only [lensTo, h.lens, lens]
  simp
theorem lensTo_length (ps : List Bt) : ∀ i, (lensTo ps i).length = 4 * i
  | 0 => rfl
  | i + 1 => by rw [lensTo, List.length_append, lensTo_length ps i, be_length]; omega
theorem lensTo_fit (ps : List Bt) : ∀ i, Fit 256 (lensTo ps i)
  | 0 => Fit.nil _
  | i + 1 => (lensTo_fit ps i).append (be_fit _ _)
theorem part_le {x : Dx} {ps : List Bt} (h : PartsOf x ps) (hb : Bds x.d) {i : Nat} {p : Bt} (hp : ps[i]? = some p) : p.l.length ≤ 1032 ∧ (ps.map (·.l.length)).getD i 0 = p.l.length := by
  have e := h.get hp
  refine ⟨?_, by simp [List.getD, hp]⟩
  have b0 := hb.name
  have b1 := hb.salt
  have b2 := hb.digest
  have b3 := hb.key
  have b4 := hb.value
  rcases i with _ | _ | _ | _ | _ | i <;> simp at e <;> rw [← e] <;> omega
set_option maxHeartbeats 4000000 in
theorem body_any (x : Dx) (w : World) (hx : DxOk w x) (hr : Right x.d) : Calls Tryd.prog 44 #[x.val] w fun e w' => ∃ g M, e = .returned (.slice (some ⟨g, 0, none⟩) M M) ∧ (body x.d).length = M ∧ w.heap.size ≤ g ∧ Blk w' g 5 (cn .u8 (body x.d)) ∧ Below w.heap.size w w' := by
  obtain ⟨d0, hu0, hd0⟩ := uD
  have HBD := Lib.hid hr.bds
  have HTL := Lib.hid hr.tlen_le
  have hnl : x.d.name.length ≤ 100000 := by have := hr.bds.name; omega
  have HNL := Lib.hid hnl
  obtain ⟨i0, hi0, hz0, hz1, hz2⟩ := info_parts byteInfo
  have HI0 := Lib.hid (And.intro hi0 (And.intro hz0 (And.intro hz1 hz2)))
  clear hi0 hz0 hz1 hz2 hr hnl
  unfold Dx.val
  obtain ⟨W, hW⟩ : ∃ W, w.alloc (.cells x.cells.toArray 27) = W := ⟨_, rfl⟩
  have X := Lib.hid (Bx.new hW)
  have HX := Lib.hid hx
  clear hx
  go_enter Tryd.func44, Tryd.ntmps44
  go_wp2_with fail
  refine (numbers_any w.heap.size W).mono ?_
  rintro e w1 ⟨b, rfl, hb, hB, hb1⟩
  have I0 : Hid (Bx w w.heap.size 27 x w1 ∧ Blk w1 b 66 (numCells w.heap.size) ∧ w.heap.size < b ∧ b < w1.heap.size) := ⟨X.out.next hb1, hB, Nat.lt_of_lt_of_le X.out.lt hb, hB.lt⟩
  obtain ⟨B, hBB⟩ : ∃ B, w1.heap.size = B := ⟨_, rfl⟩
  have HBB := Lib.hid hBB
  clear hB hb hb1 hBB
  go_wp2
  go_loopw [3, 10] (fun a o wr => ∃ i : Nat, i ≤ 5 ∧ o = .int .i64 (i : Int) ∧ ∃ A k cap, a = .slice A k cap ∧ Hid (Below B w1 wr ∧ Row wr B 5 A k cap (cn .u8 (numsTo x.d i)) ∧ B ≤ wr.heap.size)) (fun _ o _ => 5 - (intOf o).toNat)
  case atStart => exact ⟨0, by omega, rfl, none, 0, 0, rfl, by rw [← HBB.out]; exact ⟨Below.refl _ _, Row.nil _ _ _, Nat.le_refl _⟩⟩
  case round =>
    obtain ⟨i, hi, rfl, A, k, cap, rfl, HR⟩ := hrel
    have hnum := I0.out.2.1.below (B := B) HR.out.1 (by rw [← HBB.out]; exact I0.out.2.2.2)
    have hbox := I0.out.1.blk.below (B := B) HR.out.1 (by rw [← HBB.out]; exact I0.out.1.lt)
    have hk28 : k ≤ 28 := by have h1 := HR.out.2.1.length; rw [cn_length] at h1; have h2 := numsTo_le x.d hi; omega
    by_cases hin : i < 5
    · have hin2 : (i : Int) < 5 := by omega
      have g0 : wr.cell? ⟨b, i * 2, none⟩ = some (.pointer (some ⟨w.heap.size, i + 1, none⟩)) := (hnum.cell _).trans (num_get _ hin).1
      have g1 : wr.cell? ⟨b, i * 2 + 1, none⟩ = some (.int .i64 (szi i : Nat)) := (hnum.cell _).trans (num_get _ hin).2
      have g2 : wr.cell? ⟨w.heap.size, i + 1, none⟩ = some (.int .i64 (nv x.d i)) := (hbox.cell _).trans (cells_nv x hin)
      obtain ⟨v, hv1, hv2, hv3, hv4, hv5, hv6⟩ := nv_bds HBD.out hin
      rw [hv1] at g2
      have hlt : w.heap.size < wr.heap.size := hbox.lt
      have hzb : Below wr.heap.size wr (wr.alloc (.cells #[.pointer (some ⟨w.heap.size, i + 1, none⟩), .int .i64 (szi i : Nat)] 66)) := (Below.refl _ _).alloc (Nat.le_refl _) _
      have hzk : Blk (wr.alloc (.cells #[.pointer (some ⟨w.heap.size, i + 1, none⟩), .int .i64 (szi i : Nat)] 66)) wr.heap.size 66 [.pointer (some ⟨w.heap.size, i + 1, none⟩), .int .i64 (szi i : Nat)] := Blk.new _ _ _
      obtain ⟨wz, hwz⟩ : ∃ wz, wr.alloc (.cells #[.pointer (some ⟨w.heap.size, i + 1, none⟩), .int .i64 (szi i : Nat)] 66) = wz := ⟨_, rfl⟩
      rw [hwz] at hzb hzk
      have q0 : wz.cell? ⟨wr.heap.size, 0, none⟩ = some (.pointer (some ⟨w.heap.size, i + 1, none⟩)) := hzk.cell 0
      have q1 : wz.cell? ⟨wr.heap.size, 1, none⟩ = some (.int .i64 (szi i : Nat)) := hzk.cell 1
      have q2 : wz.cell? ⟨w.heap.size, i + 1, none⟩ = some (.int .i64 (v : Int)) := (hzb.cell (p := ⟨w.heap.size, i + 1, none⟩) hlt).trans g2
      have hrow := HR.out.2.1
      have hrdz : Rd .u8 wz.drew A k (numsTo x.d i) := (hrow.rd.below hzb).drewN 1
      have HPUT := Lib.hid (Put_n A k cap (numsTo x.d i) (szi i) v _ _ rfl rfl hv5 hv6 hv3 hv4 wz.drew hrdz (numsTo_fit _ _) (by omega) (k + szi i) rfl)
      have HZ : Hid (Below wr.heap.size wr wz.drew ∧ numsTo x.d (i + 1) = numsTo x.d i ++ be (szi i) v) := ⟨below_drew1 hzb, by rw [numsTo, hv2]⟩
      have HSZ : Hid (1 ≤ szi i ∧ szi i ≤ 8) := ⟨hv5, hv6⟩
      have HKL : Hid ((numsTo x.d i).length = k) := by have := hrow.length; rwa [cn_length] at this
      clear hzb hzk hrow hrdz hnum hbox hv1 hv2 hv3 hv4 hv5 hv6
      go_wp2
      go_region_law (first | (go_simp; go_at_call 45; refine HPUT.out.mono ?_; rintro e w2 ⟨rfl, hB2, hb2⟩))
      all_goals
        have HB2 := Lib.hid hB2
        have Hb2 := Lib.hid hb2
        clear hB2 hb2
        go_wp2
        go_roundw
        case rel =>
          have h1 : B ≤ wz.drew.heap.size := Nat.le_trans HR.out.2.2 HZ.out.1.size
          refine ⟨i + 1, by omega, by go_num, _, _, _, rfl, ?_, ?_, ?_⟩
          · exact (HR.out.1.trans (HZ.out.1.mono HR.out.2.2)).trans (Hb2.out.mono h1)
          · rw [HZ.out.2]
            exact Blk.row HB2.out h1 _ (by rw [List.length_append, be_length, HKL.out]) (by have := HSZ.out; omega)
          · exact Nat.le_trans h1 Hb2.out.size
        case measure => simp [intOf]; omega
    · obtain rfl : i = 5 := by omega
      have hxr := HX.out.below (I0.out.1.below.trans ((by rw [← HBB.out] at HR; exact HR.out.1 : Below w1.heap.size w1 wr).mono I0.out.1.below.size))
      have HXR := Lib.hid hxr
      have HBOX : Hid (Bx w w.heap.size 27 x wr) := I0.out.1.next (by rw [HBB.out]; exact HR.out.1)
      have hkk : Hid (k = 28) := by have h1 := HR.out.2.1.length; rw [cn_length, numsTo_all, nums_length] at h1; exact h1.symm
      have HRW : Hid (Row wr B 5 A k cap (cn .u8 (nums x.d)) ∧ B ≤ wr.heap.size) := by
        have := HR.out.2
        rw [numsTo_all] at this
        exact this
      clear hxr hnum hbox HR
      go_wp2_with ((with_reducible refine at_dst (some 26) ?_); refine wpList_loadAt (op := ⟨some 26, _, _, _, _, _⟩) rfl 27 (.tmp 1) rfl ⟨w.heap.size, 0, none⟩ rfl x.cells d0 HBOX.out.blk.at hu0 hd0 iD ?_)
      refine (lists_any x wr HXR.out HNL.out).mono ?_
      rintro e w2 ⟨b2, ps, rfl, hb2, hP, hPR, hbe⟩
      have I2 : Hid (Bx w w.heap.size 27 x w2 ∧ PartsOf x ps ∧ PartsR w2 (some ⟨b2, 0, none⟩) 5 ps ∧ Row w2 B 5 A k cap (cn .u8 (nums x.d)) ∧ B ≤ w2.heap.size) := ⟨HBOX.out.next hbe, hP, hPR, HRW.out.1.below hbe, Nat.le_trans HRW.out.2 hbe.size⟩
      clear hb2 hP hPR hbe
      go_wp2
      go_loopw [3, 29] (fun a o wr => ∃ j : Nat, j ≤ 5 ∧ o = .int .i64 (j : Int) ∧ ∃ A k cap, a = .slice A k cap ∧ k = 28 + 4 * j ∧ Hid (Below w2.heap.size w2 wr ∧ Row wr B 5 A k cap (cn .u8 (nums x.d ++ lensTo ps j)))) (fun _ o _ => 5 - (intOf o).toNat)
      case atStart => exact ⟨0, by omega, rfl, A, k, cap, rfl, by have := hkk.out; omega, Below.refl _ _, by rw [lensTo, List.append_nil]; exact I2.out.2.2.2.1⟩
      case round =>
        obtain ⟨j, hj, rfl, A1, k1, cap1, rfl, hk1, HRx⟩ := hrel
        have hPx := I2.out.2.2.1.below HRx.out.1
        have HPX := Lib.hid hPx
        by_cases hjn : j < 5
        · have hjn2 : (j : Int) < 5 := by omega
          obtain ⟨p, hp⟩ : ∃ p, ps[j]? = some p := ⟨_, List.getElem?_eq_getElem (by rw [I2.out.2.1.len]; exact hjn)⟩
          obtain ⟨ad, hA, had, hcell⟩ := hPx.2.1 (by omega)
          injection hA with hA
          subst hA
          have hc := hcell j p hp
          rw [addr_add, Nat.zero_add] at hc
          have hl := (hPx.2.2 p (List.mem_of_getElem? hp)).1.1
          obtain ⟨hle, hgd⟩ := part_le I2.out.2.1 HBD.out hp
          have HPUT := Lib.hid (Put_n A1 k1 cap1 (nums x.d ++ lensTo ps j) 4 p.n 4 _ rfl rfl (by omega) (by omega) (by omega) (by omega) wr HRx.out.2.rd ((nums_fit _).append (lensTo_fit _ _)) (by omega) (k1 + 4) rfl)
          have HLN : Hid (lensTo ps (j + 1) = lensTo ps j ++ be 4 p.n) := by show _ = _; rw [lensTo, hgd, hl]
          have HKB : Hid (B ≤ wr.heap.size ∧ k1 ≤ 100) := ⟨Nat.le_trans I2.out.2.2.2.2 HRx.out.1.size, by omega⟩
          have HK1 := Lib.hid hk1
          clear hPx hcell hp hl hle hgd hk1
          go_wp2_with fail
          refine HPUT.out.mono ?_
          rintro e w3 ⟨rfl, hB3, hb3⟩
          have HB3 := Lib.hid hB3
          have Hb3 := Lib.hid hb3
          clear hB3 hb3
          go_wp2
          go_roundw
          case rel =>
            refine ⟨j + 1, by omega, by go_num, _, _, _, rfl, by have := HK1.out; omega, HRx.out.1.trans (Hb3.out.mono HRx.out.1.size), ?_⟩
            rw [HLN.out, ← List.append_assoc]
            exact Blk.row HB3.out HKB.out.1 _ (by rw [List.length_append, List.length_append, nums_length, lensTo_length, be_length]; have := HK1.out; omega) (by have := HKB.out; omega)
          case measure => simp [intOf]; omega
        · obtain rfl : j = 5 := by omega
          have hxx := I2.out.1.next HRx.out.1
          have HXX := Lib.hid (HX.out.below hxx.below)
          have HBX := Lib.hid hxx
          have HR5 : Hid (Row wr B 5 A1 k1 cap1 (cn .u8 (nums x.d ++ lens x.d)) ∧ B ≤ wr.heap.size) := by
            have := HRx.out.2
            rw [lensTo_all I2.out.2.1] at this
            exact ⟨this, Nat.le_trans I2.out.2.2.2.2 HRx.out.1.size⟩
          obtain rfl : k1 = 48 := by omega
          clear hk1
          clear hxx hPx HRx HPX
          go_wp2_with ((with_reducible refine at_dst (some 42) ?_); refine wpList_loadAt (op := ⟨some 42, _, _, _, _, _⟩) rfl 27 (.tmp 1) rfl ⟨w.heap.size, 0, none⟩ rfl x.cells d0 HBX.out.blk.at hu0 hd0 iD ?_)
          refine (lists_any x wr HXX.out HNL.out).mono ?_
          rintro e w3 ⟨b3, ps3, rfl, hb3, hP3, hPR3, hbe3⟩
          have hT : (flat ps3).length = tlen x.d := by rw [hP3.flat, texts_length]
          have hff : flat ps3 = texts x.d := hP3.flat
          have I3 : Hid (Bx w w.heap.size 27 x w3 ∧ Row w3 B 5 A1 48 cap1 (cn .u8 (nums x.d ++ lens x.d)) ∧ B ≤ w3.heap.size) := ⟨HBX.out.next hbe3, HR5.out.1.below hbe3, Nat.le_trans HR5.out.2 hbe3.size⟩
          obtain ⟨T, hTT⟩ : ∃ T, tlen x.d = T := ⟨_, rfl⟩
          have HTT := Lib.hid hTT
          have hT2 : T ≤ 1440 := by rw [← hTT]; exact HTL.out
          have HJ := Lib.hid (Join_any b3 5 5 ps3 w3 hPR3 (by omega) (by omega) (by omega) (by omega) T (by rw [hT, hTT]) (by omega))
          have HFF := Lib.hid hff
          clear hb3 hP3 hPR3 hbe3 hT hTT hff
          go_wp2_with fail
          refine HJ.out.mono ?_
          rintro e w4 ⟨g4, rfl, hg4, hrd4, hbe4⟩
          rw [HFF.out] at hrd4
          have I4 : Hid (Bx w w.heap.size 27 x w4 ∧ Row w4 B 5 A1 48 cap1 (cn .u8 (nums x.d ++ lens x.d)) ∧ B ≤ w4.heap.size ∧ Rd .u8 w4 (some ⟨g4, 0, none⟩) T (texts x.d) ∧ w.heap.size < B) := ⟨I3.out.1.next hbe4, I3.out.2.1.below hbe4, Nat.le_trans I3.out.2.2 hbe4.size, hrd4, by rw [← HBB.out]; exact I0.out.1.lt⟩
          clear hg4 hrd4 hbe4 HJ
          have HAPP : Hid (∀ {ops : Array Oper} {rest : List Oper} {o : Oper} {a : Act} {Q : Exit → Act → World → Prop} (hgd : o.guard = none) (s y : Operand) (ho : o.op = .call { callee := .builtin .append, args := #[s, y], argTypes := #[25, 25] }) (hs : a.eval s = .slice A1 48 cap1) (hy : a.eval y = .slice (some ⟨g4, 0, none⟩) T T)
              (hk : ∀ A' c' w', Hid (Row w' B 5 A' (48 + T) c' (cn .u8 (nums x.d ++ lens x.d) ++ cn .u8 (texts x.d))) → Below B w4 w' → B ≤ w'.heap.size → wpList Tryd.prog ops Q rest (a.put o.dst (.slice A' (48 + T) c')) w'), wpList Tryd.prog ops Q (o :: rest) a w4) :=
            fun hgd s y ho hs hy hk => wpList_app hgd s y 25 5 ho Tryd.underlying25 HI0.out.1 HI0.out.2.1 HI0.out.2.2.1 HI0.out.2.2.2 rfl (by omega) (Below.refl B w4) I4.out.2.2.1 hs I4.out.2.1 hy (by rw [cn_length, I4.out.2.2.2.1.1]) (I4.out.2.2.2.1.srcs T (fun e => by cases e)) (cn_one _ _) (fun e => by cases e) (by omega) (48 + T) rfl hk
          go_wp2_with ((with_reducible refine at_dst (some 45) ?_); refine HAPP.out (o := ⟨some 45, _, _, _, _, _⟩) rfl (.tmp 41) (.tmp 44) rfl rfl rfl ?_; intro A5 c5 w5 hrow5 hbe5 hB5)
          have hraw : cn .u8 (nums x.d ++ lens x.d) ++ cn .u8 (texts x.d) = cn .u8 (raw x.d) := by rw [← cn_append, raw, List.append_assoc]
          have HRW5 : Hid (Row w5 B 5 A5 (48 + T) c5 (cn .u8 (raw x.d)) ∧ Below B w4 w5 ∧ B ≤ w5.heap.size) := by
            have := hrow5.out
            rw [hraw] at this
            exact ⟨this, hbe5, hB5⟩
          have hM : 48 + T + gapn (48 + T) 8 ≤ 2000 := by have := gapn_lt (n := 48 + T) (to := 8) (by omega); omega
          have HPAD := Lib.hid (Pad_any A5 (48 + T) c5 (raw x.d) 8 w5 HRW5.out.1.rd (by omega) (by omega) (by omega) (gapn (48 + T) 8) (48 + T + gapn (48 + T) 8) rfl rfl)
          clear hraw hrow5 hbe5 hB5 hM
          go_wp2_with fail
          refine HPAD.out.mono ?_
          rintro e w6 ⟨g6, rfl, hg6, hB6, hbe6⟩
          have I6 : Hid (Below w.heap.size w w6 ∧ w.heap.size ≤ g6 ∧ Blk w6 g6 5 (cn .u8 (body x.d)) ∧ (body x.d).length = 48 + T + gapn (48 + T) 8) := by
            have hrl : (raw x.d).length = 48 + T := by rw [raw_length, HTT.out]
            have hlt := I4.out.2.2.2.2
            have h45 : Below w.heap.size w w5 := I4.out.1.below.trans (HRW5.out.2.1.mono (by omega))
            refine ⟨h45.trans (hbe6.mono h45.size), by have := HRW5.out.2.2; omega, ?_, ?_⟩
            · rw [body, hrl]; exact hB6
            · rw [body, List.length_append, hrl, List.length_replicate]
          clear hg6 hB6 hbe6 HPAD
          go_wp2
          go_ret
          exact ⟨g6, _, rfl, I6.out.2.2.2, I6.out.2.1, I6.out.2.2.1, I6.out.1⟩
end Go.Proofs.YtfeihdmjcppbaaaDoor
