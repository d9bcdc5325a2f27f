/-
  DescrOwn returns true for every list of descriptors: its walk.
-/
import Derived.Test.YtfeihdmjcppbaaaDoorLSizes
import Derived.Test.YtfeihdmjcppbaaaDoorS3
import Derived.Laws.BitsAllLaws
namespace Go.Proofs.YtfeihdmjcppbaaaDoor
open Go.RowKit
set_option linter.unusedVariables false
set_option linter.unusedSimpArgs false
set_option maxRecDepth 100000

theorem own_empty (w : World) (t : TypeId) : Row (w.alloc (.cells #[] t)) w.heap.size t (some ⟨w.heap.size, 0, none⟩) 0 0 [] := World.ownsRow_made w #[] 0 (Nat.le_refl _) (Nat.zero_le _) (by simp)
theorem Row.none0 {w : World} {B : Nat} {A : Option Addr} {n cap : Nat} {xs : List Value} (h : Row w B 5 A n cap xs) (e : A = none) : cap = 0 ∧ n = 0 := by
  have hl := h.le
  rcases h.2 with ⟨e2, h0⟩ | ⟨g, cap', cur, e2, _⟩
  · injection e2 with _ h1 h2
    omega
  · rw [e] at e2; injection e2 with e3; cases e3
theorem Row.blk {w : World} {B : Nat} {g n cap : Nat} {xs : List Value} (h : Row w B 5 (some ⟨g, 0, none⟩) n cap xs) : B ≤ g ∧ ∃ cs, Blk w g 5 cs ∧ cs.length = cap ∧ cs.take n = xs := by
  rcases h.2 with ⟨e, _⟩ | ⟨g', cap', cur, e, hB, hg, h1, h2, h3, h4⟩
  · cases e
  · injection e with e1 e2 e3
    injection e1 with e1
    injection e1 with e1
    subst e1; subst e3
    refine ⟨hB, cur.toList, ?_, ?_, ?_⟩
    · unfold Blk; simpa using hg
    · simpa using h3
    · simpa using h4
theorem Row.fz {w : World} {B : Nat} {g n cap : Nat} {xs : List Value} (h : Row w B 5 (some ⟨g, 0, none⟩) n cap xs) (p : Nat) : w.frozen? ⟨g, p, none⟩ = false := by
  obtain ⟨_, cs, hb, _⟩ := h.blk
  exact hb.frozen p
theorem Row.put {w : World} {B g n cap : Nat} {l : List Nat} (h : Row w B 5 (some ⟨g, 0, none⟩) n cap (cn .u8 l)) (p y : Nat) : Row (w.setCell ⟨g, p, none⟩ (.int .u8 (y : Int))) B 5 (some ⟨g, 0, none⟩) n cap (cn .u8 (l.set p y)) := by
  obtain ⟨hB, cs, hb, hc, ht⟩ := h.blk
  have hl := h.length
  have hle := h.le
  have hb2 := hb.set_ p (.int .u8 (y : Int))
  refine ⟨by rw [cn_length, List.length_set, ← cn_length .u8 l]; simpa using hl, .inr ⟨g, cap, (cs.set p (.int .u8 (y : Int))).toArray, rfl, hB, hb2, hle.1, hle.2, by simp [hc], ?_⟩⟩
  rw [List.toList_toArray, Nat.mul_one, List.take_set, ht, cn_set]
theorem Row.at_ {w : World} {B g n cap : Nat} {l : List Nat} (h : Row w B 5 (some ⟨g, 0, none⟩) n cap (cn .u8 l)) {p x : Nat} (hp : p < n) (hx : l[p]? = some x) : w.cell? ⟨g, p, none⟩ = some (.int .u8 (x : Int)) := by
  obtain ⟨ad, y, e, hy, hc⟩ := h.rd.get hp
  injection e with e
  rw [hx] at hy
  injection hy with hy
  rw [← e, addr_add, Nat.zero_add, ← hy] at hc
  exact hc
theorem fit_set {l : List Nat} (h : Fit 256 l) (p y : Nat) (hy : y < 256) : Fit 256 (l.set p y) := fun x hx => by
  rcases List.mem_or_eq_of_mem_set hx with h1 | h1
  · exact h x h1
  · rw [h1]; exact hy
theorem xor255 (x : Nat) (h : x < 256) : x ^^^ 255 < 256 := Nat.xor_lt_two_pow (n := 8) h (by omega)
theorem DxOk.touch {F : List Nat} {w w' : World} {x : Dx} (h : DxOk w x) (t : Touch F w w') (hF : ∀ s, (s = x.s1 ∨ s = x.s2 ∨ s = x.s3 ∨ s = x.s4) → ∀ ad, s.A = some ad → ad.block ∉ F) : DxOk w' x :=
  { h with salt := h.salt.touch t (fun _ => hF _ (.inl rfl)), digest := h.digest.touch t (fun _ => hF _ (.inr (.inl rfl))), key := h.key.touch t (fun _ => hF _ (.inr (.inr (.inl rfl)))), value := h.value.touch t (fun _ => hF _ (.inr (.inr (.inr rfl)))) }
theorem DL.touch {F : List Nat} {w w' : World} {A : Option Addr} {n : Nat} {xs : List Dx} (h : DL w A n xs) (t : Touch F w w') (hA : ∀ ad, A = some ad → ad.block ∉ F) (hF : ∀ x ∈ xs, ∀ s, (s = x.s1 ∨ s = x.s2 ∨ s = x.s3 ∨ s = x.s4) → ∀ ad, s.A = some ad → ad.block ∉ F) : DL w' A n xs :=
  ⟨h.len, fun hn => by
    obtain ⟨ad, e, hlt, hc⟩ := h.at_ hn
    refine ⟨ad, e, Nat.lt_of_lt_of_le hlt t.size, fun i x hx j v hv => ?_⟩
    exact (t.cell (p := (ad.add (i * 11)).add j) (by rw [block_add, block_add]; exact hlt) (by rw [block_add, block_add]; exact hA ad e)).trans (hc i x hx j v hv), fun x hx => (h.ok x hx).touch t (hF x hx)⟩
theorem des_small {xs ys : List Dx} (h : des xs = des ys) (hs : ∀ x ∈ ys, x.d.name.length ≤ 100000) : ∀ x ∈ xs, x.d.name.length ≤ 100000 := fun x hx => by
  have h1 : x.d ∈ des xs := List.mem_map.2 ⟨x, hx, rfl⟩
  rw [h] at h1
  obtain ⟨y, hy, e⟩ := List.mem_map.1 h1
  rw [← e]; exact hs y hy
theorem Row.memb {w : World} {B : Nat} {A : Option Addr} {n cap : Nat} {xs : List Value} (h : Row w B 5 A n cap xs) : ∀ b ∈ bl A, B ≤ b ∧ b < w.heap.size := fun b hb => by
  cases A with
  | none => cases hb
  | some ad => rw [List.mem_singleton.1 hb]; exact h.lt ad rfl
set_option maxHeartbeats 4000000 in
theorem own_walk (A : Option Addr) (n cap : Nat) (xs : List Dx) (W : World) (g : Dsc W A n cap xs) : Calls Tryd.prog 7 #[.slice A n cap] W fun e w' => e = .returned (.bool true) ∧ Below W.heap.size W w' := by
  obtain ⟨i0, hi, hz0, hz1, hz2⟩ := info_parts byteInfo
  have HI0 := Lib.hid (And.intro hi (And.intro hz0 (And.intro hz1 hz2)))
  clear hi hz0 hz1 hz2
  have HG := Lib.hid g
  clear g
  go_enter Tryd.func7, Tryd.ntmps7
  go_wp2_with fail
  refine (anchor_any W).mono ?_
  rintro e w1 ⟨rfl, hb1⟩
  have B1 := Lib.hid hb1
  clear hb1
  have HS := Lib.hid (Small_any A n cap xs w1 (HG.out.dl.below B1.out) HG.out.le HG.out.max)
  go_wp2_with fail
  refine HS.out.mono ?_
  rintro e w2 ⟨b, rfl, hsm, hb2⟩
  have B2 := Lib.hid (B1.out.trans (hb2.mono B1.out.size))
  cases b
  · clear hsm hb2
    go_wp2
    go_ret
    exact ⟨rfl, B2.out⟩
  · obtain ⟨hsmall, hn40⟩ := hsm rfl
    have HSM := Lib.hid hsmall
    have HEN := Lib.hid (Encode_any A n cap xs w2 (HG.out.dl.below B2.out) (by omega) HG.out.le HG.out.max (names_le (W := W) hsmall))
    clear hsm hb2 hsmall
    go_wp2_with fail
    refine HEN.out.mono ?_
    rintro e w3 ⟨A3, n3, c3, l, er, rfl, hen, hrow, hb3⟩
    have B3 := Lib.hid (B2.out.trans (hb3.mono B2.out.size))
    have G23 : Hid (w2.heap.size ≤ w3.heap.size) := hb3.size
    have hl3 := hrow.length
    rw [cn_length] at hl3
    rcases encode_cases hen with ⟨her, hl⟩ | ⟨her, hl, hright, htw, h32⟩
    · subst hl
      obtain rfl : n3 = 0 := hl3.symm
      have e0 : ((er : Int) != 0) = true := by simp; omega
      clear her hen hrow hb3 hl3
      go_wp2
      go_ret
      exact ⟨rfl, B3.out⟩
    · subst her
      have hfit : Fit 256 l := by rw [hl]; exact encs_fit (fun d hd => by
        obtain ⟨x, hx, rfl⟩ := List.mem_map.1 hd
        exact (HG.out.dl.ok x hx).fits)
      have hle3 : n3 ≤ 60000 := by
        have h1 := encs_le hright
        rw [← hl, hl3] at h1
        omega
      have hpar : parse l = (des xs, 0) := by rw [hl]; exact parse_encs hright htw h32
      have R3 := Lib.hid hrow
      have HFIT := Lib.hid hfit
      have HPAR := Lib.hid hpar
      have HENC := Lib.hid hen
      have HL3 := Lib.hid hl3
      have HW : Hid (∀ {ops : Array Oper} {rest : List Oper} {o : Oper} {a : Act} {Q : Exit → Act → World → Prop} (hgd : o.guard = none) (s x : Operand) (ho : o.op = .call { callee := .builtin .append, args := #[s, x], argTypes := #[25, 25] }) (hs : a.eval s = .slice (some ⟨w3.heap.size, 0, none⟩) 0 0) (hx : a.eval x = .slice A3 n3 c3)
          (hk : ∀ A' c' w', Hid (Row w' w3.heap.size 5 A' n3 c' ([] ++ cn .u8 l)) → Below w3.heap.size w3 w' → w3.heap.size ≤ w'.heap.size → wpList Tryd.prog ops Q rest (a.put o.dst (.slice A' n3 c')) w'), wpList Tryd.prog ops Q (o :: rest) a (w3.alloc (.cells #[] 5))) :=
        fun hgd s x ho hs hx hk => wpList_app hgd s x 25 5 ho Tryd.underlying25 HI0.out.1 HI0.out.2.1 HI0.out.2.2.1 HI0.out.2.2.2 rfl (by omega) ((Below.refl w3.heap.size w3).alloc (Nat.le_refl _) _) (by simp) hs (own_empty w3 5) hx hrow.length ((hrow.rd.below ((Below.refl _ _).alloc (Nat.le_refl _) _)).srcs c3 (fun e => (hrow.none0 e).1)) (cn_one _ _) (fun e => (hrow.none0 e).2) (by omega) n3 (by omega) hk
      clear hen hrow hb3 hl3 hright htw h32 hl hfit hpar
      go_wp2_with ((with_reducible refine at_dst (some 25) ?_); refine HW.out (o := ⟨some 25, _, _, _, _, _⟩) rfl (.tmp 23) (.tmp 24) rfl rfl rfl ?_; intro A4 c4 w4 HRow hbe hsz)
      have R4 : Hid (Row w4 w3.heap.size 5 A4 n3 c4 (cn .u8 l)) := by
        show Row _ _ _ _ _ _ _
        simpa using HRow.out
      have B4 : Hid (Below W.heap.size W w4) := B3.out.trans (hbe.mono B3.out.size)
      have R34 : Hid (Bs w4 A3 n3 c3 l ∧ ∀ ad, A3 = some ad → ad.block < w3.heap.size) := ⟨(R3.out.bs HFIT.out).belowAt hbe (fun _ ad e => (R3.out.lt ad e).2), fun ad e => (R3.out.lt ad e).2⟩
      have HPA := Lib.hid (Parse_any A4 n3 c4 l w4 (R4.out.bs HFIT.out) (by omega))
      have G34 : Hid (w3.heap.size ≤ w4.heap.size) := hsz
      clear HRow hbe hsz
      refine HPA.out.mono ?_
      rintro e w5 ⟨Am, nm, cm, ys, er, rfl, hpa, hpl, hnw, hb5⟩
      rw [HPAR.out] at hpa
      simp only [Prod.mk.injEq] at hpa
      obtain ⟨hxy, rfl⟩ := hpa
      have HXY : Hid (des ys = des xs) := hxy.symm
      have B5 : Hid (Below W.heap.size W w5) := B4.out.trans (hb5.mono B4.out.size)
      have HM5 : Hid (DL w5 Am nm ys ∧ (∀ ad, Am = some ad → w4.heap.size ≤ ad.block) ∧ NewD w4.heap.size ys ∧ nm ≤ cm ∧ cm ≤ maxLen) := ⟨hpl.dl, fun ad e => (hpl.ge ad e).1, hnw, hpl.le.1, hpl.le.2⟩
      have R5 := Lib.hid (R4.out.below hb5)
      have R35 : Hid (Bs w5 A3 n3 c3 l ∧ ∀ ad, A3 = some ad → ad.block < w3.heap.size) := ⟨R34.out.1.below hb5, R34.out.2⟩
      have G4 : Hid (∀ b ∈ bl A4, w3.heap.size ≤ b ∧ b < w4.heap.size) := R4.out.memb
      have GW : Hid (W.heap.size ≤ w3.heap.size) := B3.out.size
      clear hxy hpl hnw hb5 HPA R34 HW R3 R4
      go_wp2_with fail
      go_loopw [33] (fun si wr => ∃ k : Nat, si = .int .i64 (k : Int) ∧ k ≤ n3 ∧ Hid (∃ L, L.length = n3 ∧ Fit 256 L ∧ Row wr w3.heap.size 5 A4 n3 c4 (cn .u8 L)) ∧ Hid (Touch (bl A4) w5 wr) ∧ Hid (Below W.heap.size W wr)) (fun i _ => n3 - (intOf i).toNat)
      case atStart => exact ⟨0, rfl, Nat.zero_le _, ⟨l, HL3.out, HFIT.out, R5.out⟩, Touch.refl _ _, B5⟩
      case round =>
        obtain ⟨k, rfl, hk, HL, HT, HBk⟩ := hrel
        clear R5 B5
        by_cases hlt : k < n3
        · have zlt : (k : Int) < (n3 : Int) := by omega
          obtain ⟨L, hL, hF, hR⟩ := HL.out
          obtain ⟨gb, hA4, hgb, _⟩ := hR.cells (by omega)
          subst hA4
          obtain ⟨x, hx⟩ := get_some (l := L) (i := k) (by omega)
          have hx256 : x < 256 := hF x (List.mem_of_getElem? hx)
          have hc := hR.at_ hlt hx
          have hf := hR.fz k
          have HR := Lib.hid hR
          have HFL : Hid (Fit 256 L ∧ L.length = n3) := ⟨hF, hL⟩
          have HGB := Lib.hid hgb
          clear hR hF hx hL hgb
          go_wp2
          go_roundw
          case rel =>
            refine ⟨k + 1, by go_num, by omega, ?_, HT.out.setCell (.inl (by simp [bl])) _, HBk.out.setCell (p := ⟨gb, k, none⟩) (Nat.le_trans GW.out HGB.out) _⟩
            refine ⟨L.set k (x ^^^ 255), by rw [List.length_set]; exact HFL.out.2, fit_set HFL.out.1 k _ (xor255 x hx256), ?_⟩
            have := HR.out.put k (x ^^^ 255)
            rw [← u8_xor_nat x 255 hx256 (by omega)] at this
            exact this
          case measure => simp [intOf]; omega
        · obtain rfl : k = n3 := by omega
          rename World => w6
          have hdl6 : DL w6 Am nm ys := HM5.out.1.touch HT.out (fun ad e hm => by have h1 := HM5.out.2.1 ad e; have h2 := G4.out _ hm; omega) (fun x hx s hs ad e hm => by
            obtain ⟨g9, h9, hge⟩ := HM5.out.2.2.1 x hx s hs
            rw [e] at h9
            injection h9 with h9
            subst h9
            have h2 := G4.out _ hm
            simp at h2
            omega)
          have hlen : nm = n := by
            have h1 := congrArg List.length HXY.out
            rw [des, des, List.length_map, List.length_map, HM5.out.1.len, HG.out.dl.len] at h1
            exact h1
          have HB6 : Hid (Bs w6 A3 _ c3 l) := R35.out.1.touch HT.out (fun _ ad e hm => by have h1 := R35.out.2 ad e; have h2 := G4.out _ hm; omega)
          have HDL6 := Lib.hid hdl6
          have hcm := HM5.out.2.2.2
          unfold maxLen at hcm
          have HE6 := Lib.hid (Encode_any Am nm cm ys w6 hdl6 (by omega) hcm.1 (by omega) (des_small HXY.out (names_le (W := W) HSM.out)))
          have HLEN := Lib.hid hlen
          clear HL HT hdl6 hlen hcm HM5
          go_wp2_with fail
          refine HE6.out.mono ?_
          rintro e w7 ⟨A7, n7, c7, l7, er7, rfl, hen7, hrow7, hb7⟩
          rw [HXY.out, HENC.out] at hen7
          simp only [Prod.mk.injEq] at hen7
          obtain ⟨rfl, rfl⟩ := hen7
          have hx7 : (str l).toList = (str l).toList := rfl
          have r1 := rd_str hrow7.rd c7
          have r2 := (HB6.out.below hb7).str
          have HSD := Lib.hid (SameD_any A n cap xs Am nm cm ys w7 (HG.out.dl.below (below_then HBk.out hb7)) (HDL6.out.below hb7) (by omega))
          rw [decide_eq_true HXY.out.symm] at HSD
          have B7 := Lib.hid (below_then HBk.out hb7)
          clear hrow7 hb7 hx7
          go_wp2_with fail
          refine HSD.out.mono ?_
          rintro e w8 ⟨rfl, hb8⟩
          have B8 := Lib.hid (below_then B7.out hb8)
          clear hb8
          go_wp2
          go_ret
          exact ⟨rfl, B8.out⟩
end Go.Proofs.YtfeihdmjcppbaaaDoor
