/-
  VaultOwn returns true for every slice of bytes: its walk.
-/
import Derived.Test.YtekfjccpcbbgfaaV7
namespace Go.Proofs.Ytekfjccpcbbgfaa
open Go.RowKit
set_option linter.unusedVariables false
set_option linter.unusedSimpArgs false
set_option maxRecDepth 100000

theorem Row.blk {w : World} {B : Nat} {g n cap : Nat} {xs : List Value} (h : Row w B 5 (some ⟨g, 0, none⟩) n cap xs) : B ≤ g ∧ ∃ cs, Blk w g 5 cs ∧ cs.length = cap ∧ cs.take n = xs := by
  rcases h.2 with ⟨e, _⟩ | ⟨g', cap', cur, e, hB, hg, h1, h2, h3, h4⟩
  · cases e
  · injection e with e1 e2 e3
    injection e1 with e1
    injection e1 with e1
    subst e1; subst e3
    refine ⟨hB, cur.toList, ?_, ?_, ?_⟩
    · unfold Blk; simpa using hg
    · simpa using h3
    · simpa using h4
theorem Row.fz {w : World} {B : Nat} {g n cap : Nat} {xs : List Value} (h : Row w B 5 (some ⟨g, 0, none⟩) n cap xs) (p : Nat) : w.frozen? ⟨g, p, none⟩ = false := by
  obtain ⟨_, cs, hb, _⟩ := h.blk
  exact hb.frozen p
theorem Row.put {w : World} {B g n cap : Nat} {l : List Nat} (h : Row w B 5 (some ⟨g, 0, none⟩) n cap (cn .u8 l)) (p y : Nat) : Row (w.setCell ⟨g, p, none⟩ (.int .u8 (y : Int))) B 5 (some ⟨g, 0, none⟩) n cap (cn .u8 (l.set p y)) := by
  obtain ⟨hB, cs, hb, hc, ht⟩ := h.blk
  have hl := h.length
  have hle := h.le
  have hb2 := hb.set_ p (.int .u8 (y : Int))
  refine ⟨by rw [cn_length, List.length_set, ← cn_length .u8 l]; simpa using hl, .inr ⟨g, cap, (cs.set p (.int .u8 (y : Int))).toArray, rfl, hB, hb2, hle.1, hle.2, by simp [hc], ?_⟩⟩
  rw [List.toList_toArray, Nat.mul_one, List.take_set, ht, cn_set]
theorem Row.at_ {w : World} {B g n cap : Nat} {l : List Nat} (h : Row w B 5 (some ⟨g, 0, none⟩) n cap (cn .u8 l)) {p x : Nat} (hp : p < n) (hx : l[p]? = some x) : w.cell? ⟨g, p, none⟩ = some (.int .u8 (x : Int)) := by
  obtain ⟨ad, y, e, hy, hc⟩ := h.rd.get hp
  injection e with e
  rw [hx] at hy
  injection hy with hy
  rw [← e, addr_add, Nat.zero_add, ← hy] at hc
  exact hc
theorem fit_set {l : List Nat} (h : Fit 256 l) (p y : Nat) (hy : y < 256) : Fit 256 (l.set p y) := fun x hx => by
  rcases List.mem_or_eq_of_mem_set hx with h1 | h1
  · exact h x h1
  · rw [h1]; exact hy
theorem xor255 (x : Nat) (h : x < 256) : x ^^^ 255 < 256 := Nat.xor_lt_two_pow (n := 8) h (by omega)

set_option maxHeartbeats 4000000 in
theorem own_walk (A : Option Addr) (n c : Nat) (l : List Nat) (w : World) (hb : Bs w A n c l) :
    Calls Try.prog 5 #[.slice A n c] w fun e w' => e = .returned (.bool true) ∧ Below w.heap.size w w' := by
  have HB0 := Lib.hid hb
  have hnc := hb.le
  have hcm := hb.max
  clear hb
  obtain ⟨i0, hi, hz0, hz1, hz2⟩ := info_parts byteInfo
  by_cases h32 : n = 32
  · subst h32
    obtain ⟨ad, rfl, hadlt, _⟩ := HB0.out.rd.2 (by omega)
    have HW : Hid (∀ (w1 : World), Below w.heap.size w w1 → ∀ {ops : Array Oper} {rest : List Oper} {o : Oper} {a : Act} {Q : Exit → Act → World → Prop} (hgd : o.guard = none) (s x : Operand) (ho : o.op = .call { callee := .builtin .append, args := #[s, x], argTypes := #[22, 22] }) (hs : a.eval s = .slice (some ⟨w1.heap.size, 0, none⟩) 0 0) (hx : a.eval x = .slice (some ad) 32 c)
        (hk : ∀ A' c' w', Hid (Row w' w1.heap.size 5 A' 32 c' ([] ++ cn .u8 l)) → Below w1.heap.size w1 w' → w1.heap.size ≤ w'.heap.size → wpList Try.prog ops Q rest (a.put o.dst (.slice A' 32 c')) w'), wpList Try.prog ops Q (o :: rest) a (w1.alloc (.cells #[] 5))) :=
      fun w1 hb1 _ _ _ _ _ hgd s x ho hs hx hk => wpList_app hgd s x 22 5 ho Try.underlying22 hi hz0 hz1 hz2 rfl (by omega) ((Below.refl w1.heap.size w1).alloc (Nat.le_refl _) _) (by simp) hs (own_empty w1 5) hx (by rw [cn_length, HB0.out.rd.1]) (Rd.src ((HB0.out.rd.below hb1).below ((Below.refl _ _).alloc (Nat.le_refl _) _)) (by omega) c) (cn_one _ _) (by intro e; cases e) (by omega) 32 (by omega) hk
    clear hi hz0 hz1 hz2
    go_enter Try.func5, Try.ntmps5
    go_wp2_with fail
    refine (anchor_any w).mono ?_
    rintro e w1 ⟨rfl, hb1⟩
    have B1 := Lib.hid hb1
    clear hb1
    go_wp2_with (first
      | ((with_reducible refine at_dst (some 16) ?_); refine HW.out w1 B1.out (o := ⟨some 16, _, _, _, _, _⟩) rfl (.tmp 14) (.tmp 15) rfl rfl rfl ?_; intro A2 c2 w2 HRow hbe hsz))
    have hrow : Row w2 w1.heap.size 5 A2 32 c2 (cn .u8 l) := by simpa using HRow.out
    obtain ⟨gb, rfl, hg1, hg2, _⟩ := hrow.cells (by omega)
    have B2 : Hid (Below w.heap.size w w2) := B1.out.trans (hbe.mono B1.out.size)
    have R2 := Lib.hid hrow
    have N2 := Lib.hid (New_ok (some ⟨gb, 0, none⟩) c2 true l w2 hrow.rd)
    have G2 : Hid (w1.heap.size ≤ gb ∧ gb < w2.heap.size ∧ w.heap.size ≤ w1.heap.size) := ⟨hg1, hg2, B1.out.size⟩
    clear hrow HRow hbe hsz hg1 hg2
    refine N2.out.mono ?_
    rintro e w3 ⟨rfl, hV, hb3⟩
    have HV3 := Lib.hid hV
    have B3 : Hid (Below w.heap.size w w3) := B2.out.trans (hb3.mono B2.out.size)
    have R3 := Lib.hid (R2.out.below hb3)
    have GG : Hid (w2.heap.size ≤ w3.heap.size) := hb3.size
    obtain ⟨G, hG⟩ : ∃ G, w2.heap.size = G := ⟨_, rfl⟩
    have HGB : Hid (G ≠ gb ∧ w.heap.size ≤ G ∧ w.heap.size ≤ gb) := ⟨by have := G2.out; omega, by have := G2.out; omega, by have := G2.out; omega⟩
    rw [hG] at HV3
    clear hV hb3 N2
    go_wp2_with fail
    go_loopw [30] (fun si wr => ∃ k : Nat, si = .int .i64 (k : Int) ∧ k ≤ 32 ∧ Hid (∃ L, L.length = 32 ∧ Fit 256 L ∧ Row wr w1.heap.size 5 (some ⟨gb, 0, none⟩) 32 c2 (cn .u8 L)) ∧ Hid (Vlt wr (Vt.new G l true)) ∧ Hid (Below w.heap.size w wr)) (fun i _ => 32 - (intOf i).toNat)
    case atStart => exact ⟨0, rfl, Nat.zero_le _, ⟨l, HB0.out.rd.1, HB0.out.fit, R3.out⟩, HV3, B3⟩
    case round =>
      obtain ⟨k, rfl, hk, HL, HV, HBk⟩ := hrel
      clear HV3 R3 B3
      by_cases hlt : k < 32
      · have zlt : (k : Int) < 32 := by omega
        obtain ⟨L, hL, hF, hR⟩ := HL.out
        obtain ⟨x, hx⟩ := get_some (l := L) (i := k) (by omega)
        have hx256 : x < 256 := hF x (List.mem_of_getElem? hx)
        have hc := hR.at_ hlt hx
        have hf := hR.fz k
        have HR := Lib.hid hR
        have HFL : Hid (Fit 256 L ∧ L.length = 32) := ⟨hF, hL⟩
        clear hR hF hx hL
        go_wp2
        go_roundw
        case rel =>
          refine ⟨k + 1, by go_num, by omega, ?_, HV.out.touch ((Touch.refl [gb] wr).setCell (.inl (by simp)) _) (by show G ∉ [gb]; simpa using HGB.out.1), HBk.out.setCell (p := ⟨gb, k, none⟩) HGB.out.2.2 _⟩
          refine ⟨L.set k (x ^^^ 255), by rw [List.length_set]; exact HFL.out.2, fit_set HFL.out.1 k _ (xor255 x hx256), ?_⟩
          have := HR.out.put k (x ^^^ 255)
          rw [← u8_xor_nat x 255 hx256 (by omega)] at this
          exact this
        case measure => simp [intOf]; omega
      · obtain rfl : k = 32 := by omega
        rename World => w4
        have HV4 := HV
        clear HL HV
        go_wp2_with fail
        refine (Root_any _ w4 HV4.out).mono ?_
        rintro e w5 ⟨gc, c5, rfl, hg5, hr5, hb5⟩
        have R5 := Lib.hid hr5
        have HV5 := Lib.hid (HV4.out.below hb5)
        have B5 := Lib.hid (below_then HBk.out hb5)
        have HGC : Hid (G ≠ gc ∧ w.heap.size ≤ gc ∧ w4.heap.size ≤ gc) := ⟨by have h1 : G < w4.heap.size := HV4.out.lt; omega, by have := HBk.out.size; omega, hg5⟩
        clear hr5 hb5 hg5
        go_wp2_with fail
        go_loopw [44] (fun si wr => ∃ k : Nat, si = .int .i64 (k : Int) ∧ k ≤ 32 ∧ Hid (∃ L, L.length = 32 ∧ Fit 256 L ∧ Row wr w4.heap.size 5 (some ⟨gc, 0, none⟩) 32 c5 (cn .u8 L)) ∧ Hid (Vlt wr (Vt.new G l true)) ∧ Hid (Below w.heap.size w wr)) (fun i _ => 32 - (intOf i).toNat)
        case atStart => exact ⟨0, rfl, Nat.zero_le _, ⟨l, HB0.out.rd.1, HB0.out.fit, R5.out⟩, HV5, B5⟩
        case round =>
          obtain ⟨k, rfl, hk, HL, HV, HBk⟩ := hrel
          clear HV5 R5 B5
          by_cases hlt : k < 32
          · have zlt : (k : Int) < 32 := by omega
            obtain ⟨L, hL, hF, hR⟩ := HL.out
            obtain ⟨x, hx⟩ := get_some (l := L) (i := k) (by omega)
            have hx256 : x < 256 := hF x (List.mem_of_getElem? hx)
            have hc := hR.at_ hlt hx
            have hf := hR.fz k
            have HR := Lib.hid hR
            have HFL : Hid (Fit 256 L ∧ L.length = 32) := ⟨hF, hL⟩
            clear hR hF hx hL
            go_wp2
            go_roundw
            case rel =>
              refine ⟨k + 1, by go_num, by omega, ?_, HV.out.touch ((Touch.refl [gc] wr).setCell (.inl (by simp)) _) (by show G ∉ [gc]; simpa using HGC.out.1), HBk.out.setCell (p := ⟨gc, k, none⟩) HGC.out.2.1 _⟩
              refine ⟨L.set k (x ^^^ 255), by rw [List.length_set]; exact HFL.out.2, fit_set HFL.out.1 k _ (xor255 x hx256), ?_⟩
              have := HR.out.put k (x ^^^ 255)
              rw [← u8_xor_nat x 255 hx256 (by omega)] at this
              exact this
            case measure => simp [intOf]; omega
          · obtain rfl : k = 32 := by omega
            have HV6 := HV
            have HRA := Lib.hid (HB0.out.rd.below HBk.out)
            have HRC : Hid (∀ u, Below wr.heap.size wr u → Calls Try.prog 16 #[.pointer (some ⟨G, 0, none⟩)] u (GivesB u 32 l)) := fun u hr => Root_any (Vt.new G l true) u (HV6.out.below hr)
            clear HL HV
            go_wp2_with fail
            rename_i hKx
            refine wp_region_eachW (by kernel_rfl) (by kernel_rfl) (fun u u' => Below u.heap.size u u') (fun iX v u => match iX with
                | 0 => v = .pointer (some ⟨G, 0, none⟩)
                | 1 => ∃ A9 c9, v = .slice A9 32 c9 ∧ Rd .u8 u A9 32 l
                | 2 => v = .string (str l)
                | 3 => v = .slice (some ad) 32 c
                | 4 => v = .string (str l)
                | 5 => v = .bool (decide (l = l))
                | 6 => v = .bool (decide (l = l))
                | _ => True) (fun u => Below wr.heap.size wr u) ?m1 (fun _ _ h1 h2 => h1.trans (h2.mono h1.size)) ⟨rfl, rfl, rfl, Nat.le_refl _, fun _ _ => rfl⟩ ?m2 ?m3
            case m1 =>
              intro iX v u u' h hr hb
              rcases iX with _ | _ | _ | _ | _ | _ | _ | iX
              · exact h
              · obtain ⟨A9, c9, e9, h9⟩ := h; exact ⟨A9, c9, e9, h9.below hb⟩
              · exact h
              · exact h
              · exact h
              · exact h
              · exact h
              · trivial
            case m2 =>
              intro iX o ho aX u hr hk hpre K hK
              have e4 : aX.tmps.getD 4 undef = .pointer (some ⟨G, 0, none⟩) := hk.slot 4 (by simp)
              have e0 : aX.tmps.getD 0 undef = .slice (some ad) 32 c := hk.slot 0 (by simp)
              have rf : Below u.heap.size u u := Below.refl _ _
              rcases iX with _ | _ | _ | _ | _ | _ | _ | iX
              · obtain rfl := Option.some.inj ho
                exact st_move (.tmp 4) rfl (want_none rfl) _ e4 (hK _ _ rfl rf)
              · obtain rfl := Option.some.inj ho
                have x0 : aX.eval (.tmp 54) = .pointer (some ⟨G, 0, none⟩) := (hpre 0 _ rfl ⟨⟨0, .data⟩, by simp, rfl, rfl⟩)
                exact st_callN 16 _ _ rfl (want_none rfl) #[.pointer (some ⟨G, 0, none⟩)] (by simp [x0]) (by kernel_rfl) _ (HRC.out u hr) (by rintro _ u2 ⟨g9, c9, rfl, _, hr9, hb9⟩; exact ⟨_, rfl, hK _ _ ⟨_, _, rfl, hr9.rd⟩ hb9⟩)
              · obtain rfl := Option.some.inj ho
                obtain ⟨A9, c9, e9, h9⟩ := (hpre 1 _ rfl ⟨⟨1, .data⟩, by simp, rfl, rfl⟩)
                exact st_conv (.tmp 55) rfl (want_none rfl) _ _ _ _ e9 h9 (hK _ _ rfl rf)
              · obtain rfl := Option.some.inj ho
                exact st_move (.tmp 0) rfl (want_none rfl) _ e0 (hK _ _ rfl rf)
              · obtain rfl := Option.some.inj ho
                exact st_conv (.tmp 57) rfl (want_none rfl) _ _ _ _ (hpre 3 _ rfl ⟨⟨3, .data⟩, by simp, rfl, rfl⟩) (HRA.out.below hr) (hK _ _ rfl rf)
              · obtain rfl := Option.some.inj ho
                exact st_eqlStrB (.tmp 56) (.tmp 58) rfl (want_none rfl) _ _ (HB0.out.fit) (HB0.out.fit) (hpre 2 _ rfl ⟨⟨2, .data⟩, by simp, rfl, rfl⟩) (hpre 4 _ rfl ⟨⟨4, .data⟩, by simp, rfl, rfl⟩) (hK _ _ rfl rf)
              · obtain rfl := Option.some.inj ho
                exact st_assign (.tmp 59) rfl (want_none rfl) _ (hpre 5 _ rfl ⟨⟨5, .data⟩, by simp, rfl, rfl⟩) (hK _ _ rfl rf)
              · cases ho
            case m3 =>
              intro aX u hr hk hv
              have h6 := hv 6 _ rfl
              refine hKx aX u (wp_ret (bodyPost_ret (results_tmp rfl _ _ _) hk.defers ⟨?_, below_then HBk.out hr⟩))
              rw [decide_eq_true rfl] at h6; exact congrArg Ending.returned h6
  · have zn : ¬ (n : Int) = 32 := by omega
    go_enter Try.func5, Try.ntmps5
    go_wp2_with fail
    refine (anchor_any w).mono ?_
    rintro e w1 ⟨rfl, hb1⟩
    have B1 := Lib.hid hb1
    clear hb1
    go_wp2
    go_ret
    exact ⟨rfl, B1.out⟩
end Go.Proofs.Ytekfjccpcbbgfaa
