/-
  VaultRises returns true for every slice of operations: its walk.
-/
import Derived.Test.YtekfjccpcbbgfaaLTorn
namespace Go.Proofs.Ytekfjccpcbbgfaa
open Go.RowKit
set_option linter.unusedVariables false
set_option linter.unusedSimpArgs false
set_option maxRecDepth 100000

/-- No index goes down; one that is another one is what was raised. -/
def Rise (o : OpV) (ix ix' : List Nat) : Prop := ∀ (j y y' : Nat), ix[j]? = some y → ix'[j]? = some y' → y ≤ y' ∧ (y' = y ∨ o.kind = 1 ∧ o.a = (j : Int) ∧ o.b = (y' : Int))
theorem Rise.same (o : OpV) (ix : List Nat) : Rise o ix ix := fun j y y' h h' => by
  rw [h] at h'
  injection h' with h'
  exact ⟨by omega, .inl h'.symm⟩
theorem did_cases (V : Vt) (lk : Bool) (ix : List Nat) : ((V.did lk ix).1.ix = ix ∨ (V.did lk ix).1.ix = V.ix) ∧ (V.did lk ix).1.ch ≤ V.ch + 1 := by
  unfold Vt.did
  split
  · split
    · exact ⟨.inl rfl, Int.le_refl _⟩
    · exact ⟨.inr rfl, by show V.ch ≤ _; omega⟩
  · split
    · exact ⟨.inl rfl, Int.le_refl _⟩
    · exact ⟨.inl rfl, Int.le_refl _⟩
theorem raise_g (V : Vt) (l i : Int) : (V.raise l i).1.g = V.g := by
  unfold Vt.raise
  split
  · rfl
  · split
    · rfl
    · split
      · rfl
      · exact did_g _ _ _
theorem lock_g (V : Vt) (b : Bool) : (V.lock b).1.g = V.g := by
  unfold Vt.lock
  split
  · rfl
  · exact did_g _ _ _
theorem lock_rise (V : Vt) (o : OpV) (b : Bool) : Rise o V.ix (V.lock b).1.ix ∧ (V.lock b).1.ch ≤ V.ch + 1 := by
  unfold Vt.lock
  split
  · exact ⟨Rise.same _ _, by show V.ch ≤ _; omega⟩
  · obtain ⟨h1, h2⟩ := did_cases V b V.ix
    refine ⟨?_, h2⟩
    rcases h1 with h1 | h1 <;> (rw [h1]; exact Rise.same _ _)
theorem raise_rise (V : Vt) (l i : Int) (on : Bool) : Rise ⟨1, l, i, on⟩ V.ix (V.raise l i).1.ix ∧ (V.raise l i).1.ch ≤ V.ch + 1 := by
  unfold Vt.raise
  split
  · exact ⟨Rise.same _ _, by show V.ch ≤ _; omega⟩
  · split
    · exact ⟨Rise.same _ _, by show V.ch ≤ _; omega⟩
    · next hok =>
      split
      · exact ⟨Rise.same _ _, by show V.ch ≤ _; omega⟩
      · next hge =>
        obtain ⟨h1, h2⟩ := did_cases V V.lk (V.ix.set l.toNat i.toNat)
        refine ⟨?_, h2⟩
        rcases h1 with h1 | h1
        · rw [h1]
          intro j y y' hy hy'
          have hj := (List.getElem?_eq_some_iff.1 hy).1
          by_cases e : l.toNat = j
          · subst e
            rw [List.getElem?_set_self hj] at hy'
            injection hy' with hy'
            have hg : V.ix.getD l.toNat 0 = y := by simp [List.getD, hy]
            rw [hg] at hge
            exact ⟨by omega, .inr ⟨rfl, by show l = _; omega, by show i = _; omega⟩⟩
          · rw [List.getElem?_set_ne e, hy] at hy'
            injection hy' with hy'
            exact ⟨by omega, .inl hy'.symm⟩
        · rw [h1]; exact Rise.same _ _
/-- What a call of an operation leaves. -/
def Rose (w : World) (g : Nat) (o : OpV) (ix : List Nat) (ch : Int) (w' : World) : Prop := ∃ V', Vlt w' V' ∧ V'.g = g ∧ V'.ch ≤ ch + 1 ∧ Rise o ix V'.ix ∧ Touch [g] w w'
/-- The indexes of which k were looked at. -/
theorem mix_get {a b : List Nat} {k x : Nat} (ha : a.length = 32) (hb : b.length = 32) (hk : k < 32) (hx : b[k]? = some x) : (a.take k ++ b.drop k)[k]? = some x := by
  rw [List.getElem?_append_right (by rw [List.length_take]; omega), List.length_take, ha, Nat.min_eq_left (by omega), Nat.sub_self, List.getElem?_drop, Nat.add_zero]
  exact hx
theorem mix_set {a b : List Nat} {k x : Nat} (ha : a.length = 32) (hb : b.length = 32) (hk : k < 32) (hx : a[k]? = some x) : (a.take k ++ b.drop k).set k x = a.take (k + 1) ++ b.drop (k + 1) := by
  have hbd : b.drop k = b[k]'(by omega) :: b.drop (k + 1) := List.drop_eq_getElem_cons (by omega)
  have hat : a.take (k + 1) = a.take k ++ [x] := by rw [List.take_add_one, hx]; rfl
  rw [hbd, hat, List.set_append_right _ _ (by rw [List.length_take]; omega), List.length_take, ha, Nat.min_eq_left (by omega), Nat.sub_self, List.set_cons_zero, List.append_assoc]
  rfl
theorem rises_raise (V : Vt) (w : World) (h : Vlt w V) (hc : V.ch + 1 ≤ 1152921504606846976) (g : Nat) (hg : V.g = g) (a b : Int) (on : Bool) : Calls Try.prog 9 #[.pointer (some ⟨g, 0, none⟩), .int .i64 a, .int .i64 b] w (fun e w' => ∃ q, e = .returned (.int .i64 q) ∧ Rose w g ⟨1, a, b, on⟩ V.ix V.ch w') := by
  subst hg
  refine (Raise_any V w h hc a b).mono ?_
  rintro e w' ⟨rfl, hv, ht⟩
  exact ⟨_, rfl, _, hv, raise_g _ _ _, (raise_rise V a b on).2, (raise_rise V a b on).1, ht⟩
theorem rises_lock (V : Vt) (w : World) (h : Vlt w V) (hc : V.ch + 1 ≤ 1152921504606846976) (g : Nat) (hg : V.g = g) (o : OpV) (on : Bool) : Calls Try.prog 10 #[.pointer (some ⟨g, 0, none⟩), .bool on] w (fun e w' => ∃ q, e = .returned (.int .i64 q) ∧ Rose w g o V.ix V.ch w') := by
  subst hg
  refine (Lock_any V w h hc on).mono ?_
  rintro e w' ⟨rfl, hv, ht⟩
  exact ⟨_, rfl, _, hv, lock_g _ _, (lock_rise V o on).2, (lock_rise V o on).1, ht⟩
theorem arm_same (V : Vt) (n : Int) (b : Bool) : (V.arm n b).ix = V.ix ∧ (V.arm n b).ch = V.ch ∧ (V.arm n b).g = V.g := by
  unfold Vt.arm; split <;> exact ⟨rfl, rfl, rfl⟩
theorem rises_arm (V : Vt) (w : World) (h : Vlt w V) (g : Nat) (hg : V.g = g) (o : OpV) (n : Int) (hn : n ≤ 9223372036854775807) (on : Bool) : Calls Try.prog 11 #[.pointer (some ⟨g, 0, none⟩), .int .i64 n, .bool on] w (fun e w' => e = .returned (.tuple #[]) ∧ Rose w g o V.ix V.ch w') := by
  subst hg
  refine (Arm_any V w h n on hn).mono ?_
  rintro e w' ⟨rfl, hv, ht⟩
  obtain ⟨h1, h2, h3⟩ := arm_same V n on
  exact ⟨rfl, _, hv, h3, by rw [h2]; omega, by rw [h1]; exact Rise.same _ _, ht⟩
theorem rises_boot (V : Vt) (w : World) (h : Vlt w V) (g : Nat) (hg : V.g = g) (o : OpV) : Calls Try.prog 12 #[.pointer (some ⟨g, 0, none⟩)] w (fun e w' => e = .returned (.tuple #[]) ∧ Rose w g o V.ix V.ch w') := by
  subst hg
  refine (Boot_any V w h).mono ?_
  rintro e w' ⟨rfl, hv, ht⟩
  exact ⟨rfl, _, hv, rfl, by show V.ch ≤ _; omega, Rise.same _ _, ht⟩
theorem index_code (V : Vt) (w : World) (h : Vlt w V) (g : Nat) (hg : V.g = g) (j x : Nat) (hx : V.ix[j]? = some x) : Calls Try.prog 17 #[.pointer (some ⟨g, 0, none⟩), .int .i64 (j : Int)] w fun e w' => e = .returned (.tuple #[.int .i64 (x : Int), .int .i64 0]) ∧ w = w' := by
  subst hg
  exact Index_yes V w h j x hx
set_option maxHeartbeats 4000000 in
theorem rises_walk (A : Option Addr) (n c : Nat) (f : Nat → OpV) (w : World) (hA : Ops w A n c f) :
    Calls Try.prog 4 #[.slice A n c] w fun e w' => e = .returned (.bool true) ∧ Below w.heap.size w w' := by
  have HA := Lib.hid hA
  have hnc := hA.le
  have hcm := hA.max
  clear hA
  go_enter Try.func4, Try.ntmps4
  go_wp2_with fail
  refine (anchor_any w).mono ?_
  rintro e w1 ⟨rfl, hb1⟩
  have B1 := Lib.hid hb1
  clear hb1
  go_wp2_with (first
    | ((with_reducible refine at_dst (some 14) ?_); refine wpList_makeNums (o := ⟨some 14, _, _, _, _, _⟩) rfl _ _ 22 5 rfl .u8 1 Try.underlying22 byteInfo (by omega) .i64 32 rfl rfl 32 rfl (by omega) ?_; intro w2 HB2 hb2 hs2))
  have HR2 := Lib.hid (HB2.out.rd 32 (by simp))
  have B2 : Hid (Below w.heap.size w w2) := B1.out.trans (hb2.mono B1.out.size)
  clear HB2 hb2 hs2
  refine (New_ok _ 32 false _ w2 HR2.out).mono ?_
  rintro e w3 ⟨rfl, hV, hb3⟩
  have HV3 := Lib.hid hV
  have B3 : Hid (Below w.heap.size w w3) := B2.out.trans (hb3.mono B2.out.size)
  obtain ⟨g, hg⟩ : ∃ g, w2.heap.size = g := ⟨_, rfl⟩
  have HG : Hid (w.heap.size ≤ g) := by show _ ≤ _; rw [← hg]; exact B2.out.size
  rw [hg] at HV3
  clear hV hb3
  by_cases n1 : 100 < n
  · have zn : 100 < (n : Int) := by omega
    go_wp2
    go_ret
    exact ⟨rfl, B3.out⟩
  have zn : ¬ 100 < (n : Int) := by omega
  obtain ⟨R, hR⟩ : ∃ R, List.replicate 32 0 = R := ⟨_, rfl⟩
  have HV3' : Hid (Vlt w3 ⟨g, R, false, R, false, -1, false, 0⟩) := by
    have := HV3.out
    unfold Vt.new at this
    rw [hR] at this
    exact this
  have HLT : Hid (g < w3.heap.size) := HV3.out.lt
  clear HV3 HR2
  go_wp2
  generalize hW : w3.alloc _ = W4
  have HK4 : Hid (Blk W4 w3.heap.size 29 (cn .i64 R)) := by rw [← hW, ← hR]; exact Blk.new w3 29 (cn .i64 (List.replicate 32 0))
  have HV4 : Hid (Vlt W4 ⟨g, R, false, R, false, -1, false, 0⟩) := by rw [← hW]; exact HV3'.out.alloc _
  have B4 : Hid (Below w.heap.size w W4) := by rw [← hW]; exact B3.out.alloc B3.out.size _
  obtain ⟨gw, hgw⟩ : ∃ gw, w3.heap.size = gw := ⟨_, rfl⟩
  rw [hgw] at HK4 HLT ⊢
  have HGW : Hid (w.heap.size ≤ gw ∧ gw ≠ g) := ⟨by rw [← hgw]; exact B3.out.size, by have := HLT.out; omega⟩
  clear hW HV3' B3 hgw hR
  go_loopw [37] (fun si wr => ∃ (k : Nat) (V : Vt), si = .int .i64 (k : Int) ∧ k ≤ n ∧ Hid (V.ch ≤ k) ∧ Hid (V.g = g) ∧ Hid (Vlt wr V) ∧ Hid (Blk wr gw 29 (cn .i64 V.ix)) ∧ Hid (Below w.heap.size w wr)) (fun i _ => n - (intOf i).toNat)
  case atStart => exact ⟨0, ⟨g, R, false, R, false, -1, false, 0⟩, rfl, Nat.zero_le _, (show (0 : Int) ≤ _ by omega), rfl, HV4, HK4, B4⟩
  case round =>
    obtain ⟨k, V, rfl, hk, hch, hVg, HV, HK, HB⟩ := hrel
    clear HV4 HK4 B4
    rename World => wo
    by_cases hlt : k < n
    · have zlt : (k : Int) < (n : Int) := by omega
      obtain ⟨ad, rfl, hop⟩ := HA.out.each k hlt
      generalize f k = o at *
      obtain ⟨kind, a, b, on⟩ := o
      obtain ⟨c0, c1, c2, c3, z0, z1, z2, _⟩ := hop.below HB.out
      simp only [] at c0 c1 c2 c3
      have HI : Hid (I64 a) := z1
      obtain ⟨W5, hW5⟩ : ∃ W5, wo.alloc (.cells #[.int .i64 kind, .int .i64 a, .int .i64 b, .bool on] 31) = W5 := ⟨_, rfl⟩
      have HO5 : Hid (Blk W5 wo.heap.size 31 [.int .i64 kind, .int .i64 a, .int .i64 b, .bool on]) := by rw [← hW5]; exact Blk.new wo 31 [.int .i64 kind, .int .i64 a, .int .i64 b, .bool on]
      have HV5 : Hid (Vlt W5 V) := by rw [← hW5]; exact HV.out.alloc _
      have HK5 : Hid (Blk W5 gw 29 (cn .i64 V.ix)) := by rw [← hW5]; exact HK.out.alloc _
      have B5 : Hid (Below w.heap.size w W5) := by rw [← hW5]; exact HB.out.alloc HB.out.size _
      have HGO : Hid (w.heap.size ≤ wo.heap.size ∧ wo.heap.size ≠ g ∧ wo.heap.size ≠ gw) := ⟨HB.out.size, by have h1 := HV.out.lt; rw [hVg.out] at h1; omega, by have h1 := HK.out.lt; omega⟩
      have HL5 : Hid (V.ix.length = 32) := HV.out.il
      have HCC : Hid (V.ch + 1 ≤ 1152921504606846976) := by have := hch.out; show _ ≤ _; omega
      have d0 : W5.cell? ⟨wo.heap.size, 0, none⟩ = some (.int .i64 kind) := HO5.out.cell 0
      have d1 : W5.cell? ⟨wo.heap.size, 1, none⟩ = some (.int .i64 a) := HO5.out.cell 1
      have d2 : W5.cell? ⟨wo.heap.size, 2, none⟩ = some (.int .i64 b) := HO5.out.cell 2
      have d3 : W5.cell? ⟨wo.heap.size, 3, none⟩ = some (.bool on) := HO5.out.cell 3
      clear hop z0 z1 z2 HV HK HB
      by_cases k1 : kind = 1
      · subst k1
        go_wp2_with fail
        refine (rises_raise V W5 HV5.out HCC.out g hVg.out a b on).mono ?_
        rintro e w6 ⟨q, rfl, V', hV', hg', hc', hR', hT'⟩
        have HV6 := Lib.hid hV'
        have HK6 : Hid (Blk w6 gw 29 (cn .i64 (V'.ix.take 0 ++ V.ix.drop 0))) := HK5.out.touch hT' (by simpa using HGW.out.2)
        have HO6 := Lib.hid (HO5.out.touch hT' (by simpa using HGO.out.2.1))
        have B6 : Hid (Below w.heap.size w w6) := B5.out.trans (hT'.below (fun x hx => by rw [List.mem_singleton.1 hx]; exact HG.out) B5.out.size)
        have HG6 := Lib.hid hg'
        have HC6 : Hid (V'.ch ≤ V.ch + 1) := hc'
        have HR6 := Lib.hid hR'
        have HL6 : Hid (V'.ix.length = 32) := hV'.il
        clear hV' hg' hc' hR' hT' HV5 HK5 HO5 B5 d0 d1 d2 d3 c0 c1 c2 c3 hW5
        go_wp2
        go_loopw [69] (fun si wr => ∃ i : Nat, si = .int .i64 (i : Int) ∧ i ≤ 32 ∧ Hid (Vlt wr V') ∧ Hid (Blk wr gw 29 (cn .i64 (V'.ix.take i ++ V.ix.drop i))) ∧ Hid (Blk wr wo.heap.size 31 [.int .i64 1, .int .i64 a, .int .i64 b, .bool on]) ∧ Hid (Below w.heap.size w wr)) (fun i _ => 32 - (intOf i).toNat)
        case atStart => exact ⟨0, rfl, Nat.zero_le _, HV6, HK6, HO6, B6⟩
        case round =>
          obtain ⟨i, rfl, hi, HVi, HKi, HOi, HBi⟩ := hrel
          clear HV6 HK6 HO6 B6
          by_cases hi32 : i < 32
          · have zi : (i : Int) < 32 := by omega
            obtain ⟨y, hy⟩ := get_some (l := V.ix) (i := i) (by rw [HL5.out]; exact hi32)
            obtain ⟨y', hy'⟩ := get_some (l := V'.ix) (i := i) (by rw [HL6.out]; exact hi32)
            have hrr := HR6.out i y y' hy hy'
            have e0 : wr.cell? ⟨gw, i, none⟩ = some (.int .i64 (y : Int)) := (HKi.out.cell i).trans (cn_get (mix_get HL6.out HL5.out hi32 hy))
            have ez : wr.frozen? ⟨gw, i, none⟩ = false := HKi.out.frozen i
            have HKS : Hid (Blk (wr.setCell ⟨gw, i, none⟩ (.int .i64 (y' : Int))) gw 29 (cn .i64 (V'.ix.take (i + 1) ++ V.ix.drop (i + 1)))) := by
              have := HKi.out.set_ i (.int .i64 (y' : Int))
              rw [cn_set, mix_set HL6.out HL5.out hi32 hy'] at this
              exact this
            have HIX := Lib.hid (index_code V' wr HVi.out g HG6.out i y' hy')
            have zle : ¬ (y' : Int) < (y : Int) := by omega
            rcases hrr.2 with e | ⟨_, e1, e2⟩
            · obtain rfl : y' = y := e
              clear hrr hy hy'
              go_wp2_with fail
              refine HIX.out.mono ?_
              rintro e w7 ⟨rfl, rfl⟩
              go_wp2
              go_roundw
              case rel => exact ⟨i + 1, by go_num, by omega, HVi.out.touch ((Touch.refl [gw] wr).setCell (p := ⟨gw, i, none⟩) (.inl (by simp)) _) (by rw [HG6.out]; simpa using HGW.out.2.symm), HKS, HOi.out.far (p := ⟨gw, i, none⟩) HGO.out.2.2 _, HBi.out.setCell (p := ⟨gw, i, none⟩) HGW.out.1 _⟩
              case measure => simp [intOf]; omega
            · by_cases e : y' = y
              · obtain rfl : y' = y := e
                clear e1 e2
                clear hrr hy hy'
                go_wp2_with fail
                refine HIX.out.mono ?_
                rintro e w7 ⟨rfl, rfl⟩
                go_wp2
                go_roundw
                case rel => exact ⟨i + 1, by go_num, by omega, HVi.out.touch ((Touch.refl [gw] wr).setCell (p := ⟨gw, i, none⟩) (.inl (by simp)) _) (by rw [HG6.out]; simpa using HGW.out.2.symm), HKS, HOi.out.far (p := ⟨gw, i, none⟩) HGO.out.2.2 _, HBi.out.setCell (p := ⟨gw, i, none⟩) HGW.out.1 _⟩
                case measure => simp [intOf]; omega
              · have zne : ¬ (y' : Int) = (y : Int) := by omega
                simp only [] at e1 e2
                subst e1 e2
                have o0 : wr.cell? ⟨wo.heap.size, 0, none⟩ = some (.int .i64 1) := HOi.out.cell 0
                have o1 : wr.cell? ⟨wo.heap.size, 1, none⟩ = some (.int .i64 (i : Int)) := HOi.out.cell 1
                have o2 : wr.cell? ⟨wo.heap.size, 2, none⟩ = some (.int .i64 (y' : Int)) := HOi.out.cell 2
                clear hrr hy hy'
                go_wp2_with fail
                refine HIX.out.mono ?_
                rintro e w7 ⟨rfl, rfl⟩
                go_wp2
                go_roundw
                case rel => exact ⟨i + 1, by go_num, by omega, HVi.out.touch ((Touch.refl [gw] wr).setCell (p := ⟨gw, i, none⟩) (.inl (by simp)) _) (by rw [HG6.out]; simpa using HGW.out.2.symm), HKS, HOi.out.far (p := ⟨gw, i, none⟩) HGO.out.2.2 _, HBi.out.setCell (p := ⟨gw, i, none⟩) HGW.out.1 _⟩
                case measure => simp [intOf]; omega
          · obtain rfl : i = 32 := by omega
            have HKF : Hid (Blk wr gw 29 (cn .i64 V'.ix)) := by
              have := HKi.out
              rw [List.take_of_length_le (by rw [HL6.out]; omega), List.drop_eq_nil_of_le (by rw [HL5.out]; omega), List.append_nil] at this
              exact this
            clear HKi HOi
            go_wp2
            go_roundw
            case rel => exact ⟨k + 1, V', by go_num, by omega, (by have := hch.out; have := HC6.out; show _ ≤ _; omega), HG6, HVi, HKF, HBi⟩
            case measure => simp [intOf]; omega
      · by_cases k2 : kind = 2
        · subst k2
          go_wp2_with fail
          refine (rises_lock V W5 HV5.out HCC.out g hVg.out ⟨2, a, b, on⟩ on).mono ?_
          rintro e w6 ⟨q, rfl, V', hV', hg', hc', hR', hT'⟩
          have HV6 := Lib.hid hV'
          have HK6 : Hid (Blk w6 gw 29 (cn .i64 (V'.ix.take 0 ++ V.ix.drop 0))) := HK5.out.touch hT' (by simpa using HGW.out.2)
          have HO6 := Lib.hid (HO5.out.touch hT' (by simpa using HGO.out.2.1))
          have B6 : Hid (Below w.heap.size w w6) := B5.out.trans (hT'.below (fun x hx => by rw [List.mem_singleton.1 hx]; exact HG.out) B5.out.size)
          have HG6 := Lib.hid hg'
          have HC6 : Hid (V'.ch ≤ V.ch + 1) := hc'
          have HR6 := Lib.hid hR'
          have HL6 : Hid (V'.ix.length = 32) := hV'.il
          clear hV' hg' hc' hR' hT' HV5 HK5 HO5 B5 d0 d1 d2 d3 c0 c1 c2 c3 hW5
          go_wp2
          go_loopw [69] (fun si wr => ∃ i : Nat, si = .int .i64 (i : Int) ∧ i ≤ 32 ∧ Hid (Vlt wr V') ∧ Hid (Blk wr gw 29 (cn .i64 (V'.ix.take i ++ V.ix.drop i))) ∧ Hid (Blk wr wo.heap.size 31 [.int .i64 2, .int .i64 a, .int .i64 b, .bool on]) ∧ Hid (Below w.heap.size w wr)) (fun i _ => 32 - (intOf i).toNat)
          case atStart => exact ⟨0, rfl, Nat.zero_le _, HV6, HK6, HO6, B6⟩
          case round =>
            obtain ⟨i, rfl, hi, HVi, HKi, HOi, HBi⟩ := hrel
            clear HV6 HK6 HO6 B6
            by_cases hi32 : i < 32
            · have zi : (i : Int) < 32 := by omega
              obtain ⟨y, hy⟩ := get_some (l := V.ix) (i := i) (by rw [HL5.out]; exact hi32)
              obtain ⟨y', hy'⟩ := get_some (l := V'.ix) (i := i) (by rw [HL6.out]; exact hi32)
              have hrr := HR6.out i y y' hy hy'
              have e0 : wr.cell? ⟨gw, i, none⟩ = some (.int .i64 (y : Int)) := (HKi.out.cell i).trans (cn_get (mix_get HL6.out HL5.out hi32 hy))
              have ez : wr.frozen? ⟨gw, i, none⟩ = false := HKi.out.frozen i
              have HKS : Hid (Blk (wr.setCell ⟨gw, i, none⟩ (.int .i64 (y' : Int))) gw 29 (cn .i64 (V'.ix.take (i + 1) ++ V.ix.drop (i + 1)))) := by
                have := HKi.out.set_ i (.int .i64 (y' : Int))
                rw [cn_set, mix_set HL6.out HL5.out hi32 hy'] at this
                exact this
              have HIX := Lib.hid (index_code V' wr HVi.out g HG6.out i y' hy')
              have zle : ¬ (y' : Int) < (y : Int) := by omega
              obtain rfl : y' = y := by
                rcases hrr.2 with e | ⟨e0, _, _⟩
                · exact e
                · simp only [] at e0; omega
              clear hrr hy hy'
              go_wp2_with fail
              refine HIX.out.mono ?_
              rintro e w7 ⟨rfl, rfl⟩
              go_wp2
              go_roundw
              case rel => exact ⟨i + 1, by go_num, by omega, HVi.out.touch ((Touch.refl [gw] wr).setCell (p := ⟨gw, i, none⟩) (.inl (by simp)) _) (by rw [HG6.out]; simpa using HGW.out.2.symm), HKS, HOi.out.far (p := ⟨gw, i, none⟩) HGO.out.2.2 _, HBi.out.setCell (p := ⟨gw, i, none⟩) HGW.out.1 _⟩
              case measure => simp [intOf]; omega
            · obtain rfl : i = 32 := by omega
              have HKF : Hid (Blk wr gw 29 (cn .i64 V'.ix)) := by
                have := HKi.out
                rw [List.take_of_length_le (by rw [HL6.out]; omega), List.drop_eq_nil_of_le (by rw [HL5.out]; omega), List.append_nil] at this
                exact this
              clear HKi HOi
              go_wp2
              go_roundw
              case rel => exact ⟨k + 1, V', by go_num, by omega, (by have := hch.out; have := HC6.out; show _ ≤ _; omega), HG6, HVi, HKF, HBi⟩
              case measure => simp [intOf]; omega
        · by_cases k3 : kind = 3
          · subst k3
            go_wp2_with fail
            refine (rises_arm V W5 HV5.out g hVg.out ⟨3, a, b, on⟩ a HI.out.2 on).mono ?_
            rintro e w6 ⟨rfl, V', hV', hg', hc', hR', hT'⟩
            have HV6 := Lib.hid hV'
            have HK6 : Hid (Blk w6 gw 29 (cn .i64 (V'.ix.take 0 ++ V.ix.drop 0))) := HK5.out.touch hT' (by simpa using HGW.out.2)
            have HO6 := Lib.hid (HO5.out.touch hT' (by simpa using HGO.out.2.1))
            have B6 : Hid (Below w.heap.size w w6) := B5.out.trans (hT'.below (fun x hx => by rw [List.mem_singleton.1 hx]; exact HG.out) B5.out.size)
            have HG6 := Lib.hid hg'
            have HC6 : Hid (V'.ch ≤ V.ch + 1) := hc'
            have HR6 := Lib.hid hR'
            have HL6 : Hid (V'.ix.length = 32) := hV'.il
            clear hV' hg' hc' hR' hT' HV5 HK5 HO5 B5 d0 d1 d2 d3 c0 c1 c2 c3 hW5
            go_wp2
            go_loopw [69] (fun si wr => ∃ i : Nat, si = .int .i64 (i : Int) ∧ i ≤ 32 ∧ Hid (Vlt wr V') ∧ Hid (Blk wr gw 29 (cn .i64 (V'.ix.take i ++ V.ix.drop i))) ∧ Hid (Blk wr wo.heap.size 31 [.int .i64 3, .int .i64 a, .int .i64 b, .bool on]) ∧ Hid (Below w.heap.size w wr)) (fun i _ => 32 - (intOf i).toNat)
            case atStart => exact ⟨0, rfl, Nat.zero_le _, HV6, HK6, HO6, B6⟩
            case round =>
              obtain ⟨i, rfl, hi, HVi, HKi, HOi, HBi⟩ := hrel
              clear HV6 HK6 HO6 B6
              by_cases hi32 : i < 32
              · have zi : (i : Int) < 32 := by omega
                obtain ⟨y, hy⟩ := get_some (l := V.ix) (i := i) (by rw [HL5.out]; exact hi32)
                obtain ⟨y', hy'⟩ := get_some (l := V'.ix) (i := i) (by rw [HL6.out]; exact hi32)
                have hrr := HR6.out i y y' hy hy'
                have e0 : wr.cell? ⟨gw, i, none⟩ = some (.int .i64 (y : Int)) := (HKi.out.cell i).trans (cn_get (mix_get HL6.out HL5.out hi32 hy))
                have ez : wr.frozen? ⟨gw, i, none⟩ = false := HKi.out.frozen i
                have HKS : Hid (Blk (wr.setCell ⟨gw, i, none⟩ (.int .i64 (y' : Int))) gw 29 (cn .i64 (V'.ix.take (i + 1) ++ V.ix.drop (i + 1)))) := by
                  have := HKi.out.set_ i (.int .i64 (y' : Int))
                  rw [cn_set, mix_set HL6.out HL5.out hi32 hy'] at this
                  exact this
                have HIX := Lib.hid (index_code V' wr HVi.out g HG6.out i y' hy')
                have zle : ¬ (y' : Int) < (y : Int) := by omega
                obtain rfl : y' = y := by
                  rcases hrr.2 with e | ⟨e0, _, _⟩
                  · exact e
                  · simp only [] at e0; omega
                clear hrr hy hy'
                go_wp2_with fail
                refine HIX.out.mono ?_
                rintro e w7 ⟨rfl, rfl⟩
                go_wp2
                go_roundw
                case rel => exact ⟨i + 1, by go_num, by omega, HVi.out.touch ((Touch.refl [gw] wr).setCell (p := ⟨gw, i, none⟩) (.inl (by simp)) _) (by rw [HG6.out]; simpa using HGW.out.2.symm), HKS, HOi.out.far (p := ⟨gw, i, none⟩) HGO.out.2.2 _, HBi.out.setCell (p := ⟨gw, i, none⟩) HGW.out.1 _⟩
                case measure => simp [intOf]; omega
              · obtain rfl : i = 32 := by omega
                have HKF : Hid (Blk wr gw 29 (cn .i64 V'.ix)) := by
                  have := HKi.out
                  rw [List.take_of_length_le (by rw [HL6.out]; omega), List.drop_eq_nil_of_le (by rw [HL5.out]; omega), List.append_nil] at this
                  exact this
                clear HKi HOi
                go_wp2
                go_roundw
                case rel => exact ⟨k + 1, V', by go_num, by omega, (by have := hch.out; have := HC6.out; show _ ≤ _; omega), HG6, HVi, HKF, HBi⟩
                case measure => simp [intOf]; omega
          · by_cases k4 : kind = 4
            · subst k4
              go_wp2_with fail
              refine (rises_boot V W5 HV5.out g hVg.out ⟨4, a, b, on⟩).mono ?_
              rintro e w6 ⟨rfl, V', hV', hg', hc', hR', hT'⟩
              have HV6 := Lib.hid hV'
              have HK6 : Hid (Blk w6 gw 29 (cn .i64 (V'.ix.take 0 ++ V.ix.drop 0))) := HK5.out.touch hT' (by simpa using HGW.out.2)
              have HO6 := Lib.hid (HO5.out.touch hT' (by simpa using HGO.out.2.1))
              have B6 : Hid (Below w.heap.size w w6) := B5.out.trans (hT'.below (fun x hx => by rw [List.mem_singleton.1 hx]; exact HG.out) B5.out.size)
              have HG6 := Lib.hid hg'
              have HC6 : Hid (V'.ch ≤ V.ch + 1) := hc'
              have HR6 := Lib.hid hR'
              have HL6 : Hid (V'.ix.length = 32) := hV'.il
              clear hV' hg' hc' hR' hT' HV5 HK5 HO5 B5 d0 d1 d2 d3 c0 c1 c2 c3 hW5
              go_wp2
              go_loopw [69] (fun si wr => ∃ i : Nat, si = .int .i64 (i : Int) ∧ i ≤ 32 ∧ Hid (Vlt wr V') ∧ Hid (Blk wr gw 29 (cn .i64 (V'.ix.take i ++ V.ix.drop i))) ∧ Hid (Blk wr wo.heap.size 31 [.int .i64 4, .int .i64 a, .int .i64 b, .bool on]) ∧ Hid (Below w.heap.size w wr)) (fun i _ => 32 - (intOf i).toNat)
              case atStart => exact ⟨0, rfl, Nat.zero_le _, HV6, HK6, HO6, B6⟩
              case round =>
                obtain ⟨i, rfl, hi, HVi, HKi, HOi, HBi⟩ := hrel
                clear HV6 HK6 HO6 B6
                by_cases hi32 : i < 32
                · have zi : (i : Int) < 32 := by omega
                  obtain ⟨y, hy⟩ := get_some (l := V.ix) (i := i) (by rw [HL5.out]; exact hi32)
                  obtain ⟨y', hy'⟩ := get_some (l := V'.ix) (i := i) (by rw [HL6.out]; exact hi32)
                  have hrr := HR6.out i y y' hy hy'
                  have e0 : wr.cell? ⟨gw, i, none⟩ = some (.int .i64 (y : Int)) := (HKi.out.cell i).trans (cn_get (mix_get HL6.out HL5.out hi32 hy))
                  have ez : wr.frozen? ⟨gw, i, none⟩ = false := HKi.out.frozen i
                  have HKS : Hid (Blk (wr.setCell ⟨gw, i, none⟩ (.int .i64 (y' : Int))) gw 29 (cn .i64 (V'.ix.take (i + 1) ++ V.ix.drop (i + 1)))) := by
                    have := HKi.out.set_ i (.int .i64 (y' : Int))
                    rw [cn_set, mix_set HL6.out HL5.out hi32 hy'] at this
                    exact this
                  have HIX := Lib.hid (index_code V' wr HVi.out g HG6.out i y' hy')
                  have zle : ¬ (y' : Int) < (y : Int) := by omega
                  obtain rfl : y' = y := by
                    rcases hrr.2 with e | ⟨e0, _, _⟩
                    · exact e
                    · simp only [] at e0; omega
                  clear hrr hy hy'
                  go_wp2_with fail
                  refine HIX.out.mono ?_
                  rintro e w7 ⟨rfl, rfl⟩
                  go_wp2
                  go_roundw
                  case rel => exact ⟨i + 1, by go_num, by omega, HVi.out.touch ((Touch.refl [gw] wr).setCell (p := ⟨gw, i, none⟩) (.inl (by simp)) _) (by rw [HG6.out]; simpa using HGW.out.2.symm), HKS, HOi.out.far (p := ⟨gw, i, none⟩) HGO.out.2.2 _, HBi.out.setCell (p := ⟨gw, i, none⟩) HGW.out.1 _⟩
                  case measure => simp [intOf]; omega
                · obtain rfl : i = 32 := by omega
                  have HKF : Hid (Blk wr gw 29 (cn .i64 V'.ix)) := by
                    have := HKi.out
                    rw [List.take_of_length_le (by rw [HL6.out]; omega), List.drop_eq_nil_of_le (by rw [HL5.out]; omega), List.append_nil] at this
                    exact this
                  clear HKi HOi
                  go_wp2
                  go_roundw
                  case rel => exact ⟨k + 1, V', by go_num, by omega, (by have := hch.out; have := HC6.out; show _ ≤ _; omega), HG6, HVi, HKF, HBi⟩
                  case measure => simp [intOf]; omega
            · have bk1 : (kind == 1) = false := by simpa using k1
              have bk2 : (kind == 2) = false := by simpa using k2
              have bk3 : (kind == 3) = false := by simpa using k3
              have bk4 : (kind == 4) = false := by simpa using k4
              go_wp2
              obtain ⟨w6, hw6, V', hV', hg', hc', hR', hT'⟩ : ∃ w6, w6 = W5 ∧ Rose W5 g ⟨kind, a, b, on⟩ V.ix V.ch w6 := ⟨W5, rfl, V, HV5.out, hVg.out, by omega, Rise.same _ _, Touch.refl _ _⟩
              subst hw6
              have HV6 := Lib.hid hV'
              have HK6 : Hid (Blk w6 gw 29 (cn .i64 (V'.ix.take 0 ++ V.ix.drop 0))) := HK5.out.touch hT' (by simpa using HGW.out.2)
              have HO6 := Lib.hid (HO5.out.touch hT' (by simpa using HGO.out.2.1))
              have B6 : Hid (Below w.heap.size w w6) := B5.out.trans (hT'.below (fun x hx => by rw [List.mem_singleton.1 hx]; exact HG.out) B5.out.size)
              have HG6 := Lib.hid hg'
              have HC6 : Hid (V'.ch ≤ V.ch + 1) := hc'
              have HR6 := Lib.hid hR'
              have HL6 : Hid (V'.ix.length = 32) := hV'.il
              clear hV' hg' hc' hR' hT' HV5 HK5 HO5 B5 d0 d1 d2 d3 c0 c1 c2 c3 hW5
              go_loopw [69] (fun si wr => ∃ i : Nat, si = .int .i64 (i : Int) ∧ i ≤ 32 ∧ Hid (Vlt wr V') ∧ Hid (Blk wr gw 29 (cn .i64 (V'.ix.take i ++ V.ix.drop i))) ∧ Hid (Blk wr wo.heap.size 31 [.int .i64 kind, .int .i64 a, .int .i64 b, .bool on]) ∧ Hid (Below w.heap.size w wr)) (fun i _ => 32 - (intOf i).toNat)
              case atStart => exact ⟨0, rfl, Nat.zero_le _, HV6, HK6, HO6, B6⟩
              case round =>
                obtain ⟨i, rfl, hi, HVi, HKi, HOi, HBi⟩ := hrel
                clear HV6 HK6 HO6 B6
                by_cases hi32 : i < 32
                · have zi : (i : Int) < 32 := by omega
                  obtain ⟨y, hy⟩ := get_some (l := V.ix) (i := i) (by rw [HL5.out]; exact hi32)
                  obtain ⟨y', hy'⟩ := get_some (l := V'.ix) (i := i) (by rw [HL6.out]; exact hi32)
                  have hrr := HR6.out i y y' hy hy'
                  have e0 : wr.cell? ⟨gw, i, none⟩ = some (.int .i64 (y : Int)) := (HKi.out.cell i).trans (cn_get (mix_get HL6.out HL5.out hi32 hy))
                  have ez : wr.frozen? ⟨gw, i, none⟩ = false := HKi.out.frozen i
                  have HKS : Hid (Blk (wr.setCell ⟨gw, i, none⟩ (.int .i64 (y' : Int))) gw 29 (cn .i64 (V'.ix.take (i + 1) ++ V.ix.drop (i + 1)))) := by
                    have := HKi.out.set_ i (.int .i64 (y' : Int))
                    rw [cn_set, mix_set HL6.out HL5.out hi32 hy'] at this
                    exact this
                  have HIX := Lib.hid (index_code V' wr HVi.out g HG6.out i y' hy')
                  have zle : ¬ (y' : Int) < (y : Int) := by omega
                  obtain rfl : y' = y := by
                    rcases hrr.2 with e | ⟨e0, _, _⟩
                    · exact e
                    · simp only [] at e0; omega
                  clear hrr hy hy'
                  go_wp2_with fail
                  refine HIX.out.mono ?_
                  rintro e w7 ⟨rfl, rfl⟩
                  go_wp2
                  go_roundw
                  case rel => exact ⟨i + 1, by go_num, by omega, HVi.out.touch ((Touch.refl [gw] wr).setCell (p := ⟨gw, i, none⟩) (.inl (by simp)) _) (by rw [HG6.out]; simpa using HGW.out.2.symm), HKS, HOi.out.far (p := ⟨gw, i, none⟩) HGO.out.2.2 _, HBi.out.setCell (p := ⟨gw, i, none⟩) HGW.out.1 _⟩
                  case measure => simp [intOf]; omega
                · obtain rfl : i = 32 := by omega
                  have HKF : Hid (Blk wr gw 29 (cn .i64 V'.ix)) := by
                    have := HKi.out
                    rw [List.take_of_length_le (by rw [HL6.out]; omega), List.drop_eq_nil_of_le (by rw [HL5.out]; omega), List.append_nil] at this
                    exact this
                  clear HKi HOi
                  go_wp2
                  go_roundw
                  case rel => exact ⟨k + 1, V', by go_num, by omega, (by have := hch.out; have := HC6.out; show _ ≤ _; omega), HG6, HVi, HKF, HBi⟩
                  case measure => simp [intOf]; omega
    · obtain rfl : k = n := by omega
      clear HV HK
      go_wp2
      go_ret
      exact ⟨rfl, HB.out⟩
end Go.Proofs.Ytekfjccpcbbgfaa
