/-
  The program's addRow and Mul: what they answer of limbs in memory.
-/
import Derived.Test.YtbajckbjjepceaaDoorProg3
import Derived.Test.YtbajckbjjepceaaDoorRef4
namespace Go.Proofs.YtbajckbjjepceaaDoor
open Go.RowKit
set_option linter.unusedVariables false
set_option linter.unusedSimpArgs false

set_option maxHeartbeats 4000000 in
theorem addRow_any (g off n cap : Nat) (A' : Option Addr) (cap' : Nat) (O lb : List Nat) (x : Nat) (w : World) (hB : Blk w g 48 (cn .u32 O)) (hO : Fit 4294967296 O) (hl : off + n ≤ O.length) (h' : Rd .u32 w A' n lb) (hf' : Fit 4294967296 lb) (hne : ∀ ad, A' = some ad → ad.block ≠ g) (hx : x < 4294967296) (hn : n ≤ 1000) :
    Calls Tryd.prog 36 #[.slice (some ⟨g, off, none⟩) n cap, .slice A' n cap', .int .u32 (x : Int)] w fun e w' => ∃ c O', e = .returned (.int .u32 (c : Nat)) ∧ c < 4294967296 ∧ O'.length = O.length ∧ Fit 4294967296 O' ∧ (∀ j, off + n ≤ j → O'[j]? = O[j]?) ∧ val 4294967296 O' + 4294967296 ^ (off + n) * c = val 4294967296 O + 4294967296 ^ off * (x * val 4294967296 lb) ∧ Blk w' g 48 (cn .u32 O') ∧ w.grownBy w' (some g) := by
  have HR := Lib.hid h'
  have HB := Lib.hid hB
  have HL := Lib.hid hl
  have HNE := Lib.hid hne
  clear h' hB hl hne
  go_enter Tryd.func36, Tryd.ntmps36
  go_wp2
  go_loopw [7, 12] (fun cc i wr => ∃ (k c : Nat) (O' : List Nat), k ≤ n ∧ c < 4294967296 ∧ i = .int .i64 (k : Int) ∧ cc = .int .u64 (c : Int) ∧ Hid (O'.length = O.length ∧ Fit 4294967296 O' ∧ (∀ j, off + n ≤ j → O'[j]? = O[j]?) ∧ val 4294967296 O' + 4294967296 ^ (off + k) * c = val 4294967296 O + 4294967296 ^ off * (x * val 4294967296 (lb.take k))) ∧ Hid (Blk wr g 48 (cn .u32 O')) ∧ w.grownBy wr (some g)) (fun _ i _ => n - (intOf i).toNat)
  case atStart => exact ⟨0, 0, O, by omega, by omega, rfl, rfl, ⟨rfl, hO, fun _ _ => rfl, by simp [val]⟩, HB, World.grownBy.refl w _⟩
  case round =>
    obtain ⟨k, c, O', hk, hc, rfl, rfl, HI, HB', hgr⟩ := hrel
    by_cases hkn : k < n
    · obtain ⟨ad, y, rfl, hy, hcell⟩ := (HR.out.grown hgr HNE.out).get (j := k) (by omega)
      have hy1 := hf'.get hy
      obtain ⟨o, ho⟩ := get_some (l := O') (i := off + k) (by rw [HI.out.1]; have := HL.out; omega)
      have ho1 := HI.out.2.1.get ho
      have hoc := (HB'.out.cell (off + k)).trans (cn_get ho)
      have hof := HB'.out.frozen (off + k)
      have hm0 : x * y ≤ 4294967295 * 4294967295 := Nat.mul_le_mul (by omega) (by omega)
      obtain ⟨p, hp⟩ : ∃ p, p = x * y := ⟨_, rfl⟩
      have hp1 : (x : Int) * y = (p : Int) := by rw [hp, Int.natCast_mul]
      have hp2 : (p : Int) ≤ 18446744065119617025 := by omega
      have hst := mul_step HI.out.2.2.2 ho (o + c + p) (by rw [dig_some hy, hp])
      have HST := Lib.hid hst
      have HO := Lib.hid ho
      clear hm0 hp hst ho hy
      go_wp2
      have es : ((c : Int) + ((p : Int) + o)) % 4294967296 = (((o + c + p) % 4294967296 : Nat) : Int) := by omega
      have ec : ((c : Int) + ((p : Int) + o)) / 4294967296 = (((o + c + p) / 4294967296 : Nat) : Int) := by omega
      have ES := Lib.hid es
      have EC := Lib.hid ec
      clear es ec
      go_roundw
      case rel =>
        refine ⟨k + 1, (o + c + p) / 4294967296, O'.set (off + k) ((o + c + p) % 4294967296), by omega, by omega, by go_num, by rw [EC.out], ⟨by simp [HI.out.1], HI.out.2.1.set _ _ (Nat.mod_lt _ (by omega)), fun j hj => ?_, HST.out⟩, ?_, only_setCell hgr (.inl rfl) _⟩
        · rw [List.getElem?_set_ne (by omega)]; exact HI.out.2.2.1 j hj
        · have := HB'.out.set_ (off + k) (.int .u32 (((o + c + p) % 4294967296 : Nat) : Int))
          rw [cn_set] at this
          rw [ES.out]
          exact this
      case measure => simp [intOf]; omega
    · obtain rfl : k = n := by omega
      go_wp2
      go_ret
      have hv := HI.out.2.2.2
      rw [List.take_of_length_le (by rw [HR.out.1]; omega)] at hv
      exact ⟨c, O', rfl, hc, HI.out.1, HI.out.2.1, HI.out.2.2.1, hv, HB'.out, hgr⟩

theorem run_cut (A : Option Addr) (k cap : Nat) (lo hi : Nat) (h1 : lo ≤ hi) (h2 : hi ≤ cap) (L H : Int) (hL : L = (lo : Int)) (hH : H = (hi : Int)) (w : World) :
    (Instr.slice 24 (.slice A k cap) (some (.int .i64 L)) (some (.int .i64 H)) none).run Tryd.prog w = .ok (.slice (if cap = lo then A else A.map (·.add lo)) (hi - lo) (cap - lo)) w := by
  subst hL hH
  obtain ⟨i0, hi0, hz0, hz1, hz2⟩ := info_parts wordInfo
  simp [Instr.slice, run_underlying Tryd.underlying24, Instr.sliceBounds, run_sliceBound, sizeOf, typeInfo, hi0, hz1, h1, h2]
theorem run_mid (g T lo n : Nat) (h1 : lo + n ≤ T) (h2 : lo < T) (H : Int) (hH : H = (lo : Int) + n) (w : World) :
    (Instr.slice 24 (.slice (some ⟨g, 0, none⟩) T T) (some (.int .i64 (lo : Int))) (some (.int .i64 H)) none).run Tryd.prog w = .ok (.slice (some ⟨g, lo, none⟩) n (T - lo)) w := by
  rw [run_cut (some ⟨g, 0, none⟩) T T lo (lo + n) (by omega) h1 lo H rfl (by omega) w, if_neg (by omega), Nat.add_sub_cancel_left]
  simp [addr_add]
theorem high_zero {B : Nat} {l : List Nat} {j o : Nat} (h : l[j]? = some o) (hv : val B l < B ^ j) : o = 0 := by
  have e := split_at h
  have hi := (List.getElem?_eq_some_iff.1 h).1
  have hl : (l.take j).length = j := by simp; omega
  rw [e, val_append, val, hl, Nat.mul_add] at hv
  rcases Nat.eq_zero_or_pos o with h0 | h0
  · exact h0
  · have : B ^ j * 1 ≤ B ^ j * o := Nat.mul_le_mul_left _ h0
    omega

set_option maxHeartbeats 4000000 in
theorem Mul_ok (A A' : Option Addr) (n cap n' cap' : Nat) (la lb : List Nat) (w : World) (h : Rd .u32 w A n la) (h' : Rd .u32 w A' n' lb) (hf : Fit 4294967296 la) (hf' : Fit 4294967296 lb) (hn : 1 ≤ n) (hn2 : 1 ≤ n') (hs : n + n' ≤ 256) :
    Calls Tryd.prog 25 #[.slice A n cap, .slice A' n' cap'] w fun e w' => ∃ A1 T zs, e = .returned (.tuple #[.slice A1 T T, .int .i64 0]) ∧ T = n + n' ∧ Limbs w w' A1 T T zs ∧ val 4294967296 zs = val 4294967296 la * val 4294967296 lb := by
  have HR := Lib.hid h
  have HR' := Lib.hid h'
  have hok : ([(A, n, cap), (A', n', cap')].all fun p => okW p.2.1) = true := by simp [okW]; omega
  have HOK := Lib.hid hok
  obtain ⟨T, hT⟩ : ∃ T, T = n + n' := ⟨_, rfl⟩
  have HT := Lib.hid hT
  have hT2 : T ≤ 100000 := by omega
  have hT3 : (n : Int) + n' = T := by omega
  have HT3 := Lib.hid hT3
  clear h h' hok hT hT3
  go_enter Tryd.func25, Tryd.ntmps25
  go_wp2_with fail
  refine (areNumbers_any _ 2 2 _ _ (Lists.new2 w A n cap A' n' cap') rfl (by omega)).mono ?_
  rintro e w1 ⟨rfl, rfl⟩
  rw [HOK.out]
  have hb0 : Below w.heap.size w (w.alloc (.cells #[.slice A n cap, .slice A' n' cap'] 24)) := (Below.refl _ _).alloc (Nat.le_refl _) _
  have HS0 : Hid (w.heap.size ≤ (w.alloc (.cells #[.slice A n cap, .slice A' n' cap'] 24)).heap.size) := hb0.size
  generalize (w.alloc (.cells #[.slice A n cap, .slice A' n' cap'] 24)) = w0 at *
  go_wp2_with (first
    | ((with_reducible refine at_dst (some 27) ?_); refine wpList_makeNums (o := ⟨some 27, _, _, _, _, _⟩) rfl (.tmp 26) (.tmp 26) 24 48 rfl .u32 4 Tryd.underlying24 wordInfo (by omega) _ _ rfl rfl T HT3.out hT2 ?_; intro w1 hb1 hbel1 hs1))
  go_loopw [30] (fun ii wr => ∃ (i : Nat) (O : List Nat), i ≤ n ∧ ii = .int .i64 (i : Int) ∧ Hid (O.length = T ∧ Fit 4294967296 O ∧ val 4294967296 O = val 4294967296 (la.take i) * val 4294967296 lb) ∧ Hid (Blk wr w0.heap.size 48 (cn .u32 O)) ∧ Below w0.heap.size w0 wr) (fun i _ => n - (intOf i).toNat)
  case atStart => exact ⟨0, _, by omega, rfl, ⟨List.length_replicate, Fit.replicate _ _ _ (by omega), by rw [val_replicate]; simp [val]⟩, hb1, hbel1⟩
  case round =>
    obtain ⟨i, O, hi, rfl, HI, HB, hbe⟩ := hrel
    by_cases hin : i < n
    · have hR2 := (HR.out.below hb0).below hbe
      have hR2' := (HR'.out.below hb0).below hbe
      obtain ⟨ad, a, rfl, ha, hcell0⟩ := hR2.get (j := i) (by omega)
      have ha1 := hf.get ha
      have HA := Lib.hid ha
      have HR2' := Lib.hid hR2'
      have hne : ∀ ad, A' = some ad → ad.block ≠ w0.heap.size := fun ad e => by
        have := (HR'.out.below hb0).lt (by omega) ad e
        omega
      have HNE := Lib.hid hne
      have hsl := run_mid w0.heap.size T i n' (by have := HT.out; omega) (by have := HT.out; omega) ((i : Int) + n') rfl
      have hin1 : i + n' < T := by have := HT.out; omega
      clear ha hR2 hR2' hne
      go_wp2_with fail
      refine (addRow_any w0.heap.size i n' (T - i) A' cap' O lb a wr HB.out HI.out.2.1 (by rw [HI.out.1]; have := HT.out; omega) HR2'.out hf' HNE.out ha1 (by omega)).mono ?_
      rintro e w2 ⟨c, O', rfl, hc, hl, hfo, hsame, hv, hb2, hgr⟩
      obtain ⟨o, ho⟩ := get_some (l := O') (i := i + n') (by rw [hl, HI.out.1]; exact hin1)
      have ho0 : o = 0 := by
        have h1 := hsame (i + n') (Nat.le_refl _)
        rw [ho] at h1
        refine high_zero (B := 4294967296) h1.symm ?_
        rw [HI.out.2.2]
        have v1 := val_lt (hf.take i)
        have v2 := val_lt hf'
        have hl2 : (la.take i).length = i := by have := HR.out.1; simp; omega
        rw [hl2] at v1
        rw [HR'.out.1] at v2
        rw [Nat.pow_add]
        exact Nat.mul_lt_mul'' v1 v2
      subst ho0
      have hoc := (hb2.cell (i + n')).trans (cn_get ho)
      have hof := hb2.frozen (i + n')
      have hfin : val 4294967296 (O'.set (i + n') c) = val 4294967296 (la.take (i + 1)) * val 4294967296 lb := by
        have := val_set 4294967296 ho c
        rw [Nat.mul_zero, Nat.add_zero] at this
        rw [this, hv, HI.out.2.2, val_take_succ, dig_some HA.out, Nat.add_mul, Nat.mul_assoc]
      have HFIN := Lib.hid hfin
      have HB2 := Lib.hid hb2
      have HLO := Lib.hid (And.intro hl hfo)
      have bel2 : Below w0.heap.size w0 w2 := below_only hbe hgr hbe.size (fun j hj => by injection hj with hj; omega)
      clear hfin hb2 hl hfo hsame hv ho hgr
      go_wp2
      go_roundw
      case rel =>
        refine ⟨i + 1, O'.set (i + n') c, by omega, by go_num, ⟨by simp [HLO.out.1, HI.out.1], HLO.out.2.set _ _ hc, HFIN.out⟩, ?_, bel2.setCell (Nat.le_refl _) _⟩
        have := HB2.out.set_ (i + n') (.int .u32 (c : Int))
        rw [cn_set] at this
        exact this
      case measure => simp [intOf]; omega
    · obtain rfl : i = n := by omega
      go_wp2
      go_ret2
      have hv := HI.out.2.2
      rw [List.take_of_length_le (l := la) (by rw [HR.out.1]; omega)] at hv
      exact ⟨_, T, O, rfl, HT.out, ⟨HB.out.rd _ HI.out.1, HI.out.2.1, Nat.le_refl _, by unfold maxLen; omega, below_then hb0 hbe⟩, hv⟩

set_option maxHeartbeats 1000000 in
theorem Mul_no (A A' : Option Addr) (n cap n' cap' : Nat) (w : World) (h : (okW n && okW n') = false ∨ 256 < n + n') :
    Calls Tryd.prog 25 #[.slice A n cap, .slice A' n' cap'] w fun e w' => e = .returned (.tuple #[.slice none 0 0, .int .i64 24]) ∧ Below w.heap.size w w' := by
  have hall : ([(A, n, cap), (A', n', cap')].all fun p => okW p.2.1) = (okW n && okW n') := by simp
  have hb0 : Below w.heap.size w (w.alloc (.cells #[.slice A n cap, .slice A' n' cap'] 24)) := (Below.refl _ _).alloc (Nat.le_refl _) _
  have HB0 := Lib.hid hb0
  have HALL := Lib.hid hall
  clear hall hb0
  cases hq : (okW n && okW n') with
  | false =>
    clear h
    go_enter Tryd.func25, Tryd.ntmps25
    go_wp2_with fail
    refine (areNumbers_any _ 2 2 _ _ (Lists.new2 w A n cap A' n' cap') rfl (by omega)).mono ?_
    rintro e w1 ⟨rfl, rfl⟩
    rw [HALL.out, hq]
    clear hq
    go_wp2
    go_ret2
    exact ⟨rfl, HB0.out⟩
  | true =>
    have hgt : (256 : Int) < n + n' := by
      rcases h with h | h
      · rw [hq] at h; cases h
      · omega
    have hle : n ≤ 256 ∧ n' ≤ 256 := by simp [okW] at hq; omega
    have hle1 := hle.1
    have hle2 := hle.2
    clear h hle
    go_enter Tryd.func25, Tryd.ntmps25
    go_wp2_with fail
    refine (areNumbers_any _ 2 2 _ _ (Lists.new2 w A n cap A' n' cap') rfl (by omega)).mono ?_
    rintro e w1 ⟨rfl, rfl⟩
    rw [HALL.out, hq]
    clear hq
    go_wp2
    go_ret2
    exact ⟨rfl, HB0.out⟩
end Go.Proofs.YtbajckbjjepceaaDoor
