/-
  A torn write. No condition but that lengths are lengths.
-/
import Derived.Test.YthepbadecpnepaaD5
namespace Go.Proofs.Ythepbadecpnepaa
open Go.RowKit Go.MapKept
set_option linter.unusedVariables false
set_option linter.unusedSimpArgs false
set_option maxRecDepth 100000

/-- Of bs, written at off over l, the first q bytes, in those sectors that are kept. -/
def torn (l bs : List Nat) (off q : Nat) (kp : List Bool) : List Nat := (List.range l.length).map fun j => if off ≤ j ∧ j < off + q ∧ kp.getD (j / 64 - off / 64) false = true then bs.getD (j - off) 0 else l.getD j 0
theorem torn_length (l bs : List Nat) (off q : Nat) (kp : List Bool) : (torn l bs off q kp).length = l.length := by simp [torn]
theorem torn_get (l bs : List Nat) (off q : Nat) (kp : List Bool) (j : Nat) (hj : j < l.length) : (torn l bs off q kp)[j]? = some (if off ≤ j ∧ j < off + q ∧ kp.getD (j / 64 - off / 64) false = true then bs.getD (j - off) 0 else l.getD j 0) := by
  simp [torn, hj]
theorem torn_ext {l bs : List Nat} {off q : Nat} {kp : List Bool} {m : List Nat} (hm : m.length = l.length) (h : ∀ j, j < l.length → m[j]? = some (if off ≤ j ∧ j < off + q ∧ kp.getD (j / 64 - off / 64) false = true then bs.getD (j - off) 0 else l.getD j 0)) : torn l bs off q kp = m := by
  apply List.ext_getElem?
  intro j
  by_cases hj : j < l.length
  · rw [torn_get _ _ _ _ _ _ hj, h j hj]
  · rw [List.getElem?_eq_none (by rw [torn_length]; omega), List.getElem?_eq_none (by omega)]
theorem torn_zero (l bs : List Nat) (off : Nat) (kp : List Bool) : torn l bs off 0 kp = l :=
  torn_ext rfl fun j hj => by
    rw [if_neg (by omega), List.getElem?_eq_getElem hj]
    simp [List.getD, List.getElem?_eq_getElem hj]
theorem torn_no {l bs : List Nat} {off q q' : Nat} {kp : List Bool} (hq : q ≤ q') (h : ∀ j, off + q ≤ j → j < off + q' → kp.getD (j / 64 - off / 64) false = false) : torn l bs off q' kp = torn l bs off q kp :=
  torn_ext (torn_length _ _ _ _ _) fun j hj => by
    rw [torn_get _ _ _ _ _ _ hj]
    congr 1
    by_cases h1 : off ≤ j ∧ j < off + q ∧ kp.getD (j / 64 - off / 64) false = true
    · rw [if_pos h1, if_pos ⟨h1.1, by omega, h1.2.2⟩]
    · rw [if_neg h1, if_neg]
      rintro ⟨a, b, c⟩
      by_cases hb : j < off + q
      · exact h1 ⟨a, hb, c⟩
      · rw [h j (by omega) b] at c
        cases c
theorem splice_get {α : Type} (L : List α) (o : Nat) (cs : List α) (h : o + cs.length ≤ L.length) (j : Nat) : (splice L o cs)[j]? = if o ≤ j ∧ j < o + cs.length then cs[j - o]? else L[j]? := by
  unfold splice
  by_cases h1 : j < o
  · rw [List.getElem?_append_left (by rw [List.length_take]; omega), List.getElem?_take, if_pos h1, if_neg (by omega)]
  · rw [List.getElem?_append_right (by rw [List.length_take]; omega), List.length_take, Nat.min_eq_left (by omega)]
    by_cases h2 : j < o + cs.length
    · rw [List.getElem?_append_left (by omega), if_pos ⟨by omega, h2⟩]
    · rw [List.getElem?_append_right (by omega), List.getElem?_drop, if_neg (by omega)]
      congr 1
      omega
theorem torn_yes {l bs : List Nat} {off q q' : Nat} {kp : List Bool} (hq : q ≤ q') (h1 : q' ≤ bs.length) (h2 : off + q' ≤ l.length) (h : ∀ j, off + q ≤ j → j < off + q' → kp.getD (j / 64 - off / 64) false = true) :
    torn l bs off q' kp = splice (torn l bs off q kp) (off + q) ((bs.drop q).take (q' - q)) := by
  have hlen : ((bs.drop q).take (q' - q)).length = q' - q := by rw [List.length_take, List.length_drop]; omega
  refine torn_ext (by rw [length_splice _ _ _ (by rw [hlen, torn_length]; omega), torn_length]) fun j hj => ?_
  rw [splice_get _ _ _ (by rw [hlen, torn_length]; omega), hlen, torn_get _ _ _ _ _ _ hj]
  by_cases h3 : off + q ≤ j ∧ j < off + q + (q' - q)
  · rw [if_pos h3, if_pos ⟨by omega, by omega, h j h3.1 (by omega)⟩, List.getElem?_take, if_pos (by omega), List.getElem?_drop]
    have e : q + (j - (off + q)) = j - off := by omega
    rw [e, List.getD, List.getElem?_eq_getElem (by omega)]
    rfl
  · rw [if_neg h3]
    congr 1
    by_cases h4 : off ≤ j ∧ j < off + q ∧ kp.getD (j / 64 - off / 64) false = true
    · rw [if_pos h4, if_pos ⟨h4.1, by omega, h4.2.2⟩]
    · rw [if_neg h4, if_neg]
      rintro ⟨a, b, c⟩
      exact h4 ⟨a, by omega, c⟩
theorem torn_fit {l bs : List Nat} {off q : Nat} {kp : List Bool} (h1 : Fit 256 l) (h2 : Fit 256 bs) : Fit 256 (torn l bs off q kp) := by
  intro d hd
  obtain ⟨j, hj, rfl⟩ := List.mem_map.1 hd
  have get : ∀ (m : List Nat) (i : Nat), Fit 256 m → m.getD i 0 < 256 := fun m i hm => by
    by_cases hi : i < m.length
    · rw [List.getD, List.getElem?_eq_getElem hi]; exact hm _ (List.getElem_mem hi)
    · rw [List.getD, List.getElem?_eq_none (by omega)]; simp
  split
  · exact get _ _ h2
  · exact get _ _ h1
theorem cn_splice (k : IntKind) (l : List Nat) (o : Nat) (c : List Nat) : splice (cn k l) o (cn k c) = cn k (splice l o c) := by
  simp [splice, cn, List.map_take, List.map_drop]

theorem run_from8 (A : Option Addr) (k cap lo : Nat) (h1 : lo ≤ k) (h2 : k ≤ cap) (L : Int) (hL : L = (lo : Int)) (w : World) :
    (Instr.slice 25 (.slice A k cap) (some (.int .i64 L)) none none).run Try.prog w = .ok (.slice (if cap = lo then A else A.map (·.add lo)) (k - lo) (cap - lo)) w := by
  subst hL
  obtain ⟨i0, hi0, hz0, hz1, hz2⟩ := info_parts byteInfo
  simp [Instr.slice, run_underlying Try.underlying25, Instr.sliceBounds, run_sliceBound, sizeOf, typeInfo, hi0, hz1, h1, h2]
theorem run_to8 (A : Option Addr) (k cap hi : Nat) (h2 : hi ≤ cap) (H : Int) (hH : H = (hi : Int)) (w : World) :
    (Instr.slice 25 (.slice A k cap) none (some (.int .i64 H)) none).run Try.prog w = .ok (.slice A hi cap) w := by
  subst hH
  obtain ⟨i0, hi0, hz0, hz1, hz2⟩ := info_parts byteInfo
  have e : A.map (·.add 0) = A := by cases A <;> simp [Addr.add]
  simp [Instr.slice, run_underlying Try.underlying25, Instr.sliceBounds, run_sliceBound, sizeOf, typeInfo, hi0, hz1, h2]
  exact fun _ => e
theorem getB {kp : List Bool} {i : Nat} (h : i < kp.length) : (bcells kp)[i]? = some (.bool (kp.getD i false)) := by
  simp [bcells, h]
set_option maxHeartbeats 4000000 in
theorem tear_any (bb mm n : Nat) (l : List Nat) (w : World) (hB : Blk w bb 5 (cn .u8 l)) (hn : l.length = n) (hn2 : n ≤ 1048576) (off : Nat) (A : Option Addr) (m c : Nat) (bs : List Nat) (hb : Rd .u8 w A m bs) (hmc : m ≤ c) (hc : c ≤ 9223372036854775807) (hA : 0 < m → ∀ ad, A = some ad → ad.block ≠ bb) (hoff : off + m ≤ n)
    (ka : Option Addr) (kc : Nat) (kp : List Bool) (hk : Rs w ka (bcells kp)) (hka : ∀ ad, ka = some ad → ad.block ≠ bb) (hkl : kp.length ≤ 16384) :
    Calls Try.prog 34 #[.agg #[.slice (some ⟨bb, 0, none⟩) n n, .map (some mm)], .int .i64 (off : Int), .slice A m c, .slice ka kp.length kc] w fun e w' => e = .returned (.tuple #[]) ∧ Blk w' bb 5 (cn .u8 (torn l bs off m kp)) ∧ Touch [bb] w w' := by
  have HBB := Lib.hid hB
  have HN := Lib.hid hn
  have HK := Lib.hid hk
  have HKA := Lib.hid hka
  have HBL := Lib.hid hb.1
  have HLT := Lib.hid hB.lt
  obtain ⟨E, hE⟩ : ∃ E, off + m = E := ⟨_, rfl⟩
  have HE := Lib.hid hE
  obtain ⟨L, hL⟩ : ∃ L, kp.length = L := ⟨_, rfl⟩
  have HL := Lib.hid hL
  have HRB : Hid (Rd .u8 w A (E - off) (bs.drop (off - off)) ∧ E - off ≤ c ∧ (0 < E - off → ∀ ad, A = some ad → ad.block ≠ bb)) := by
    have e1 : E - off = m := by omega
    rw [e1, Nat.sub_self, List.drop_zero]
    exact ⟨hb, hmc, hA⟩
  have em : m = E - off := by omega
  rw [hL] at hkl ⊢
  have hEn : E ≤ n := by omega
  have hoE : off ≤ E := by omega
  have HT0 : Hid (Touch [bb] w (w.alloc (.cells #[.slice (some ⟨bb, 0, none⟩) n n, .map (some mm)] 74))) := (Touch.refl _ w).alloc _
  have HB0 : Hid (Blk (w.alloc (.cells #[.slice (some ⟨bb, 0, none⟩) n n, .map (some mm)] 74)) bb 5 (cn .u8 (torn l bs off (off - off) kp))) := by
    rw [Nat.sub_self, torn_zero]
    exact hB.alloc _
  have HX0 : Hid (Blk (w.alloc (.cells #[.slice (some ⟨bb, 0, none⟩) n n, .map (some mm)] 74)) w.heap.size 74 [.slice (some ⟨bb, 0, none⟩) n n, .map (some mm)]) := Blk.new w _ _
  have HR0 : Hid (Rd .u8 (w.alloc (.cells #[.slice (some ⟨bb, 0, none⟩) n n, .map (some mm)] 74)) A (E - off) (bs.drop (off - off)) ∧ E - off ≤ c ∧ (0 < E - off → ∀ ad, A = some ad → ad.block ≠ bb)) := ⟨HRB.out.1.below ((Below.refl _ _).alloc (Nat.le_refl _) _), HRB.out.2⟩
  rw [em]
  clear hB hn hk hka hb hA hmc HRB em hE hL hoff
  go_enter Try.func34, Try.ntmps34
  go_wp2
  go_loopw [1, 2, 13] (fun so sb si wr => ∃ (i o c2 : Nat) (A2 : Option Addr), so = .int .i64 (o : Int) ∧ sb = .slice A2 (E - o) c2 ∧ si = .int .i64 (i : Int) ∧ i ≤ L ∧ off ≤ o ∧ o ≤ E ∧ c2 ≤ 9223372036854775807 ∧ Hid (i = 0 ∧ o = off ∨ 0 < i ∧ o = min E ((off / 64 + i) * 64)) ∧
    Hid (Touch [bb] w wr) ∧ Hid (Blk wr bb 5 (cn .u8 (torn l bs off (o - off) kp))) ∧ Hid (Blk wr w.heap.size 74 [.slice (some ⟨bb, 0, none⟩) n n, .map (some mm)]) ∧ Hid (Rd .u8 wr A2 (E - o) (bs.drop (o - off)) ∧ E - o ≤ c2 ∧ (0 < E - o → ∀ ad, A2 = some ad → ad.block ≠ bb))) (fun _ _ i _ => L - (intOf i).toNat)
  case atStart => exact ⟨0, off, c, A, rfl, rfl, rfl, Nat.zero_le _, Nat.le_refl _, hoE, hc, .inl ⟨rfl, rfl⟩, HT0, HB0, HX0, HR0⟩
  case round =>
    obtain ⟨i, o, c2, A2, rfl, rfl, rfl, hi, ho1, ho2, hc2, HO, HT, HB, HX, HR⟩ := hrel
    clear HT0 HB0 HX0 HR0 hc hoE
    by_cases hlt : i < L
    · have hil : i < kp.length := by rw [HL.out]; exact hlt
      have hkr := HK.out.touch HT.out (fun ad e he => HKA.out ad e (List.mem_singleton.1 he))
      obtain ⟨ka2, rfl, hkc⟩ := hkr.get (getB hil)
      clear hkr
      obtain ⟨t, ht⟩ : ∃ t, o / 64 * 64 + 64 = t := ⟨_, rfl⟩
      obtain ⟨u, hu⟩ : ∃ u, E - o = u := ⟨_, rfl⟩
      obtain ⟨v, hv⟩ : ∃ v, t - o = v := ⟨_, rfl⟩
      obtain ⟨d, hd⟩ : ∃ d, min u v = d := ⟨_, rfl⟩
      rw [hu] at HR ⊢
      have tz : (t : Int) - (o : Int) = (v : Int) := by omega
      obtain ⟨x, hx⟩ : ∃ x, o + d = x := ⟨_, rfl⟩
      have od : (o : Int) + (d : Int) = (x : Int) := by omega
      have hxm : x ≤ 1000000000 := by omega
      have hv64 : v ≤ 64 := by omega
      have hdu : d ≤ u := by omega
      have hon : o ≤ n := by omega
      have hmin : (u : Int) ≤ (v : Int) ∧ (d : Int) = (u : Int) ∨ ¬ (u : Int) ≤ (v : Int) ∧ (d : Int) = (v : Int) := by omega
      have h1000 : o ≤ 1000000000 := by omega
      have HTV : Hid (o / 64 * 64 + 64 = o + v ∧ u = E - o ∧ min u v = d ∧ off ≤ o ∧ o ≤ E ∧ E ≤ n ∧ o + d = x) := ⟨by omega, hu.symm, hd, ho1, ho2, hEn, hx⟩
      have HTT := Lib.hid ht
      have x0 : wr.cell? ⟨w.heap.size, 0, none⟩ = some (.slice (some ⟨bb, 0, none⟩) n n) := HX.out.cell 0
      have hs1 := run_from8 (some ⟨bb, 0, none⟩) n n o hon (Nat.le_refl _) o rfl
      have hs2 := run_to8 A2 u c2 d (by have := HR.out.2.1; omega) d rfl
      have hs3 := run_from8 A2 u c2 d hdu HR.out.2.1 d rfl
      have hXd : Hid (o < n → (if n = o then some (⟨bb, 0, none⟩ : Addr) else (some (⟨bb, 0, none⟩ : Addr)).map (·.add o)) = some ⟨bb, o, none⟩) := fun hlt => by rw [if_neg (by omega)]; simp [addr_add]
      have HY : Hid (Rd .u8 wr (if c2 = d then A2 else A2.map (·.add d)) (u - d) ((bs.drop (o - off)).drop d) ∧ u - d ≤ c2 - d ∧ (0 < u - d → ∀ ad, (if c2 = d then A2 else A2.map (·.add d)) = some ad → ad.block ≠ bb)) := by
        refine ⟨HR.out.1.drop d c2 hdu HR.out.2.1, by have := HR.out.2.1; omega, fun hp ad e => ?_⟩
        split at e
        · exact HR.out.2.2 (by omega) ad e
        · cases hA2 : A2 with
          | none => rw [hA2] at e; cases e
          | some a2 =>
            rw [hA2] at e
            injection e with e
            rw [← e, block_add]
            exact HR.out.2.2 (by omega) a2 hA2
      generalize (if n = o then some (⟨bb, 0, none⟩ : Addr) else (some (⟨bb, 0, none⟩ : Addr)).map (·.add o)) = X at hs1 hXd
      generalize (if c2 = d then A2 else A2.map (·.add d)) = Y at hs3 HY
      obtain ⟨n1, hn1⟩ : ∃ n1, n - o = n1 := ⟨_, rfl⟩
      obtain ⟨u1, hu1⟩ : ∃ u1, u - d = u1 := ⟨_, rfl⟩
      obtain ⟨c3, hc3⟩ : ∃ c3, c2 - d = c3 := ⟨_, rfl⟩
      rw [hn1] at hs1
      rw [hu1, hc3] at hs3 HY
      have HL1 : Hid (n - o = n1 ∧ u - d = u1 ∧ c2 - d = c3 ∧ c2 ≤ 9223372036854775807) := ⟨hn1, hu1, hc3, hc2⟩
      have HIL := Lib.hid hil
      have HII := Lib.hid hi
      have HLT2 := Lib.hid hlt
      have zlt : (i : Int) < (L : Int) := by omega
      clear hx ht hu hv hd ho1 ho2 hdu hon hEn hn1 hu1 hc3 hc2 hil hi hlt
      -- what the round comes to
      have FIN : ∀ w2 : World, Touch [bb] w w2 → Blk w2 bb 5 (cn .u8 (torn l bs off (x - off) kp)) → Touch [bb] wr w2 → Hid (∃ (i' o' c' : Nat) (A' : Option Addr), Value.int .i64 (x : Int) = .int .i64 (o' : Int) ∧ Value.slice Y u1 c3 = .slice A' (E - o') c' ∧ Value.int .i64 ((i : Int) + 1) = .int .i64 (i' : Int) ∧ i' ≤ L ∧ off ≤ o' ∧ o' ≤ E ∧ c' ≤ 9223372036854775807 ∧ Hid (i' = 0 ∧ o' = off ∨ 0 < i' ∧ o' = min E ((off / 64 + i') * 64)) ∧
          Hid (Touch [bb] w w2) ∧ Hid (Blk w2 bb 5 (cn .u8 (torn l bs off (o' - off) kp))) ∧ Hid (Blk w2 w.heap.size 74 [.slice (some ⟨bb, 0, none⟩) n n, .map (some mm)]) ∧ Hid (Rd .u8 w2 A' (E - o') (bs.drop (o' - off)) ∧ E - o' ≤ c' ∧ (0 < E - o' → ∀ ad, A' = some ad → ad.block ≠ bb))) := by
        intro w2 ht hb hw
        obtain ⟨e1, e2, e3, e4, e5, e6, e12⟩ := HTV.out
        obtain ⟨e7, e8, e9, e10⟩ := HL1.out
        have e11 := HLT2.out
        have hne : w.heap.size ≠ bb := by have := HLT.out; omega
        have hu1 : u1 = E - x := by omega
        have hdd : (bs.drop (o - off)).drop d = bs.drop (x - off) := by rw [List.drop_drop]; congr 1; omega
        refine ⟨i + 1, x, c3, Y, rfl, by rw [hu1], by go_num, by omega, by omega, by omega, by omega, .inr ⟨by omega, ?_⟩, ht, hb, HX.out.touch hw (by simpa using hne), ?_⟩
        · rcases HO.out with ⟨h1, h2⟩ | ⟨h1, h2⟩
          · subst h1; subst h2
            omega
          · omega
        · rw [← hu1, ← hdd]
          exact ⟨HY.out.1.touch0 hw (fun hp ad e he => HY.out.2.2 hp ad e (List.mem_singleton.1 he)), HY.out.2.1, HY.out.2.2⟩
      have HFIN := Lib.hid FIN
      clear FIN
      have hcs : Hid (((bs.drop (o - off)).take d).length = d ∧ d ≤ n1 ∧ o + d ≤ n ∧ (0 < d → o < n)) := by
        obtain ⟨e1, e2, e3, e4, e5, e6, e12⟩ := HTV.out
        obtain ⟨e7, e8, e9, e10⟩ := HL1.out
        have e13 := HBL.out
        have e14 := HE.out
        refine ⟨by rw [List.length_take, List.length_drop]; omega, by omega, by omega, fun _ => by omega⟩
      have HCS : Hid (∀ ad : Addr, A2 = some ad → 0 < d → ∀ (j : Nat) (v : Value), (cn .u8 ((bs.drop (o - off)).take d))[j]? = some v → wr.cell? (ad.add j) = some v) := fun ad e hp j v hj => by
        obtain ⟨e1, e2, e3, e4, e5, e6, e12⟩ := HTV.out
        obtain ⟨ad', e', hc⟩ := (HR.out.1.take d (by omega)).rs (by rw [cn_length, hcs.out.1]; exact hp)
        rw [e] at e'
        injection e' with e'
        rw [e']
        exact hc.2 j v hj
      have HSO : Hid (0 < d → ∃ ad, A2 = some ad) := fun hp => by
        obtain ⟨e1, e2, e3, e4, e5, e6, e12⟩ := HTV.out
        obtain ⟨ad', e', _⟩ := HR.out.1.2 (by omega)
        exact ⟨ad', e'⟩
      cases hkb : kp.getD i false with
      | true =>
        rw [hkb] at hkc
        have HTN : Hid (splice (torn l bs off (o - off) kp) o ((bs.drop (o - off)).take d) = torn l bs off (x - off) kp) := by
          obtain ⟨e1, e2, e3, e4, e5, e6, e12⟩ := HTV.out
          have e13 := HBL.out
          have e14 := HN.out
          have e17 := HE.out
          have := torn_yes (l := l) (bs := bs) (off := off) (q := o - off) (q' := x - off) (kp := kp) (by omega) (by omega) (by omega) (fun j j1 j2 => by
            have : j / 64 - off / 64 = i := by
              rcases HO.out with ⟨h1, h2⟩ | ⟨h1, h2⟩ <;> omega
            rw [this]; exact hkb)
          have e15 : off + (o - off) = o := by omega
          have e16 : x - off - (o - off) = d := by omega
          rw [e15, e16] at this
          exact this.symm
        clear hkb
        rcases hmin with ⟨m1, m2⟩ | ⟨m1, m2⟩
        · obtain rfl : d = u := by omega
          clear m2
          go_wp2_with (go_at_call 51; refine (sectorEnd_any o _ h1000 t HTT.out).mono ?_; rintro e w2 ⟨rfl, rfl⟩)
          go_still_tail 7, (by kernel_rfl)
          change wpList _ _ _ _ _ wr.drew
          go_wp2_with (first
            | ((with_reducible refine at_dst (some 32) ?_); refine wpList_copy_touch (o := ⟨some 32, _, _, _, _, _⟩) rfl (.tmp 28) (.tmp 31) 25 25 rfl 5 Try.underlying25 byteSz1 _ _ _ _ _ _ rfl rfl bb o (cn .u8 (torn l bs off (o - off) kp)) 5 (HB.out.drewN 1) (cn .u8 ((bs.drop (o - off)).take d)) ?c1 ?c2 ?c3 (cn_one _ _) ?c5))
          case c1 => rw [cn_length, hcs.out.1]; exact (Nat.min_eq_left hcs.out.2.1).symm
          case c2 =>
            intro hp
            rw [cn_length, hcs.out.1] at hp
            obtain ⟨ad, e⟩ := HSO.out hp
            exact ⟨hXd.out (hcs.out.2.2.2 hp), ad, e, HCS.out ad e hp⟩
          case c3 => rw [cn_length, cn_length, hcs.out.1, torn_length, HN.out]; exact hcs.out.2.2.1
          case c5 =>
            intro w3 HB3 HT3
            have hB3 : Blk w3 bb 5 (cn .u8 (torn l bs off (x - off) kp)) := by
              have := HB3.out
              rw [cn_splice, HTN.out] at this
              exact this
            have HF3 := fun q => HFIN.out (w3.drewN q) (((HT.out.drewN 1).trans HT3).drewN q) (hB3.drewN q) ((((Touch.refl _ wr).drewN 1).trans HT3).drewN q)
            clear HB3 HT3 hB3 hs1 hs2
            go_wp2_with fail
            have hwx : IntKind.i64.wrap (x : Int) = (x : Int) := by rw [IntKind.wrap_i64]; omega
            go_quiet (fail)
            clear hwx
            go_wp2
            go_roundw
            case rel => exact (HF3 _).out
            case measure => simp [intOf]; omega
        · obtain rfl : d = v := by omega
          clear m2
          go_wp2_with (go_at_call 51; refine (sectorEnd_any o _ h1000 t HTT.out).mono ?_; rintro e w2 ⟨rfl, rfl⟩)
          go_still_tail 7, (by kernel_rfl)
          change wpList _ _ _ _ _ wr.drew
          go_wp2_with (first
            | ((with_reducible refine at_dst (some 32) ?_); refine wpList_copy_touch (o := ⟨some 32, _, _, _, _, _⟩) rfl (.tmp 28) (.tmp 31) 25 25 rfl 5 Try.underlying25 byteSz1 _ _ _ _ _ _ rfl rfl bb o (cn .u8 (torn l bs off (o - off) kp)) 5 (HB.out.drewN 1) (cn .u8 ((bs.drop (o - off)).take d)) ?c1 ?c2 ?c3 (cn_one _ _) ?c5))
          case c1 => rw [cn_length, hcs.out.1]; exact (Nat.min_eq_left hcs.out.2.1).symm
          case c2 =>
            intro hp
            rw [cn_length, hcs.out.1] at hp
            obtain ⟨ad, e⟩ := HSO.out hp
            exact ⟨hXd.out (hcs.out.2.2.2 hp), ad, e, HCS.out ad e hp⟩
          case c3 => rw [cn_length, cn_length, hcs.out.1, torn_length, HN.out]; exact hcs.out.2.2.1
          case c5 =>
            intro w3 HB3 HT3
            have hB3 : Blk w3 bb 5 (cn .u8 (torn l bs off (x - off) kp)) := by
              have := HB3.out
              rw [cn_splice, HTN.out] at this
              exact this
            have HF3 := fun q => HFIN.out (w3.drewN q) (((HT.out.drewN 1).trans HT3).drewN q) (hB3.drewN q) ((((Touch.refl _ wr).drewN 1).trans HT3).drewN q)
            clear HB3 HT3 hB3 hs1 hs2
            go_wp2_with fail
            have hwx : IntKind.i64.wrap (x : Int) = (x : Int) := by rw [IntKind.wrap_i64]; omega
            go_quiet (fail)
            clear hwx
            go_wp2
            go_roundw
            case rel => exact (HF3 _).out
            case measure => simp [intOf]; omega
      | false =>
        rw [hkb] at hkc
        have HTN : Hid (torn l bs off (o - off) kp = torn l bs off (x - off) kp) := by
          obtain ⟨e1, e2, e3, e4, e5, e6, e12⟩ := HTV.out
          have e17 := HE.out
          exact (torn_no (by omega) (fun j j1 j2 => by
            have : j / 64 - off / 64 = i := by
              rcases HO.out with ⟨h1, h2⟩ | ⟨h1, h2⟩ <;> omega
            rw [this]; exact hkb)).symm
        clear hkb
        rcases hmin with ⟨m1, m2⟩ | ⟨m1, m2⟩
        · obtain rfl : d = u := by omega
          clear m2
          go_wp2_with (go_at_call 51; refine (sectorEnd_any o _ h1000 t HTT.out).mono ?_; rintro e w2 ⟨rfl, rfl⟩)
          clear hs1 hs2
          have hwx : IntKind.i64.wrap (x : Int) = (x : Int) := by rw [IntKind.wrap_i64]; omega
          go_quiet (fail)
          clear hwx
          have HF3 := fun q => HFIN.out (wr.drewN q) (HT.out.drewN q) (HTN.out ▸ HB.out.drewN q) ((Touch.refl _ wr).drewN q)
          go_wp2
          go_roundw
          case rel => exact (HF3 _).out
          case measure => simp [intOf]; omega
        · obtain rfl : d = v := by omega
          clear m2
          go_wp2_with (go_at_call 51; refine (sectorEnd_any o _ h1000 t HTT.out).mono ?_; rintro e w2 ⟨rfl, rfl⟩)
          clear hs1 hs2
          have hwx : IntKind.i64.wrap (x : Int) = (x : Int) := by rw [IntKind.wrap_i64]; omega
          go_quiet (fail)
          clear hwx
          have HF3 := fun q => HFIN.out (wr.drewN q) (HT.out.drewN q) (HTN.out ▸ HB.out.drewN q) ((Touch.refl _ wr).drewN q)
          go_wp2
          go_roundw
          case rel => exact (HF3 _).out
          case measure => simp [intOf]; omega
    · have hfin : Hid (torn l bs off (E - off) kp = torn l bs off (o - off) kp) := by
        have e1 := HE.out
        refine torn_no (by omega) (fun j j1 j2 => ?_)
        have : kp.length ≤ j / 64 - off / 64 := by
          have e2 := HL.out
          rcases HO.out with ⟨h1, h2⟩ | ⟨h1, h2⟩ <;> omega
        rw [List.getD, List.getElem?_eq_none this]
        rfl
      go_wp2
      exact bodyPost_end (v := .tuple #[]) (results_none Try.results34 _ _ _) rfl ⟨rfl, (by rw [hfin.out]; exact HB.out), HT.out⟩
end Go.Proofs.Ythepbadecpnepaa
