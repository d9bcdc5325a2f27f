/-
  What the document's Parse answers of any bytes.
-/
import Derived.Test.YtojpbfkdkkdpcaaDoorK6
import Derived.Test.YtojpbfkdkkdpcaaDoorR3
import Derived.Deep.RegionHeld3
namespace Go.Proofs.YtojpbfkdkkdpcaaDoor
open Go.RowKit
set_option linter.unusedVariables false
set_option linter.unusedSimpArgs false
set_option maxRecDepth 100000

/-- The document's answer: nothing, and an error. -/
def NoBytes (w : World) (er : Int) (e : Ending) (w' : World) : Prop := e = .returned (.tuple #[.slice none 0 0, .int .i64 er]) ∧ Below w.heap.size w w'
/-- The document's answer: the modulus within the bytes. -/
def GivesMod (w : World) (l : List Nat) (k : Nat) (e : Ending) (w' : World) : Prop := ∃ A c, e = .returned (.tuple #[.slice A k c, .int .i64 0]) ∧ Rd .u8 w' A k (modOf l k) ∧ Below w.heap.size w w'
theorem Right_no (A : Option Addr) (n cap : Nat) (l : List Nat) (w : World) (h : Rd .u8 w A n l) (hs : 64 ≤ n ∧ n ≤ 512 ∧ n % 64 = 0) (hM : ¬ Modul n l) :
    Calls Tryd.prog 12 #[.slice A n cap] w fun e w' => e = .returned (.int .i64 22) ∧ w = w' := by
  obtain ⟨a, ha⟩ := get_some (l := l) (i := 0) (by rw [h.1]; omega)
  obtain ⟨z, hz⟩ := get_some (l := l) (i := n - 1) (by rw [h.1]; omega)
  refine Right_form A n cap l w h hs a z ha hz ?_
  by_cases h1 : a < 128
  · exact .inl h1
  · by_cases h2 : z % 2 = 0
    · exact .inr h2
    · exact absurd ⟨hs.1, hs.2.1, hs.2.2, a, z, ha, hz, by omega, by omega⟩ hM
theorem Right_yes (A : Option Addr) (n cap : Nat) (l : List Nat) (w : World) (h : Rd .u8 w A n l) (hM : Modul n l) :
    Calls Tryd.prog 12 #[.slice A n cap] w fun e w' => e = .returned (.int .i64 0) ∧ w = w' := by
  obtain ⟨h1, h2, h3, a, z, ha, hz, h4, h5⟩ := hM
  exact Right_ok A n cap l w h ⟨h1, h2, h3⟩ a z ha hz ⟨h4, h5⟩

set_option maxHeartbeats 400000 in
theorem RefParse_short (A : Option Addr) (n cap : Nat) (w : World) (hn : n < 8) :
    Calls Tryd.prog 20 #[.slice A n cap] w (NoBytes w 10) := by
  go_enter Tryd.func20, Tryd.ntmps20
  go_wp2
  go_ret2
  exact ⟨rfl, below_self⟩
set_option maxHeartbeats 2000000 in
theorem RefParse_long (A : Option Addr) (n cap : Nat) (l : List Nat) (w : World) (h : Rd .u8 w A n l) (hf : Fit 256 l) (hn : 8 ≤ n) (hn2 : n ≤ 10000) (hc : n ≤ cap) (hm : cap ≤ maxLen) :
    Calls Tryd.prog 20 #[.slice A n cap] w fun e w' => (¬ BitsOk (bitsOf l) → NoBytes w 21 e w') ∧ (BitsOk (bitsOf l) → ∀ k, bitsOf l = 8 * k → (n < 8 + 2 * k → NoBytes w 10 e w') ∧ (8 + 2 * k < n → NoBytes w 12 e w') ∧ (n = 8 + 2 * k → (¬ Modul k (modOf l k) → NoBytes w 22 e w') ∧ (Modul k (modOf l k) → (keyBytes k (vbe (modOf l k)) ≠ l → NoBytes w 22 e w') ∧ (keyBytes k (vbe (modOf l k)) = l → GivesMod w l k e w')))) := by
  have HR := Lib.hid h
  have q : ¬ (n : Int) < 8 := by omega
  clear h
  go_enter Tryd.func20, Tryd.ntmps20
  go_wp2
  go_loop [4, 5] (fun o i => ∃ t : Nat, t ≤ 4 ∧ i = .int .i64 (t : Int) ∧ o = .int .i64 ((vbe (l.take t) : Nat) : Int)) (fun _ i => 4 - (intOf i).toNat)
  case atStart => exact ⟨0, by omega, rfl, rfl⟩
  case round =>
    obtain ⟨t, ht, rfl, rfl⟩ := hrel
    by_cases htl : t < 4
    · obtain ⟨ad, x, rfl, hx, hcell⟩ := HR.out.get (j := t) (by omega)
      have hxb := hf.get hx
      have hlt : t < n := by omega
      have hnv : vbe (l.take (t + 1)) = x + 256 * vbe (l.take t) := by rw [take_trim hx, vbe_snoc]
      have hb : vbe (l.take t) < 16777216 := by
        have h1 := vbe_ltp (hf.take t)
        have h2 : (l.take t).length ≤ 3 := by rw [List.length_take]; omega
        exact Nat.lt_of_lt_of_le h1 (Nat.pow_le_pow_right (by omega) h2)
      have HNV := Lib.hid hnv
      clear hx hnv
      generalize hv : vbe (l.take t) = v at *
      go_wp2
      go_round
      case rel => exact ⟨t + 1, by omega, by go_num, by congr 1; have := HNV.out; omega⟩
      case measure => simp [intOf]; omega
    · obtain rfl : t = 4 := by omega
      have hbl : bitsOf l < 4294967296 := take4_lt hf
      rw [show vbe (l.take 4) = bitsOf l from rfl]
      generalize hbb : bitsOf l = b at *
      have HBB := Lib.hid hbb
      clear hbb
      by_cases hok : BitsOk b
      · have HOK := Lib.hid hok
        obtain ⟨o1, o2, o3⟩ := hok
        obtain ⟨k, hk⟩ : ∃ k, b = 8 * k := ⟨b / 8, by omega⟩
        have HK : Hid (∀ k', b = 8 * k' → k' = k) := fun k' h => by omega
        subst hk
        have b1 : 64 ≤ k := by omega
        have b2 : k ≤ 512 := by omega
        have b3 : k % 64 = 0 := by omega
        have d1 : ¬ (8 * (k : Int)) < 512 := by omega
        have d2 : ¬ 4096 < 8 * (k : Int) := by omega
        have d3 : (8 * (k : Int)) % 512 = 0 := by omega
        have d4 : ((8 * (k : Int)) % 512 != 0) = false := by simp [d3]
        have q2 : (8 * (k : Int)) / 8 = k := by omega
        rw [show ((8 * k : Nat) : Int) = 8 * (k : Int) by omega]
        clear o1 o2 o3 hbl
        by_cases hl1 : n < 8 + 2 * k
        · have q1 : (n : Int) < 8 + 2 * k := by omega
          go_wp2
          go_ret2
          rw [HBB.out]
          refine ⟨fun h => absurd HOK.out h, fun _ k' hk' => ?_⟩
          obtain rfl := HK.out k' hk'
          exact ⟨fun _ => ⟨rfl, below_self⟩, fun h => by omega, fun h => by omega⟩
        by_cases hl2 : 8 + 2 * k < n
        · have q1 : ¬ (n : Int) < 8 + 2 * k := by omega
          have q3 : 8 + 2 * (k : Int) < n := by omega
          go_wp2
          go_ret2
          rw [HBB.out]
          refine ⟨fun h => absurd HOK.out h, fun _ k' hk' => ?_⟩
          obtain rfl := HK.out k' hk'
          exact ⟨fun h => by omega, fun _ => ⟨rfl, below_self⟩, fun h => by omega⟩
        have hl3 : n = 8 + 2 * k := by omega
        have q1 : ¬ (n : Int) < 8 + 2 * k := by omega
        have q3 : ¬ 8 + 2 * (k : Int) < n := by omega
        have hcut := run_mid8 A n cap 8 (8 + k) (by omega) (by omega) 8 (8 + (k : Int)) rfl (by omega) w
        have hmid := HR.out.mid 8 k cap (by omega) hc
        rw [show 8 + k - 8 = k by omega] at hcut
        have HMID : Hid (Rd .u8 w (if cap = 8 then A else A.map (·.add 8)) k (modOf l k)) := hmid
        generalize (if cap = 8 then A else A.map (·.add 8)) = A2 at *
        have HFM : Hid (Fit 256 (modOf l k)) := fun x hx => hf x (List.mem_of_mem_drop (List.mem_of_mem_take hx))
        have HN := Lib.hid hl3
        have hs0 : ∀ j, (convert 22 9 (.slice A n cap)).run Tryd.prog (w.drewN j) = .ok (.string (str l)) (w.drewN j) := fun j => rd_str (HR.out.drewN j) cap
        clear hmid hl3 hl1 hl2
        by_cases hM : Modul k (modOf l k)
        · have HM := Lib.hid hM
          clear hM
          have hsame := str_same (keyBytes_fit k (vbe (modOf l k))) hf
          generalize hSl : str l = Sl at *
          have HSL := Lib.hid hSl
          generalize hSk : str (keyBytes k (vbe (modOf l k))) = Sk at *
          have HSK := Lib.hid hSk
          clear hSl hSk
          by_cases hq : keyBytes k (vbe (modOf l k)) = l
          · rw [decide_eq_true hq] at hsame
            have HQ := Lib.hid hq
            clear hq
            go_wp2
            go_region_law (first
              | (go_simp; go_at_call 12; refine (Right_yes A2 k (cap - 8) (modOf l k) _ (HMID.out.drewN _) HM.out).mono ?_; rintro e wq ⟨rfl, rfl⟩)
              | (go_simp; go_at_call 14; refine (RefBytes_any A2 k (cap - 8) (modOf l k) _ (HMID.out.drewN _) HFM.out HM.out n HN.out).mono ?_; rintro e w5 ⟨A5, c5, rfl, hrow5, hb5⟩; have hs5 := rd_str hrow5.rd c5; have hs6 := rd_str ((HR.out.drewN 1).below hb5) cap; rw [HSK.out] at hs5; rw [HSL.out] at hs6; clear hrow5))
            all_goals
              have bel5 : Below w.heap.size w w5 := below_then (below_drewN below_self 1) hb5
              have HM5 := Lib.hid ((HMID.out.drewN 1).below hb5)
              clear hb5
              go_wp2
              go_ret2
              rw [HBB.out]
              refine ⟨fun h => absurd HOK.out h, fun _ k' hk' => ?_⟩
              obtain rfl := HK.out k' hk'
              exact ⟨fun h => by have := HN.out; omega, fun h => by have := HN.out; omega, fun _ => ⟨fun h => absurd HM.out h, fun _ => ⟨fun h => absurd HQ.out h, fun _ => ⟨A2, cap - 8, rfl, HM5.out, bel5⟩⟩⟩⟩
          · rw [decide_eq_false hq] at hsame
            have HQ := Lib.hid hq
            clear hq
            go_wp2
            go_region_law (first
              | (go_simp; go_at_call 12; refine (Right_yes A2 k (cap - 8) (modOf l k) _ (HMID.out.drewN _) HM.out).mono ?_; rintro e wq ⟨rfl, rfl⟩)
              | (go_simp; go_at_call 14; refine (RefBytes_any A2 k (cap - 8) (modOf l k) _ (HMID.out.drewN _) HFM.out HM.out n HN.out).mono ?_; rintro e w5 ⟨A5, c5, rfl, hrow5, hb5⟩; have hs5 := rd_str hrow5.rd c5; have hs6 := rd_str ((HR.out.drewN 1).below hb5) cap; rw [HSK.out] at hs5; rw [HSL.out] at hs6; clear hrow5))
            all_goals
              have bel5 : Below w.heap.size w w5 := below_then (below_drewN below_self 1) hb5
              have HM5 := Lib.hid ((HMID.out.drewN 1).below hb5)
              clear hb5
              go_wp2
              go_ret2
              rw [HBB.out]
              refine ⟨fun h => absurd HOK.out h, fun _ k' hk' => ?_⟩
              obtain rfl := HK.out k' hk'
              exact ⟨fun h => by have := HN.out; omega, fun h => by have := HN.out; omega, fun _ => ⟨fun h => absurd HM.out h, fun _ => ⟨fun _ => ⟨rfl, bel5⟩, fun h => absurd h HQ.out⟩⟩⟩
        · have HM := Lib.hid hM
          clear hM
          go_wp2
          go_quiet ((go_at_call 12; exact Calls.quiet_of_same ((Right_no A2 k (cap - 8) (modOf l k) _ (HMID.out.drewN _) ⟨b1, b2, b3⟩ HM.out).mono (fun e w' h => ⟨h.1, h.2.symm⟩))))
          go_wp2
          go_ret2
          rw [HBB.out]
          refine ⟨fun h => absurd HOK.out h, fun _ k' hk' => ?_⟩
          obtain rfl := HK.out k' hk'
          exact ⟨fun h => by have := HN.out; omega, fun h => by have := HN.out; omega, fun _ => ⟨fun _ => ⟨rfl, below_drewN below_self _⟩, fun h => absurd h HM.out⟩⟩
      · have HOK := Lib.hid hok
        have hno : b < 512 ∨ 4096 < b ∨ b % 512 ≠ 0 := by unfold BitsOk at hok; omega
        clear hok
        by_cases h1 : b < 512
        · go_wp2
          go_ret2
          rw [HBB.out]
          exact ⟨fun _ => ⟨rfl, below_self⟩, fun h => absurd h HOK.out⟩
        by_cases h2 : 4096 < b
        · go_wp2
          go_ret2
          rw [HBB.out]
          exact ⟨fun _ => ⟨rfl, below_self⟩, fun h => absurd h HOK.out⟩
        have h3 : b % 512 ≠ 0 := by omega
        have d4 : ((b : Int) % 512 != 0) = true := by simp; omega
        go_wp2
        go_ret2
        rw [HBB.out]
        exact ⟨fun _ => ⟨rfl, below_self⟩, fun h => absurd h HOK.out⟩
end Go.Proofs.YtojpbfkdkkdpcaaDoor
