/-
  DescrSizes returns true for every list of descriptors: its walk.
-/
import Derived.Test.YtfeihdmjcppbaaaDoorAn
import Derived.Test.YtfeihdmjcppbaaaDoorS2
namespace Go.Proofs.YtfeihdmjcppbaaaDoor
open Go.RowKit
set_option linter.unusedVariables false
set_option linter.unusedSimpArgs false
set_option maxRecDepth 100000

theorem encode_cases {L : List De} {l : List Nat} {er : Nat} (h : encode L = (l, er)) : (er ≠ 0 ∧ l = []) ∨ (er = 0 ∧ l = encs L ∧ (∀ d ∈ L, Right d) ∧ tw [] L = false ∧ L.length ≤ 32) := by
  unfold encode at h
  by_cases h1 : 32 < L.length
  · rw [if_pos h1] at h; injection h with h2 h3; exact .inl ⟨by omega, h2.symm⟩
  · rw [if_neg h1] at h
    by_cases h4 : ∀ d ∈ L, Right d
    · rw [if_pos h4] at h
      cases ht : tw [] L
      · rw [ht] at h; injection h with h2 h3; exact .inr ⟨h3.symm, h2.symm, h4, rfl, by omega⟩
      · rw [ht] at h; injection h with h2 h3; exact .inl ⟨by omega, h2.symm⟩
    · rw [if_neg h4] at h; injection h with h2 h3; exact .inl ⟨by omega, h2.symm⟩
theorem encode_one {d : De} (h : Right d) : encode [d] = (enc d, 0) := by
  unfold encode
  rw [if_neg (by simp), if_pos (by intro x hx; rw [List.mem_singleton.1 hx]; exact h), show tw [] [d] = false by simp [tw, dup]]
  simp [encs]
theorem dl_one {w : World} {y : Dx} (h : DxOk w y) : DL (w.alloc (.cells y.cells.toArray 27)) (some ⟨w.heap.size, 0, none⟩) 1 [y] := by
  have hb : Below w.heap.size w (w.alloc (.cells y.cells.toArray 27)) := (Below.refl _ _).alloc (Nat.le_refl _) _
  have hk : Blk (w.alloc (.cells y.cells.toArray 27)) w.heap.size 27 y.cells := Blk.new _ _ _
  exact ⟨rfl, fun _ => ⟨_, rfl, hk.lt, fun i x hx => by
    rcases i with _ | i
    · injection hx with hx
      subst hx
      intro j v hv
      rw [add_add, addr_add]
      simpa using hk.at.cell j hv
    · simp at hx⟩, fun x hx => by rw [List.mem_singleton.1 hx]; exact h.below hb⟩
theorem names_le {xs : List Dx} {W : World} (h : ∀ x ∈ xs, SmallX x) : ∀ x ∈ xs, x.d.name.length ≤ 100000 := fun x hx => by have := (h x hx).1; omega
set_option maxHeartbeats 4000000 in
theorem sizes_walk (A : Option Addr) (n cap : Nat) (xs : List Dx) (W : World) (g : Dsc W A n cap xs) : Calls Tryd.prog 6 #[.slice A n cap] W fun e w' => e = .returned (.bool true) ∧ Below W.heap.size W w' := by
  obtain ⟨d0, hu0, hd0⟩ := uD
  have HG := Lib.hid g
  clear g
  go_enter Tryd.func6, Tryd.ntmps6
  go_wp2_with fail
  refine (anchor_any W).mono ?_
  rintro e w1 ⟨rfl, hb1⟩
  have B1 := Lib.hid hb1
  clear hb1
  have HS := Lib.hid (Small_any A n cap xs w1 (HG.out.dl.below B1.out) HG.out.le HG.out.max)
  go_wp2_with fail
  refine HS.out.mono ?_
  rintro e w2 ⟨b, rfl, hsm, hb2⟩
  have B2 := Lib.hid (B1.out.trans (hb2.mono B1.out.size))
  cases b
  · clear hsm hb2
    go_wp2
    go_ret
    exact ⟨rfl, B2.out⟩
  · obtain ⟨hsmall, hn40⟩ := hsm rfl
    have HSM := Lib.hid hsmall
    have HEN := Lib.hid (Encode_any A n cap xs w2 (HG.out.dl.below B2.out) (by omega) HG.out.le HG.out.max (names_le (W := W) hsmall))
    clear hsm hb2 hsmall
    go_wp2_with fail
    refine HEN.out.mono ?_
    rintro e w3 ⟨A3, n3, c3, l, er, rfl, hen, hrow, hb3⟩
    have B3 := Lib.hid (B2.out.trans (hb3.mono B2.out.size))
    have hl3 := hrow.length
    rw [cn_length] at hl3
    rcases encode_cases hen with ⟨her, hl⟩ | ⟨her, hl, hright, htw, h32⟩
    · subst hl
      obtain rfl : n3 = 0 := hl3.symm
      have e0 : ((er : Int) != 0) = true := by simp; omega
      clear her hen hrow hb3 hl3
      go_wp2
      go_ret
      exact ⟨rfl, B3.out⟩
    · subst her hl
      have HR := Lib.hid hright
      have HL3 := Lib.hid hl3
      have hlen : (des xs).length = n := by rw [des, List.length_map, HG.out.dl.len]
      have HLEN := Lib.hid hlen
      clear hen hrow hb3 hl3 hright htw hlen
      go_wp2
      go_loopw [5, 27] (fun a o wr => ∃ i : Nat, i ≤ n ∧ o = .int .i64 (i : Int) ∧ a = .int .i64 (((encs ((des xs).take i)).length : Nat) : Int) ∧ Hid (Below W.heap.size W wr)) (fun _ o _ => n - (intOf o).toNat)
      case atStart => exact ⟨0, Nat.zero_le _, rfl, rfl, B3⟩
      case round =>
        obtain ⟨i, hi, rfl, rfl, HB⟩ := hrel
        by_cases hin : i < n
        · have hin2 : (i : Int) < (n : Int) := by omega
          obtain ⟨ad, y, hA, had, hy, hym, hAt, hok⟩ := (HG.out.dl.below HB.out).get hin
          subst hA
          have hry : Right y.d := HR.out _ (List.mem_of_getElem? (des_get hy))
          have HAT := Lib.hid hAt
          have hb4 : Below wr.heap.size wr (wr.alloc (.cells y.cells.toArray 27)) := (Below.refl _ _).alloc (Nat.le_refl _) _
          have hk4 : Blk (wr.alloc (.cells y.cells.toArray 27)) wr.heap.size 27 y.cells := Blk.new _ _ _
          obtain ⟨wz, hwz⟩ : ∃ wz, wr.alloc (.cells y.cells.toArray 27) = wz := ⟨_, rfl⟩
          rw [hwz] at hb4 hk4
          have HZ : Hid (Below W.heap.size W wz) := HB.out.trans (hb4.mono HB.out.size)
          have HBK := Lib.hid hk4.at
          have c6 : wz.cell? ⟨wr.heap.size, 6, none⟩ = some (.string (str y.d.name)) := hk4.cell 6
          have c7 : wz.cell? ⟨wr.heap.size, 7, none⟩ = some (.slice y.s1.A y.s1.n y.s1.cap) := hk4.cell 7
          have c8 : wz.cell? ⟨wr.heap.size, 8, none⟩ = some (.slice y.s2.A y.s2.n y.s2.cap) := hk4.cell 8
          have c9 : wz.cell? ⟨wr.heap.size, 9, none⟩ = some (.slice y.s3.A y.s3.n y.s3.cap) := hk4.cell 9
          have c10 : wz.cell? ⟨wr.heap.size, 10, none⟩ = some (.slice y.s4.A y.s4.n y.s4.cap) := hk4.cell 10
          have hokz := hok.below hb4
          have hb5 : Below wz.heap.size wz (wz.alloc (.cells y.cells.toArray 27)) := (Below.refl _ _).alloc (Nat.le_refl _) _
          have hdl := dl_one hokz
          obtain ⟨w5, hw5⟩ : ∃ w5, wz.alloc (.cells y.cells.toArray 27) = w5 := ⟨_, rfl⟩
          rw [hw5] at hb5 hdl
          have H5 : Hid (Below W.heap.size W w5) := HZ.out.trans (hb5.mono HZ.out.size)
          have HE1 := Lib.hid (Encode_any (some ⟨wz.heap.size, 0, none⟩) 1 1 [y] w5 hdl (by omega) (by omega) (by omega) (by intro x hx; rw [List.mem_singleton.1 hx]; have := (HSM.out y hym).1; omega))
          rw [show des [y] = [y.d] from rfl, encode_one hry] at HE1
          have hds := hok.hds
          have hsx := HSM.out y hym
          have hsz := str_size y.d.name
          have hbl := body_length y.d
          have hel := enc_length y.d
          have htl : tlen y.d = y.d.name.length + y.s1.n + y.s2.n + y.s3.n + y.s4.n := by rw [tlen, hds.salt, hds.digest, hds.key, hds.value]
          have HNX : Hid ((encs ((des xs).take (i + 1))).length = (encs ((des xs).take i)).length + (enc y.d).length) := by
            show _ = _
            rw [take_snoc' (des_get hy), encs_snoc, List.length_append]
          have hEB : (encs ((des xs).take i)).length ≤ 1600 * 40 := by
            have h1 := encs_le (l := (des xs).take i) (fun d hd => HR.out d (List.mem_of_mem_take hd))
            have h2 : ((des xs).take i).length ≤ 40 := by rw [List.length_take]; omega
            omega
          obtain ⟨E0, hE0⟩ : ∃ E, (encs ((des xs).take i)).length = E := ⟨_, rfl⟩
          rw [hE0] at HNX hEB
          obtain ⟨m0, hm0⟩ : ∃ m, y.d.name.length = m := ⟨_, rfl⟩
          obtain ⟨m1, hm1⟩ : ∃ m, y.s1.n = m := ⟨_, rfl⟩
          obtain ⟨m2, hm2⟩ : ∃ m, y.s2.n = m := ⟨_, rfl⟩
          obtain ⟨m3, hm3⟩ : ∃ m, y.s3.n = m := ⟨_, rfl⟩
          obtain ⟨m4, hm4⟩ : ∃ m, y.s4.n = m := ⟨_, rfl⟩
          unfold SmallX at hsx
          rw [hm0, hm1, hm2, hm3, hm4] at hsx
          rw [hm0] at hsz
          rw [hm1] at c7
          rw [hm2] at c8
          rw [hm3] at c9
          rw [hm4] at c10
          rw [hm0, hm1, hm2, hm3, hm4] at htl
          obtain ⟨hx0, hx1, hx2, hx3, hx4⟩ := hsx
          obtain ⟨q, hq⟩ : ∃ q, (m0 + m1 + m2 + m3 + m4 + 7) / 8 = q := ⟨_, rfl⟩
          have hqz : ((m0 : Int) + (m1 : Int) + (m2 : Int) + (m3 : Int) + (m4 : Int) + 7).tdiv 8 = (q : Int) := by rw [Int.tdiv_eq_ediv_of_nonneg (by omega)]; omega
          have hq1000 : q ≤ 1000 := by omega
          have HENL : Hid ((enc y.d).length = 64 + q * 8) := by
            show _ = _
            rw [hel, hbl, htl, hq]; omega
          rw [hE0]
          clear hAt hb4 hk4 hokz hb5 hdl hok had hy hym hds htl hbl hel hm0 hm1 hm2 hm3 hm4 hq hE0 hry
          go_wp2_with (first
            | ((with_reducible refine at_dst (some 30) ?_); refine wpList_loadAt (op := ⟨some 30, _, _, _, _, _⟩) rfl 27 (.tmp 29) rfl (ad.add (i * 11)) rfl y.cells d0 HAT.out hu0 hd0 iD ?_)
            | ((with_reducible refine at_dst none ?_); refine wpList_storeNew (w := wr) (op := ⟨none, _, _, _, _, _⟩) rfl 27 (.tmp 7) (.tmp 30) rfl zeroD y.cells rfl rfl rfl iD y.one ?_; rw [hwz])
            | ((with_reducible refine at_dst (some 57) ?_); refine wpList_loadAt (op := ⟨some 57, _, _, _, _, _⟩) rfl 27 (.tmp 7) rfl ⟨wr.heap.size, 0, none⟩ rfl y.cells d0 HBK.out hu0 hd0 iD ?_)
            | ((with_reducible refine at_dst (some 58) ?_); refine wpList_build1 ltD (o := ⟨some 58, _, _, _, _, _⟩) rfl (.tmp 57) rfl y rfl ?_; rw [hw5]))
          refine HE1.out.mono ?_
          rintro e w6 ⟨A6, n6, c6', l6, er6, rfl, hen6, hrow6, hb6⟩
          injection hen6 with hen7 hen8
          subst hen7 hen8
          have hn6 : n6 = 64 + q * 8 := by have := hrow6.length; rw [cn_length, HENL.out] at this; exact this.symm
          subst hn6
          have H6 : Hid (Below W.heap.size W w6) := H5.out.trans (hb6.mono H5.out.size)
          obtain ⟨P, hP⟩ : ∃ P, 64 + q * 8 = P := ⟨_, rfl⟩
          have hrem : ((P : Int)).tmod 8 = 0 := by rw [Int.tmod_eq_emod_of_nonneg (by omega)]; omega
          have hP2 : P ≤ 9000 := by omega
          have HP := Lib.hid hP
          rw [hP]
          clear hrow6 hb6 hP
          go_wp2
          go_roundw
          case rel => exact ⟨i + 1, by omega, by go_num, by rw [HNX.out, HENL.out]; go_num, H6⟩
          case measure => simp [intOf]; omega
        · obtain rfl : i = n := by omega
          have hall : (des xs).take i = des xs := List.take_of_length_le (by rw [HLEN.out]; exact Nat.le_refl _)
          rw [hall, HL3.out]
          clear hall
          go_wp2
          go_ret
          exact ⟨by first | rfl | simp [*], HB.out⟩
end Go.Proofs.YtfeihdmjcppbaaaDoor
