/-
  DriveTwice returns true for every two slices of bytes and every two numbers: its walk.
-/
import Derived.Test.YtonjmbcagdkdiaaD14
namespace Go.Proofs.Ytonjmbcagdkdiaa
open Go.RowKit Go.MapKept
set_option linter.unusedVariables false
set_option linter.unusedSimpArgs false
set_option maxRecDepth 100000

/-- The own blocks of a drive are none that came later. -/
theorem OneD.new {w : World} {g N : Nat} {O : List Nat} {s : ByteArray} {l : List Nat} {S : Int → Bool} {dn : Bool} {lf : Int} {kp : List Bool} {ct td : Int} (h : OneD w g O N s l S dn lf kp ct td) {b : Nat} (hb : w.heap.size ≤ b) : b ∉ O := fun hm => by
  have := h.lt b hm
  omega
theorem OneD.own {w : World} {g N : Nat} {O : List Nat} {s : ByteArray} {l : List Nat} {S : Int → Bool} {dn : Bool} {lf : Int} {kp : List Bool} {ct td : Int} (h : OneD w g O N s l S dn lf kp ct td) : g ∈ O := by
  obtain ⟨D, p, h1, h2, h3, h4⟩ := h
  rw [← h2, ← h3]; exact own_g D
theorem bad_in (k : Nat) (hk : k < 4) : Spoilt (badset (fun _ => false) k true) 0 256 := ⟨k * 64, by omega, by omega, by
  have e : k * 64 / 64 = k := by omega
  rw [e]; simp [badset]⟩
theorem bad_out (k : Nat) : ¬ Spoilt (badset (badset (fun _ => false) k true) k false) 0 256 := fun ⟨j, _, _, h⟩ => by
  by_cases e : ((j / 64 : Nat) : Int) = (k : Int)
  · simp [badset, e] at h
  · simp [badset, e] at h
set_option maxHeartbeats 4000000 in
theorem twice_walk (A : Option Addr) (n c : Nat) (bs : List Nat) (off : Int) (Ax : Option Addr) (nx cx : Nat) (x : List Nat) (sec : Int) (w : World) (hb : Bs w A n c bs) (ho : I64 off) (hx : Bs w Ax nx cx x) (hs : I64 sec) :
    Calls Try.prog 5 #[.slice A n c, .int .i64 off, .slice Ax nx cx, .int .i64 sec] w fun e w' => e = .returned (.bool true) ∧ Below w.heap.size w w' := by
  have HB0 := Lib.hid hb
  have HX0 := Lib.hid hx
  have hox := ho.2
  have hnc := hb.le
  have hcm := hb.max
  have hnx := hx.le
  have hcx := hx.max
  unfold I64 at ho hs
  clear hb hx
  go_enter Try.func5, Try.ntmps5
  go_wp2_with fail
  refine (anchor_any w).mono ?_
  rintro e w1 ⟨rfl, hb1⟩
  have B1 := Lib.hid hb1
  clear hb1
  by_cases h1 : 256 < n
  · have z1 : 256 < (n : Int) := by omega
    go_wp2
    go_ret
    exact ⟨rfl, B1.out⟩
  have z1 : ¬ 256 < (n : Int) := by omega
  by_cases h2 : 300 < nx
  · have z2 : 300 < (nx : Int) := by omega
    go_wp2
    go_ret
    exact ⟨rfl, B1.out⟩
  have z2 : ¬ 300 < (nx : Int) := by omega
  have H1 : Hid (n ≤ 256 ∧ nx ≤ 300) := ⟨by omega, by omega⟩
  clear h1 h2
  go_wp2_with fail
  have HS1 := Lib.hid (one_src2 w1 ⟨#[120]⟩ 256)
  have B2 := Lib.hid (B1.out.alloc B1.out.size (.cells #[.string ⟨#[120]⟩, .int .i64 256] 36))
  generalize w1.alloc (.cells #[.string ⟨#[120]⟩, .int .i64 256] 36) = w2 at *
  refine (New_one _ [120] 256 w2 HS1.out (by decide) (by decide) (by decide) (by decide)).mono ?_
  rintro e w3 ⟨g, O, rfl, hD, hO, hb3⟩
  have D3 := Lib.hid hD
  have HO : Hid (∀ b ∈ O, w.heap.size ≤ b) := fun b hb => Nat.le_trans B2.out.size (hO b hb)
  have B3 := Lib.hid (B2.out.trans (hb3.mono B2.out.size))
  have HAO : Hid (∀ (a : Option Addr) (k : Nat) (l : List Nat), Rd .u8 w a k l → 0 < k → ∀ ad, a = some ad → ad.block ∉ O) := fun a k l hr hk ad e hm => by
    have h1 := hr.lt hk ad e
    have h2 := HO.out _ hm
    omega
  have L0 : Hid ((List.replicate (Int.toNat 256) 0 : List Nat).length = 256) := by show _ = _; simp
  clear hD hO hb3 z1 z2
  -- what was written
  obtain ⟨L, hL⟩ : ∃ L, splice (List.replicate (Int.toNat 256) 0) 0 bs = L := ⟨_, rfl⟩
  have HLL : Hid (L.length = 256) := by
    show _ = _
    rw [← hL, length_splice _ _ _ (by rw [L0.out, HB0.out.rd.1]; have := H1.out; omega), L0.out]
  have W4 : Hid (Calls Try.prog 19 #[.pointer (some ⟨g, 0, none⟩), .string ⟨#[120]⟩, .int .i64 ((0 : Nat) : Int), .slice A n c] w3 (Goes w3 O (.int .i64 0) fun w' => OneD w' g O w3.heap.size ⟨#[120]⟩ L (fun _ => false) false (-1) [] 0 0)) := by
    rw [← hL]
    exact D3.out.write_ok (by omega) 0 A n c bs (HB0.out.rd.below B3.out) HB0.out.fit hnc hcm (HAO.out A n bs HB0.out.rd) (by rw [L0.out]; have := H1.out; omega)
  clear hL
  go_wp2_with fail
  refine W4.out.mono ?_
  rintro e w4 ⟨rfl, hD4, ht4⟩
  have D4 := Lib.hid hD4
  have B4 := Lib.hid (below_touch B3.out ht4 HO.out B3.out.size)
  clear hD4 ht4
  go_wp2_with fail
  refine (D4.out.read_ok 0 256 (by rw [HLL.out]; omega) (no_bad _ _) (by omega) (by omega)).mono ?_
  rintro e w5 ⟨r5, rfl, hr5, hK5, hD5, ht5⟩
  have N5 := Lib.hid (D4.out.new hr5)
  have K5 := Lib.hid hK5
  have D5 := Lib.hid hD5
  have B5 := Lib.hid (below_touch B4.out (ht5.wider (G := O) (fun b hb => by rw [List.mem_singleton.1 hb]; exact D4.out.own)) HO.out B4.out.size)
  clear hr5 hK5 hD5 ht5
  go_wp2_with fail
  by_cases hlie : Lies off nx 256
  · obtain ⟨o, rfl⟩ : ∃ o : Nat, off = o := ⟨off.toNat, by have := hlie.1; omega⟩
    have HLI : Hid (o + nx ≤ 256) := by show _ ≤ _; have := hlie.2.2; omega
    clear hlie ho hox
    have T6 : Hid (∀ (wx : World) (M : List Nat) (ct td : Int), M.length = 256 → OneD wx g O w3.heap.size ⟨#[120]⟩ M (fun _ => false) false (-1) [] ct td → Below w.heap.size w wx → Calls Try.prog 21 #[.pointer (some ⟨g, 0, none⟩), .string ⟨#[120]⟩, .int .i64 (o : Int), .slice Ax nx cx] wx (Goes wx O (.bool true) fun w' => OneD w' g O w3.heap.size ⟨#[120]⟩ (xored M o x) (fun _ => false) false (-1) [] ct td)) := fun wx M ct td hM hD hB =>
      hD.turn_ok o Ax nx cx x (HX0.out.rd.below hB) HX0.out.fit (HAO.out Ax nx x HX0.out.rd) (by rw [hM]; exact HLI.out)
    refine (T6.out w5 L _ _ HLL.out D5.out B5.out).mono ?_
    rintro e w6 ⟨rfl, hD6, ht6⟩
    have D6 := Lib.hid hD6
    have B6 := Lib.hid (below_touch B5.out ht6 HO.out B5.out.size)
    have K6 := Lib.hid (K5.out.touch ht6 N5.out)
    clear hD6 ht6
    go_wp2_with fail
    refine (T6.out w6 _ _ _ (by rw [xored_length]; exact HLL.out) D6.out B6.out).mono ?_
    rintro e w7 ⟨rfl, hD7, ht7⟩
    rw [xored_twice] at hD7
    have D7 := Lib.hid hD7
    have B7 := Lib.hid (below_touch B6.out ht7 HO.out B6.out.size)
    have K7 := Lib.hid (K6.out.touch ht7 N5.out)
    clear hD7 ht7
    by_cases hin : 0 ≤ sec ∧ sec < 4
    · obtain ⟨k, rfl⟩ : ∃ k : Nat, sec = k := ⟨sec.toNat, by omega⟩
      have hk4 : k < 4 := by omega
      have zk : (k : Int) < 4 := by omega
      clear hin hs
      go_wp2_with fail
      refine (D7.out.bad_ok k true (by rw [HLL.out]; omega)).mono ?_
      rintro e w8 ⟨rfl, hD8, ht8⟩
      have D8 := Lib.hid hD8
      have B8 := Lib.hid (below_touch B7.out ht8 HO.out B7.out.size)
      have K8 := Lib.hid (K7.out.touch ht8 N5.out)
      clear hD8 ht8
      go_wp2_with fail
      refine (D8.out.read_bad 0 256 (by rw [HLL.out]; omega) (bad_in k hk4)).mono ?_
      rintro e w9 ⟨rfl, hb9⟩
      have D9 := Lib.hid (D8.out.below hb9)
      have B9 := Lib.hid (below_then B8.out hb9)
      have K9 := Lib.hid (K8.out.below hb9 K8.out.lt)
      clear hb9
      go_wp2_with fail
      refine (D9.out.bad_ok k false (by rw [HLL.out]; omega)).mono ?_
      rintro e wa ⟨rfl, hDa, hta⟩
      have Da := Lib.hid hDa
      have Ba := Lib.hid (below_touch B9.out hta HO.out B9.out.size)
      have Ka := Lib.hid (K9.out.touch hta N5.out)
      clear hDa hta
      go_wp2_with fail
      refine (Da.out.read_ok 0 256 (by rw [HLL.out]; omega) (bad_out k) (by omega) (by omega)).mono ?_
      rintro e wb ⟨rb, rfl, hrb, hKb, hDb, htb⟩
      have Bb := Lib.hid (below_touch Ba.out (htb.wider (G := O) (fun b hb => by rw [List.mem_singleton.1 hb]; exact Da.out.own)) HO.out Ba.out.size)
      have Kb := Lib.hid (Ka.out.touch (htb.wider (G := O) (fun b hb => by rw [List.mem_singleton.1 hb]; exact Da.out.own)) N5.out)
      have hlen : ((L.drop 0).take 256).length = 256 := by rw [List.length_take, List.length_drop, HLL.out]; rfl
      have q1 := rd_str (hKb.rd 256 hlen) 256
      have q2 := rd_str (Kb.out.rd 256 hlen) 256
      have q3 : ((str ((L.drop 0).take 256)).toList == (str ((L.drop 0).take 256)).toList) = true := beq_self_eq_true _
      generalize str ((L.drop 0).take 256) = G at q1 q2 q3
      clear hrb hKb hDb htb hlen
      go_wp2
      go_ret
      exact ⟨rfl, Bb.out⟩
    · by_cases hge : 0 ≤ sec
      · have hlt : decide (sec < 4) = false := decide_eq_false (by omega)
        have HIN := Lib.hid hin
        clear hin hs
        go_wp2_with fail
        refine (D7.out.bad_end sec true (by rw [HLL.out]; have := HIN.out; omega)).mono ?_
        rintro e w8 ⟨rfl, hb8⟩
        have D8 := Lib.hid (D7.out.below hb8)
        have B8 := Lib.hid (below_then B7.out hb8)
        have K8 := Lib.hid (K7.out.below hb8 K7.out.lt)
        clear hb8
        go_wp2_with fail
        refine (D8.out.read_ok 0 256 (by rw [HLL.out]; omega) (no_bad _ _) (by omega) (by omega)).mono ?_
        rintro e w9 ⟨r9, rfl, hr9, hK9, hD9, ht9⟩
        have D9 := Lib.hid hD9
        have B9 := Lib.hid (below_touch B8.out (ht9.wider (G := O) (fun b hb => by rw [List.mem_singleton.1 hb]; exact D8.out.own)) HO.out B8.out.size)
        have K9 := Lib.hid (K8.out.touch (ht9.wider (G := O) (fun b hb => by rw [List.mem_singleton.1 hb]; exact D8.out.own)) N5.out)
        clear hr9 hK9 hD9 ht9
        go_wp2_with fail
        refine (D9.out.bad_end sec false (by rw [HLL.out]; have := HIN.out; omega)).mono ?_
        rintro e wa ⟨rfl, hba⟩
        have Da := Lib.hid (D9.out.below hba)
        have Ba := Lib.hid (below_then B9.out hba)
        have Ka := Lib.hid (K9.out.below hba K9.out.lt)
        clear hba
        go_wp2_with fail
        refine (Da.out.read_ok 0 256 (by rw [HLL.out]; omega) (no_bad _ _) (by omega) (by omega)).mono ?_
        rintro e wb ⟨rb, rfl, hrb, hKb, hDb, htb⟩
        have Bb := Lib.hid (below_touch Ba.out (htb.wider (G := O) (fun b hb => by rw [List.mem_singleton.1 hb]; exact Da.out.own)) HO.out Ba.out.size)
        have Kb := Lib.hid (Ka.out.touch (htb.wider (G := O) (fun b hb => by rw [List.mem_singleton.1 hb]; exact Da.out.own)) N5.out)
        have hlen : ((L.drop 0).take 256).length = 256 := by rw [List.length_take, List.length_drop, HLL.out]; rfl
        have q1 := rd_str (hKb.rd 256 hlen) 256
        have q2 := rd_str (Kb.out.rd 256 hlen) 256
        have q3 : ((str ((L.drop 0).take 256)).toList == (str ((L.drop 0).take 256)).toList) = true := beq_self_eq_true _
        generalize str ((L.drop 0).take 256) = G at q1 q2 q3
        clear hrb hKb hDb htb hlen
        go_wp2
        go_ret
        exact ⟨rfl, Bb.out⟩
      · have HIN := Lib.hid hin
        clear hin hs
        go_wp2_with fail
        refine (D7.out.bad_end sec true (by rw [HLL.out]; have := HIN.out; omega)).mono ?_
        rintro e w8 ⟨rfl, hb8⟩
        have D8 := Lib.hid (D7.out.below hb8)
        have B8 := Lib.hid (below_then B7.out hb8)
        have K8 := Lib.hid (K7.out.below hb8 K7.out.lt)
        clear hb8
        go_wp2_with fail
        refine (D8.out.read_ok 0 256 (by rw [HLL.out]; omega) (no_bad _ _) (by omega) (by omega)).mono ?_
        rintro e w9 ⟨r9, rfl, hr9, hK9, hD9, ht9⟩
        have D9 := Lib.hid hD9
        have B9 := Lib.hid (below_touch B8.out (ht9.wider (G := O) (fun b hb => by rw [List.mem_singleton.1 hb]; exact D8.out.own)) HO.out B8.out.size)
        have K9 := Lib.hid (K8.out.touch (ht9.wider (G := O) (fun b hb => by rw [List.mem_singleton.1 hb]; exact D8.out.own)) N5.out)
        clear hr9 hK9 hD9 ht9
        go_wp2_with fail
        refine (D9.out.bad_end sec false (by rw [HLL.out]; have := HIN.out; omega)).mono ?_
        rintro e wa ⟨rfl, hba⟩
        have Da := Lib.hid (D9.out.below hba)
        have Ba := Lib.hid (below_then B9.out hba)
        have Ka := Lib.hid (K9.out.below hba K9.out.lt)
        clear hba
        go_wp2_with fail
        refine (Da.out.read_ok 0 256 (by rw [HLL.out]; omega) (no_bad _ _) (by omega) (by omega)).mono ?_
        rintro e wb ⟨rb, rfl, hrb, hKb, hDb, htb⟩
        have Bb := Lib.hid (below_touch Ba.out (htb.wider (G := O) (fun b hb => by rw [List.mem_singleton.1 hb]; exact Da.out.own)) HO.out Ba.out.size)
        have Kb := Lib.hid (Ka.out.touch (htb.wider (G := O) (fun b hb => by rw [List.mem_singleton.1 hb]; exact Da.out.own)) N5.out)
        have hlen : ((L.drop 0).take 256).length = 256 := by rw [List.length_take, List.length_drop, HLL.out]; rfl
        have q1 := rd_str (hKb.rd 256 hlen) 256
        have q2 := rd_str (Kb.out.rd 256 hlen) 256
        have q3 : ((str ((L.drop 0).take 256)).toList == (str ((L.drop 0).take 256)).toList) = true := beq_self_eq_true _
        generalize str ((L.drop 0).take 256) = G at q1 q2 q3
        clear hrb hKb hDb htb hlen
        go_wp2
        go_ret
        exact ⟨rfl, Bb.out⟩
  · have HLI := Lib.hid hlie
    clear hlie
    refine (D5.out.turn_end off Ax nx cx (by rw [HLL.out]; exact HLI.out) hox (by omega)).mono ?_
    rintro e w6 ⟨rfl, hb6⟩
    have D6 := Lib.hid (D5.out.below hb6)
    have B6 := Lib.hid (below_then B5.out hb6)
    have K6 := Lib.hid (K5.out.below hb6 K5.out.lt)
    clear hb6
    go_wp2_with fail
    refine (D6.out.turn_end off Ax nx cx (by rw [HLL.out]; exact HLI.out) hox (by omega)).mono ?_
    rintro e w7 ⟨rfl, hb7⟩
    have D7 := Lib.hid (D6.out.below hb7)
    have B7 := Lib.hid (below_then B6.out hb7)
    have K7 := Lib.hid (K6.out.below hb7 K6.out.lt)
    clear hb7
    by_cases hin : 0 ≤ sec ∧ sec < 4
    · obtain ⟨k, rfl⟩ : ∃ k : Nat, sec = k := ⟨sec.toNat, by omega⟩
      have hk4 : k < 4 := by omega
      have zk : (k : Int) < 4 := by omega
      clear hin hs
      go_wp2_with fail
      refine (D7.out.bad_ok k true (by rw [HLL.out]; omega)).mono ?_
      rintro e w8 ⟨rfl, hD8, ht8⟩
      have D8 := Lib.hid hD8
      have B8 := Lib.hid (below_touch B7.out ht8 HO.out B7.out.size)
      have K8 := Lib.hid (K7.out.touch ht8 N5.out)
      clear hD8 ht8
      go_wp2_with fail
      refine (D8.out.read_bad 0 256 (by rw [HLL.out]; omega) (bad_in k hk4)).mono ?_
      rintro e w9 ⟨rfl, hb9⟩
      have D9 := Lib.hid (D8.out.below hb9)
      have B9 := Lib.hid (below_then B8.out hb9)
      have K9 := Lib.hid (K8.out.below hb9 K8.out.lt)
      clear hb9
      go_wp2_with fail
      refine (D9.out.bad_ok k false (by rw [HLL.out]; omega)).mono ?_
      rintro e wa ⟨rfl, hDa, hta⟩
      have Da := Lib.hid hDa
      have Ba := Lib.hid (below_touch B9.out hta HO.out B9.out.size)
      have Ka := Lib.hid (K9.out.touch hta N5.out)
      clear hDa hta
      go_wp2_with fail
      refine (Da.out.read_ok 0 256 (by rw [HLL.out]; omega) (bad_out k) (by omega) (by omega)).mono ?_
      rintro e wb ⟨rb, rfl, hrb, hKb, hDb, htb⟩
      have Bb := Lib.hid (below_touch Ba.out (htb.wider (G := O) (fun b hb => by rw [List.mem_singleton.1 hb]; exact Da.out.own)) HO.out Ba.out.size)
      have Kb := Lib.hid (Ka.out.touch (htb.wider (G := O) (fun b hb => by rw [List.mem_singleton.1 hb]; exact Da.out.own)) N5.out)
      have hlen : ((L.drop 0).take 256).length = 256 := by rw [List.length_take, List.length_drop, HLL.out]; rfl
      have q1 := rd_str (hKb.rd 256 hlen) 256
      have q2 := rd_str (Kb.out.rd 256 hlen) 256
      have q3 : ((str ((L.drop 0).take 256)).toList == (str ((L.drop 0).take 256)).toList) = true := beq_self_eq_true _
      generalize str ((L.drop 0).take 256) = G at q1 q2 q3
      clear hrb hKb hDb htb hlen
      go_wp2
      go_ret
      exact ⟨rfl, Bb.out⟩
    · by_cases hge : 0 ≤ sec
      · have hlt : decide (sec < 4) = false := decide_eq_false (by omega)
        have HIN := Lib.hid hin
        clear hin hs
        go_wp2_with fail
        refine (D7.out.bad_end sec true (by rw [HLL.out]; have := HIN.out; omega)).mono ?_
        rintro e w8 ⟨rfl, hb8⟩
        have D8 := Lib.hid (D7.out.below hb8)
        have B8 := Lib.hid (below_then B7.out hb8)
        have K8 := Lib.hid (K7.out.below hb8 K7.out.lt)
        clear hb8
        go_wp2_with fail
        refine (D8.out.read_ok 0 256 (by rw [HLL.out]; omega) (no_bad _ _) (by omega) (by omega)).mono ?_
        rintro e w9 ⟨r9, rfl, hr9, hK9, hD9, ht9⟩
        have D9 := Lib.hid hD9
        have B9 := Lib.hid (below_touch B8.out (ht9.wider (G := O) (fun b hb => by rw [List.mem_singleton.1 hb]; exact D8.out.own)) HO.out B8.out.size)
        have K9 := Lib.hid (K8.out.touch (ht9.wider (G := O) (fun b hb => by rw [List.mem_singleton.1 hb]; exact D8.out.own)) N5.out)
        clear hr9 hK9 hD9 ht9
        go_wp2_with fail
        refine (D9.out.bad_end sec false (by rw [HLL.out]; have := HIN.out; omega)).mono ?_
        rintro e wa ⟨rfl, hba⟩
        have Da := Lib.hid (D9.out.below hba)
        have Ba := Lib.hid (below_then B9.out hba)
        have Ka := Lib.hid (K9.out.below hba K9.out.lt)
        clear hba
        go_wp2_with fail
        refine (Da.out.read_ok 0 256 (by rw [HLL.out]; omega) (no_bad _ _) (by omega) (by omega)).mono ?_
        rintro e wb ⟨rb, rfl, hrb, hKb, hDb, htb⟩
        have Bb := Lib.hid (below_touch Ba.out (htb.wider (G := O) (fun b hb => by rw [List.mem_singleton.1 hb]; exact Da.out.own)) HO.out Ba.out.size)
        have Kb := Lib.hid (Ka.out.touch (htb.wider (G := O) (fun b hb => by rw [List.mem_singleton.1 hb]; exact Da.out.own)) N5.out)
        have hlen : ((L.drop 0).take 256).length = 256 := by rw [List.length_take, List.length_drop, HLL.out]; rfl
        have q1 := rd_str (hKb.rd 256 hlen) 256
        have q2 := rd_str (Kb.out.rd 256 hlen) 256
        have q3 : ((str ((L.drop 0).take 256)).toList == (str ((L.drop 0).take 256)).toList) = true := beq_self_eq_true _
        generalize str ((L.drop 0).take 256) = G at q1 q2 q3
        clear hrb hKb hDb htb hlen
        go_wp2
        go_ret
        exact ⟨rfl, Bb.out⟩
      · have HIN := Lib.hid hin
        clear hin hs
        go_wp2_with fail
        refine (D7.out.bad_end sec true (by rw [HLL.out]; have := HIN.out; omega)).mono ?_
        rintro e w8 ⟨rfl, hb8⟩
        have D8 := Lib.hid (D7.out.below hb8)
        have B8 := Lib.hid (below_then B7.out hb8)
        have K8 := Lib.hid (K7.out.below hb8 K7.out.lt)
        clear hb8
        go_wp2_with fail
        refine (D8.out.read_ok 0 256 (by rw [HLL.out]; omega) (no_bad _ _) (by omega) (by omega)).mono ?_
        rintro e w9 ⟨r9, rfl, hr9, hK9, hD9, ht9⟩
        have D9 := Lib.hid hD9
        have B9 := Lib.hid (below_touch B8.out (ht9.wider (G := O) (fun b hb => by rw [List.mem_singleton.1 hb]; exact D8.out.own)) HO.out B8.out.size)
        have K9 := Lib.hid (K8.out.touch (ht9.wider (G := O) (fun b hb => by rw [List.mem_singleton.1 hb]; exact D8.out.own)) N5.out)
        clear hr9 hK9 hD9 ht9
        go_wp2_with fail
        refine (D9.out.bad_end sec false (by rw [HLL.out]; have := HIN.out; omega)).mono ?_
        rintro e wa ⟨rfl, hba⟩
        have Da := Lib.hid (D9.out.below hba)
        have Ba := Lib.hid (below_then B9.out hba)
        have Ka := Lib.hid (K9.out.below hba K9.out.lt)
        clear hba
        go_wp2_with fail
        refine (Da.out.read_ok 0 256 (by rw [HLL.out]; omega) (no_bad _ _) (by omega) (by omega)).mono ?_
        rintro e wb ⟨rb, rfl, hrb, hKb, hDb, htb⟩
        have Bb := Lib.hid (below_touch Ba.out (htb.wider (G := O) (fun b hb => by rw [List.mem_singleton.1 hb]; exact Da.out.own)) HO.out Ba.out.size)
        have Kb := Lib.hid (Ka.out.touch (htb.wider (G := O) (fun b hb => by rw [List.mem_singleton.1 hb]; exact Da.out.own)) N5.out)
        have hlen : ((L.drop 0).take 256).length = 256 := by rw [List.length_take, List.length_drop, HLL.out]; rfl
        have q1 := rd_str (hKb.rd 256 hlen) 256
        have q2 := rd_str (Kb.out.rd 256 hlen) 256
        have q3 : ((str ((L.drop 0).take 256)).toList == (str ((L.drop 0).take 256)).toList) = true := beq_self_eq_true _
        generalize str ((L.drop 0).take 256) = G at q1 q2 q3
        clear hrb hKb hDb htb hlen
        go_wp2
        go_ret
        exact ⟨rfl, Bb.out⟩
end Go.Proofs.Ytonjmbcagdkdiaa
