/-
  Read and Write of a drive. No condition but that lengths are lengths.
-/
import Derived.Test.YthepbadecpnepaaD6
namespace Go.Proofs.Ythepbadecpnepaa
open Go.RowKit Go.MapKept
set_option linter.unusedVariables false
set_option linter.unusedSimpArgs false
set_option maxRecDepth 100000

/-- A call's answer is an error, and of what was there nothing has turned. -/
def Fails (w : World) (v : Value) (e : Ending) (w' : World) : Prop := e = .returned v ∧ Below w.heap.size w w'
theorem Read_down (D : Dv) (w : World) (h : Drv w D) (hd : D.down = true) (s : ByteArray) (off len : Int) : Calls Try.prog 18 #[.pointer (some ⟨D.g, 0, none⟩), .string s, .int .i64 off, .int .i64 len] w (Fails w (.tuple #[.slice none 0 0, .int .i64 42])) := by
  have c2 := h.c2
  rw [hd] at c2
  clear h hd
  go_enter Try.func18, Try.ntmps18
  go_wp2
  go_ret2
  exact ⟨rfl, Below.refl _ _⟩
theorem Read_part (D : Dv) (w : World) (h : Drv w D) (hd : D.down = false) (s : ByteArray) (hs : ∀ p ∈ D.pts, p.nm ≠ s) (off len : Int) : Calls Try.prog 18 #[.pointer (some ⟨D.g, 0, none⟩), .string s, .int .i64 off, .int .i64 len] w (Fails w (.tuple #[.slice none 0 0, .int .i64 40])) := by
  have c2 := h.c2
  rw [hd] at c2
  have HR := Lib.hid (reach_no D w h s hs off len)
  clear h hd hs
  go_enter Try.func18, Try.ntmps18
  go_wp2_with fail
  refine HR.out.mono ?_
  rintro e w2 ⟨rfl, hb⟩
  have HB := Lib.hid hb
  clear hb
  go_wp2
  go_ret2
  exact ⟨rfl, HB.out.alloc HB.out.size _⟩
theorem Read_end (D : Dv) (w : World) (h : Drv w D) (hd : D.down = false) (p : Pt) (hp : p ∈ D.pts) (s : ByteArray) (hs : p.nm = s) (off len : Int) (hn : ¬ Lies off len p.l.length) (h1 : off ≤ 9223372036854775807) (h2 : len ≤ 9223372036854775807) : Calls Try.prog 18 #[.pointer (some ⟨D.g, 0, none⟩), .string s, .int .i64 off, .int .i64 len] w (Fails w (.tuple #[.slice none 0 0, .int .i64 10])) := by
  have c2 := h.c2
  rw [hd] at c2
  have HR := Lib.hid (reach_end D w h p hp s hs off len hn h1 h2)
  clear h hd hs hn hp
  go_enter Try.func18, Try.ntmps18
  go_wp2_with fail
  refine HR.out.mono ?_
  rintro e w2 ⟨rfl, hb⟩
  have HB := Lib.hid hb
  clear hb
  go_wp2
  go_ret2
  exact ⟨rfl, HB.out.alloc HB.out.size _⟩
theorem Read_bad (D : Dv) (w : World) (h : Drv w D) (hd : D.down = false) (p : Pt) (hp : p ∈ D.pts) (s : ByteArray) (hs : p.nm = s) (off m : Nat) (hn : off + m ≤ p.l.length) (hb : Spoilt p.bad off m) : Calls Try.prog 18 #[.pointer (some ⟨D.g, 0, none⟩), .string s, .int .i64 (off : Int), .int .i64 (m : Int)] w (Fails w (.tuple #[.slice none 0 0, .int .i64 41])) := by
  have c2 := h.c2
  rw [hd] at c2
  have HR := Lib.hid (reach_ok D w h p hp s hs off m hn)
  have hsz := (h.size p hp).2.1
  have HS := Lib.hid (h.bads p hp)
  have HSP := Lib.hid hb
  unfold Pt.val at HR
  generalize p.l.length = n at HR hn hsz
  generalize p.bb = bb at HR
  generalize p.mm = mm at HR HS
  generalize p.bad = S at HS HSP
  have h100 : off + m ≤ 100000000 := by omega
  clear h hd hs hn hp hb hsz
  go_enter Try.func18, Try.ntmps18
  go_wp2_with fail
  refine HR.out.mono ?_
  rintro e w2 ⟨rfl, hb⟩
  have HB := Lib.hid hb
  have HS2 : Hid (∀ o, SetAt (w2.alloc o) mm S) := fun o => HS.out.touch (Touch.of_below [] (HB.out.alloc HB.out.size o)) (by simp)
  clear hb
  go_wp2_with (go_at_call 35; refine (spoilt_any bb mm n S _ (HS2.out _) off m h100 true (by simpa using HSP.out)).mono ?_; rintro e w3 ⟨rfl, hb3⟩; have HB3 := Lib.hid hb3; clear hb3)
  go_ret2
  exact ⟨rfl, below_then (HB.out.alloc HB.out.size _) HB3.out⟩
/-- An answer: bytes, in a block that is new; and so much was read. -/
def GivesRead (w : World) (D : Dv) (m : Nat) (l : List Nat) (e : Ending) (w' : World) : Prop := ∃ g, e = .returned (.tuple #[.slice (some ⟨g, 0, none⟩) m m, .int .i64 0]) ∧ w.heap.size ≤ g ∧ Blk w' g 5 (cn .u8 l) ∧ Drv w' { D with count := D.count + 1, told := D.told + m } ∧ Touch [D.g] w w'
theorem Drv.counted {w : World} {D : Dv} (h : Drv w D) (ct td : Int) (hc : 0 ≤ ct ∧ ct ≤ 1152921504606846976 ∧ 0 ≤ td ∧ td ≤ 1152921504606846976) : Drv ((w.setCell ⟨D.g, 5, none⟩ (.int .i64 ct)).setCell ⟨D.g, 6, none⟩ (.int .i64 td)) { D with count := ct, told := td } ∧ Touch [D.g] w ((w.setCell ⟨D.g, 5, none⟩ (.int .i64 ct)).setCell ⟨D.g, 6, none⟩ (.int .i64 td)) := by
  have t : Touch [D.g] w ((w.setCell ⟨D.g, 5, none⟩ (.int .i64 ct)).setCell ⟨D.g, 6, none⟩ (.int .i64 td)) := ((Touch.refl _ w).setCell (p := ⟨D.g, 5, none⟩) (.inl (by simp)) _).setCell (p := ⟨D.g, 6, none⟩) (.inl (by simp)) _
  exact ⟨h.upd D.down D.left D.ka D.kc D.keep ct td t ((h.blk.set_ 5 _).set_ 6 _) (h.kept.touch t (fun ad e he => h.keptOwn ad e (by rw [List.mem_singleton.1 he]; exact own_g D))) h.keptOwn (fun ad e => Nat.lt_of_lt_of_le (h.keptLt ad e) t.size) h.short ⟨h.nums.1, h.nums.2.1, hc⟩, t⟩
set_option maxHeartbeats 1000000 in
theorem Read_ok (D : Dv) (w : World) (h : Drv w D) (hd : D.down = false) (p : Pt) (hp : p ∈ D.pts) (s : ByteArray) (hs : p.nm = s) (off m : Nat) (hn : off + m ≤ p.l.length) (hb : ¬ Spoilt p.bad off m) (hc : D.count + 1 ≤ 1152921504606846976) (ht : D.told + m ≤ 1152921504606846976) :
    Calls Try.prog 18 #[.pointer (some ⟨D.g, 0, none⟩), .string s, .int .i64 (off : Int), .int .i64 (m : Int)] w (GivesRead w D m ((p.l.drop off).take m)) := by
  have c2 := h.c2
  rw [hd] at c2
  have HR := Lib.hid (reach_ok D w h p hp s hs off m hn)
  have hsz := (h.size p hp).2.1
  have HS := Lib.hid (h.bads p hp)
  have HBY := Lib.hid (h.bytes p hp)
  have HSP := Lib.hid hb
  have HD := Lib.hid h
  have hnum := h.nums
  have HPN : Hid (p.bb ≠ D.g) := fun e => (List.nodup_cons.1 h.apart).1 (by
    simp only [List.mem_cons, List.mem_flatMap]
    exact .inr ⟨p, hp, by simp [e]⟩)
  have hn3 : 0 ≤ D.count := hnum.2.2.1
  have hn4 : 0 ≤ D.told := hnum.2.2.2.2.1
  unfold Pt.val at HR
  obtain ⟨n, hnn⟩ : ∃ n, p.l.length = n := ⟨_, rfl⟩
  have HNN := Lib.hid hnn
  rw [hnn] at HR hn hsz
  generalize p.bb = bb at HR HBY HPN
  generalize p.mm = mm at HR HS
  generalize p.bad = S at HS HSP
  generalize p.l = L at HBY HNN ⊢
  have h100 : off + m ≤ 100000000 := by omega
  clear h hd hs hp hb hnn hnum
  go_enter Try.func18, Try.ntmps18
  go_wp2_with fail
  refine HR.out.mono ?_
  rintro e w2 ⟨rfl, hb⟩
  have HB := Lib.hid hb
  have HS2 : Hid (∀ o, SetAt (w2.alloc o) mm S) := fun o => HS.out.touch (Touch.of_below [] (HB.out.alloc HB.out.size o)) (by simp)
  clear hb c2
  go_wp2_with fail
  refine (spoilt_any bb mm n S _ (HS2.out _) off m h100 false (by simpa using HSP.out)).mono ?_
  rintro e w3 ⟨rfl, hb3⟩
  have HB3 : Hid (Below w.heap.size w w3) := below_then (HB.out.alloc HB.out.size _) hb3
  have hbox : Hid (Blk w3 w2.heap.size 74 [.slice (some ⟨bb, 0, none⟩) n n, .map (some mm)]) := (Blk.new w2 74 [.slice (some ⟨bb, 0, none⟩) n n, .map (some mm)]).below hb3 (by simp)
  have hgs : Hid (w.heap.size ≤ w2.heap.size) := HB.out.size
  have HD3 := Lib.hid (HD.out.below HB3.out)
  have HC := Lib.hid (HD3.out.counted (D.count + 1) (D.told + m) ⟨by omega, by omega, by omega, by omega⟩)
  have d5 := HD3.out.c5
  have d6 := HD3.out.c6
  have z5 := HD3.out.z 5
  have z6 := HD3.out.z 6
  have x0 : w3.cell? ⟨w2.heap.size, 0, none⟩ = some (.slice (some ⟨bb, 0, none⟩) n n) := hbox.out.cell 0
  have y0 : ((w3.setCell ⟨D.g, 5, none⟩ (.int .i64 (D.count + 1))).setCell ⟨D.g, 6, none⟩ (.int .i64 (D.told + m))).cell? ⟨w2.heap.size, 0, none⟩ = some (.slice (some ⟨bb, 0, none⟩) n n) := (hbox.out.touch HC.out.2 (by have := HD.out.lt D.g (own_g D); have := hgs.out; simp; omega)).cell 0
  have HRD : Hid (Rd .u8 ((w3.setCell ⟨D.g, 5, none⟩ (.int .i64 (D.count + 1))).setCell ⟨D.g, 6, none⟩ (.int .i64 (D.told + m))) (some ⟨bb, 0, none⟩) n L) := ((HBY.out.below HB3.out HBY.out.lt).touch HC.out.2 (by simpa using HPN.out)).rd n HNN.out
  have k1 : min (D.count + 1) 1152921504606846976 = D.count + 1 := by omega
  clear hb3
  go_wp2_with fail
  refine (Cut_ok (some ⟨bb, 0, none⟩) n n L off m _ HRD.out (by omega) (Nat.le_refl _) (by omega) hn).mono ?_
  rintro e w4 ⟨g, rfl, hg, hB4, hb4⟩
  have H4 : Hid (w.heap.size ≤ g) := by
    have h1 := HB3.out.size
    have h2 : w3.heap.size ≤ g := by simpa [World.setCell] using hg
    exact Nat.le_trans h1 h2
  have HB4 := Lib.hid hB4
  have HD4 : Hid (Drv w4 { D with count := D.count + 1, told := D.told + m }) := HC.out.1.below hb4
  have HT4 : Hid (Touch [D.g] w w4) := ((Touch.of_below [D.g] HB3.out).trans HC.out.2).then_below hb4
  clear hg hB4 hb4 d5 d6 z5 z6 x0 y0 k1
  go_wp2
  go_ret2
  exact ⟨g, rfl, H4.out, HB4.out, HD4.out, HT4.out⟩

/-! ### Write -/
theorem Write_down (D : Dv) (w : World) (h : Drv w D) (hd : D.down = true) (s : ByteArray) (off : Int) (A : Option Addr) (m c : Nat) : Calls Try.prog 17 #[.pointer (some ⟨D.g, 0, none⟩), .string s, .int .i64 off, .slice A m c] w (Fails w (.int .i64 42)) := by
  have c2 := h.c2
  rw [hd] at c2
  clear h hd
  go_enter Try.func17, Try.ntmps17
  go_wp2
  go_ret
  exact ⟨rfl, Below.refl _ _⟩
theorem Write_part (D : Dv) (w : World) (h : Drv w D) (hd : D.down = false) (s : ByteArray) (hs : ∀ p ∈ D.pts, p.nm ≠ s) (off : Int) (A : Option Addr) (m c : Nat) : Calls Try.prog 17 #[.pointer (some ⟨D.g, 0, none⟩), .string s, .int .i64 off, .slice A m c] w (Fails w (.int .i64 40)) := by
  have c2 := h.c2
  rw [hd] at c2
  have HR := Lib.hid (reach_no D w h s hs off m)
  clear h hd hs
  go_enter Try.func17, Try.ntmps17
  go_wp2_with fail
  refine HR.out.mono ?_
  rintro e w2 ⟨rfl, hb⟩
  have HB := Lib.hid hb
  clear hb
  go_wp2
  go_ret
  exact ⟨rfl, HB.out.alloc HB.out.size _⟩
theorem Write_end (D : Dv) (w : World) (h : Drv w D) (hd : D.down = false) (p : Pt) (hp : p ∈ D.pts) (s : ByteArray) (hs : p.nm = s) (off : Int) (A : Option Addr) (m c : Nat) (hn : ¬ Lies off m p.l.length) (h1 : off ≤ 9223372036854775807) (h2 : m ≤ 9223372036854775807) : Calls Try.prog 17 #[.pointer (some ⟨D.g, 0, none⟩), .string s, .int .i64 off, .slice A m c] w (Fails w (.int .i64 10)) := by
  have c2 := h.c2
  rw [hd] at c2
  have HR := Lib.hid (reach_end D w h p hp s hs off m hn h1 (by omega))
  clear h hd hs hn hp
  go_enter Try.func17, Try.ntmps17
  go_wp2_with fail
  refine HR.out.mono ?_
  rintro e w2 ⟨rfl, hb⟩
  have HB := Lib.hid hb
  clear hb
  go_wp2
  go_ret
  exact ⟨rfl, HB.out.alloc HB.out.size _⟩
/-- What a write has turned. -/
def Writes (w : World) (D D' : Dv) (er : Int) (e : Ending) (w' : World) : Prop := e = .returned (.int .i64 er) ∧ Drv w' D' ∧ Touch D.own w w'
theorem Drv.lefts {w : World} {D : Dv} (h : Drv w D) (lf : Int) (dn : Bool) (hl : -1 ≤ lf ∧ lf ≤ 9223372036854775807) : ∀ {w'}, Touch [D.g] w w' → Blk w' D.g 71 ({ D with left := lf, down := dn } : Dv).cells → Drv w' { D with left := lf, down := dn } := fun t hb =>
  h.upd dn lf D.ka D.kc D.keep D.count D.told t hb (h.kept.touch t (fun ad e he => h.keptOwn ad e (by rw [List.mem_singleton.1 he]; exact own_g D))) h.keptOwn (fun ad e => Nat.lt_of_lt_of_le (h.keptLt ad e) t.size) h.short ⟨hl.1, hl.2, h.nums.2.2⟩
set_option maxHeartbeats 2000000 in
theorem Write_torn (D : Dv) (w : World) (h : Drv w D) (hd : D.down = false) (hl0 : D.left = 0) (i : Nat) (p : Pt) (hi : D.pts[i]? = some p) (s : ByteArray) (hs : p.nm = s) (off : Nat) (A : Option Addr) (m c : Nat) (bs : List Nat) (hb : Rd .u8 w A m bs) (hf : Fit 256 bs) (hmc : m ≤ c) (hcx : c ≤ 9223372036854775807) (hA : 0 < m → ∀ ad, A = some ad → ad.block ∉ D.own) (hn : off + m ≤ p.l.length) :
    Calls Try.prog 17 #[.pointer (some ⟨D.g, 0, none⟩), .string s, .int .i64 (off : Int), .slice A m c] w (Writes w D { D.put i { p with l := torn p.l bs off m D.keep } with down := true } 42) := by
  have hp : p ∈ D.pts := List.mem_of_getElem? hi
  have c2 := h.c2
  rw [hd] at c2
  have HR := Lib.hid (reach_ok D w h p hp s hs off m hn)
  have hsz := (h.size p hp).2.1
  have HBY := Lib.hid (h.bytes p hp)
  have HD := Lib.hid h
  have HRB := Lib.hid hb
  have HA := Lib.hid hA
  have HI := Lib.hid hi
  have HL0 := Lib.hid hl0
  have HBB := Lib.hid (own_bb hp)
  unfold Pt.val at HR
  obtain ⟨n, hnn⟩ : ∃ n, p.l.length = n := ⟨_, rfl⟩
  have HNN := Lib.hid hnn
  rw [hnn] at HR hn hsz
  obtain ⟨bb, hbb⟩ : ∃ bb, p.bb = bb := ⟨_, rfl⟩
  have HBE := Lib.hid hbb
  rw [hbb] at HR HBY HBB
  have c3 : ∀ (w' : World), Drv w' D → w'.cell? ⟨D.g, 3, none⟩ = some (.int .i64 0) := fun _ hd => by rw [← hl0]; exact hd.c3
  have C3 := Lib.hid c3
  clear c3 h hd hs hp hnn hb hA hi hl0 hbb
  go_enter Try.func17, Try.ntmps17
  go_wp2_with fail
  refine HR.out.mono ?_
  rintro e w2 ⟨rfl, hb⟩
  have HB := Lib.hid hb
  have HB2 : Hid (∀ o, Below w.heap.size w (w2.alloc o)) := fun o => HB.out.alloc HB.out.size o
  have HD2 : Hid (∀ o, Drv (w2.alloc o) D) := fun o => HD.out.below (HB2.out o)
  have e3 : ∀ o, (w2.alloc o).cell? ⟨D.g, 3, none⟩ = some (.int .i64 0) := fun o => C3.out _ (HD2.out o)
  have e4 : ∀ o, (w2.alloc o).cell? ⟨D.g, 4, none⟩ = some (.slice D.ka D.keep.length D.kc) := fun o => (HD2.out o).c4
  have HX : Hid (Blk (w2.alloc (.cells #[.slice (some ⟨bb, 0, none⟩) n n, .map (some p.mm)] 74)) w2.heap.size 74 [.slice (some ⟨bb, 0, none⟩) n n, .map (some p.mm)]) := Blk.new w2 _ _
  clear hb c2
  go_wp2_with fail
  have HB2 := Lib.hid (HB2.out (.cells #[.slice (some ⟨bb, 0, none⟩) n n, .map (some p.mm)] 74))
  have HD2 := Lib.hid (HD2.out (.cells #[.slice (some ⟨bb, 0, none⟩) n n, .map (some p.mm)] 74))
  have e4 := e4 (.cells #[.slice (some ⟨bb, 0, none⟩) n n, .map (some p.mm)] 74)
  have x0 := HX.out.cell 0
  have x1 := HX.out.cell 1
  generalize w2.alloc (.cells #[.slice (some ⟨bb, 0, none⟩) n n, .map (some p.mm)] 74) = W2 at *
  simp only [List.getElem?_cons_zero, List.getElem?_cons_succ] at x0 x1
  go_still_tail 7, (by kernel_rfl)
  change wpList _ _ _ _ _ W2.drew
  clear x0 x1 e4
  have HB3 : Hid (Below w.heap.size w W2.drew) := HB2.out.drew
  have HD3 : Hid (Drv W2.drew D) := HD2.out.drewN 1
  have HBY3 : Hid (Blk W2.drew bb 5 (cn .u8 p.l)) := HBY.out.below HB3.out HBY.out.lt
  have HRB3 : Hid (Rd .u8 W2.drew A m bs) := HRB.out.below HB3.out
  have HA3 : Hid (0 < m → ∀ ad, A = some ad → ad.block ≠ bb) := fun hp ad e he => HA.out hp ad e (by rw [he]; exact HBB.out)
  have HKA3 : Hid (∀ ad, D.ka = some ad → ad.block ≠ bb) := fun ad e he => HD3.out.keptOwn ad e (by rw [he]; exact HBB.out)
  generalize W2.drew = W3 at *
  go_wp2_with fail
  refine (tear_any bb p.mm n p.l W3 HBY3.out HNN.out hsz off A m c bs HRB3.out hmc hcx HA3.out hn D.ka D.kc D.keep HD3.out.kept HKA3.out HD3.out.short).mono ?_
  rintro e w4 ⟨rfl, hB4, ht4⟩
  have HP4 : Hid (Drv w4 (D.put i { p with l := torn p.l bs off m D.keep })) := by
    have hpm : p ∈ D.pts := List.mem_of_getElem? HI.out
    have hmm : p.mm ∉ [bb] := fun hm => nodup_one (List.nodup_cons.1 (List.nodup_cons.1 HD3.out.apart).2).2 hpm (by rw [HBE.out]; exact (List.mem_singleton.1 hm).symm)
    exact HD3.out.setPt HI.out (torn p.l bs off m D.keep) p.bad (torn_length _ _ _ _ _) (torn_fit (HD3.out.fit p hpm) hf) (ht4.wider (fun x hx => by rw [List.mem_singleton.1 hx, ← HBE.out]; simp)) (by rw [HBE.out]; exact hB4) ((HD3.out.bads p hpm).touch ht4 hmm)
  have HT4 : Hid (Touch D.own w w4) := (Touch.of_below D.own HB3.out).trans (ht4.wider (fun x hx => by rw [List.mem_singleton.1 hx]; exact HBB.out))
  have d2 := HP4.out.c2
  have z2 := HP4.out.z 2
  simp only [Dv.put] at d2 z2
  have HF : Hid (Writes w D { D.put i { p with l := torn p.l bs off m D.keep } with down := true } 42 (.returned (.int .i64 42)) (w4.setCell ⟨D.g, 2, none⟩ (.bool true))) := by
    have t : Touch [D.g] w4 (w4.setCell ⟨D.g, 2, none⟩ (.bool true)) := (Touch.refl _ w4).setCell (p := ⟨D.g, 2, none⟩) (.inl (by simp)) _
    exact ⟨rfl, HP4.out.lefts D.left true ⟨HD.out.nums.1, HD.out.nums.2.1⟩ t (HP4.out.blk.set_ 2 _), HT4.out.trans (t.wider (fun x hx => by rw [List.mem_singleton.1 hx]; exact own_g D))⟩
  clear hB4 ht4
  go_wp2
  go_ret
  exact HF.out
set_option maxHeartbeats 2000000 in
theorem Write_ok (D : Dv) (w : World) (h : Drv w D) (hd : D.down = false) (lf : Int) (hlf : D.left < 0 ∧ lf = D.left ∨ 0 < D.left ∧ lf = D.left - 1) (i : Nat) (p : Pt) (hi : D.pts[i]? = some p) (s : ByteArray) (hs : p.nm = s) (off : Nat) (A : Option Addr) (m c : Nat) (bs : List Nat) (hb : Rd .u8 w A m bs) (hf : Fit 256 bs) (hmc : m ≤ c) (hcx : c ≤ 9223372036854775807) (hA : 0 < m → ∀ ad, A = some ad → ad.block ∉ D.own) (hn : off + m ≤ p.l.length) :
    Calls Try.prog 17 #[.pointer (some ⟨D.g, 0, none⟩), .string s, .int .i64 (off : Int), .slice A m c] w (Writes w D { D.put i { p with l := splice p.l off bs } with left := lf } 0) := by
  have hp : p ∈ D.pts := List.mem_of_getElem? hi
  have c2 := h.c2
  rw [hd] at c2
  have HR := Lib.hid (reach_ok D w h p hp s hs off m hn)
  have hsz := (h.size p hp).2.1
  have HD := Lib.hid h
  have HRB := Lib.hid hb
  have HA := Lib.hid hA
  have HI := Lib.hid hi
  have HBB := Lib.hid (own_bb hp)
  have hl1 := h.nums.1
  have hl2 := h.nums.2.1
  unfold Pt.val at HR
  obtain ⟨n, hnn⟩ : ∃ n, p.l.length = n := ⟨_, rfl⟩
  have HNN := Lib.hid hnn
  rw [hnn] at HR hn hsz
  obtain ⟨bb, hbb⟩ : ∃ bb, p.bb = bb := ⟨_, rfl⟩
  have HBE := Lib.hid hbb
  rw [hbb] at HR HBB
  have hsl := run_from8 (some ⟨bb, 0, none⟩) n n off (by omega) (Nat.le_refl _) off rfl
  have HXd : Hid (off < n → (if n = off then some (⟨bb, 0, none⟩ : Addr) else (some (⟨bb, 0, none⟩ : Addr)).map (·.add off)) = some ⟨bb, off, none⟩) := fun hlt => by rw [if_neg (by omega)]; simp [addr_add]
  generalize (if n = off then some (⟨bb, 0, none⟩ : Addr) else (some (⟨bb, 0, none⟩ : Addr)).map (·.add off)) = X at hsl HXd
  obtain ⟨n1, hn1⟩ : ∃ n1, n - off = n1 := ⟨_, rfl⟩
  rw [hn1] at hsl
  have HN1 : Hid (n - off = n1 ∧ off + m ≤ n) := ⟨hn1, hn⟩
  clear h hd hs hp hnn hb hA hi hbb hn1 hn
  -- behind the counter: the copy
  have key : Hid (∀ (W : World), Drv W { D with left := lf } → Touch D.own w W → Rd .u8 W A m bs → ∀ w3, Blk w3 bb 5 (splice (cn .u8 p.l) off (cn .u8 bs)) → Touch [bb] W w3 → Writes w D { D.put i { p with l := splice p.l off bs } with left := lf } 0 (.returned (.int .i64 0)) w3) := by
    intro W hW hT hR w3 hB3 ht3
    have hpm : p ∈ D.pts := List.mem_of_getElem? HI.out
    have hmm : p.mm ∉ [bb] := fun hm => nodup_one (List.nodup_cons.1 (List.nodup_cons.1 hW.apart).2).2 hpm (by rw [HBE.out]; exact (List.mem_singleton.1 hm).symm)
    rw [cn_splice] at hB3
    have hlen : (splice p.l off bs).length = p.l.length := length_splice _ _ _ (by rw [hR.1, HNN.out]; exact HN1.out.2)
    have hfit : Fit 256 (splice p.l off bs) := by
      unfold splice
      exact ((hW.fit p hpm).take _).append (hf.append ((hW.fit p hpm).drop _))
    exact ⟨rfl, hW.setPt (D := { D with left := lf }) HI.out (splice p.l off bs) p.bad hlen hfit (ht3.wider (fun x hx => by rw [List.mem_singleton.1 hx, ← HBE.out]; simp)) (by rw [HBE.out]; exact hB3) ((hW.bads p hpm).touch ht3 hmm), hT.trans (ht3.wider (fun x hx => by rw [List.mem_singleton.1 hx]; exact HBB.out))⟩
  rcases hlf with ⟨l1, l2⟩ | ⟨l1, l2⟩
  · subst l2
    have lne : (D.left == 0) = false := by simp; omega
    have lng : ¬ 0 < D.left := by omega
    go_enter Try.func17, Try.ntmps17
    go_wp2_with fail
    refine HR.out.mono ?_
    rintro e w2 ⟨rfl, hb⟩
    have HB2 : Hid (∀ o, Below w.heap.size w (w2.alloc o)) := fun o => hb.alloc hb.size o
    have e3 : ∀ o, (w2.alloc o).cell? ⟨D.g, 3, none⟩ = some (.int .i64 D.left) := fun o => (HD.out.below (HB2.out o)).c3
    clear hb c2
    go_wp2_with (first
      | ((with_reducible refine at_dst (some 60) ?_); refine wpList_copy_touch (o := ⟨some 60, _, _, _, _, _⟩) rfl (.tmp 58) (.tmp 59) 25 25 rfl 5 Try.underlying25 byteSz1 _ _ _ _ _ _ rfl rfl bb off (cn .u8 p.l) 5 (by rw [← HBE.out]; exact (HD.out.below (HB2.out _)).bytes p (List.mem_of_getElem? HI.out)) (cn .u8 bs) ?c1 ?c2 ?c3 (cn_one _ _) ?c5))
    case c1 => rw [cn_length, HRB.out.1]; have := HN1.out; exact (Nat.min_eq_left (by omega)).symm
    case c2 =>
      intro hp
      rw [cn_length, HRB.out.1] at hp
      have := HN1.out
      obtain ⟨ad, e, hlt, hc⟩ := (HRB.out.below (HB2.out _)).rs (by rw [cn_length, HRB.out.1]; exact hp)
      exact ⟨HXd.out (by omega), ad, e, hc⟩
    case c3 => rw [cn_length, cn_length, HRB.out.1, HNN.out]; exact HN1.out.2
    case c5 =>
      intro w3 HB3 HT3
      have HF := Lib.hid (key.out _ (HD.out.below (HB2.out _)) (Touch.of_below D.own (HB2.out _)) (HRB.out.below (HB2.out _)) w3 HB3.out HT3)
      clear HB3 HT3 hsl
      go_wp2
      go_ret
      exact HF.out
  · have lne : (D.left == 0) = false := by simp; omega
    have lng : 0 < D.left := by omega
    have lz : D.left - 1 = lf := l2.symm
    clear l1 l2
    go_enter Try.func17, Try.ntmps17
    go_wp2_with fail
    refine HR.out.mono ?_
    rintro e w2 ⟨rfl, hb⟩
    have HB2 : Hid (∀ o, Below w.heap.size w (w2.alloc o)) := fun o => hb.alloc hb.size o
    have e3 : ∀ o, (w2.alloc o).cell? ⟨D.g, 3, none⟩ = some (.int .i64 D.left) := fun o => (HD.out.below (HB2.out o)).c3
    have z3 : ∀ o, (w2.alloc o).frozen? ⟨D.g, 3, none⟩ = false := fun o => (HD.out.below (HB2.out o)).z 3
    have HX : Hid (Blk (w2.alloc (.cells #[.slice (some ⟨bb, 0, none⟩) n n, .map (some p.mm)] 74)) w2.heap.size 74 [.slice (some ⟨bb, 0, none⟩) n n, .map (some p.mm)]) := Blk.new w2 _ _
    have hgs : Hid (w.heap.size ≤ w2.heap.size) := hb.size
    have HTS : Hid (∀ o, Touch [D.g] (w2.alloc o) ((w2.alloc o).setCell ⟨D.g, 3, none⟩ (.int .i64 lf))) := fun o => (Touch.refl _ _).setCell (p := ⟨D.g, 3, none⟩) (.inl (by simp)) _
    have y0 : ((w2.alloc (.cells #[.slice (some ⟨bb, 0, none⟩) n n, .map (some p.mm)] 74)).setCell ⟨D.g, 3, none⟩ (.int .i64 lf)).cell? ⟨w2.heap.size, 0, none⟩ = some (.slice (some ⟨bb, 0, none⟩) n n) := (HX.out.touch (HTS.out _) (by have := HD.out.lt D.g (own_g D); have := hgs.out; simp; omega)).cell 0
    have HDL : Hid (∀ o, Drv ((w2.alloc o).setCell ⟨D.g, 3, none⟩ (.int .i64 lf)) { D with left := lf } ∧ Touch D.own w ((w2.alloc o).setCell ⟨D.g, 3, none⟩ (.int .i64 lf)) ∧ Rd .u8 ((w2.alloc o).setCell ⟨D.g, 3, none⟩ (.int .i64 lf)) A m bs) := fun o =>
      ⟨(HD.out.below (HB2.out o)).lefts lf D.down (by omega) (HTS.out o) ((HD.out.below (HB2.out o)).blk.set_ 3 _), (Touch.of_below D.own (HB2.out o)).trans ((HTS.out o).wider (fun x hx => by rw [List.mem_singleton.1 hx]; exact own_g D)), (HRB.out.below (HB2.out o)).touch0 (HTS.out o) (fun hp ad e he => HA.out hp ad e (by rw [List.mem_singleton.1 he]; exact own_g D))⟩
    clear hb c2
    go_wp2_with (first
      | ((with_reducible refine at_dst (some 60) ?_); refine wpList_copy_touch (o := ⟨some 60, _, _, _, _, _⟩) rfl (.tmp 58) (.tmp 59) 25 25 rfl 5 Try.underlying25 byteSz1 _ _ _ _ _ _ rfl rfl bb off (cn .u8 p.l) 5 (by rw [← HBE.out]; exact (HDL.out _).1.bytes p (List.mem_of_getElem? HI.out)) (cn .u8 bs) ?c1 ?c2 ?c3 (cn_one _ _) ?c5))
    case c1 => rw [cn_length, HRB.out.1]; have := HN1.out; exact (Nat.min_eq_left (by omega)).symm
    case c2 =>
      intro hp
      rw [cn_length, HRB.out.1] at hp
      have := HN1.out
      obtain ⟨ad, e, hlt, hc⟩ := (HDL.out _).2.2.rs (by rw [cn_length, HRB.out.1]; exact hp)
      exact ⟨HXd.out (by omega), ad, e, hc⟩
    case c3 => rw [cn_length, cn_length, HRB.out.1, HNN.out]; exact HN1.out.2
    case c5 =>
      intro w3 HB3 HT3
      have HF := Lib.hid (key.out _ (HDL.out _).1 (HDL.out _).2.1 (HDL.out _).2.2 w3 HB3.out HT3)
      clear HB3 HT3 hsl
      go_wp2
      go_ret
      exact HF.out
end Go.Proofs.Ythepbadecpnepaa
