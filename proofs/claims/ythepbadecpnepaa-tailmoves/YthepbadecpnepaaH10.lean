/-
  Load and Store on a drive of one partition; what is stored is loaded. No condition but that lengths are lengths.
-/
import Derived.Test.YthepbadecpnepaaH9
import Derived.Test.YthepbadecpnepaaD13
namespace Go.Proofs.Ythepbadecpnepaa
open Go.RowKit Go.MapKept
set_option linter.unusedVariables false
set_option linter.unusedSimpArgs false
set_option maxRecDepth 100000

/-- A Load's error, by what a partition holds. -/
def LoadL (S : Int → Bool) (l : List Nat) (er : Int) : Prop := LoadIs ⟨⟨#[]⟩, 0, 0, l, S⟩ er
section
variable {w w' : World} {g N : Nat} {O : List Nat} {s : ByteArray} {l : List Nat} {S : Int → Bool} {dn : Bool} {lf : Int} {kp : List Bool} {ct td : Int}
/-- An answer of Load. -/
def Loads (w : World) (O : List Nat) (S : Int → Bool) (l : List Nat) (K : Int → Int → World → Prop) (ct td : Int) (e : Ending) (w' : World) : Prop :=
  ∃ c2 t2, K c2 t2 w' ∧ c2 ≤ ct + 2 ∧ t2 ≤ td + 70000 ∧ Touch O w w' ∧ ((∃ er : Int, er ≠ 0 ∧ LoadL S l er ∧ e = .returned (.tuple #[.slice none 0 0, TV 0 0 0, .int .i64 er])) ∨
    (∃ g2, LoadL S l 0 ∧ e = .returned (.tuple #[.slice (some ⟨g2, 0, none⟩) (tc (lastOf l)) (tc (lastOf l)), TV (ta (lastOf l) : Nat) (tb (lastOf l) : Nat) (tc (lastOf l) : Nat), .int .i64 0]) ∧ w.heap.size ≤ g2 ∧ Blk w' g2 5 (cn .u8 (blobOf l))))
theorem OneD.load (h : OneD w g O N s l S false lf kp ct td) (hc : ct + 2 ≤ 1152921504606846976) (ht : td + 70000 ≤ 1152921504606846976) :
    Calls Try.prog 20 #[.pointer (some ⟨g, 0, none⟩), .string s] w (Loads w O S l (fun c2 t2 w' => OneD w' g O N s l S false lf kp c2 t2) ct td) := by
  obtain ⟨D, p, h1, rfl, rfl, h4, rfl, rfl, rfl, h5, rfl, rfl, rfl, rfl, h6⟩ := h
  refine (Load_any D w h1 h5 p (by rw [h4]; simp) _ rfl hc ht).mono ?_
  rintro e w' (⟨er, hne, hl, rfl, ct, td, hD, h7, h8, h9, h10, hT⟩ | ⟨g2, hl, rfl, hg, hB, ct, td, hD, h7, h8, h9, h10, hT⟩)
  · exact ⟨ct, td, ⟨_, p, hD, rfl, rfl, h4, rfl, rfl, rfl, h5, rfl, rfl, rfl, rfl, far_same h6 rfl rfl rfl⟩, by omega, by omega, hT.wider (fun x hx => by rw [List.mem_singleton.1 hx]; exact own_g D), .inl ⟨er, hne, hl, rfl⟩⟩
  · exact ⟨ct, td, ⟨_, p, hD, rfl, rfl, h4, rfl, rfl, rfl, h5, rfl, rfl, rfl, rfl, far_same h6 rfl rfl rfl⟩, by omega, by omega, hT.wider (fun x hx => by rw [List.mem_singleton.1 hx]; exact own_g D), .inr ⟨g2, hl, rfl, hg, hB⟩⟩
theorem OneD.load_part (h : OneD w g O N s l S false lf kp ct td) (s2 : ByteArray) (hs : s ≠ s2) :
    Calls Try.prog 20 #[.pointer (some ⟨g, 0, none⟩), .string s2] w (Fails w (.tuple #[.slice none 0 0, TV 0 0 0, .int .i64 40])) := by
  obtain ⟨D, p, h1, rfl, rfl, h4, rfl, rfl, rfl, h5, rfl, rfl, rfl, rfl, h6⟩ := h
  exact Load_part D w h1 h5 s2 (fun q hq => by rw [h4] at hq; rw [List.mem_singleton.1 hq]; exact hs)
theorem OneD.store_form (h : OneD w g O N s l S false lf kp ct td) (A : Option Addr) (m c : Nat) (hm : m ≤ 9223372036854775807) (a : Int) (h1 : a < 0 ∨ m < 1 ∨ 65536 < m) :
    Calls Try.prog 21 #[.pointer (some ⟨g, 0, none⟩), .string s, .int .i64 a, .slice A m c] w (Fails w (.int .i64 12)) := by
  obtain ⟨D, p, h1', rfl, rfl, h4, rfl, rfl, rfl, h5, rfl, rfl, rfl, rfl, h6⟩ := h
  exact Store_form D w h1' h5 0 p (by rw [h4]; rfl) _ rfl A m c hm a h1
theorem OneD.store_full (h : OneD w g O N s l S false lf kp ct td) (A : Option Addr) (m c : Nat) (h1 : 1 ≤ m) (h2 : m ≤ 65536) (a : Nat) (ha : a ≤ 9223372036854775807) (hfull : ¬ up a + m ≤ l.length - 64) :
    Calls Try.prog 21 #[.pointer (some ⟨g, 0, none⟩), .string s, .int .i64 (a : Int), .slice A m c] w (Fails w (.int .i64 43)) := by
  obtain ⟨D, p, h1', rfl, rfl, h4, rfl, rfl, rfl, h5, rfl, rfl, rfl, rfl, h6⟩ := h
  exact Store_full D w h1' h5 0 p (by rw [h4]; rfl) _ rfl A m c h1 h2 a ha hfull
theorem OneD.store_ok (h : OneD w g O N s l S false lf kp ct td) (hl : lf < 0) (A : Option Addr) (m c : Nat) (bs : List Nat) (hb : Rd .u8 w A m bs) (hf : Fit 256 bs) (hmc : m ≤ c) (hcx : c ≤ 9223372036854775807) (hA : 0 < m → ∀ ad, A = some ad → ad.block ∉ O) (h1 : 1 ≤ m) (h2 : m ≤ 65536) (a : Nat) (U : Nat) (hU : up a = U) (hroom : U + m ≤ l.length - 64) :
    Calls Try.prog 21 #[.pointer (some ⟨g, 0, none⟩), .string s, .int .i64 (a : Int), .slice A m c] w (Goes w O (.int .i64 0) fun w' => OneD w' g O N s (stored l U bs a) S false lf kp ct td) := by
  obtain ⟨D, p, h1', rfl, rfl, h4, rfl, rfl, rfl, h5, rfl, rfl, rfl, rfl, h6⟩ := h
  have hi : D.pts[0]? = some p := by rw [h4]; rfl
  refine (Store_ok D w h1' h5 0 p hi _ rfl hl A m c bs hb hf hmc hcx hA h1 h2 a U hU hroom).mono ?_
  rintro e w' ⟨rfl, hD, hT⟩
  have ho : (D.wr 0 p (stored p.l U bs a) D.down D.left).own = D.own := Dv.wr_own hi _ _ _
  exact ⟨rfl, ⟨_, { p with l := stored p.l U bs a }, hD, rfl, ho, by simp [Dv.wr, Dv.put, h4], rfl, rfl, rfl, h5, rfl, rfl, rfl, rfl, far_same h6 ho rfl rfl⟩, hT⟩
theorem OneD.store_torn1 (h : OneD w g O N s l S false 0 kp ct td) (A : Option Addr) (m c : Nat) (bs : List Nat) (hb : Rd .u8 w A m bs) (hf : Fit 256 bs) (hmc : m ≤ c) (hcx : c ≤ 9223372036854775807) (hA : 0 < m → ∀ ad, A = some ad → ad.block ∉ O) (h1 : 1 ≤ m) (h2 : m ≤ 65536) (a : Nat) (U : Nat) (hU : up a = U) (hroom : U + m ≤ l.length - 64) :
    Calls Try.prog 21 #[.pointer (some ⟨g, 0, none⟩), .string s, .int .i64 (a : Int), .slice A m c] w (Goes w O (.int .i64 42) fun w' => OneD w' g O N s (torn l bs U m kp) S true 0 kp ct td) := by
  obtain ⟨D, p, h1', rfl, rfl, h4, rfl, rfl, rfl, h5, h7, rfl, rfl, rfl, h6⟩ := h
  have hi : D.pts[0]? = some p := by rw [h4]; rfl
  refine (Store_torn1 D w h1' h5 0 p hi _ rfl h7 A m c bs hb hf hmc hcx hA h1 h2 a U hU hroom).mono ?_
  rintro e w' ⟨rfl, hD, hT⟩
  have ho : (D.wr 0 p (torn p.l bs U m D.keep) true D.left).own = D.own := Dv.wr_own hi _ _ _
  exact ⟨rfl, ⟨_, { p with l := torn p.l bs U m D.keep }, hD, rfl, ho, by simp [Dv.wr, Dv.put, h4], rfl, rfl, rfl, rfl, h7, rfl, rfl, rfl, far_same h6 ho rfl rfl⟩, hT⟩
theorem OneD.store_torn2 (h : OneD w g O N s l S false 1 kp ct td) (A : Option Addr) (m c : Nat) (bs : List Nat) (hb : Rd .u8 w A m bs) (hf : Fit 256 bs) (hmc : m ≤ c) (hcx : c ≤ 9223372036854775807) (hA : 0 < m → ∀ ad, A = some ad → ad.block ∉ O) (h1 : 1 ≤ m) (h2 : m ≤ 65536) (a : Nat) (U : Nat) (hU : up a = U) (hroom : U + m ≤ l.length - 64) :
    Calls Try.prog 21 #[.pointer (some ⟨g, 0, none⟩), .string s, .int .i64 (a : Int), .slice A m c] w (Goes w O (.int .i64 42) fun w' => OneD w' g O N s (torn (splice l U bs) (tbytes a U m) (l.length - 64) 64 kp) S true 0 kp ct td) := by
  obtain ⟨D, p, h1', rfl, rfl, h4, rfl, rfl, rfl, h5, h7, rfl, rfl, rfl, h6⟩ := h
  have hi : D.pts[0]? = some p := by rw [h4]; rfl
  refine (Store_torn2 D w h1' h5 0 p hi _ rfl h7 A m c bs hb hf hmc hcx hA h1 h2 a U hU hroom).mono ?_
  rintro e w' ⟨rfl, hD, hT⟩
  have ho : (D.wr 0 p (torn (splice p.l U bs) (tbytes a U m) (p.l.length - 64) 64 D.keep) true 0).own = D.own := Dv.wr_own hi _ _ _
  exact ⟨rfl, ⟨_, { p with l := torn (splice p.l U bs) (tbytes a U m) (p.l.length - 64) 64 D.keep }, hD, rfl, ho, by simp [Dv.wr, Dv.put, h4], rfl, rfl, rfl, rfl, rfl, rfl, rfl, rfl, far_same h6 ho rfl rfl⟩, hT⟩
end
/-- What is stored lies there. -/
theorem stored_length {l bs : List Nat} {U a : Nat} (h64 : 64 ≤ l.length) (h : U + bs.length ≤ l.length - 64) : (stored l U bs a).length = l.length := by
  have h1 : (splice l U bs).length = l.length := length_splice _ _ _ (by omega)
  unfold stored
  rw [length_splice _ _ _ (by rw [tbytes_length, h1]; omega), h1]
theorem stored_last {l bs : List Nat} {U a : Nat} (h64 : 64 ≤ l.length) (h : U + bs.length ≤ l.length - 64) : lastOf (stored l U bs a) = tbytes a U bs.length := by
  have h1 : (splice l U bs).length = l.length := length_splice _ _ _ (by omega)
  unfold lastOf
  rw [stored_length h64 h]
  apply List.ext_getElem?
  intro j
  rw [List.getElem?_drop, stored, splice_get _ _ _ (by rw [tbytes_length, h1]; omega), tbytes_length]
  by_cases hj : j < 64
  · rw [if_pos (by omega), Nat.add_sub_cancel_left]
  · rw [if_neg (by omega), List.getElem?_eq_none (by rw [h1]; omega), List.getElem?_eq_none (by rw [tbytes_length]; omega)]
theorem stored_blob {l bs : List Nat} {U a : Nat} (h64 : 64 ≤ l.length) (h : U + bs.length ≤ l.length - 64) (ht : TOk a U bs.length) : blobOf (stored l U bs a) = bs := by
  have h1 : (splice l U bs).length = l.length := length_splice _ _ _ (by omega)
  unfold TOk at ht
  unfold blobOf
  rw [stored_last h64 h, tb_bytes (by omega), tc_bytes (by omega)]
  apply List.ext_getElem?
  intro j
  rw [List.getElem?_take]
  by_cases hj : j < bs.length
  · rw [if_pos hj, List.getElem?_drop, stored, splice_get _ _ _ (by rw [tbytes_length, h1]; omega), if_neg (by omega), splice_get _ _ _ (by omega), if_pos (by omega), Nat.add_sub_cancel_left]
  · rw [if_neg hj, List.getElem?_eq_none (by omega)]
/-- A partition whose last bytes are a tail, and no sector of which is bad. -/
theorem load_yes {l : List Nat} {a b c : Nat} (hl : lastOf l = tbytes a b c) (ht : TOk a b c) (hb : b + c ≤ l.length - 64) {er : Int} (h : LoadL (fun _ => false) l er) : er = 0 := by
  have hti := ht
  unfold TOk at ht
  have hte : terr (lastOf l) = 0 := by rw [hl]; exact terr_bytes hti
  rcases h with ⟨hne, hf⟩ | ⟨_, ⟨hs, _⟩ | ⟨_, h⟩⟩
  · rcases hf with ⟨hs, _⟩ | ⟨_, ⟨h2, _⟩ | ⟨_, ⟨h2, _⟩ | ⟨_, h3⟩⟩⟩
    · exact absurd hs (no_bad _ _)
    · exact absurd hte h2
    · refine absurd ?_ h2
      show tb (lastOf l) + tc (lastOf l) ≤ l.length - 64
      rw [hl, tb_bytes (by omega), tc_bytes (by omega)]; exact hb
    · exact h3
  · exact absurd hs (no_bad _ _)
  · exact h
theorem vals_of {l : List Nat} {a b c : Nat} (hl : lastOf l = tbytes a b c) (ht : TOk a b c) : ta (lastOf l) = a ∧ tb (lastOf l) = b ∧ tc (lastOf l) = c := by
  unfold TOk at ht
  rw [hl]
  exact ⟨ta_bytes (by omega), tb_bytes (by omega), tc_bytes (by omega)⟩
/-- made: a new drive of one partition, or none. -/
theorem made_yes (z : Int) (w : World) (hz : sizeOk z = true) : Calls Try.prog 16 #[.int .i64 z] w fun e w' => ∃ g O, e = .returned (.pointer (some ⟨g, 0, none⟩)) ∧ OneD w' g O w'.heap.size ⟨#[112]⟩ (List.replicate z.toNat 0) (fun _ => false) false (-1) [] 0 0 ∧ (∀ b ∈ O, w.heap.size ≤ b) ∧ Below w.heap.size w w' := by
  have HB0 : Hid (Below w.heap.size w (w.alloc (.cells #[.string ⟨#[112]⟩, .int .i64 z] 50))) := (Below.refl _ _).alloc (Nat.le_refl _) _
  have HS0 := Lib.hid (one_src2 w ⟨#[112]⟩ z)
  have HZ := Lib.hid hz
  clear hz
  go_enter Try.func16, Try.ntmps16
  go_wp2_with fail
  generalize w.alloc (.cells #[.string ⟨#[112]⟩, .int .i64 z] 50) = W0 at *
  refine (New_one _ [112] z W0 HS0.out (by decide) (by decide) (by decide) HZ.out).mono ?_
  rintro e w1 ⟨g, O, rfl, hD, hO, hb1⟩
  have HD := Lib.hid hD
  have HO : Hid (∀ b ∈ O, w.heap.size ≤ b) := fun b hb => Nat.le_trans HB0.out.size (hO b hb)
  have HB1 : Hid (Below w.heap.size w w1) := HB0.out.trans (hb1.mono HB0.out.size)
  clear hD hb1 hO
  go_wp2
  go_ret
  exact ⟨g, O, rfl, HD.out, HO.out, HB1.out⟩
theorem made_no (z : Int) (w : World) (hz : sizeOk z = false) : Calls Try.prog 16 #[.int .i64 z] w fun e w' => e = .returned (.pointer none) ∧ Below w.heap.size w w' := by
  have HB0 : Hid (Below w.heap.size w (w.alloc (.cells #[.string ⟨#[112]⟩, .int .i64 z] 50))) := (Below.refl _ _).alloc (Nat.le_refl _) _
  have HS0 := Lib.hid (one_src2 w ⟨#[112]⟩ z)
  have HF : Hid (FaultIs [(⟨#[112]⟩, z)] 40) := .inr (.inl ⟨by simp, (fun h => by have := (h.1 _ (List.mem_singleton.2 rfl)).2; simp only at this; rw [hz] at this; cases this), rfl⟩)
  clear hz
  go_enter Try.func16, Try.ntmps16
  go_wp2_with fail
  generalize w.alloc (.cells #[.string ⟨#[112]⟩, .int .i64 z] 50) = W0 at *
  refine (New_bad _ 1 1 _ W0 HS0.out (fun p hp => by rw [List.mem_singleton.1 hp]; simp [ByteArray.size]) 40 HF.out (by omega)).mono ?_
  rintro e w1 ⟨rfl, hb1⟩
  have HB1 : Hid (Below w.heap.size w w1) := HB0.out.trans (hb1.mono HB0.out.size)
  clear hb1
  go_wp2
  go_ret
  exact ⟨rfl, HB1.out⟩
end Go.Proofs.Ythepbadecpnepaa
