/-
  A drive of one partition, as its calls turn it. No condition but that lengths are lengths.
-/
import Derived.Test.YthepbadecpnepaaD11
namespace Go.Proofs.Ythepbadecpnepaa
open Go.RowKit Go.MapKept
set_option linter.unusedVariables false
set_option linter.unusedSimpArgs false
set_option maxRecDepth 100000

/-- One partition of a new drive. -/
theorem Fresh.one {B : Nat} {s : ByteArray} {z : Int} {D : Dv} (h : Fresh B [(s, z)] D) : ∃ p, D.pts = [p] ∧ p.nm = s ∧ p.l = List.replicate z.toNat 0 ∧ p.bad = fun _ => false := by
  have hs := h.same
  match hd : D.pts, hs with
  | [], hs => simp at hs
  | [p], hs =>
    simp at hs
    exact ⟨p, rfl, hs.1, hs.2.1, hs.2.2⟩
  | p :: q :: r, hs => simp at hs
theorem nameOk_lit {l : List UInt8} (h1 : 1 ≤ l.length) (h2 : l.length ≤ 24) (h3 : l.all (fun c => letter (c.toNat : Int)) = true) : NameOk ⟨l.toArray⟩ := by
  refine ⟨by simpa [ByteArray.size] using h1, by simpa [ByteArray.size] using h2, fun i hi => ?_⟩
  have hil : i < l.length := by simpa [ByteArray.size] using hi
  have := List.all_eq_true.1 h3 l[i] (List.getElem_mem hil)
  exact this
theorem fault_one {l : List UInt8} {z : Int} (h1 : 1 ≤ l.length) (h2 : l.length ≤ 24) (h3 : l.all (fun c => letter (c.toNat : Int)) = true) (hz : sizeOk z = true) : FaultIs [(⟨l.toArray⟩, z)] 0 := by
  have := sizeOk_bd hz
  refine .inr (.inr (.inr ⟨by simp, ⟨fun p hp => ?_, by simp⟩, by simp [total]; omega, rfl⟩))
  rw [List.mem_singleton.1 hp]
  exact ⟨nameOk_lit h1 h2 h3, hz⟩
/-- One partition of a name, as a list of its own. -/
theorem one_src2 (w : World) (s : ByteArray) (z : Int) : Ss (w.alloc (.cells #[.string s, .int .i64 z] 50)) (some ⟨w.heap.size, 0, none⟩) 1 1 2 (pcells [(s, z)]) :=
  ⟨(Blk.new w 50 [.string s, .int .i64 z]).rs, rfl, Nat.le_refl _, by omega, fun e => by cases e⟩
theorem set_rep (n k : Nat) (x y : Nat) (h : k < n) : (List.replicate k y ++ List.replicate (n - k) x).set k y = List.replicate (k + 1) y ++ List.replicate (n - (k + 1)) x := by
  have e : n - k = (n - (k + 1)) + 1 := by omega
  rw [e, List.replicate_succ, List.set_append_right _ _ (by simp)]
  simp [List.replicate_succ']
theorem no_bad (off m : Nat) : ¬ Spoilt (fun _ => false) off m := fun ⟨_, _, _, h⟩ => by cases h

/-- A drive of one partition: its block, its blocks, a bound of all, the name, the bytes, the bad sectors, and what else it has. -/
def OneD (w : World) (g : Nat) (O : List Nat) (N : Nat) (s : ByteArray) (l : List Nat) (S : Int → Bool) (dn : Bool) (lf : Int) (kp : List Bool) (ct td : Int) : Prop :=
  ∃ D p, Drv w D ∧ D.g = g ∧ D.own = O ∧ D.pts = [p] ∧ p.nm = s ∧ p.l = l ∧ p.bad = S ∧ D.down = dn ∧ D.left = lf ∧ D.keep = kp ∧ D.count = ct ∧ D.told = td ∧ ∀ b, N ≤ b → D.far b
section
variable {w w' : World} {g N : Nat} {O : List Nat} {s : ByteArray} {l : List Nat} {S : Int → Bool} {dn : Bool} {lf : Int} {kp : List Bool} {ct td : Int}
theorem OneD.below (h : OneD w g O N s l S dn lf kp ct td) (hb : Below w.heap.size w w') : OneD w' g O N s l S dn lf kp ct td := by
  obtain ⟨D, p, h1, h2⟩ := h
  exact ⟨D, p, h1.below hb, h2⟩
theorem OneD.touch (h : OneD w g O N s l S dn lf kp ct td) {F : List Nat} (t : Touch F w w') (hF : ∀ b ∈ F, N ≤ b) : OneD w' g O N s l S dn lf kp ct td := by
  obtain ⟨D, p, h1, h2⟩ := h
  have hf := h2.2.2.2.2.2.2.2.2.2.2.2
  exact ⟨D, p, h1.touchFar t (fun b hb => hf b (hF b hb)), h2⟩
theorem OneD.of_new {B : Nat} {z : Int} {D : Dv} (h : Drv w D) (hf : Fresh B [(s, z)] D) : OneD w D.g D.own w.heap.size s (List.replicate z.toNat 0) (fun _ => false) false (-1) [] 0 0 := by
  obtain ⟨p, h1, h2, h3, h4⟩ := hf.one
  exact ⟨D, p, h, rfl, rfl, h1, h2, h3, h4, hf.down, hf.left, hf.keep, hf.count, hf.told, fun b hb => h.far_new hb⟩
theorem OneD.lt (h : OneD w g O N s l S dn lf kp ct td) : ∀ b ∈ O, b < w.heap.size := by
  obtain ⟨D, p, h1, h2, rfl, h3⟩ := h
  exact h1.lt
theorem OneD.fit (h : OneD w g O N s l S dn lf kp ct td) : Fit 256 l := by
  obtain ⟨D, p, h1, h2, h3, h4, h5, rfl, h7⟩ := h
  exact h1.fit p (by rw [h4]; simp)
theorem far_same {D D' : Dv} {N : Nat} (h : ∀ b, N ≤ b → D.far b) (h1 : D'.own = D.own) (h2 : D'.pa = D.pa) (h3 : D'.ka = D.ka) : ∀ b, N ≤ b → D'.far b := fun b hb => by
  have := h b hb
  unfold Dv.far at this ⊢
  rw [h1, h2, h3]; exact this
/-- An answer of Read. -/
def ReadsAt (w : World) (g : Nat) (m : Nat) (l : List Nat) (K : World → Prop) (e : Ending) (w' : World) : Prop := ∃ h, e = .returned (.tuple #[.slice (some ⟨h, 0, none⟩) m m, .int .i64 0]) ∧ w.heap.size ≤ h ∧ Blk w' h 5 (cn .u8 l) ∧ K w' ∧ Touch [g] w w'
theorem OneD.read_ok (h : OneD w g O N s l S false lf kp ct td) (off m : Nat) (hn : off + m ≤ l.length) (hb : ¬ Spoilt S off m) (hc : ct + 1 ≤ 1152921504606846976) (ht : td + m ≤ 1152921504606846976) :
    Calls Try.prog 18 #[.pointer (some ⟨g, 0, none⟩), .string s, .int .i64 (off : Int), .int .i64 (m : Int)] w (ReadsAt w g m ((l.drop off).take m) fun w' => OneD w' g O N s l S false lf kp (ct + 1) (td + m)) := by
  obtain ⟨D, p, h1, rfl, rfl, h4, rfl, rfl, rfl, h5, rfl, rfl, rfl, rfl, h6⟩ := h
  refine (Read_ok D w h1 h5 p (by rw [h4]; simp) _ rfl off m hn hb hc ht).mono ?_
  rintro e w' ⟨k, rfl, hk, hB, hD, hT⟩
  exact ⟨k, rfl, hk, hB, ⟨_, p, hD, rfl, rfl, h4, rfl, rfl, rfl, h5, rfl, rfl, rfl, rfl, far_same h6 rfl rfl rfl⟩, hT⟩
theorem OneD.read_bad (h : OneD w g O N s l S false lf kp ct td) (off m : Nat) (hn : off + m ≤ l.length) (hb : Spoilt S off m) :
    Calls Try.prog 18 #[.pointer (some ⟨g, 0, none⟩), .string s, .int .i64 (off : Int), .int .i64 (m : Int)] w (Fails w (.tuple #[.slice none 0 0, .int .i64 41])) := by
  obtain ⟨D, p, h1, rfl, rfl, h4, rfl, rfl, rfl, h5, rfl, rfl, rfl, rfl, h6⟩ := h
  exact Read_bad D w h1 h5 p (by rw [h4]; simp) _ rfl off m hn hb
theorem OneD.read_end (h : OneD w g O N s l S false lf kp ct td) (off len : Int) (hn : ¬ Lies off len l.length) (h1 : off ≤ 9223372036854775807) (h2 : len ≤ 9223372036854775807) :
    Calls Try.prog 18 #[.pointer (some ⟨g, 0, none⟩), .string s, .int .i64 off, .int .i64 len] w (Fails w (.tuple #[.slice none 0 0, .int .i64 10])) := by
  obtain ⟨D, p, h1', rfl, rfl, h4, rfl, rfl, rfl, h5, rfl, rfl, rfl, rfl, h6⟩ := h
  exact Read_end D w h1' h5 p (by rw [h4]; simp) _ rfl off len hn h1 h2
/-- An answer, and what the drive is then. -/
def Goes (w : World) (O : List Nat) (v : Value) (K : World → Prop) (e : Ending) (w' : World) : Prop := e = .returned v ∧ K w' ∧ Touch O w w'
theorem OneD.write_ok (h : OneD w g O N s l S false lf kp ct td) (hlf : lf < 0) (off : Nat) (A : Option Addr) (m c : Nat) (bs : List Nat) (hb : Rd .u8 w A m bs) (hf : Fit 256 bs) (hmc : m ≤ c) (hcx : c ≤ 9223372036854775807) (hA : 0 < m → ∀ ad, A = some ad → ad.block ∉ O) (hn : off + m ≤ l.length) :
    Calls Try.prog 17 #[.pointer (some ⟨g, 0, none⟩), .string s, .int .i64 (off : Int), .slice A m c] w (Goes w O (.int .i64 0) fun w' => OneD w' g O N s (splice l off bs) S false lf kp ct td) := by
  obtain ⟨D, p, h1, rfl, rfl, h4, rfl, rfl, rfl, h5, rfl, rfl, rfl, rfl, h6⟩ := h
  have hi : D.pts[0]? = some p := by rw [h4]; rfl
  refine (Write_ok D w h1 h5 D.left (.inl ⟨hlf, rfl⟩) 0 p hi _ rfl off A m c bs hb hf hmc hcx hA hn).mono ?_
  rintro e w' ⟨rfl, hD, hT⟩
  have ho : (D.put 0 { p with l := splice p.l off bs }).own = D.own := own_put hi rfl rfl
  exact ⟨rfl, ⟨_, { p with l := splice p.l off bs }, hD, rfl, ho, by simp [Dv.put, h4], rfl, rfl, rfl, h5, rfl, rfl, rfl, rfl, far_same h6 ho rfl rfl⟩, hT⟩
theorem OneD.write_torn (h : OneD w g O N s l S false 0 kp ct td) (off : Nat) (A : Option Addr) (m c : Nat) (bs : List Nat) (hb : Rd .u8 w A m bs) (hf : Fit 256 bs) (hmc : m ≤ c) (hcx : c ≤ 9223372036854775807) (hA : 0 < m → ∀ ad, A = some ad → ad.block ∉ O) (hn : off + m ≤ l.length) :
    Calls Try.prog 17 #[.pointer (some ⟨g, 0, none⟩), .string s, .int .i64 (off : Int), .slice A m c] w (Goes w O (.int .i64 42) fun w' => OneD w' g O N s (torn l bs off m kp) S true 0 kp ct td) := by
  obtain ⟨D, p, h1, rfl, rfl, h4, rfl, rfl, rfl, h5, h7, rfl, rfl, rfl, h6⟩ := h
  have hi : D.pts[0]? = some p := by rw [h4]; rfl
  refine (Write_torn D w h1 h5 h7 0 p hi _ rfl off A m c bs hb hf hmc hcx hA hn).mono ?_
  rintro e w' ⟨rfl, hD, hT⟩
  have ho : (D.put 0 { p with l := torn p.l bs off m D.keep }).own = D.own := own_put hi rfl rfl
  exact ⟨rfl, ⟨_, { p with l := torn p.l bs off m D.keep }, hD, rfl, ho, by simp [Dv.put, h4], rfl, rfl, rfl, rfl, h7, rfl, rfl, rfl, far_same h6 ho rfl rfl⟩, hT⟩
theorem OneD.bad_ok (h : OneD w g O N s l S dn lf kp ct td) (k : Nat) (on : Bool) (hk : k < l.length / 64) :
    Calls Try.prog 19 #[.pointer (some ⟨g, 0, none⟩), .string s, .int .i64 (k : Int), .bool on] w (Goes w O (.bool true) fun w' => OneD w' g O N s l (badset S k on) dn lf kp ct td) := by
  obtain ⟨D, p, h1, rfl, rfl, h4, rfl, rfl, rfl, h5, h7, rfl, rfl, rfl, h6⟩ := h
  have hi : D.pts[0]? = some p := by rw [h4]; rfl
  refine (Bad_ok D w h1 0 p hi _ rfl k on hk).mono ?_
  rintro e w' ⟨rfl, hD, hT⟩
  have ho : (D.put 0 { p with bad := badset p.bad k on }).own = D.own := own_put hi rfl rfl
  exact ⟨rfl, ⟨_, { p with bad := badset p.bad k on }, hD, rfl, ho, by simp [Dv.put, h4], rfl, rfl, rfl, h5, h7, rfl, rfl, rfl, far_same h6 ho rfl rfl⟩, hT⟩
theorem OneD.bad_end (h : OneD w g O N s l S dn lf kp ct td) (k : Int) (on : Bool) (hk : ¬ (0 ≤ k ∧ k < ((l.length / 64 : Nat) : Int))) :
    Calls Try.prog 19 #[.pointer (some ⟨g, 0, none⟩), .string s, .int .i64 k, .bool on] w (Fails w (.bool false)) := by
  obtain ⟨D, p, h1', rfl, rfl, h4, rfl, rfl, rfl, h5, rfl, rfl, rfl, rfl, h6⟩ := h
  exact Bad_end D w h1' p (by rw [h4]; simp) _ rfl k on hk
theorem OneD.arm (h : OneD w g O N s l S dn lf kp ct td) (n : Int) (hn : 0 ≤ n) (hn2 : n ≤ 9223372036854775807) (A : Option Addr) (m c : Nat) (kq : List Bool) (hk : Ss w A m c 1 (bcells kq)) (hko : 0 < m → ∀ ad, A = some ad → ad.block ∉ O) (hm : m ≤ 16384) :
    Calls Try.prog 23 #[.pointer (some ⟨g, 0, none⟩), .int .i64 n, .slice A m c] w (Goes w O (.tuple #[]) fun w' => OneD w' g O w'.heap.size s l S dn n kq ct td) := by
  obtain ⟨D, p, h1, rfl, rfl, h4, rfl, rfl, rfl, rfl, h7, rfl, rfl, rfl, h6⟩ := h
  refine (Arm_on D w h1 n hn hn2 A m c kq hk (fun hp ad e he => hko hp ad e (by rw [he]; exact own_g D)) hm).mono ?_
  rintro e w' ⟨ka, kc, rfl, hD, hf, hT⟩
  exact ⟨rfl, ⟨_, p, hD, rfl, rfl, h4, rfl, rfl, rfl, rfl, rfl, rfl, rfl, rfl, fun b hb => hD.far_new hb⟩, hT.wider (fun x hx => by rw [List.mem_singleton.1 hx]; exact own_g D)⟩
theorem OneD.boot (h : OneD w g O N s l S dn lf kp ct td) :
    Calls Try.prog 24 #[.pointer (some ⟨g, 0, none⟩)] w (Goes w O (.tuple #[]) fun w' => OneD w' g O w'.heap.size s l S false (-1) [] ct td) := by
  obtain ⟨D, p, h1, rfl, rfl, h4, rfl, rfl, rfl, rfl, h7, rfl, rfl, rfl, h6⟩ := h
  refine (Boot_any D w h1).mono ?_
  rintro e w' ⟨rfl, hD, hT⟩
  exact ⟨rfl, ⟨_, p, hD, rfl, rfl, h4, rfl, rfl, rfl, rfl, rfl, rfl, rfl, rfl, fun b hb => hD.far_new hb⟩, hT.wider (fun x hx => by rw [List.mem_singleton.1 hx]; exact own_g D)⟩
end
end Go.Proofs.Ythepbadecpnepaa
