/-
  A drive of two partitions: what is stored in the one is loaded of it, and the other stays. Also two kinds of arguments, as they are read. No condition.
-/
import Derived.Test.YthepbadecpnepaaLStores
namespace Go.Proofs.Ythepbadecpnepaa
open Go.RowKit Go.MapKept Go.ChangeShapes Go.WideShapes Go.ChangeAt
set_option linter.unusedVariables false
set_option linter.unusedSimpArgs false
set_option maxRecDepth 100000

/-- A drive of the partitions p and q: its block, its blocks, a bound of all, the bytes of both, how many loads at most. -/
def TwoD (w : World) (g : Nat) (O : List Nat) (N : Nat) (l1 l2 : List Nat) (M : Nat) : Prop :=
  ∃ D p q, Drv w D ∧ D.g = g ∧ D.own = O ∧ D.pts = [p, q] ∧ p.nm = ⟨#[112]⟩ ∧ q.nm = ⟨#[113]⟩ ∧ p.l = l1 ∧ q.l = l2 ∧ p.bad = (fun _ => false) ∧ q.bad = (fun _ => false) ∧ D.down = false ∧ D.left = -1 ∧ D.count ≤ 2 * (M : Int) ∧ D.told ≤ 70000 * (M : Int) ∧ ∀ b, N ≤ b → D.far b
/-- An answer of Load. -/
def LoadsT (w : World) (O : List Nat) (l : List Nat) (K : World → Prop) (e : Ending) (w' : World) : Prop :=
  K w' ∧ Touch O w w' ∧ ((∃ er : Int, er ≠ 0 ∧ LoadL (fun _ => false) l er ∧ e = .returned (.tuple #[.slice none 0 0, TV 0 0 0, .int .i64 er])) ∨
    (∃ g2, LoadL (fun _ => false) l 0 ∧ e = .returned (.tuple #[.slice (some ⟨g2, 0, none⟩) (tc (lastOf l)) (tc (lastOf l)), TV (ta (lastOf l) : Nat) (tb (lastOf l) : Nat) (tc (lastOf l) : Nat), .int .i64 0]) ∧ w.heap.size ≤ g2 ∧ Blk w' g2 5 (cn .u8 (blobOf l))))
section
variable {w w' : World} {g N : Nat} {O : List Nat} {l1 l2 : List Nat} {M : Nat}
theorem TwoD.below (h : TwoD w g O N l1 l2 M) (hb : Below w.heap.size w w') : TwoD w' g O N l1 l2 M := by
  obtain ⟨D, p, q, h1, h2⟩ := h
  exact ⟨D, p, q, h1.below hb, h2⟩
theorem TwoD.touch (h : TwoD w g O N l1 l2 M) {F : List Nat} (t : Touch F w w') (hF : ∀ b ∈ F, N ≤ b) : TwoD w' g O N l1 l2 M := by
  obtain ⟨D, p, q, h1, h2, h3, h4, h5, h6, h7, h8, h9, h10, h11, h12, h13, h14, hf⟩ := h
  exact ⟨D, p, q, h1.touchFar t (fun b hb => hf b (hF b hb)), h2, h3, h4, h5, h6, h7, h8, h9, h10, h11, h12, h13, h14, hf⟩
theorem TwoD.lt (h : TwoD w g O N l1 l2 M) : ∀ b ∈ O, b < w.heap.size := by
  obtain ⟨D, p, q, h1, h2, rfl, h3⟩ := h
  exact h1.lt
theorem TwoD.load_p (h : TwoD w g O N l1 l2 M) (hM : M ≤ 1000) : Calls Try.prog 20 #[.pointer (some ⟨g, 0, none⟩), .string ⟨#[112]⟩] w (LoadsT w O l1 fun w' => TwoD w' g O N l1 l2 (M + 1)) := by
  obtain ⟨D, p, q, h1, rfl, rfl, h4, h5, h6, rfl, rfl, h9, h10, h11, h12, h13, h14, hf⟩ := h
  refine (Load_any D w h1 h11 p (by rw [h4]; simp) _ h5 (by omega) (by omega)).mono ?_
  have hw : ∀ x ∈ [D.g], x ∈ D.own := fun x hx => by rw [List.mem_singleton.1 hx]; exact own_g D
  rintro e w' (⟨er, hne, hl, rfl, ct, td, hD, k7, k8, k9, k10, hT⟩ | ⟨g2, hl, rfl, hg, hB, ct, td, hD, k7, k8, k9, k10, hT⟩)
  · refine ⟨⟨_, p, q, hD, rfl, rfl, h4, h5, h6, rfl, rfl, h9, h10, h11, h12, ?_, ?_, far_same hf rfl rfl rfl⟩, hT.wider hw, .inl ⟨er, hne, ?_, rfl⟩⟩
    · show ct ≤ _; omega
    · show td ≤ _; omega
    · have : LoadIs ⟨p.nm, p.bb, p.mm, p.l, p.bad⟩ er := hl
      rw [h9] at this
      exact this
  · refine ⟨⟨_, p, q, hD, rfl, rfl, h4, h5, h6, rfl, rfl, h9, h10, h11, h12, ?_, ?_, far_same hf rfl rfl rfl⟩, hT.wider hw, .inr ⟨g2, ?_, rfl, hg, hB⟩⟩
    · show ct ≤ _; omega
    · show td ≤ _; omega
    · have : LoadIs ⟨p.nm, p.bb, p.mm, p.l, p.bad⟩ 0 := hl
      rw [h9] at this
      exact this
theorem TwoD.load_q (h : TwoD w g O N l1 l2 M) (hM : M ≤ 1000) : Calls Try.prog 20 #[.pointer (some ⟨g, 0, none⟩), .string ⟨#[113]⟩] w (LoadsT w O l2 fun w' => TwoD w' g O N l1 l2 (M + 1)) := by
  obtain ⟨D, p, q, h1, rfl, rfl, h4, h5, h6, rfl, rfl, h9, h10, h11, h12, h13, h14, hf⟩ := h
  refine (Load_any D w h1 h11 q (by rw [h4]; simp) _ h6 (by omega) (by omega)).mono ?_
  have hw : ∀ x ∈ [D.g], x ∈ D.own := fun x hx => by rw [List.mem_singleton.1 hx]; exact own_g D
  rintro e w' (⟨er, hne, hl, rfl, ct, td, hD, k7, k8, k9, k10, hT⟩ | ⟨g2, hl, rfl, hg, hB, ct, td, hD, k7, k8, k9, k10, hT⟩)
  · refine ⟨⟨_, p, q, hD, rfl, rfl, h4, h5, h6, rfl, rfl, h9, h10, h11, h12, ?_, ?_, far_same hf rfl rfl rfl⟩, hT.wider hw, .inl ⟨er, hne, ?_, rfl⟩⟩
    · show ct ≤ _; omega
    · show td ≤ _; omega
    · have : LoadIs ⟨q.nm, q.bb, q.mm, q.l, q.bad⟩ er := hl
      rw [h10] at this
      exact this
  · refine ⟨⟨_, p, q, hD, rfl, rfl, h4, h5, h6, rfl, rfl, h9, h10, h11, h12, ?_, ?_, far_same hf rfl rfl rfl⟩, hT.wider hw, .inr ⟨g2, ?_, rfl, hg, hB⟩⟩
    · show ct ≤ _; omega
    · show td ≤ _; omega
    · have : LoadIs ⟨q.nm, q.bb, q.mm, q.l, q.bad⟩ 0 := hl
      rw [h10] at this
      exact this
/-- What has no room, or is no blob: it fails, and nothing turns. -/
theorem TwoD.store_no (h : TwoD w g O N l1 l2 M) (A : Option Addr) (m c : Nat) (hm : m ≤ 65536) (a : Int) (ha : a ≤ 9223372036854775807) (hn : ¬ (0 ≤ a ∧ 1 ≤ m ∧ up a.toNat + m ≤ l1.length - 64)) :
    Calls Try.prog 21 #[.pointer (some ⟨g, 0, none⟩), .string ⟨#[112]⟩, .int .i64 a, .slice A m c] w fun e w' => ∃ er : Int, er ≠ 0 ∧ e = .returned (.int .i64 er) ∧ Below w.heap.size w w' := by
  obtain ⟨D, p, q, h1, rfl, rfl, h4, h5, h6, rfl, rfl, h9, h10, h11, h12, h13, h14, hf⟩ := h
  have hi : D.pts[0]? = some p := by rw [h4]; rfl
  by_cases hc : a < 0 ∨ m < 1 ∨ 65536 < m
  · exact (Store_form D w h1 h11 0 p hi _ h5 A m c (by omega) a hc).mono fun e w' hh => ⟨12, by omega, hh.1, hh.2⟩
  · obtain ⟨x, rfl⟩ : ∃ x : Nat, a = x := ⟨a.toNat, by omega⟩
    refine (Store_full D w h1 h11 0 p hi _ h5 A m c (by omega) hm x (by omega) (fun hh => hn ⟨by omega, by omega, by rw [Int.toNat_natCast]; exact hh⟩)).mono fun e w' hh => ⟨43, by omega, hh.1, hh.2⟩
theorem TwoD.store_p (h : TwoD w g O N l1 l2 M) (A : Option Addr) (m c : Nat) (bs : List Nat) (hb : Rd .u8 w A m bs) (hf : Fit 256 bs) (hmc : m ≤ c) (hcx : c ≤ 9223372036854775807) (hA : 0 < m → ∀ ad, A = some ad → ad.block ∉ O) (h1 : 1 ≤ m) (h2 : m ≤ 65536) (a : Nat) (U : Nat) (hU : up a = U) (hroom : U + m ≤ l1.length - 64) :
    Calls Try.prog 21 #[.pointer (some ⟨g, 0, none⟩), .string ⟨#[112]⟩, .int .i64 (a : Int), .slice A m c] w (Goes w O (.int .i64 0) fun w' => TwoD w' g O N (stored l1 U bs a) l2 M) := by
  obtain ⟨D, p, q, k1, rfl, rfl, h4, h5, h6, rfl, rfl, h9, h10, h11, h12, h13, h14, hff⟩ := h
  have hi : D.pts[0]? = some p := by rw [h4]; rfl
  refine (Store_ok D w k1 h11 0 p hi _ h5 (by omega) A m c bs hb hf hmc hcx hA h1 h2 a U hU hroom).mono ?_
  rintro e w' ⟨rfl, hD, hT⟩
  have ho : (D.wr 0 p (stored p.l U bs a) D.down D.left).own = D.own := Dv.wr_own hi _ _ _
  exact ⟨rfl, ⟨_, { p with l := stored p.l U bs a }, q, hD, rfl, ho, by simp [Dv.wr, Dv.put, h4], h5, h6, rfl, rfl, h9, h10, h11, h12, h13, h14, far_same hff ho rfl rfl⟩, hT⟩
theorem TwoD.store_q (h : TwoD w g O N l1 l2 M) (A : Option Addr) (m c : Nat) (bs : List Nat) (hb : Rd .u8 w A m bs) (hf : Fit 256 bs) (hmc : m ≤ c) (hcx : c ≤ 9223372036854775807) (hA : 0 < m → ∀ ad, A = some ad → ad.block ∉ O) (h1 : 1 ≤ m) (h2 : m ≤ 65536) (a : Nat) (U : Nat) (hU : up a = U) (hroom : U + m ≤ l2.length - 64) :
    Calls Try.prog 21 #[.pointer (some ⟨g, 0, none⟩), .string ⟨#[113]⟩, .int .i64 (a : Int), .slice A m c] w (Goes w O (.int .i64 0) fun w' => TwoD w' g O N l1 (stored l2 U bs a) M) := by
  obtain ⟨D, p, q, k1, rfl, rfl, h4, h5, h6, rfl, rfl, h9, h10, h11, h12, h13, h14, hff⟩ := h
  have hi : D.pts[1]? = some q := by rw [h4]; rfl
  refine (Store_ok D w k1 h11 1 q hi _ h6 (by omega) A m c bs hb hf hmc hcx hA h1 h2 a U hU hroom).mono ?_
  rintro e w' ⟨rfl, hD, hT⟩
  have ho : (D.wr 1 q (stored q.l U bs a) D.down D.left).own = D.own := Dv.wr_own hi _ _ _
  exact ⟨rfl, ⟨_, p, { q with l := stored q.l U bs a }, hD, rfl, ho, by simp [Dv.wr, Dv.put, h4], h5, h6, rfl, rfl, h9, h10, h11, h12, h13, h14, far_same hff ho rfl rfl⟩, hT⟩
end
/-- The two partitions. -/
def two : List (ByteArray × Int) := [(⟨#[112]⟩, 1024), (⟨#[113]⟩, 256)]
theorem two_right : FaultIs two 0 := by
  refine .inr (.inr (.inr ⟨by simp [two], ⟨fun p hp => ?_, by simp [two]⟩, by simp [total, two], rfl⟩))
  simp only [two, List.mem_cons, List.not_mem_nil, or_false] at hp
  rcases hp with rfl | rfl
  · exact ⟨nameOk_lit (l := [112]) (by decide) (by decide) (by decide), by decide⟩
  · exact ⟨nameOk_lit (l := [113]) (by decide) (by decide) (by decide), by decide⟩
theorem two_src (w : World) : Ss (w.alloc (.cells #[.string ⟨#[112]⟩, .int .i64 1024, .string ⟨#[113]⟩, .int .i64 256] 50)) (some ⟨w.heap.size, 0, none⟩) 2 2 2 (pcells two) :=
  ⟨(Blk.new w 50 [.string ⟨#[112]⟩, .int .i64 1024, .string ⟨#[113]⟩, .int .i64 256]).rs, rfl, Nat.le_refl _, by omega, fun e => by cases e⟩
theorem New_two (A : Option Addr) (w : World) (h : Ss w A 2 2 2 (pcells two)) :
    Calls Try.prog 22 #[.slice A 2 2] w fun e w' => ∃ g O, e = .returned (.tuple #[.pointer (some ⟨g, 0, none⟩), .int .i64 0]) ∧ TwoD w' g O w'.heap.size (List.replicate 1024 0) (List.replicate 256 0) 0 ∧ (∀ b ∈ O, w.heap.size ≤ b) ∧ Below w.heap.size w w' := by
  refine (New_ok A 2 2 _ w h (fun p hp => ?_) two_right).mono ?_
  · simp only [two, List.mem_cons, List.not_mem_nil, or_false] at hp
    rcases hp with rfl | rfl <;> decide
  · rintro e w' ⟨D, rfl, hD, hF, hb⟩
    have hs := hF.same
    match hd : D.pts, hs with
    | [], hs => simp [two] at hs
    | [p], hs => simp [two] at hs
    | p :: q :: r :: t, hs => simp [two] at hs
    | [p, q], hs =>
      simp [two] at hs
      exact ⟨D.g, D.own, rfl, ⟨D, p, q, hD, rfl, rfl, hd, hs.1.1, hs.2.1, hs.1.2.1, hs.2.2.1, hs.1.2.2, hs.2.2.2, hF.down, hF.left, by rw [hF.count]; simp, by rw [hF.told]; simp, fun b hb => hD.far_new hb⟩, hF.above, hb⟩
/-- A new partition has no tail. -/
theorem fresh_no {er : Int} (h : LoadL (fun _ => false) (List.replicate 1024 0) er) : er ≠ 0 := by
  have hl : lastOf (List.replicate 1024 0) = List.replicate 64 0 := by unfold lastOf; simp
  have ht : terr (lastOf (List.replicate 1024 0)) ≠ 0 := by
    rw [hl]
    unfold terr
    rw [if_neg (by simp), if_pos (by decide)]
    decide
  rcases h with ⟨hne, _⟩ | ⟨hf, _⟩
  · exact hne
  · exact absurd hf.ok.2.1 ht
/-- What was stored last, and that it is what will be loaded. -/
def LastIs (w : World) (la : Option Addr) (ln lc : Nat) (l1 : List Nat) : Prop := l1.length = 1024 ∧
  ((la = none ∧ ln = 0 ∧ lc = 0 ∧ ∀ er, LoadL (fun _ => false) l1 er → er ≠ 0) ∨
   (∃ ad lb a U, la = some ad ∧ Bs w la ln lc lb ∧ lastOf l1 = tbytes a U ln ∧ TOk (a : Nat) (U : Nat) (ln : Nat) ∧ U + ln ≤ 960 ∧ blobOf l1 = lb))
/-- Texts that came in. -/
structure Tx where
  A : Option Addr
  n : Nat
  c : Nat
  l : List Nat
deriving Inhabited
structure Txs (w : World) (A : Option Addr) (n cap : Nat) (f : Nat → Tx) : Prop where
  each : ∀ i, i < n → ∃ ad, A = some ad ∧ ad.block < w.heap.size ∧ w.cell? (ad.add i) = some (.slice (f i).A (f i).n (f i).c) ∧ Bs w (f i).A (f i).n (f i).c (f i).l
  le : n ≤ cap
  max : cap ≤ 9223372036854775807
/-- Numbers that came in. -/
structure Is (w : World) (A : Option Addr) (n cap : Nat) (f : Nat → Int) : Prop where
  each : ∀ i, i < n → ∃ ad, A = some ad ∧ ad.block < w.heap.size ∧ I64 (f i) ∧ w.cell? (ad.add i) = some (.int .i64 (f i))
  le : n ≤ cap
  max : cap ≤ 9223372036854775807
theorem cellsB : Try.prog.cellsOf 25 = 1 := by kernel_rfl
section
variable {H : Type} {enc : TypeId × Value → H} {W : World} {base : Nat} {sp : Nat → Bool} {held : Bool}
theorem ints_of_trod {fuel : Nat} {cs : List Value} {x : DataW H × List MemPlace} (h : DataW.trod enc Try.prog W base sp held fuel 46 cs = some x) :
    ∃ (A : Option Addr) (n cap : Nat) (l : Nat → Int), cs = [.slice A n cap] ∧ Is W A n cap l := by
  rcases Deep.open_slice1 Try.underlying46 cells3 h with ⟨rfl, _⟩ | ⟨a, len, cap, m, k, V, D, Pl, rfl, _, hl, hm, hmm, hxx, hx⟩
  · exact ⟨none, 0, 0, fun _ => 0, rfl, ⟨fun i hi => absurd hi (Nat.not_lt_zero i), Nat.le_refl _, by simp⟩⟩
  · have each : ∀ i, i < len → ∃ b : Int, I64 b ∧ W.cell? (a.add i) = some (.int .i64 b) := by
      intro i hi
      obtain ⟨hc, ht⟩ := hx i (by rw [hmm]; split <;> omega)
      obtain ⟨z, e, _, hz⟩ := DataW.trod_int Try.underlying3 ht
      injection e with e
      rw [e] at hc
      exact ⟨z, i64_wf hz, hc⟩
    obtain ⟨b, hb⟩ := Deep.choose_lt each
    exact ⟨some a, len, cap, b, rfl, ⟨fun i hi => ⟨a, rfl, by have := World.block_lt_of_cell? W _ (hb i hi).2; rwa [block_add] at this, (hb i hi).1, (hb i hi).2⟩, hl, by unfold maxLen at hm; omega⟩⟩
theorem texts_of_trod {fuel : Nat} {cs : List Value} {x : DataW H × List MemPlace} (h : DataW.trod enc Try.prog W base sp held fuel 45 cs = some x) :
    ∃ (A : Option Addr) (n cap : Nat) (f : Nat → Tx), cs = [.slice A n cap] ∧ Txs W A n cap f := by
  rcases Deep.open_slice1 Try.underlying45 cellsB h with ⟨rfl, _⟩ | ⟨a, len, cap, m, k, V, D, Pl, rfl, _, hl, hm, hmm, hxx, hx⟩
  · exact ⟨none, 0, 0, fun _ => default, rfl, ⟨fun i hi => absurd hi (Nat.not_lt_zero i), Nat.le_refl _, by simp⟩⟩
  · have each : ∀ i, i < len → ∃ t : Tx, W.cell? (a.add i) = some (.slice t.A t.n t.c) ∧ Bs W t.A t.n t.c t.l := by
      intro i hi
      obtain ⟨hc, ht⟩ := hx i (by rw [hmm]; split <;> omega)
      obtain ⟨A, n, cap, l, e, h1⟩ := bytes_of_trod ht
      injection e with e
      exact ⟨⟨A, n, cap, l⟩, by rw [hc, e], h1⟩
    obtain ⟨b, hb⟩ := Deep.choose_lt each
    exact ⟨some a, len, cap, b, rfl, ⟨fun i hi => ⟨a, rfl, by have := World.block_lt_of_cell? W _ (hb i hi).1; rwa [block_add] at this, (hb i hi).1, (hb i hi).2⟩, hl, by unfold maxLen at hm; omega⟩⟩
end
end Go.Proofs.Ythepbadecpnepaa
