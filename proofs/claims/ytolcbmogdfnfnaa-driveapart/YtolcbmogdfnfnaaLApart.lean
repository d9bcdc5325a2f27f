/-
  A drive whose partition 'keep' no call on another one turns. No condition.
-/
import Derived.Test.YtolcbmogdfnfnaaD16
import Derived.Test.YtolcbmogdfnfnaaLTwice
namespace Go.Proofs.Ytolcbmogdfnfnaa
open Go.RowKit Go.MapKept
set_option linter.unusedVariables false
set_option linter.unusedSimpArgs false
set_option maxRecDepth 100000

/-- A drive whose first partition is keep, of bytes l, with no bad sector; so many reads, at most. -/
def KeptD (w : World) (g : Nat) (O : List Nat) (dn : Bool) (l : List Nat) (M : Nat) : Prop :=
  ∃ D p, Drv w D ∧ D.g = g ∧ D.own = O ∧ D.pts[0]? = some p ∧ p.nm = ⟨#[107, 101, 101, 112]⟩ ∧ p.l = l ∧ p.bad = (fun _ => false) ∧ D.down = dn ∧ D.count ≤ (M : Int) ∧ D.told ≤ 128 * (M : Int)
/-- What another call leaves. -/
def Other (w : World) (O : List Nat) (g : Nat) (l : List Nat) (M : Nat) (e : Ending) (w' : World) : Prop := (∃ v, e = .returned v) ∧ (∃ dn, KeptD w' g O dn l M) ∧ Touch O w w'
section
variable {w w' : World} {g : Nat} {O : List Nat} {dn : Bool} {l : List Nat} {M : Nat}
theorem KeptD.below (h : KeptD w g O dn l M) (hb : Below w.heap.size w w') : KeptD w' g O dn l M := by
  obtain ⟨D, p, h1, h2⟩ := h
  exact ⟨D, p, h1.below hb, h2⟩
theorem KeptD.fails {v : Value} {e : Ending} (h : KeptD w g O dn l M) (hf : Fails w v e w') : Other w O g l M e w' :=
  ⟨⟨_, hf.1⟩, ⟨dn, h.below hf.2⟩, Touch.of_below O hf.2⟩
theorem KeptD.lt (h : KeptD w g O dn l M) : ∀ b ∈ O, b < w.heap.size := by
  obtain ⟨D, p, h1, h2, rfl, h3⟩ := h
  exact h1.lt
theorem KeptD.own (h : KeptD w g O dn l M) : g ∈ O := by
  obtain ⟨D, p, h1, h2, h3, h4⟩ := h
  rw [← h2, ← h3]; exact own_g D
theorem KeptD.new (h : KeptD w g O dn l M) {b : Nat} (hb : w.heap.size ≤ b) : b ∉ O := fun hm => by
  have := h.lt b hm
  omega
theorem put_first {D : Dv} {i : Nat} {p q : Pt} (h0 : i ≠ 0) (hp : D.pts[0]? = some p) : (D.put i q).pts[0]? = some p := by
  rw [show (D.put i q).pts = D.pts.set i q from rfl, List.getElem?_set, if_neg h0, hp]
theorem other_at {D : Dv} {p q : Pt} {s : ByteArray} (hp : D.pts[0]? = some p) (hn : p.nm ≠ s) (hq : q ∈ D.pts) (hs : q.nm = s) : ∃ i, i ≠ 0 ∧ D.pts[i]? = some q := by
  obtain ⟨i, hi⟩ := List.mem_iff_getElem?.1 hq
  refine ⟨i, fun e => ?_, hi⟩
  rw [e, hp] at hi
  injection hi with hi
  rw [hi] at hn
  exact hn hs
theorem KeptD.down (h : KeptD w g O dn l M) : Calls Try.prog 14 #[.pointer (some ⟨g, 0, none⟩)] w fun e w' => e = .returned (.bool dn) ∧ w = w' := by
  obtain ⟨D, p, h1, rfl, rfl, h4, h5, rfl, h7, rfl, h8⟩ := h
  exact Down_any D w h1
theorem KeptD.read_down (h : KeptD w g O true l M) (s : ByteArray) (off len : Int) : Calls Try.prog 17 #[.pointer (some ⟨g, 0, none⟩), .string s, .int .i64 off, .int .i64 len] w (Fails w (.tuple #[.slice none 0 0, .int .i64 42])) := by
  obtain ⟨D, p, h1, rfl, rfl, h4, h5, rfl, h7, h8, h9⟩ := h
  exact Read_down D w h1 h8 s off len
theorem KeptD.read_ok (h : KeptD w g O false l M) (hl : l.length = 128) (hM : M ≤ 1000) : Calls Try.prog 17 #[.pointer (some ⟨g, 0, none⟩), .string ⟨#[107, 101, 101, 112]⟩, .int .i64 0, .int .i64 128] w (ReadsAt w g 128 l fun w' => KeptD w' g O false l (M + 1)) := by
  obtain ⟨D, p, h1, rfl, rfl, h4, h5, rfl, h7, h8, h9, h10⟩ := h
  refine (Read_ok D w h1 h8 p (List.mem_of_getElem? h4) _ h5 0 128 (by omega) (by rw [h7]; exact no_bad _ _) (by omega) (by omega)).mono ?_
  rintro e w' ⟨k, rfl, hk, hB, hD, hT⟩
  refine ⟨k, rfl, hk, ?_, ⟨_, p, hD, rfl, rfl, h4, h5, rfl, h7, h8, ?_, ?_⟩, hT⟩
  · rw [List.drop_zero, List.take_of_length_le (by omega)] at hB
    exact hB
  · show D.count + 1 ≤ _; omega
  · show D.told + (128 : Nat) ≤ _; omega
theorem KeptD.write (h : KeptD w g O dn l M) (s : ByteArray) (hs : s ≠ ⟨#[107, 101, 101, 112]⟩) (off : Int) (ho : I64 off) (A : Option Addr) (m c : Nat) (bs : List Nat) (hb : Bs w A m c bs) (hA : 0 < m → ∀ ad, A = some ad → ad.block ∉ O) :
    Calls Try.prog 19 #[.pointer (some ⟨g, 0, none⟩), .string s, .int .i64 off, .slice A m c] w (Other w O g l M) := by
  have hk := h
  obtain ⟨D, p, h1, rfl, rfl, h4, h5, rfl, h7, h8, h9, h10⟩ := h
  have hm : m ≤ 9223372036854775807 := Nat.le_trans hb.le hb.max
  cases hd : D.down with
  | true => exact (Write_down D w h1 hd s off A m c).mono fun e w' hf => hk.fails hf
  | false =>
    by_cases hp : ∃ q ∈ D.pts, q.nm = s
    · obtain ⟨q, hq, hqs⟩ := hp
      obtain ⟨i, hi0, hi⟩ := other_at h4 (by rw [h5]; exact fun e => hs e.symm) hq hqs
      by_cases hl : Lies off m q.l.length
      · obtain ⟨o, rfl⟩ : ∃ o : Nat, off = o := ⟨off.toNat, by have := hl.1; omega⟩
        have hn : o + m ≤ q.l.length := by have := hl.2.2; omega
        by_cases hlf : D.left = 0
        · refine (Write_torn D w h1 hd hlf i q hi s hqs o A m c bs hb.rd hb.fit hb.le hb.max hA hn).mono ?_
          rintro e w' ⟨rfl, hD, hT⟩
          exact ⟨⟨_, rfl⟩, ⟨_, _, p, hD, rfl, own_put hi rfl rfl, put_first hi0 h4, h5, rfl, h7, rfl, h9, h10⟩, hT⟩
        · refine (Write_ok D w h1 hd (if D.left < 0 then D.left else D.left - 1) (by split <;> omega) i q hi s hqs o A m c bs hb.rd hb.fit hb.le hb.max hA hn).mono ?_
          rintro e w' ⟨rfl, hD, hT⟩
          exact ⟨⟨_, rfl⟩, ⟨_, _, p, hD, rfl, own_put hi rfl rfl, put_first hi0 h4, h5, rfl, h7, rfl, h9, h10⟩, hT⟩
      · exact (Write_end D w h1 hd q hq s hqs off A m c hl ho.2 hm).mono fun e w' hf => hk.fails hf
    · exact (Write_part D w h1 hd s (fun q hq e => hp ⟨q, hq, e⟩) off A m c).mono fun e w' hf => hk.fails hf
theorem KeptD.turn (h : KeptD w g O dn l M) (s : ByteArray) (hs : s ≠ ⟨#[107, 101, 101, 112]⟩) (off : Int) (ho : I64 off) (A : Option Addr) (m c : Nat) (bs : List Nat) (hb : Bs w A m c bs) (hA : 0 < m → ∀ ad, A = some ad → ad.block ∉ O) :
    Calls Try.prog 21 #[.pointer (some ⟨g, 0, none⟩), .string s, .int .i64 off, .slice A m c] w (Other w O g l M) := by
  have hk := h
  obtain ⟨D, p, h1, rfl, rfl, h4, h5, rfl, h7, h8, h9, h10⟩ := h
  have hm : m ≤ 9223372036854775807 := Nat.le_trans hb.le hb.max
  by_cases hp : ∃ q ∈ D.pts, q.nm = s
  · obtain ⟨q, hq, hqs⟩ := hp
    obtain ⟨i, hi0, hi⟩ := other_at h4 (by rw [h5]; exact fun e => hs e.symm) hq hqs
    by_cases hl : Lies off m q.l.length
    · obtain ⟨o, rfl⟩ : ∃ o : Nat, off = o := ⟨off.toNat, by have := hl.1; omega⟩
      have hn : o + m ≤ q.l.length := by have := hl.2.2; omega
      refine (Turn_ok D w h1 i q hi s hqs o A m c bs hb.rd hb.fit hA hn).mono ?_
      rintro e w' ⟨rfl, hD, hT⟩
      exact ⟨⟨_, rfl⟩, ⟨_, _, p, hD, rfl, own_put hi rfl rfl, put_first hi0 h4, h5, rfl, h7, rfl, h9, h10⟩, hT⟩
    · exact (Turn_end D w h1 q hq s hqs off A m c hl ho.2 hm).mono fun e w' hf => hk.fails hf
  · exact (Turn_part D w h1 s (fun q hq e => hp ⟨q, hq, e⟩) off A m c).mono fun e w' hf => hk.fails hf
theorem KeptD.bad (h : KeptD w g O dn l M) (s : ByteArray) (hs : s ≠ ⟨#[107, 101, 101, 112]⟩) (k : Int) (on : Bool) :
    Calls Try.prog 16 #[.pointer (some ⟨g, 0, none⟩), .string s, .int .i64 k, .bool on] w (Other w O g l M) := by
  have hk := h
  obtain ⟨D, p, h1, rfl, rfl, h4, h5, rfl, h7, h8, h9, h10⟩ := h
  by_cases hp : ∃ q ∈ D.pts, q.nm = s
  · obtain ⟨q, hq, hqs⟩ := hp
    obtain ⟨i, hi0, hi⟩ := other_at h4 (by rw [h5]; exact fun e => hs e.symm) hq hqs
    by_cases hl : 0 ≤ k ∧ k < ((q.l.length / 64 : Nat) : Int)
    · obtain ⟨o, rfl⟩ : ∃ o : Nat, k = o := ⟨k.toNat, by have := hl.1; omega⟩
      refine (Bad_ok D w h1 i q hi s hqs o on (by have := hl.2; omega)).mono ?_
      rintro e w' ⟨rfl, hD, hT⟩
      exact ⟨⟨_, rfl⟩, ⟨_, _, p, hD, rfl, own_put hi rfl rfl, put_first hi0 h4, h5, rfl, h7, rfl, h9, h10⟩, hT⟩
    · exact (Bad_end D w h1 q hq s hqs k on hl).mono fun e w' hf => hk.fails hf
  · exact (Bad_part D w h1 s (fun q hq e => hp ⟨q, hq, e⟩) k on).mono fun e w' hf => hk.fails hf
theorem KeptD.arm (h : KeptD w g O dn l M) (n : Int) (hn : I64 n) (A : Option Addr) (m c : Nat) (kp : List Bool) (hk : Ss w A m c 1 (bcells kp)) (hA : 0 < m → ∀ ad, A = some ad → ad.block ∉ O) (hm : m ≤ 16384) :
    Calls Try.prog 20 #[.pointer (some ⟨g, 0, none⟩), .int .i64 n, .slice A m c] w (Other w O g l M) := by
  obtain ⟨D, p, h1, rfl, rfl, h4, h5, rfl, h7, h8, h9, h10⟩ := h
  have hw : ∀ x ∈ [D.g], x ∈ D.own := fun x hx => by rw [List.mem_singleton.1 hx]; exact own_g D
  by_cases h0 : n < 0
  · refine (Arm_off D w h1 n h0 A m c).mono ?_
    rintro e w' ⟨rfl, hD, hT⟩
    exact ⟨⟨_, rfl⟩, ⟨_, _, p, hD, rfl, rfl, h4, h5, rfl, h7, rfl, h9, h10⟩, hT.wider hw⟩
  · refine (Arm_on D w h1 n (by omega) hn.2 A m c kp hk (fun hp ad e he => hA hp ad e (by rw [he]; exact own_g D)) hm).mono ?_
    rintro e w' ⟨ka, kc, rfl, hD, hf, hT⟩
    exact ⟨⟨_, rfl⟩, ⟨_, _, p, hD, rfl, rfl, h4, h5, rfl, h7, rfl, h9, h10⟩, hT.wider hw⟩
theorem KeptD.boot (h : KeptD w g O dn l M) : Calls Try.prog 15 #[.pointer (some ⟨g, 0, none⟩)] w fun e w' => e = .returned (.tuple #[]) ∧ Other w O g l M e w' := by
  obtain ⟨D, p, h1, rfl, rfl, h4, h5, rfl, h7, h8, h9, h10⟩ := h
  refine (Boot_any D w h1).mono ?_
  rintro e w' ⟨rfl, hD, hT⟩
  exact ⟨rfl, ⟨_, rfl⟩, ⟨_, _, p, hD, rfl, rfl, h4, h5, rfl, h7, rfl, h9, h10⟩, hT.wider (fun x hx => by rw [List.mem_singleton.1 hx]; exact own_g D)⟩
end
/-- The three partitions. -/
def three : List (ByteArray × Int) := [(⟨#[107, 101, 101, 112]⟩, 128), (⟨#[97]⟩, 192), (⟨#[98]⟩, 64)]
theorem three_right : FaultIs three 0 := by
  refine .inr (.inr (.inr ⟨by simp [three], ⟨fun p hp => ?_, by simp [three]⟩, by simp [total, three], rfl⟩))
  simp only [three, List.mem_cons, List.not_mem_nil, or_false] at hp
  rcases hp with rfl | rfl | rfl
  · exact ⟨nameOk_lit (l := [107, 101, 101, 112]) (by decide) (by decide) (by decide), by decide⟩
  · exact ⟨nameOk_lit (l := [97]) (by decide) (by decide) (by decide), by decide⟩
  · exact ⟨nameOk_lit (l := [98]) (by decide) (by decide) (by decide), by decide⟩
theorem three_src (w : World) : Ss (w.alloc (.cells #[.string ⟨#[107, 101, 101, 112]⟩, .int .i64 128, .string ⟨#[97]⟩, .int .i64 192, .string ⟨#[98]⟩, .int .i64 64] 36)) (some ⟨w.heap.size, 0, none⟩) 3 3 2 (pcells three) :=
  ⟨(Blk.new w 36 [.string ⟨#[107, 101, 101, 112]⟩, .int .i64 128, .string ⟨#[97]⟩, .int .i64 192, .string ⟨#[98]⟩, .int .i64 64]).rs, rfl, Nat.le_refl _, by omega, fun e => by cases e⟩
theorem New_three (A : Option Addr) (w : World) (h : Ss w A 3 3 2 (pcells three)) :
    Calls Try.prog 9 #[.slice A 3 3] w fun e w' => ∃ D p, e = .returned (.tuple #[.pointer (some ⟨D.g, 0, none⟩), .int .i64 0]) ∧ Drv w' D ∧ D.pts[0]? = some p ∧ p.nm = ⟨#[107, 101, 101, 112]⟩ ∧ p.l = List.replicate 128 0 ∧ p.bad = (fun _ => false) ∧ D.down = false ∧ D.left = -1 ∧ D.count = 0 ∧ D.told = 0 ∧ (∀ b ∈ D.own, w.heap.size ≤ b) ∧ Below w.heap.size w w' := by
  refine (New_ok A 3 3 _ w h (fun p hp => ?_) three_right).mono ?_
  · simp only [three, List.mem_cons, List.not_mem_nil, or_false] at hp
    rcases hp with rfl | rfl | rfl <;> decide
  · rintro e w' ⟨D, rfl, hD, hF, hb⟩
    have hs := hF.same
    match hd : D.pts, hs with
    | [], hs => simp [three] at hs
    | p :: q, hs =>
      simp [three] at hs
      exact ⟨D, p, rfl, hD, by rw [hd]; rfl, hs.1.1, hs.1.2.1, hs.1.2.2, hF.down, hF.left, hF.count, hF.told, hF.above, hb⟩
end Go.Proofs.Ytolcbmogdfnfnaa
