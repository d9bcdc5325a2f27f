/-
  TailLoads: what is loaded of a partition with any bytes is the document's, or the first error. No condition but what the statement says.
-/
import Derived.Test.YthepbadecpnepaaLStores
namespace Go.Proofs.Ythepbadecpnepaa
open Go.RowKit Go.MapKept
set_option linter.unusedVariables false
set_option linter.unusedSimpArgs false
set_option maxRecDepth 100000

/-- One bad sector, if it is one of the partition's. -/
def badat (N : Nat) (k : Int) : Int → Bool := fun x => decide (x = k ∧ 0 ≤ k ∧ k < ((N / 64 : Nat) : Int))
theorem OneD.bad_any {w : World} {g N : Nat} {O : List Nat} {s : ByteArray} {l : List Nat} {dn : Bool} {lf : Int} {kp : List Bool} {ct td : Int} (h : OneD w g O N s l (fun _ => false) dn lf kp ct td) (k : Int) (n : Nat) (hn : l.length = n) :
    Calls Try.prog 19 #[.pointer (some ⟨g, 0, none⟩), .string s, .int .i64 k, .bool true] w fun e w' => ∃ b, e = .returned (.bool b) ∧ OneD w' g O N s l (badat n k) dn lf kp ct td ∧ Touch O w w' := by
  subst hn
  by_cases hk : 0 ≤ k ∧ k < ((l.length / 64 : Nat) : Int)
  · obtain ⟨j, rfl⟩ : ∃ j : Nat, k = j := ⟨k.toNat, by omega⟩
    refine (h.bad_ok j true (by omega)).mono ?_
    rintro e w' ⟨he, hD, hT⟩
    have e2 : badset (fun _ => false) (j : Int) true = badat l.length (j : Int) := by
      funext x
      by_cases e : x = (j : Int)
      · simp only [badset, badat, e, if_true]; exact (decide_eq_true ⟨trivial, hk⟩).symm
      · simp [badset, badat, e]
    rw [e2] at hD
    exact ⟨_, he, hD, hT⟩
  · refine (h.bad_end k true hk).mono ?_
    rintro e w' ⟨he, hB⟩
    have e2 : (fun _ : Int => false) = badat l.length k := by
      funext x
      exact (decide_eq_false fun hh => hk hh.2).symm
    have hD := h.below hB
    rw [e2] at hD
    exact ⟨_, he, hD, Touch.of_below _ hB⟩
theorem spoilt_at (n b c : Nat) (k : Int) (hc : 1 ≤ c) : Spoilt (badat n k) b c ↔ 0 ≤ k ∧ k < ((n / 64 : Nat) : Int) ∧ ((b / 64 : Nat) : Int) ≤ k ∧ k ≤ (((b + c - 1) / 64 : Nat) : Int) := by
  constructor
  · rintro ⟨j, h1, h2, h3⟩
    have h4 := of_decide_eq_true h3
    omega
  · rintro ⟨h1, h2, h3, h4⟩
    obtain ⟨q, rfl⟩ : ∃ q : Nat, k = q := ⟨k.toNat, by omega⟩
    by_cases hb : b / 64 = q
    · exact ⟨b, by omega, by omega, decide_eq_true ⟨by rw [hb], h1, h2⟩⟩
    · exact ⟨64 * q, by omega, by omega, decide_eq_true ⟨by omega, h1, h2⟩⟩
section
variable {l : List Nat} {n r : Nat} {k er : Int}
theorem spoilt_end (hr : r + 64 = n) (h64 : n % 64 = 0) : Spoilt (badat n k) r 64 ↔ k = ((r / 64 : Nat) : Int) := by
  rw [spoilt_at n r 64 k (by omega)]
  omega
theorem want_bad (hl : l.length = n) (hr : r + 64 = n) (h64 : n % 64 = 0) (hA : k = ((r / 64 : Nat) : Int)) (h : LoadL (badat n k) l er) : er = 41 := by
  have hs : Spoilt (badat n k) (l.length - 64) 64 := by rw [hl, show n - 64 = r from by omega, spoilt_end hr h64]; exact hA
  rcases h with ⟨hne, hf⟩ | ⟨hf, _⟩
  · rcases hf with ⟨_, e⟩ | ⟨hn, _⟩
    · exact e
    · exact absurd hs hn
  · rcases hf with ⟨_, e⟩ | ⟨hn, _⟩
    · cases e
    · exact absurd hs hn
theorem want_err (hl : l.length = n) (hr : r + 64 = n) (h64 : n % 64 = 0) (hA : ¬ k = ((r / 64 : Nat) : Int)) (h0 : terr (lastOf l) ≠ 0) (h : LoadL (badat n k) l er) : er = terr (lastOf l) := by
  have hs : ¬ Spoilt (badat n k) (l.length - 64) 64 := by rw [hl, show n - 64 = r from by omega, spoilt_end hr h64]; exact hA
  rcases h with ⟨hne, hf⟩ | ⟨hf, _⟩
  · rcases hf with ⟨hn, e⟩ | ⟨_, ⟨_, e⟩ | ⟨hn, _⟩⟩
    · exact absurd hn hs
    · exact e
    · exact absurd hn h0
  · rcases hf with ⟨hn, e⟩ | ⟨_, ⟨_, e⟩ | ⟨hn, _⟩⟩
    · exact absurd hn hs
    · exact absurd e.symm h0
    · exact absurd hn h0
theorem want_range (hl : l.length = n) (hr : r + 64 = n) (h64 : n % 64 = 0) (hA : ¬ k = ((r / 64 : Nat) : Int)) (h0 : terr (lastOf l) = 0) (hw : ¬ tb (lastOf l) + tc (lastOf l) ≤ r) (h : LoadL (badat n k) l er) : er = 13 := by
  have hs : ¬ Spoilt (badat n k) (l.length - 64) 64 := by rw [hl, show n - 64 = r from by omega, spoilt_end hr h64]; exact hA
  have hw2 : ¬ tb (lastOf l) + tc (lastOf l) ≤ l.length - 64 := by rw [hl]; omega
  rcases h with ⟨hne, hf⟩ | ⟨hf, _⟩
  · rcases hf with ⟨hn, e⟩ | ⟨_, ⟨hn, _⟩ | ⟨_, ⟨_, e⟩ | ⟨hn, _⟩⟩⟩
    · exact absurd hn hs
    · exact absurd h0 hn
    · exact e
    · exact absurd hn hw2
  · rcases hf with ⟨hn, e⟩ | ⟨_, ⟨hn, _⟩ | ⟨_, ⟨_, e⟩ | ⟨hn, _⟩⟩⟩
    · exact absurd hn hs
    · exact absurd h0 hn
    · cases e
    · exact absurd hn hw2
theorem want_last (hl : l.length = n) (hr : r + 64 = n) (h64 : n % 64 = 0) (hA : ¬ k = ((r / 64 : Nat) : Int)) (h0 : terr (lastOf l) = 0) (hw : tb (lastOf l) + tc (lastOf l) ≤ r) (h : LoadL (badat n k) l er) :
    (((tb (lastOf l) / 64 : Nat) : Int) ≤ k ∧ k ≤ (((tb (lastOf l) + tc (lastOf l) - 1) / 64 : Nat) : Int)) ∧ er = 41 ∨ ¬ (((tb (lastOf l) / 64 : Nat) : Int) ≤ k ∧ k ≤ (((tb (lastOf l) + tc (lastOf l) - 1) / 64 : Nat) : Int)) ∧ er = 0 := by
  have hs : ¬ Spoilt (badat n k) (l.length - 64) 64 := by rw [hl, show n - 64 = r from by omega, spoilt_end hr h64]; exact hA
  have hw2 : tb (lastOf l) + tc (lastOf l) ≤ l.length - 64 := by rw [hl]; omega
  have ht := (terr_ok h0).1
  unfold TOk at ht
  have hsp := spoilt_at n (tb (lastOf l)) (tc (lastOf l)) k (by omega)
  rcases h with ⟨hne, hf⟩ | ⟨hf, ⟨h1, e⟩ | ⟨h1, e⟩⟩
  · rcases hf with ⟨hn, e⟩ | ⟨_, ⟨hn, _⟩ | ⟨_, ⟨hn, _⟩ | ⟨_, e⟩⟩⟩
    · exact absurd hn hs
    · exact absurd h0 hn
    · exact absurd hw2 hn
    · exact absurd e hne
  · have h2 := hsp.1 h1
    exact .inl ⟨⟨h2.2.2.1, h2.2.2.2⟩, e⟩
  · refine .inr ⟨fun hh => h1 (hsp.2 ?_), e⟩
    omega
end
abbrev LoadsWalk (z : Int) (A1 : Option Addr) (n1 c1 : Nat) (A2 : Option Addr) (n2 c2 : Nat) (k : Int) (W : World) : Prop := Calls Try.prog 5 #[.int .i64 z, .slice A1 n1 c1, .slice A2 n2 c2, .int .i64 k] W fun e w' => e = .returned (.bool true) ∧ Below W.heap.size W w'
theorem loads_big (z : Int) (A1 : Option Addr) (n1 c1 : Nat) (A2 : Option Addr) (n2 c2 : Nat) (k : Int) (W : World) (hb : 2000 < z ∨ 2000 < n1 ∨ 64 < n2) : LoadsWalk z A1 n1 c1 A2 n2 c2 k W := by
  have q : (2000 < z) ∨ (¬ (2000 < z) ∧ (2000 : Int) < (n1 : Int)) ∨ (¬ (2000 < z) ∧ ¬ (2000 : Int) < (n1 : Int) ∧ (64 : Int) < (n2 : Int)) := by omega
  clear hb
  rcases q with z1 | ⟨z1, z2⟩ | ⟨z1, z2, z3⟩
  all_goals
    go_enter Try.func5, Try.ntmps5
    go_wp2_with fail
    refine (anchor_any W).mono ?_
    rintro e w1 ⟨rfl, hb1⟩
    go_wp2
    go_ret
    exact ⟨rfl, hb1⟩
theorem loads_nil (z : Int) (A1 : Option Addr) (n1 c1 : Nat) (A2 : Option Addr) (n2 c2 : Nat) (k : Int) (W : World) (z1 : ¬ 2000 < z) (z2 : ¬ (2000 : Int) < (n1 : Int)) (z3 : ¬ (64 : Int) < (n2 : Int)) (hz : sizeOk z = false) : LoadsWalk z A1 n1 c1 A2 n2 c2 k W := by
  have HZ := Lib.hid hz
  clear hz
  go_enter Try.func5, Try.ntmps5
  go_wp2_with fail
  refine (anchor_any W).mono ?_
  rintro e w1 ⟨rfl, hb1⟩
  go_wp2_with fail
  refine (made_no z w1 HZ.out).mono ?_
  rintro e w2 ⟨rfl, hb2⟩
  have HB : Hid (Below W.heap.size W w2) := hb1.trans (hb2.mono hb1.size)
  clear hb1 hb2
  go_wp2
  go_ret
  exact ⟨rfl, HB.out⟩
end Go.Proofs.Ythepbadecpnepaa
