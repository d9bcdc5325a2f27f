/-
  What the laws of groves need beside: a way's blocks as a list of texts; what Climb says of any list of texts.
-/
import Derived.Test.YtfoenafjaaidmaaDoorG9
import Derived.Test.YtfoenafjaaidmaaDoorG3
import Derived.Test.YtfoenafjaaidmaaDoorE7
import Derived.Test.YtfoenafjaaidmaaDoorAn9
namespace Go.Proofs.YtfoenafjaaidmaaDoor
open Go.RowKit
set_option linter.unusedVariables false
set_option linter.unusedSimpArgs false
set_option maxRecDepth 100000

/-- A way's blocks are a list of texts. -/
theorem way_ls {w : World} {b P m B c : Nat} {A : Option Addr} {f : Nat → List Nat} {ps : List Bt} (hr : Row w b 22 A m c (cells_ ps)) (hp : Parts_ w P B f ps) (hl : ∀ k, (f k).length = B) (hf : ∀ k, Fit 256 (f k)) (hB : B ≤ 4096) : Ls w A m c ps := by
  have hlen : ps.length = m := by have := hr.length; rwa [cells_, List.length_map] at this
  refine ⟨hr.parts (fun p hpm => ?_), hr.le.1, hr.le.2, fun e => ?_, fun p hpm => ?_⟩
  · obtain ⟨k, hk⟩ := List.mem_iff_getElem?.1 hpm
    obtain ⟨h1, h2, h3, g, h4, _, h5⟩ := hp k p hk
    rw [h1, h2, h3, h4]
    exact ⟨h5.rd B (hl k), hf k, Nat.le_refl _⟩
  · rcases hr.2 with ⟨hv, _⟩ | ⟨g, cap', cur, hv, _⟩
    · injection hv
    · injection hv with h1 _ _
      rw [e] at h1
      cases h1
  · obtain ⟨k, hk⟩ := List.mem_iff_getElem?.1 hpm
    obtain ⟨h1, h2, h3, g, h4, _, h5⟩ := hp k p hk
    rw [h2, h4]
    exact ⟨by unfold maxLen; omega, fun e => by cases e⟩
theorem way_map {w : World} {P m B : Nat} {H : List Nat → List Nat} {a n i : Nat} {data : List Nat} {ps : List Bt} (hlen : ps.length = m) (hp : Parts_ w P B (fun j => blk H B a n data j (i / a ^ j)) ps) : ps.map (·.l) = way H B a n data i m := by
  apply List.ext_getElem?
  intro k
  rw [List.getElem?_map]
  rcases Nat.lt_or_ge k m with hk | hk
  · obtain ⟨p, hpk⟩ : ∃ p, ps[k]? = some p := ⟨_, List.getElem?_eq_getElem (by omega)⟩
    rw [hpk, way_get hk]
    show some p.l = _
    rw [(hp k p hpk).2.2.1]
  · rw [List.getElem?_eq_none (by omega), List.getElem?_eq_none (by rw [way_length]; omega)]
    rfl
/-- What Climb says of any list of texts, of a right shape, from a block that is there. -/
theorem climb_any (z S B D a n i : Nat) (A : Option Addr) (nA cA : Nat) (salt : List Nat) (Al : Option Addr) (nl cl : Nat) (ps : List Bt) (Ar : Option Addr) (nr cr : Nat) (root : List Nat) (w : World) (h : Shp S B D a n) (hz : z = 1 ∨ z = 2) (hs : sizeOfAlg (z : Int) = D) (hsl : Bs w A nA cA salt) (h64 : nA ≤ 64) (hls : Ls w Al nl cl ps) (hrt : Bs w Ar nr cr root) (hi : i < n) (hnl : nl ≤ 100) (hT : Both w) :
    ∃ er : Int, (er = 0 ∨ er = 12 ∨ er = 51 ∨ er = 54) ∧ (er = 0 → Climbs (hsh z salt) B D a i (cs a n).length (ps.map (·.l)) root) ∧
      (nl = (cs a n).length → (∀ p ∈ ps, p.n = B) → climbEr (hsh z salt) D a i nl (ps.map (·.l)) root er) ∧
      ∀ u : World, Below w.heap.size w u → Calls Tryd.prog 20 #[.int .i64 (z : Int), .slice A nA cA, .agg #[.int .i64 (S : Int), .int .i64 (B : Int), .int .i64 (D : Int)], .int .i64 (i : Int), .slice Al nl cl, .slice Ar nr cr] u fun e w' => e = .returned (.int .i64 er) ∧ Below u.heap.size u w' := by
  by_cases hform : nl = (cs a n).length ∧ ∀ p ∈ ps, p.n = B
  · obtain ⟨hl, hf⟩ := hform
    have hpos : 1 ≤ nl := by rw [hl]; exact List.length_pos_iff.2 (cnts_ne a 40 n)
    have hlen : (ps.map (·.l)).length = nl := by rw [List.length_map]; exact hls.1.1
    obtain ⟨er, her, hcl⟩ : ∃ er : Int, (er = 0 ∨ er = 51 ∨ er = 54) ∧ climbEr (hsh z salt) D a i nl (ps.map (·.l)) root er := by
      by_cases hk : Linked (hsh z salt) D a i (ps.map (·.l))
      · obtain ⟨x, hx⟩ : ∃ x, (ps.map (·.l))[nl - 1]? = some x := ⟨_, List.getElem?_eq_getElem (by omega)⟩
        by_cases hr : hsh z salt x = root
        · exact ⟨0, .inl rfl, .inr (.inr ⟨hk, fun y hy => by rw [hx] at hy; injection hy with hy; rw [← hy]; exact hr, rfl⟩)⟩
        · exact ⟨51, .inr (.inl rfl), .inr (.inl ⟨hk, ⟨x, hx, hr⟩, rfl⟩)⟩
      · exact ⟨54, .inr (.inr rfl), .inl ⟨hk, rfl⟩⟩
    refine ⟨er, by omega, fun h0 => ?_, fun _ _ => hcl, fun u hu => Climb_ok z S B D a n A nA cA salt i Al nl cl ps Ar nr cr root er u h hz hs (hsl.below hu) h64 (hls.below hu) (hrt.below hu) hi hl hf (hT.below hu) hcl⟩
    subst h0
    rcases hcl with ⟨_, h1⟩ | ⟨_, _, h1⟩ | ⟨hk, ht, _⟩
    · omega
    · omega
    · refine ⟨by rw [hlen, hl], fun x hx => ?_, hk, by rw [← hl]; exact ht⟩
      obtain ⟨p, hp, rfl⟩ := List.mem_map.1 hx
      rw [(hls.1.2.2 p hp).1.1]
      exact hf p hp
  · have hbad : nl ≠ (cs a n).length ∨ ∃ p ∈ ps, p.n ≠ B := by
      rcases Classical.em (nl = (cs a n).length) with h1 | h1
      · refine .inr (Classical.byContradiction fun h2 => hform ⟨h1, fun p hp => Classical.byContradiction fun h3 => h2 ⟨p, hp, h3⟩⟩)
      · exact .inl h1
    have hD0 : D ≠ 0 := by have := h.b; omega
    refine ⟨12, by omega, fun h0 => by omega, fun h1 h2 => absurd ⟨h1, h2⟩ hform, fun u hu => ?_⟩
    refine Climb_no (z : Int) S B D i A nA cA salt Al nl cl ps Ar nr cr root 12 u (by rcases hz with rfl | rfl <;> (unfold I64; omega)) h.i64.1 h.i64.2.1 h.i64.2.2 ?_ (hsl.below hu) (hls.below hu) (hrt.below hu) hnl (hT.below hu) ?_
    · have hn := h.n1
      unfold I64
      omega
    · exact .inr (.inr (.inr ⟨by rw [hs]; exact hD0, h64, by rw [hs], S, B, D, a, n, rfl, rfl, rfl, h, .inr ⟨by omega, by omega, by rcases hbad with h1 | ⟨p, hp, h1⟩; exact .inl h1; exact .inr ⟨p, hp, h1⟩, rfl⟩⟩))
end Go.Proofs.YtfoenafjaaidmaaDoor
