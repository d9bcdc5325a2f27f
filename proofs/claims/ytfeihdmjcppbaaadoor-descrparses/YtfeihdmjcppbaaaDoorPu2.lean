/-
  What the bytes of a right descriptor are read as: the descriptor itself. No condition.
-/
import Derived.Test.YtfeihdmjcppbaaaDoorPu
namespace Go.Proofs.YtfeihdmjcppbaaaDoor
set_option linter.unusedVariables false
set_option linter.unusedSimpArgs false

theorem sl_flat : ∀ (ss : List (List Nat)) (i : Nat) (s : List Nat), ss[i]? = some s → sl ss.flatten (ss.take i).flatten.length s.length = s
  | [], _, _, h => by simp at h
  | a :: r, 0, s, h => by
    simp at h
    subst h
    simp [sl]
  | a :: r, i + 1, s, h => by
    have := sl_flat r i s (by simpa using h)
    simp only [List.take_succ_cons, List.flatten_cons, List.length_append]
    have e : (a ++ r.flatten).drop (a.length + (r.take i).flatten.length) = r.flatten.drop (r.take i).flatten.length := by rw [← List.drop_drop, List.drop_left]
    unfold sl at this ⊢
    rw [e]
    exact this
/-- All the parts of a body. -/
def segs (d : De) : List (List Nat) := [be 4 d.alg.toNat, be 8 d.size.toNat, be 4 d.block.toNat, be 8 d.off.toNat, be 4 d.loc.toNat, be 4 d.name.length, be 4 d.salt.length, be 4 d.digest.length, be 4 d.key.length, be 4 d.value.length,
  d.name, d.salt, d.digest, d.key, d.value, List.replicate (gapn (raw d).length 8) 0]
theorem body_segs (d : De) : body d = (segs d).flatten := by
  simp [body, raw, nums, lens, texts, segs]
theorem seg (d : De) (i o n : Nat) (s : List Nat) (h : (segs d)[i]? = some s) (hn : s.length = n) (ho : ((segs d).take i).flatten.length = o) : sl (body d) o n = s := by
  subst hn ho
  rw [body_segs]
  exact sl_flat _ _ _ h
theorem ln_body {d : De} (h : Right d) : ln (body d) 0 = d.name.length ∧ ln (body d) 1 = d.salt.length ∧ ln (body d) 2 = d.digest.length ∧ ln (body d) 3 = d.key.length ∧ ln (body d) 4 = d.value.length := by
  have b := h.bds
  have b0 := b.name
  have b1 := b.salt
  have b2 := b.digest
  have b3 := b.key
  have b4 := b.value
  refine ⟨?_, ?_, ?_, ?_, ?_⟩
  · rw [ln, seg d 5 _ 4 (be 4 d.name.length) rfl (be_length _ _) (by simp [segs, be_length])]; exact num_be 4 _ (by omega)
  · rw [ln, seg d 6 _ 4 (be 4 d.salt.length) rfl (be_length _ _) (by simp [segs, be_length])]; exact num_be 4 _ (by omega)
  · rw [ln, seg d 7 _ 4 (be 4 d.digest.length) rfl (be_length _ _) (by simp [segs, be_length])]; exact num_be 4 _ (by omega)
  · rw [ln, seg d 8 _ 4 (be 4 d.key.length) rfl (be_length _ _) (by simp [segs, be_length])]; exact num_be 4 _ (by omega)
  · rw [ln, seg d 9 _ 4 (be 4 d.value.length) rfl (be_length _ _) (by simp [segs, be_length])]; exact num_be 4 _ (by omega)
theorem en_body {d : De} (h : Right d) : en (body d) 0 = 48 ∧ en (body d) 1 = 48 + d.name.length ∧ en (body d) 2 = 48 + d.name.length + d.salt.length ∧ en (body d) 3 = 48 + d.name.length + d.salt.length + d.digest.length ∧ en (body d) 4 = 48 + d.name.length + d.salt.length + d.digest.length + d.key.length ∧ en (body d) 5 = 48 + tlen d := by
  obtain ⟨h0, h1, h2, h3, h4⟩ := ln_body h
  have e0 : en (body d) 0 = 48 := rfl
  have e1 : en (body d) 1 = en (body d) 0 + ln (body d) 0 := rfl
  have e2 : en (body d) 2 = en (body d) 1 + ln (body d) 1 := rfl
  have e3 : en (body d) 3 = en (body d) 2 + ln (body d) 2 := rfl
  have e4 : en (body d) 4 = en (body d) 3 + ln (body d) 3 := rfl
  have e5 : en (body d) 5 = en (body d) 4 + ln (body d) 4 := rfl
  unfold tlen
  omega
set_option maxHeartbeats 2000000 in
theorem said_body {d : De} (h : Right d) : said d.kind.toNat (body d) = d := by
  have b := h.bds
  obtain ⟨h0, h1, h2, h3, h4⟩ := ln_body h
  obtain ⟨e0, e1, e2, e3, e4, _⟩ := en_body h
  have f0 : sl (body d) 0 4 = be 4 d.alg.toNat := seg d 0 _ 4 _ rfl (be_length _ _) rfl
  have f1 : sl (body d) 4 8 = be 8 d.size.toNat := seg d 1 _ 8 _ rfl (be_length _ _) (by simp [segs, be_length])
  have f2 : sl (body d) 12 4 = be 4 d.block.toNat := seg d 2 _ 4 _ rfl (be_length _ _) (by simp [segs, be_length])
  have f3 : sl (body d) 16 8 = be 8 d.off.toNat := seg d 3 _ 8 _ rfl (be_length _ _) (by simp [segs, be_length])
  have f4 : sl (body d) 24 4 = be 4 d.loc.toNat := seg d 4 _ 4 _ rfl (be_length _ _) (by simp [segs, be_length])
  have g0 : sl (body d) (en (body d) 0) (ln (body d) 0) = d.name := by rw [e0, h0]; exact seg d 10 _ _ _ rfl rfl (by simp [segs, be_length])
  have g1 : sl (body d) (en (body d) 1) (ln (body d) 1) = d.salt := by rw [e1, h1]; exact seg d 11 _ _ _ rfl rfl (by simp [segs, be_length]; omega)
  have g2 : sl (body d) (en (body d) 2) (ln (body d) 2) = d.digest := by rw [e2, h2]; exact seg d 12 _ _ _ rfl rfl (by simp [segs, be_length]; omega)
  have g3 : sl (body d) (en (body d) 3) (ln (body d) 3) = d.key := by rw [e3, h3]; exact seg d 13 _ _ _ rfl rfl (by simp [segs, be_length]; omega)
  have g4 : sl (body d) (en (body d) 4) (ln (body d) 4) = d.value := by rw [e4, h4]; exact seg d 14 _ _ _ rfl rfl (by simp [segs, be_length]; omega)
  have b0 := b.kind
  have b1 := b.alg
  have b2 := b.size
  have b3 := b.block
  have b4 := b.off
  have b5 := b.loc
  have m0 : num (be 4 d.alg.toNat) = d.alg.toNat := num_be 4 _ (by omega)
  have m1 : num (be 8 d.size.toNat) = d.size.toNat := num_be 8 _ (by omega)
  have m2 : num (be 4 d.block.toNat) = d.block.toNat := num_be 4 _ (by omega)
  have m3 : num (be 8 d.off.toNat) = d.off.toNat := num_be 8 _ (by omega)
  have m4 : num (be 4 d.loc.toNat) = d.loc.toNat := num_be 4 _ (by omega)
  unfold said
  rw [f0, f1, f2, f3, f4, g0, g1, g2, g3, g4, m0, m1, m2, m3, m4,
    Int.toNat_of_nonneg b0.1, Int.toNat_of_nonneg b1.1, Int.toNat_of_nonneg b2.1, Int.toNat_of_nonneg b3.1, Int.toNat_of_nonneg b4.1, Int.toNat_of_nonneg b5.1]
theorem dec_body {d : De} (h : Right d) : dec d.kind.toNat (body d) = some d := by
  have hl := body_length d
  have he := (en_body h).2.2.2.2.2
  have q1 : 48 ≤ (body d).length := by rw [hl]; omega
  have q2 : en (body d) 5 ≤ (body d).length := by rw [he, hl]; omega
  have q3 := said_body h
  generalize hs : said d.kind.toNat (body d) = s at q3
  subst q3
  unfold dec
  rw [hs, if_pos ⟨q1, q2, h, rfl⟩]
theorem dec_some {k : Nat} {b : List Nat} {d : De} (h : dec k b = some d) : Right d ∧ body d = b ∧ d.kind = k := by
  unfold dec at h
  by_cases hc : 48 ≤ b.length ∧ en b 5 ≤ b.length ∧ Right (said k b) ∧ body (said k b) = b
  · rw [if_pos hc] at h
    injection h with h
    subst h
    exact ⟨hc.2.2.1, hc.2.2.2, rfl⟩
  · rw [if_neg hc] at h; cases h

/-- May the one not stand beside the other? -/
def Like (d x : De) : Prop := d.kind ≠ 3 ∧ d.kind = x.kind ∧ d.name = x.name
instance (d x : De) : Decidable (Like d x) := by unfold Like; exact inferInstance
def dup (seen : List De) (d : De) : Bool := seen.any fun x => decide (Like d x)
/-- Is one there twice? -/
def tw : List De → List De → Bool
  | _, [] => false
  | seen, d :: r => dup seen d || tw (seen ++ [d]) r
/-- The first descriptor of bytes, and how long its body is. -/
def step (seen : List De) (b : List Nat) : Except Nat (De × Nat) :=
  if b.length < 16 then .error 10
  else if 5 ≤ num (sl b 0 8) then .error 33
  else if b.length < 16 + num (sl b 8 8) then .error 10
  else match dec (num (sl b 0 8)) (sl b 16 (num (sl b 8 8))) with
    | none => .error 12
    | some d => if dup seen d then .error 35 else .ok (d, num (sl b 8 8))
def pgo : Nat → List De → List Nat → List De × Nat
  | 0, seen, b => if b.length = 0 then (seen, 0) else ([], 11)
  | f + 1, seen, b => if b.length = 0 then (seen, 0) else match step seen b with
    | .error e => ([], e)
    | .ok (d, n) => pgo f (seen ++ [d]) (b.drop (16 + n))
/-- What bytes are read as, and the error's number. -/
def parse (b : List Nat) : List De × Nat := pgo 32 [] b
/-- The bytes of descriptors, and the error's number. -/
def encode (l : List De) : List Nat × Nat :=
  if 32 < l.length then ([], 11) else if ∀ d ∈ l, Right d then (if tw [] l then ([], 35) else (encs l, 0)) else ([], 12)

theorem sl_zero (b : List Nat) (n : Nat) : sl b 0 n = b.take n := by simp [sl]
theorem sl_append {p q r : List Nat} {o n : Nat} (ho : p.length = o) (hn : q.length = n) : sl (p ++ (q ++ r)) o n = q := by
  subst ho hn; simp [sl]
theorem step_enc {seen : List De} {d : De} (h : Right d) (hd : dup seen d = false) (r : List Nat) : step seen (enc d ++ r) = .ok (d, (body d).length) := by
  have b := h.bds
  have bk := b.kind
  have hb := h.tlen_le
  have hl := body_length d
  have e : enc d ++ r = be 8 d.kind.toNat ++ (be 8 (body d).length ++ (body d ++ r)) := by simp [enc]
  have s0 : sl (enc d ++ r) 0 8 = be 8 d.kind.toNat := by rw [e]; exact sl_append (p := []) rfl (be_length _ _)
  have s1 : sl (enc d ++ r) 8 8 = be 8 (body d).length := by rw [e]; exact sl_append (be_length _ _) (be_length _ _)
  have n0 : num (sl (enc d ++ r) 0 8) = d.kind.toNat := by rw [s0]; exact num_be 8 _ (by omega)
  have n1 : num (sl (enc d ++ r) 8 8) = (body d).length := by rw [s1]; exact num_be 8 _ (by omega)
  have s2 : sl (enc d ++ r) 16 (body d).length = body d := by
    rw [e, ← List.append_assoc]
    exact sl_append (by simp [be_length]) rfl
  have hlen : (enc d ++ r).length = 16 + (body d).length + r.length := by rw [List.length_append, enc_length]
  unfold step
  rw [n0, n1, s2, if_neg (by omega), if_neg (by omega), if_neg (by omega), dec_body h]
  simp only []
  rw [hd]
  rfl
theorem tw_split : ∀ (a b seen : List De), tw seen (a ++ b) = (tw seen a || tw (seen ++ a) b)
  | [], b, seen => by simp [tw]
  | d :: a, b, seen => by
    simp only [List.cons_append, tw, tw_split a b, List.append_assoc, List.singleton_append, List.nil_append, Bool.or_assoc]
theorem pgo_encs : ∀ (l seen : List De) (f : Nat), (∀ d ∈ l, Right d) → tw seen l = false → l.length ≤ f → pgo f seen (encs l) = (seen ++ l, 0)
  | [], seen, f, _, _, _ => by cases f <;> simp [pgo, encs]
  | d :: l, seen, f, hr, ht, hf => by
    obtain ⟨f, rfl⟩ : ∃ k, f = k + 1 := ⟨f - 1, by simp at hf; omega⟩
    simp only [tw, Bool.or_eq_false_iff] at ht
    have e : encs (d :: l) = enc d ++ encs l := rfl
    have hl := enc_length d
    have h1 : ¬ (enc d ++ encs l).length = 0 := by rw [List.length_append]; omega
    have hd : (enc d ++ encs l).drop (16 + (body d).length) = encs l := by rw [← hl]; simp
    rw [e, pgo, if_neg h1, step_enc (hr d (by simp)) ht.1]
    simp only []
    rw [hd, pgo_encs l (seen ++ [d]) f (fun x hx => hr x (by simp [hx])) ht.2 (by simpa using hf)]
    simp
theorem encs_append (a b : List De) : encs (a ++ b) = encs a ++ encs b := by simp [encs]
theorem parse_encs {l : List De} (hr : ∀ d ∈ l, Right d) (ht : tw [] l = false) (hf : l.length ≤ 32) : parse (encs l) = (l, 0) := by
  have := pgo_encs l [] 32 hr ht hf
  simpa [parse] using this
/-- What is read is written as the same bytes. -/
theorem step_ok {seen : List De} {b : List Nat} {d : De} {n : Nat} (h : step seen b = .ok (d, n)) (hf : Fit 256 b) : Right d ∧ dup seen d = false ∧ n = (body d).length ∧ 16 + n ≤ b.length ∧ d = said (num (sl b 0 8)) (sl b 16 n) := by
  unfold step at h
  split at h
  · cases h
  · split at h
    · cases h
    · split at h
      · cases h
      · next h1 h2 h3 =>
        cases hd : dec (num (sl b 0 8)) (sl b 16 (num (sl b 8 8))) with
        | none => rw [hd] at h; cases h
        | some x =>
          rw [hd] at h
          simp only [] at h
          split at h
          · cases h
          · next hn =>
            simp only [Except.ok.injEq, Prod.mk.injEq] at h
            obtain ⟨rfl, rfl⟩ := h
            obtain ⟨g1, g2, g3⟩ := dec_some hd
            refine ⟨g1, by simpa using hn, ?_, by omega, ?_⟩
            · rw [g2, sl_length (by omega)]
            · unfold dec at hd
              split at hd
              · injection hd with hd; exact hd.symm
              · cases hd
end Go.Proofs.YtfeihdmjcppbaaaDoor
