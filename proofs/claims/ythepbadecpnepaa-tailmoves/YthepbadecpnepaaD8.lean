/-
  Turn and Bad of a drive. No condition but that lengths are lengths.
-/
import Derived.Test.YthepbadecpnepaaD7
namespace Go.Proofs.Ythepbadecpnepaa
open Go.RowKit Go.MapKept
set_option linter.unusedVariables false
set_option linter.unusedSimpArgs false
set_option maxRecDepth 100000

/-- Bytes from off on, each xored with x's. -/
def xored (l : List Nat) (off : Nat) (x : List Nat) : List Nat := (List.range l.length).map fun j => if off ≤ j ∧ j < off + x.length then l.getD j 0 ^^^ x.getD (j - off) 0 else l.getD j 0
theorem xored_length (l : List Nat) (off : Nat) (x : List Nat) : (xored l off x).length = l.length := by simp [xored]
theorem xored_get (l : List Nat) (off : Nat) (x : List Nat) (j : Nat) (hj : j < l.length) : (xored l off x)[j]? = some (if off ≤ j ∧ j < off + x.length then l.getD j 0 ^^^ x.getD (j - off) 0 else l.getD j 0) := by
  simp [xored, hj]
theorem xored_nil (l : List Nat) (off : Nat) : xored l off [] = l := by
  apply List.ext_getElem?
  intro j
  by_cases hj : j < l.length
  · rw [xored_get _ _ _ _ hj, if_neg (by simp), List.getElem?_eq_getElem hj]
    simp [List.getD, List.getElem?_eq_getElem hj]
  · rw [List.getElem?_eq_none (by rw [xored_length]; omega), List.getElem?_eq_none (by omega)]
theorem getD_fit {m : List Nat} (hm : Fit 256 m) (i : Nat) : m.getD i 0 < 256 := by
  by_cases hi : i < m.length
  · rw [List.getD, List.getElem?_eq_getElem hi]; exact hm _ (List.getElem_mem hi)
  · rw [List.getD, List.getElem?_eq_none (by omega)]; simp
theorem xored_fit {l x : List Nat} {off : Nat} (h1 : Fit 256 l) (h2 : Fit 256 x) : Fit 256 (xored l off x) := by
  intro d hd
  obtain ⟨j, hj, rfl⟩ := List.mem_map.1 hd
  split
  · exact Nat.xor_lt_two_pow (n := 8) (getD_fit h1 _) (getD_fit h2 _)
  · exact getD_fit h1 _
theorem xored_step (l : List Nat) (off : Nat) (x : List Nat) (k y z : Nat) (hk : x[k]? = some y) (hz : l[off + k]? = some z) : xored l off (x.take (k + 1)) = (xored l off (x.take k)).set (off + k) (z ^^^ y) := by
  have hkl := (List.getElem?_eq_some_iff.1 hk).1
  have hol := (List.getElem?_eq_some_iff.1 hz).1
  apply List.ext_getElem?
  intro j
  by_cases hj : j < l.length
  · rw [xored_get _ _ _ _ hj, List.getElem?_set, List.length_take]
    by_cases e : off + k = j
    · subst e
      rw [if_pos ⟨by omega, by omega⟩, if_pos rfl, if_pos (by rw [xored_length]; exact hol)]
      have e1 : off + k - off = k := by omega
      have e2 : l.getD (off + k) 0 = z := by rw [List.getD, hz]; rfl
      have e3 : (x.take (k + 1)).getD k 0 = y := by rw [List.getD, List.getElem?_take, if_pos (by omega), hk]; rfl
      rw [e1, e2, e3]
    · rw [if_neg e, xored_get _ _ _ _ hj, List.length_take]
      congr 1
      by_cases h1 : off ≤ j ∧ j < off + min k x.length
      · rw [if_pos h1, if_pos ⟨h1.1, by omega⟩]
        congr 1
        rw [List.getD, List.getD, List.getElem?_take, List.getElem?_take, if_pos (by omega), if_pos (by omega)]
      · rw [if_neg h1, if_neg (by omega)]
  · rw [List.getElem?_eq_none (by rw [xored_length]; omega), List.getElem?_eq_none (by rw [List.length_set, xored_length]; omega)]
theorem xored_at (l : List Nat) (off : Nat) (x : List Nat) (k z : Nat) (hz : l[off + k]? = some z) (hk : k ≤ x.length) : (xored l off (x.take k))[off + k]? = some z := by
  have hol := (List.getElem?_eq_some_iff.1 hz).1
  rw [xored_get _ _ _ _ hol, if_neg (by rw [List.length_take]; omega), List.getD, hz]
  rfl
theorem xored_twice (l : List Nat) (off : Nat) (x : List Nat) : xored (xored l off x) off x = l := by
  apply List.ext_getElem?
  intro j
  by_cases hj : j < l.length
  · have e : (xored l off x).getD j 0 = if off ≤ j ∧ j < off + x.length then l.getD j 0 ^^^ x.getD (j - off) 0 else l.getD j 0 := by rw [List.getD, xored_get _ _ _ _ hj]; rfl
    rw [xored_get _ _ _ _ (by rw [xored_length]; exact hj), e, List.getElem?_eq_getElem hj]
    have e2 : l.getD j 0 = l[j] := by simp [List.getD, List.getElem?_eq_getElem hj]
    by_cases h : off ≤ j ∧ j < off + x.length
    · rw [if_pos h, if_pos h, Nat.xor_assoc, Nat.xor_self, Nat.xor_zero, e2]
    · rw [if_neg h, if_neg h, e2]
  · rw [List.getElem?_eq_none (by rw [xored_length, xored_length]; omega), List.getElem?_eq_none (by omega)]

/-- Bytes were turned. -/
def Turns (w : World) (D D' : Dv) (e : Ending) (w' : World) : Prop := e = .returned (.bool true) ∧ Drv w' D' ∧ Touch D.own w w'
/-! ### Bad -/
theorem Bad_part (D : Dv) (w : World) (h : Drv w D) (s : ByteArray) (hs : ∀ p ∈ D.pts, p.nm ≠ s) (k : Int) (on : Bool) : Calls Try.prog 19 #[.pointer (some ⟨D.g, 0, none⟩), .string s, .int .i64 k, .bool on] w (Fails w (.bool false)) := by
  have hl := look_no h.map s hs
  have c1 := h.c1
  clear h hs
  go_enter Try.func19, Try.ntmps19
  go_wp2_with (first
    | (at_lookup; refine wpList_lookup_run (o := ⟨some 17, _, _, _, _, _⟩) rfl (.tmp 15) (.tmp 16) 69 rfl _ _ _ rfl rfl hl ?_))
  go_ret
  exact ⟨rfl, (Below.refl _ _).alloc (Nat.le_refl _) _⟩
theorem Bad_end (D : Dv) (w : World) (h : Drv w D) (p : Pt) (hp : p ∈ D.pts) (s : ByteArray) (hs : p.nm = s) (k : Int) (on : Bool) (hk : ¬ (0 ≤ k ∧ k < ((p.l.length / 64 : Nat) : Int))) : Calls Try.prog 19 #[.pointer (some ⟨D.g, 0, none⟩), .string s, .int .i64 k, .bool on] w (Fails w (.bool false)) := by
  have hl := look_yes h.map h.names hp s hs
  have c1 := h.c1
  have hsz := (h.size p hp).2.1
  have HL := Lib.hid hl
  unfold Pt.val at HL
  generalize p.l.length = n at HL hk hsz
  obtain ⟨q, hq⟩ : ∃ q, n / 64 = q := ⟨_, rfl⟩
  rw [hq] at hk
  have qz : (n : Int) / 64 = (q : Int) := by omega
  clear h hs hl hp hq
  by_cases h1 : k < 0
  · clear hk
    go_enter Try.func19, Try.ntmps19
    go_wp2_with (first
      | (at_lookup; refine wpList_lookup_run (o := ⟨some 17, _, _, _, _, _⟩) rfl (.tmp 15) (.tmp 16) 69 rfl _ _ _ rfl rfl HL.out ?_))
    go_ret
    exact ⟨rfl, (Below.refl _ _).alloc (Nat.le_refl _) _⟩
  · have h2 : (q : Int) ≤ k := by omega
    clear hk
    go_enter Try.func19, Try.ntmps19
    go_wp2_with (first
      | (at_lookup; refine wpList_lookup_run (o := ⟨some 17, _, _, _, _, _⟩) rfl (.tmp 15) (.tmp 16) 69 rfl _ _ _ rfl rfl HL.out ?_))
    go_ret
    exact ⟨rfl, (Below.refl _ _).alloc (Nat.le_refl _) _⟩
/-- A sector is bad, or isn't any more. -/
def badset (S : Int → Bool) (k : Int) (on : Bool) : Int → Bool := fun x => if x = k then on else S x
theorem badset_on (S : Int → Bool) (k : Int) : badset S k true = fun x => x == k || S x := by
  funext x
  by_cases e : x = k <;> simp [badset, e]
theorem badset_off (S : Int → Bool) (k : Int) : badset S k false = fun x => x != k && S x := by
  funext x
  by_cases e : x = k <;> simp [badset, e]
set_option maxHeartbeats 1000000 in
theorem Bad_ok (D : Dv) (w : World) (h : Drv w D) (i : Nat) (p : Pt) (hi : D.pts[i]? = some p) (s : ByteArray) (hs : p.nm = s) (k : Nat) (on : Bool) (hk : k < p.l.length / 64) : Calls Try.prog 19 #[.pointer (some ⟨D.g, 0, none⟩), .string s, .int .i64 (k : Int), .bool on] w (Turns w D (D.put i { p with bad := badset p.bad k on })) := by
  have hp : p ∈ D.pts := List.mem_of_getElem? hi
  have hl := look_yes h.map h.names hp s hs
  have c1 := h.c1
  have hsz := (h.size p hp).2.1
  have HD := Lib.hid h
  have HI := Lib.hid hi
  have HB0 : Hid (Below w.heap.size w (w.alloc (.cells #[.slice (some ⟨p.bb, 0, none⟩) p.l.length p.l.length, .map (some p.mm)] 74))) := (Below.refl _ _).alloc (Nat.le_refl _) _
  have HS0 := Lib.hid ((h.bads p hp).touch (Touch.of_below [] HB0.out) (by simp))
  have HD0 := Lib.hid (h.below HB0.out)
  have key : Hid (∀ w3, SetAt w3 p.mm (badset p.bad k on) → Touch [p.mm] (w.alloc (.cells #[.slice (some ⟨p.bb, 0, none⟩) p.l.length p.l.length, .map (some p.mm)] 74)) w3 → Turns w D (D.put i { p with bad := badset p.bad k on }) (.returned (.bool true)) w3) := by
    intro w3 hS ht
    have hbb : p.bb ∉ [p.mm] := fun hm => nodup_one (List.nodup_cons.1 (List.nodup_cons.1 h.apart).2).2 hp (List.mem_singleton.1 hm)
    exact ⟨rfl, HD0.out.setPt HI.out p.l (badset p.bad k on) rfl (h.fit p hp) (ht.wider (fun b hb => by rw [List.mem_singleton.1 hb]; simp)) ((HD0.out.bytes p hp).touch ht hbb) hS, (Touch.of_below D.own HB0.out).trans (ht.wider (fun b hb => by rw [List.mem_singleton.1 hb]; exact own_mm hp))⟩
  have HL := Lib.hid hl
  unfold Pt.val at HL
  generalize p.l.length = n at HL hk hsz key HS0
  generalize p.bb = bb at HL key HS0
  generalize p.mm = mm at HL key HS0
  generalize p.bad = S at HS0 key
  obtain ⟨q, hq⟩ : ∃ q, n / 64 = q := ⟨_, rfl⟩
  rw [hq] at hk
  have qz : (n : Int) / 64 = (q : Int) := by omega
  have kz : (k : Int) < (q : Int) := by omega
  clear h hs hl hp hq hi HD0 HB0
  cases on with
  | true =>
    rw [badset_on] at key
    obtain ⟨w3, hrun, hS3, hT3⟩ := HS0.out.put (k : Int)
    have HK := Lib.hid (key.out w3 hS3 hT3)
    have HRUN := Lib.hid hrun
    clear hrun hS3 hT3 key
    go_enter Try.func19, Try.ntmps19
    go_wp2_with (first
      | (at_lookup; refine wpList_lookup_run (o := ⟨some 17, _, _, _, _, _⟩) rfl (.tmp 15) (.tmp 16) 69 rfl _ _ _ rfl rfl HL.out ?_)
      | (at_mapUpdate; refine wpList_update_run rfl (.tmp 36) (.tmp 37) (.tmp 38) 72 rfl _ _ _ rfl rfl rfl HRUN.out ?_))
    go_ret
    rw [badset_on]
    exact HK.out
  | false =>
    rw [badset_off] at key
    obtain ⟨w3, hrun, hS3, hT3⟩ := HS0.out.del (k : Int) 0
    have HK := Lib.hid (key.out w3 hS3 hT3)
    have HRUN := Lib.hid hrun
    clear hrun hS3 hT3 key
    go_enter Try.func19, Try.ntmps19
    go_wp2_with (first
      | (at_lookup; refine wpList_lookup_run (o := ⟨some 17, _, _, _, _, _⟩) rfl (.tmp 15) (.tmp 16) 69 rfl _ _ _ rfl rfl HL.out ?_)
      | (at_delete; refine wpList_delete_run rfl (.tmp 40) (.tmp 41) 72 3 rfl _ _ rfl rfl HRUN.out ?_))
    go_ret
    rw [badset_off]
    exact HK.out
end Go.Proofs.Ythepbadecpnepaa
