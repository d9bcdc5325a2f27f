/-
  What Parse of package key answers of any bytes.
-/
import Derived.Test.YtojpbfkdkkdpcaaDoorK5
namespace Go.Proofs.YtojpbfkdkkdpcaaDoor
open Go.RowKit
set_option linter.unusedVariables false
set_option linter.unusedSimpArgs false
set_option maxRecDepth 100000

theorem num_vbe : ∀ (l : List Nat), YtojpbfkdkkdpcaaDoorSp.num (ints l) = ((vbe l : Nat) : Int) := by
  intro l
  have key : ∀ (l : List Nat) (a : Nat), (ints l).foldl (fun n x => n * 256 + x) (a : Int) = ((a * 256 ^ l.length + vbe l : Nat) : Int) := by
    intro l
    induction l with
    | nil => intro a; simp [ints, vbe, val]
    | cons x l ih =>
      intro a
      have e : ints (x :: l) = (x : Int) :: ints l := rfl
      rw [e, List.foldl_cons, show (a : Int) * 256 + (x : Int) = ((a * 256 + x : Nat) : Int) by omega, ih, vbe_cons_, List.length_cons, Nat.pow_succ, Nat.add_mul, Nat.mul_assoc, Nat.mul_comm 256, Nat.add_assoc]
  have := key l 0
  simpa [YtojpbfkdkkdpcaaDoorSp.num] using this
theorem take4_lt {l : List Nat} (hf : Fit 256 l) : vbe (l.take 4) < 4294967296 := by
  have h1 := vbe_ltp (hf.take 4)
  have h2 : (l.take 4).length ≤ 4 := by rw [List.length_take]; omega
  exact Nat.lt_of_lt_of_le h1 (Nat.pow_le_pow_right (by omega) h2)
theorem Get4_any (A : Option Addr) (n cap : Nat) (l : List Nat) (w : World) (h : Rd .u8 w A n l) (hf : Fit 256 l) (hn : 8 ≤ n) (hn2 : n ≤ 10000) (hc : n ≤ cap) (hm : cap ≤ maxLen) :
    Calls Tryd.prog 45 #[.slice A n cap, .int .i64 0, .int .i64 4] w fun e w' => e = .returned (.tuple #[.int .i64 ((vbe (l.take 4) : Nat) : Int), .int .i64 0]) ∧ w = w' := by
  have := YtojpbfkdkkdpcaaDoorSp.Get_num A n cap (ints l) 0 4 w (h.seg hf) (by omega) hc hm (by omega) (by omega) ⟨by omega, by omega, by omega, by omega⟩
  have e : ((ints l).drop (0 : Int).toNat).take (4 : Int).toNat = ints (l.take 4) := by
    show ((ints l).drop 0).take 4 = _
    rw [List.drop_zero]
    simp [ints, List.map_take]
  rw [e, num_vbe] at this
  have hlt := take4_lt hf
  have e2 : YtojpbfkdkkdpcaaDoorSp.getEnd ((vbe (l.take 4) : Nat) : Int) = .tuple #[.int .i64 ((vbe (l.take 4) : Nat) : Int), .int .i64 0] := by
    unfold YtojpbfkdkkdpcaaDoorSp.getEnd
    rw [if_neg (by omega)]
  rw [e2] at this
  exact this
theorem run_mid8 (A : Option Addr) (k cap lo hi : Nat) (h1 : lo ≤ hi) (h2 : hi ≤ cap) (L H : Int) (hL : L = (lo : Int)) (hH : H = (hi : Int)) (w : World) :
    (Instr.slice 22 (.slice A k cap) (some (.int .i64 L)) (some (.int .i64 H)) none).run Tryd.prog w = .ok (.slice (if cap = lo then A else A.map (·.add lo)) (hi - lo) (cap - lo)) w := by
  subst hL hH
  obtain ⟨i0, hi0, hz0, hz1, hz2⟩ := info_parts byteInfo
  simp [Instr.slice, run_underlying Tryd.underlying22, Instr.sliceBounds, run_sliceBound, sizeOf, typeInfo, hi0, hz1, h1, h2]
/-- The number of bits that a key's bytes say. -/
def bitsOf (l : List Nat) : Nat := vbe (l.take 4)
def BitsOk (b : Nat) : Prop := 512 ≤ b ∧ b ≤ 4096 ∧ b % 512 = 0
/-- The modulus within a key's bytes. -/
def modOf (l : List Nat) (k : Nat) : List Nat := (l.drop 8).take k
/-- What isn't right of a key's bytes: the document's first error. -/
inductive BadParse (l : List Nat) : Int → Prop
  | short : l.length < 8 → BadParse l 10
  | bits : 8 ≤ l.length → ¬ BitsOk (bitsOf l) → BadParse l 21
  | lack (k : Nat) : 8 ≤ l.length → BitsOk (bitsOf l) → bitsOf l = 8 * k → l.length < 8 + 2 * k → BadParse l 10
  | over (k : Nat) : 8 ≤ l.length → BitsOk (bitsOf l) → bitsOf l = 8 * k → 8 + 2 * k < l.length → BadParse l 12
  | form (k : Nat) : BitsOk (bitsOf l) → bitsOf l = 8 * k → l.length = 8 + 2 * k → ¬ Modul k (modOf l k) → BadParse l 22
  | key (k : Nat) : BitsOk (bitsOf l) → bitsOf l = 8 * k → l.length = 8 + 2 * k → Modul k (modOf l k) → keyBytes k (vbe (modOf l k)) ≠ l → BadParse l 22
structure GoodParse (l : List Nat) (k : Nat) : Prop where
  ok : BitsOk (bitsOf l)
  bits : bitsOf l = 8 * k
  len : l.length = 8 + 2 * k
  modul : Modul k (modOf l k)
  same : keyBytes k (vbe (modOf l k)) = l
theorem parse_cases (l : List Nat) : (∃ er, BadParse l er) ∨ ∃ k, GoodParse l k := by
  by_cases h1 : l.length < 8
  · exact .inl ⟨_, .short h1⟩
  by_cases h2 : BitsOk (bitsOf l)
  · obtain ⟨k, hk⟩ : ∃ k, bitsOf l = 8 * k := ⟨bitsOf l / 8, by have := h2.2.2; omega⟩
    by_cases h3 : l.length < 8 + 2 * k
    · exact .inl ⟨_, .lack k (by omega) h2 hk h3⟩
    by_cases h4 : 8 + 2 * k < l.length
    · exact .inl ⟨_, .over k (by omega) h2 hk h4⟩
    by_cases h5 : Modul k (modOf l k)
    · by_cases h6 : keyBytes k (vbe (modOf l k)) = l
      · exact .inr ⟨k, h2, hk, by omega, h5, h6⟩
      · exact .inl ⟨_, .key k h2 hk (by omega) h5 h6⟩
    · exact .inl ⟨_, .form k h2 hk (by omega) h5⟩
  · exact .inl ⟨_, .bits (by omega) h2⟩
theorem BadParse.ne {l : List Nat} {er : Int} (h : BadParse l er) : er ≠ 0 := by cases h <;> omega
theorem Rd.mid {q : IntKind} {w : World} {A : Option Addr} {n : Nat} {l : List Nat} (h : Rd q w A n l) (k m cap : Nat) (hk : k + m ≤ n) (hc : n ≤ cap) : Rd q w (if cap = k then A else A.map (·.add k)) m ((l.drop k).take m) :=
  (h.drop k cap (by omega) hc).take m (by omega)

set_option maxHeartbeats 400000 in
theorem Parse_short (A : Option Addr) (n cap : Nat) (w : World) (hn : n < 8) :
    Calls Tryd.prog 19 #[.slice A n cap] w (NoKey w 10) := by
  go_enter Tryd.func19, Tryd.ntmps19
  go_wp2
  go_ret2
  exact ⟨rfl, below_self⟩
set_option maxHeartbeats 400000 in
theorem Parse_bits (A : Option Addr) (n cap : Nat) (l : List Nat) (w : World) (h : Rd .u8 w A n l) (hf : Fit 256 l) (hn : 8 ≤ n) (hn2 : n ≤ 10000) (hc : n ≤ cap) (hm : cap ≤ maxLen) (hb : ¬ BitsOk (bitsOf l)) :
    Calls Tryd.prog 19 #[.slice A n cap] w (NoKey w 21) := by
  have HR := Lib.hid h
  have HB := Lib.hid hb
  have hlt := take4_lt hf
  have q : ¬ (n : Int) < 8 := by omega
  clear h hb
  go_enter Tryd.func19, Tryd.ntmps19
  go_wp2_with fail
  refine (Get4_any A n cap l w HR.out hf hn hn2 hc hm).mono ?_
  rintro e w1 ⟨rfl, rfl⟩
  have HB2 : Hid (vbe (l.take 4) < 512 ∨ 4096 < vbe (l.take 4) ∨ vbe (l.take 4) % 512 ≠ 0) := by
    have := HB.out
    unfold BitsOk bitsOf at this
    show _ ∨ _
    omega
  clear HB
  generalize vbe (l.take 4) = b at *
  go_wp2_with fail
  refine (bitsRight_no _ _ (by omega) (by have := HB2.out; omega)).mono ?_
  rintro e w1 ⟨rfl, rfl⟩
  go_wp2
  go_ret2
  exact ⟨rfl, below_self⟩
set_option maxHeartbeats 800000 in
theorem Parse_len (A : Option Addr) (n cap : Nat) (l : List Nat) (k : Nat) (er : Int) (w : World) (h : Rd .u8 w A n l) (hf : Fit 256 l) (hn : 8 ≤ n) (hn2 : n ≤ 10000) (hc : n ≤ cap) (hm : cap ≤ maxLen) (hb : BitsOk (bitsOf l)) (hk : bitsOf l = 8 * k) (hl : n < 8 + 2 * k ∧ er = 10 ∨ 8 + 2 * k < n ∧ er = 12) :
    Calls Tryd.prog 19 #[.slice A n cap] w (NoKey w er) := by
  have HR := Lib.hid h
  have q : ¬ (n : Int) < 8 := by omega
  have hv : vbe (l.take 4) = 8 * k := hk
  have b1 : 64 ≤ k := by have := hb.1; omega
  have b2 : k ≤ 512 := by have := hb.2.1; omega
  have HB3 : Hid (8 * k % 512 = 0) := by have := hb.2.2; rw [hk] at this; exact this
  have HV := Lib.hid hv
  clear h hb hk hv
  have HL := Lib.hid hl
  clear hl
  rcases HL.out with ⟨h1, rfl⟩ | ⟨h1, rfl⟩
  · have q1 : (n : Int) < 8 + 2 * k := by omega
    have q2 : (8 * (k : Int)) / 8 = k := by omega
    go_enter Tryd.func19, Tryd.ntmps19
    go_wp2_with fail
    refine (Get4_any A n cap l w HR.out hf hn hn2 hc hm).mono ?_
    rintro e w1 ⟨rfl, rfl⟩
    rw [HV.out, show ((8 * k : Nat) : Int) = 8 * (k : Int) by omega]
    go_wp2_with fail
    refine (bitsRight_yes _ _ (by omega) (by omega) (by have := HB3.out; omega)).mono ?_
    rintro e w1 ⟨rfl, rfl⟩
    go_wp2
    go_ret2
    exact ⟨rfl, below_self⟩
  · have q1 : ¬ (n : Int) < 8 + 2 * k := by omega
    have q3 : 8 + 2 * (k : Int) < n := by omega
    have q2 : (8 * (k : Int)) / 8 = k := by omega
    go_enter Tryd.func19, Tryd.ntmps19
    go_wp2_with fail
    refine (Get4_any A n cap l w HR.out hf hn hn2 hc hm).mono ?_
    rintro e w1 ⟨rfl, rfl⟩
    rw [HV.out, show ((8 * k : Nat) : Int) = 8 * (k : Int) by omega]
    go_wp2_with fail
    refine (bitsRight_yes _ _ (by omega) (by omega) (by have := HB3.out; omega)).mono ?_
    rintro e w1 ⟨rfl, rfl⟩
    go_wp2
    go_ret2
    exact ⟨rfl, below_self⟩
set_option maxHeartbeats 800000 in
theorem Parse_form (A : Option Addr) (n cap : Nat) (l : List Nat) (k : Nat) (w : World) (h : Rd .u8 w A n l) (hf : Fit 256 l) (hn2 : n ≤ 10000) (hc : n ≤ cap) (hm : cap ≤ maxLen) (hb : BitsOk (bitsOf l)) (hk : bitsOf l = 8 * k) (hl : n = 8 + 2 * k) (hM : ¬ Modul k (modOf l k)) :
    Calls Tryd.prog 19 #[.slice A n cap] w (NoKey w 22) := by
  have HR := Lib.hid h
  have hv : vbe (l.take 4) = 8 * k := hk
  have b1 : 64 ≤ k := by have := hb.1; omega
  have b2 : k ≤ 512 := by have := hb.2.1; omega
  have HB3 : Hid (8 * k % 512 = 0) := by have := hb.2.2; rw [hk] at this; exact this
  have q : ¬ (n : Int) < 8 := by omega
  have q1 : ¬ (n : Int) < 8 + 2 * k := by omega
  have q3 : ¬ 8 + 2 * (k : Int) < n := by omega
  have q2 : (8 * (k : Int)) / 8 = k := by omega
  have hcut := run_mid8 A n cap 8 (8 + k) (by omega) (by omega) 8 (8 + (k : Int)) rfl (by omega) w
  have hmid := h.mid 8 k cap (by omega) hc
  rw [show 8 + k - 8 = k by omega] at hcut
  obtain ⟨a, z, ha, hz, hbad⟩ : ∃ a z, (modOf l k)[0]? = some a ∧ (modOf l k)[k - 1]? = some z ∧ (a < 128 ∨ z % 2 = 0) := by
    have hml : (modOf l k).length = k := hmid.1
    obtain ⟨a, ha⟩ := get_some (l := modOf l k) (i := 0) (by omega)
    obtain ⟨z, hz⟩ := get_some (l := modOf l k) (i := k - 1) (by omega)
    refine ⟨a, z, ha, hz, ?_⟩
    by_cases h1 : a < 128
    · exact .inl h1
    · by_cases h2 : z % 2 = 0
      · exact .inr h2
      · exact absurd ⟨b1, b2, by have := HB3.out; omega, a, z, ha, hz, by omega, by omega⟩ hM
  have HMID : Hid (Rd .u8 w (if cap = 8 then A else A.map (·.add 8)) k (modOf l k)) := hmid
  generalize (if cap = 8 then A else A.map (·.add 8)) = A2 at *
  have HV := Lib.hid hv
  have HA := Lib.hid ha
  have HZ := Lib.hid hz
  have HBAD := Lib.hid hbad
  have HFM : Hid (Fit 256 (modOf l k)) := fun x hx => hf x (List.mem_of_mem_drop (List.mem_of_mem_take hx))
  have HN := Lib.hid hl
  have hn : 8 ≤ n := by omega
  clear h hb hk hv hmid ha hz hbad hM hl
  go_enter Tryd.func19, Tryd.ntmps19
  go_wp2_with fail
  refine (Get4_any A n cap l w HR.out hf hn hn2 hc hm).mono ?_
  rintro e w1 ⟨rfl, rfl⟩
  rw [HV.out, show ((8 * k : Nat) : Int) = 8 * (k : Int) by omega]
  go_wp2_with fail
  refine (bitsRight_yes _ _ (by omega) (by omega) (by have := HB3.out; omega)).mono ?_
  rintro e w1 ⟨rfl, rfl⟩
  go_wp2_with fail
  refine (Make_form A2 k (cap - 8) (modOf l k) w HMID.out HFM.out ⟨b1, b2, by have := HB3.out; omega⟩ a z HA.out HZ.out HBAD.out).mono ?_
  rintro e w1 ⟨rfl, hb1⟩
  go_wp2
  go_ret2
  exact ⟨rfl, hb1⟩
/-- The last part: the bytes are held against the key's own. -/
def GivesKeyOr (w : World) (l : List Nat) (k N : Nat) (e : Ending) (w' : World) : Prop := (keyBytes k N = l → GivesKey w k N e w') ∧ (keyBytes k N ≠ l → NoKey w 22 e w')
set_option maxHeartbeats 1600000 in
theorem Parse_key (A : Option Addr) (n cap : Nat) (l : List Nat) (k : Nat) (w : World) (h : Rd .u8 w A n l) (hf : Fit 256 l) (hn2 : n ≤ 10000) (hc : n ≤ cap) (hm : cap ≤ maxLen) (hb : BitsOk (bitsOf l)) (hk : bitsOf l = 8 * k) (hl : n = 8 + 2 * k) (hM : Modul k (modOf l k)) :
    Calls Tryd.prog 19 #[.slice A n cap] w (GivesKeyOr w l k (vbe (modOf l k))) := by
  have HR := Lib.hid h
  have hv : vbe (l.take 4) = 8 * k := hk
  have b1 : 64 ≤ k := by have := hb.1; omega
  have b2 : k ≤ 512 := by have := hb.2.1; omega
  have HB3 : Hid (8 * k % 512 = 0) := by have := hb.2.2; rw [hk] at this; exact this
  have q : ¬ (n : Int) < 8 := by omega
  have q1 : ¬ (n : Int) < 8 + 2 * k := by omega
  have q3 : ¬ 8 + 2 * (k : Int) < n := by omega
  have q2 : (8 * (k : Int)) / 8 = k := by omega
  have hcut := run_mid8 A n cap 8 (8 + k) (by omega) (by omega) 8 (8 + (k : Int)) rfl (by omega) w
  have hmid := h.mid 8 k cap (by omega) hc
  rw [show 8 + k - 8 = k by omega] at hcut
  have HMID : Hid (Rd .u8 w (if cap = 8 then A else A.map (·.add 8)) k (modOf l k)) := hmid
  generalize (if cap = 8 then A else A.map (·.add 8)) = A2 at *
  have HV := Lib.hid hv
  have HFM : Hid (Fit 256 (modOf l k)) := fun x hx => hf x (List.mem_of_mem_drop (List.mem_of_mem_take hx))
  have HN := Lib.hid hl
  have HM := Lib.hid hM
  have hn : 8 ≤ n := by omega
  have hck : k ≤ cap - 8 := by omega
  have hcm2 : cap - 8 ≤ maxLen := by omega
  clear h hb hk hv hmid hM hl
  go_enter Tryd.func19, Tryd.ntmps19
  go_wp2_with fail
  refine (Get4_any A n cap l w HR.out hf hn hn2 hc hm).mono ?_
  rintro e w1 ⟨rfl, rfl⟩
  rw [HV.out, show ((8 * k : Nat) : Int) = 8 * (k : Int) by omega]
  go_wp2_with fail
  refine (bitsRight_yes _ _ (by omega) (by omega) (by have := HB3.out; omega)).mono ?_
  rintro e w1 ⟨rfl, rfl⟩
  go_wp2_with fail
  refine (Make_ok A2 k (cap - 8) (modOf l k) w HMID.out HFM.out hck hcm2 HM.out).mono ?_
  rintro e w1 ⟨g, gm, rfl, ⟨ck, gr, hK⟩, hgm, hb1⟩
  have HK := Lib.hid hK
  clear hK
  go_wp2_with fail
  refine (KBytes_any g k _ gm ck gr w1 HK.out n HN.out).mono ?_
  rintro e w2 ⟨g2, c2, rfl, hg2, hrow2, hb2⟩
  have HR2 := Lib.hid hrow2.rd
  have bel2 := below_then hb1 hb2
  clear hrow2 hg2
  go_wp2_with fail
  refine (Equal_any _ A n c2 n cap _ l w2 HR2.out (HR.out.below bel2) (keyBytes_fit _ _) hf).mono ?_
  rintro e w3 ⟨rfl, rfl⟩
  by_cases hq : keyBytes k (vbe (modOf l k)) = l
  · rw [decide_eq_true hq]
    have HQ := Lib.hid hq
    clear hq
    go_wp2
    go_ret2
    exact ⟨fun _ => ⟨g, gm, rfl, ⟨ck, gr, HK.out.below hb2⟩, hgm, bel2⟩, fun h => absurd HQ.out h⟩
  · rw [decide_eq_false hq]
    have HQ := Lib.hid hq
    clear hq
    go_wp2
    go_ret2
    exact ⟨fun h => absurd h HQ.out, fun _ => ⟨rfl, bel2⟩⟩
theorem Parse_bad (A : Option Addr) (n cap : Nat) (l : List Nat) (er : Int) (w : World) (h : Rd .u8 w A n l) (hf : Fit 256 l) (hn2 : n ≤ 10000) (hc : n ≤ cap) (hm : cap ≤ maxLen) (hB : BadParse l er) :
    Calls Tryd.prog 19 #[.slice A n cap] w (NoKey w er) := by
  have hl := h.1
  cases hB with
  | short h1 => exact Parse_short A n cap w (by omega)
  | bits h1 h2 => exact Parse_bits A n cap l w h hf (by omega) hn2 hc hm h2
  | lack k h1 h2 h3 h4 => exact Parse_len A n cap l k _ w h hf (by omega) hn2 hc hm h2 h3 (.inl ⟨by omega, rfl⟩)
  | over k h1 h2 h3 h4 => exact Parse_len A n cap l k _ w h hf (by omega) hn2 hc hm h2 h3 (.inr ⟨by omega, rfl⟩)
  | form k h1 h2 h3 h4 => exact Parse_form A n cap l k w h hf hn2 hc hm h1 h2 (by omega) h4
  | key k h1 h2 h3 h4 h5 => exact (Parse_key A n cap l k w h hf hn2 hc hm h1 h2 (by omega) h4).mono fun e w' he => he.2 h5
theorem Parse_good (A : Option Addr) (n cap : Nat) (l : List Nat) (k : Nat) (w : World) (h : Rd .u8 w A n l) (hf : Fit 256 l) (hn2 : n ≤ 10000) (hc : n ≤ cap) (hm : cap ≤ maxLen) (hG : GoodParse l k) :
    Calls Tryd.prog 19 #[.slice A n cap] w (GivesKey w k (vbe (modOf l k))) :=
  (Parse_key A n cap l k w h hf hn2 hc hm hG.ok hG.bits (by have := hG.len; have := h.1; omega) hG.modul).mono fun e w' he => he.1 hG.same
end Go.Proofs.YtojpbfkdkkdpcaaDoor
