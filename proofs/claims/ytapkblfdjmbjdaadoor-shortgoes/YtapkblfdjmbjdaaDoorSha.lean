/-
  The sum of the short digest as plain mathematics: words, blocks, the state, the padding, and how a text that comes in pieces is taken block by block. No condition.
-/
import Derived.Lib.Hide
namespace Go.Proofs.YtapkblfdjmbjdaaDoor
set_option linter.unusedVariables false

abbrev W32 := BitVec 32
def rotr (x : W32) (n : Nat) : W32 := (x >>> n) ||| (x <<< (32 - n))
def bs1 (e : W32) : W32 := rotr e 6 ^^^ rotr e 11 ^^^ rotr e 25
def bs0 (a : W32) : W32 := rotr a 2 ^^^ rotr a 13 ^^^ rotr a 22
def ss0 (x : W32) : W32 := rotr x 7 ^^^ rotr x 18 ^^^ (x >>> 3)
def ss1 (x : W32) : W32 := rotr x 17 ^^^ rotr x 19 ^^^ (x >>> 10)
def chs (e f g : W32) : W32 := (e &&& f) ^^^ (~~~e &&& g)
def maj (a b c : W32) : W32 := (a &&& b) ^^^ (a &&& c) ^^^ (b &&& c)

/-- The eight words of a state. -/
structure S8 where
  a : W32
  b : W32
  c : W32
  d : W32
  e : W32
  f : W32
  g : W32
  h : W32
def S8.list (s : S8) : List W32 := [s.a, s.b, s.c, s.d, s.e, s.f, s.g, s.h]
def S8.add (s t : S8) : S8 := ⟨s.a + t.a, s.b + t.b, s.c + t.c, s.d + t.d, s.e + t.e, s.f + t.f, s.g + t.g, s.h + t.h⟩
def tOf (s : S8) (k w : W32) : W32 := s.h + bs1 s.e + chs s.e s.f s.g + k + w
def uOf (s : S8) : W32 := bs0 s.a + maj s.a s.b s.c
def rnd (s : S8) (k w : W32) : S8 := ⟨tOf s k w + uOf s, s.a, s.b, s.c, s.d + tOf s k w, s.e, s.f, s.g⟩

def kNats : List Nat := [1116352408, 1899447441, 3049323471, 3921009573, 961987163, 1508970993, 2453635748, 2870763221, 3624381080, 310598401, 607225278, 1426881987, 1925078388, 2162078206, 2614888103, 3248222580, 3835390401, 4022224774, 264347078, 604807628, 770255983, 1249150122, 1555081692, 1996064986, 2554220882, 2821834349, 2952996808, 3210313671, 3336571891, 3584528711, 113926993, 338241895, 666307205, 773529912, 1294757372, 1396182291, 1695183700, 1986661051, 2177026350, 2456956037, 2730485921, 2820302411, 3259730800, 3345764771, 3516065817, 3600352804, 4094571909, 275423344, 430227734, 506948616, 659060556, 883997877, 958139571, 1322822218, 1537002063, 1747873779, 1955562222, 2024104815, 2227730452, 2361852424, 2428436474, 2756734187, 3204031479, 3329325298]
def kTab : List W32 := kNats.map (BitVec.ofNat 32)
def rnds (s : S8) (ws : List W32) : Nat → S8
  | 0 => s
  | n + 1 => rnd (rnds s ws n) (kTab.getD n 0) (ws.getD n 0)

def nextW (l : List W32) : W32 := l.getD (l.length - 16) 0 + ss0 (l.getD (l.length - 15) 0) + l.getD (l.length - 7) 0 + ss1 (l.getD (l.length - 2) 0)
def spread (l : List W32) : Nat → List W32
  | 0 => l
  | k + 1 => spread l k ++ [nextW (spread l k)]
theorem spread_length (l : List W32) (k : Nat) : (spread l k).length = l.length + k := by
  induction k with
  | zero => rfl
  | succ k ih => simp [spread, ih]; omega

def w8 (b : UInt8) : W32 := BitVec.ofNat 32 b.toNat
/-- The word of n bytes from place s on, the highest first. -/
def pw (bs : List UInt8) (s : Nat) : Nat → W32
  | 0 => 0
  | n + 1 => (pw bs s n <<< 8) ||| w8 (bs.getD (s + n) 0)
def words16 (bs : List UInt8) : List W32 := (List.range 16).map fun j => pw bs (4 * j) 4
def allWords (bs : List UInt8) : List W32 := spread (words16 bs) 48
theorem words16_length (bs : List UInt8) : (words16 bs).length = 16 := by simp [words16]
theorem allWords_length (bs : List UInt8) : (allWords bs).length = 64 := by simp [allWords, spread_length, words16_length]

def compress (s : S8) (bs : List UInt8) : S8 := s.add (rnds s (allWords bs) 64)
/-- The state behind the first n blocks of a text. -/
def iter (s : S8) (m : List UInt8) : Nat → S8
  | 0 => s
  | n + 1 => compress (iter s m n) ((m.drop (64 * n)).take 64)
def init8 : S8 := ⟨BitVec.ofNat 32 1779033703, BitVec.ofNat 32 3144134277, BitVec.ofNat 32 1013904242, BitVec.ofNat 32 2773480762, BitVec.ofNat 32 1359893119, BitVec.ofNat 32 2600822924, BitVec.ofNat 32 528734635, BitVec.ofNat 32 1541459225⟩

def be64 (n : Nat) : List UInt8 := (List.range 8).map fun i => UInt8.ofNat (n / 2 ^ (8 * (7 - i)))
def noughts (n : Nat) : Nat := (119 - n % 64) % 64
def padOf (n : Nat) : List UInt8 := 128 :: (List.replicate (noughts n) 0 ++ be64 (8 * n))
def outB (w : W32) : List UInt8 := [UInt8.ofNat (w >>> 24).toNat, UInt8.ofNat (w >>> 16).toNat, UInt8.ofNat (w >>> 8).toNat, UInt8.ofNat (w >>> 0).toNat]
def S8.out (s : S8) : List UInt8 := s.list.flatMap outB
def padded (m : List UInt8) : List UInt8 := m ++ padOf m.length
def sha (m : List UInt8) : List UInt8 := (iter init8 (padded m) ((padded m).length / 64)).out

theorem outB_length (w : W32) : (outB w).length = 4 := rfl
theorem out_length (s : S8) : s.out.length = 32 := rfl
theorem sha_length (m : List UInt8) : (sha m).length = 32 := rfl
theorem be64_length (n : Nat) : (be64 n).length = 8 := by simp [be64]
theorem padOf_length (n : Nat) : (padOf n).length = 9 + noughts n := by simp [padOf, be64_length]; omega
theorem noughts_lt (n : Nat) : noughts n < 64 := by unfold noughts; omega
theorem padded_mod (m : List UInt8) : (padded m).length % 64 = 0 := by
  simp [padded, padOf_length, noughts]; omega

theorem iter_congr (s : S8) (m m' : List UInt8) (n : Nat) (h : m.take (64 * n) = m'.take (64 * n)) : iter s m n = iter s m' n := by
  induction n with
  | zero => rfl
  | succ n ih =>
    have h1 : m.take (64 * n) = m'.take (64 * n) := by
      have := congrArg (List.take (64 * n)) h
      rwa [List.take_take, List.take_take, Nat.min_eq_left (by omega)] at this
    have h2 : (m.drop (64 * n)).take 64 = (m'.drop (64 * n)).take 64 := by
      have := congrArg (List.drop (64 * n)) h
      rw [List.drop_take, List.drop_take] at this
      rwa [show 64 * (n + 1) - 64 * n = 64 by omega] at this
    simp only [iter, ih h1, h2]
theorem iter_append (s : S8) (m l : List UInt8) (n : Nat) (h : 64 * n ≤ m.length) : iter s (m ++ l) n = iter s m n :=
  iter_congr s _ _ n (by rw [List.take_append_of_le_length h])

/-- What a sum under way holds of the text m: the state behind its whole blocks, and the bytes behind them at the head of rest. -/
def Took (m : List UInt8) (st : S8) (rest : List UInt8) : Prop :=
  st = iter init8 m (m.length / 64) ∧ rest.length = 64 ∧ rest.take (m.length % 64) = m.drop (64 * (m.length / 64))
theorem Took.nil : Took [] init8 (List.replicate 64 0) := ⟨rfl, rfl, rfl⟩

/-- c bytes laid over L from place k on. -/
def over (L : List UInt8) (k : Nat) (c : List UInt8) : List UInt8 := L.take k ++ (c ++ L.drop (k + c.length))
theorem over_length (L : List UInt8) (k : Nat) (c : List UInt8) (h : k + c.length ≤ L.length) : (over L k c).length = L.length := by simp [over]; omega
theorem over_take (L : List UInt8) (k : Nat) (c : List UInt8) (h : k + c.length ≤ L.length) : (over L k c).take (k + c.length) = L.take k ++ c := by
  unfold over
  rw [← List.append_assoc, List.take_append_of_le_length (by simp; omega)]
  exact List.take_of_length_le (by simp; omega)

/-- A piece that does not fill the block. -/
theorem Took.some {m : List UInt8} {st : S8} {rest : List UInt8} (h : Took m st rest) (c : List UInt8) (hc : m.length % 64 + c.length < 64) : Took (m ++ c) st (over rest (m.length % 64) c) := by
  obtain ⟨h1, h2, h3⟩ := h
  have e1 : (m ++ c).length / 64 = m.length / 64 := by simp; omega
  have e2 : (m ++ c).length % 64 = m.length % 64 + c.length := by simp; omega
  refine ⟨?_, ?_, ?_⟩
  · rw [e1, iter_append _ _ _ _ (by omega)]; exact h1
  · rw [over_length _ _ _ (by omega)]; exact h2
  · rw [e1, e2, over_take _ _ _ (by omega), h3, List.drop_append_of_le_length (by omega)]
/-- A piece that just fills the block. -/
theorem Took.full {m : List UInt8} {st : S8} {rest : List UInt8} (h : Took m st rest) (c : List UInt8) (hc : m.length % 64 + c.length = 64) :
    Took (m ++ c) (compress st (over rest (m.length % 64) c)) (over rest (m.length % 64) c) := by
  obtain ⟨h1, h2, h3⟩ := h
  have e1 : (m ++ c).length / 64 = m.length / 64 + 1 := by simp; omega
  have e2 : (m ++ c).length % 64 = 0 := by simp; omega
  have hl : (over rest (m.length % 64) c).length = 64 := by rw [over_length _ _ _ (by omega)]; exact h2
  have ho : over rest (m.length % 64) c = m.drop (64 * (m.length / 64)) ++ c := by
    have := over_take rest (m.length % 64) c (by omega)
    rw [hc, List.take_of_length_le (by omega), h3] at this
    exact this
  refine ⟨?_, hl, ?_⟩
  · rw [e1, iter, iter_append _ _ _ _ (by omega), ← h1, List.drop_append_of_le_length (by omega), ← ho, List.take_of_length_le (by omega)]
  · rw [e1, e2, List.take_zero, List.drop_eq_nil_of_le (by simp; omega)]
theorem Took.end_ {m : List UInt8} {st : S8} {rest : List UInt8} (h : Took (padded m) st rest) : st.out = sha m := by
  rw [h.1]; rfl

/-- The words as the program packs them, byte by byte, into 64 cells. -/
def packs (bs : List UInt8) : Nat → List W32
  | 0 => List.replicate 64 0
  | i + 1 => (packs bs i).set (i / 4) (((packs bs i).getD (i / 4) 0 <<< 8) ||| w8 (bs.getD i 0))
theorem packs_eq (bs : List UInt8) (i : Nat) (h : i ≤ 64) : packs bs i = (List.range 64).map fun j => pw bs (4 * j) (min (i - 4 * j) 4) := by
  induction i with
  | zero =>
    simp only [packs]
    apply List.ext_getElem
    · simp
    · intro j h1 h2
      rw [List.getElem_replicate, List.getElem_map, show min (0 - 4 * (List.range 64)[j]) 4 = 0 by omega]
      rfl
  | succ i ih =>
    rw [packs, ih (by omega)]
    apply List.ext_getElem
    · simp
    · intro j h1 h2
      have hj : j < 64 := by simpa using h2
      rw [List.getElem_set]
      split
      · next e =>
        subst e
        have e4 : min (i + 1 - 4 * (i / 4)) 4 = min (i - 4 * (i / 4)) 4 + 1 := by omega
        have e5 : 4 * (i / 4) + min (i - 4 * (i / 4)) 4 = i := by omega
        simp only [List.getElem_map, List.getElem_range, e4, pw, e5]
        rw [List.getD_eq_getElem?_getD, List.getElem?_eq_getElem (by simp; omega)]
        simp
      · next e =>
        simp only [List.getElem_map, List.getElem_range]
        congr 1
        omega
theorem packs_all (bs : List UInt8) : packs bs 64 = words16 bs ++ List.replicate 48 0 := by
  rw [packs_eq bs 64 (by omega)]
  apply List.ext_getElem
  · simp [words16]
  · intro j h1 h2
    have hj : j < 64 := by simpa using h1
    rw [List.getElem_map, List.getElem_range, List.getElem_append]
    split
    · next hl =>
      have : j < 16 := by simpa [words16] using hl
      simp only [words16, List.getElem_map, List.getElem_range]
      congr 1
      omega
    · next hl =>
      have : ¬ j < 16 := by simpa [words16] using hl
      rw [List.getElem_replicate, show min (64 - 4 * j) 4 = 0 by omega]
      rfl
theorem packs_length (bs : List UInt8) (i : Nat) : (packs bs i).length = 64 := by
  induction i with
  | zero => simp [packs]
  | succ i ih => simp [packs, ih]
theorem mul_add_or (x : W32) (b : UInt8) : x * 256 + w8 b = (x <<< 8) ||| w8 b := by
  have hb := b.toNat_lt
  rw [show x * 256 = x <<< 8 by rw [BitVec.shiftLeft_eq_mul_twoPow]; rfl]
  apply BitVec.add_eq_or_of_and_eq_zero
  apply BitVec.eq_of_getLsbD_eq
  intro i hi
  simp only [BitVec.getLsbD_and, BitVec.getLsbD_shiftLeft, w8, BitVec.getLsbD_ofNat]
  by_cases h8 : i < 8
  · simp [h8]
  · have : b.toNat.testBit i = false := Nat.testBit_lt_two_pow (Nat.lt_of_lt_of_le hb (Nat.pow_le_pow_right (by omega) (show 8 ≤ i by omega)))
    simp [this]
end Go.Proofs.YtapkblfdjmbjdaaDoor
