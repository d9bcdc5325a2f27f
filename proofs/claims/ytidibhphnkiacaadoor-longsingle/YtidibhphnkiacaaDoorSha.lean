/-
  The sum of the long digest as plain mathematics: words, blocks, the state, the padding, and how a text that comes in pieces is taken block by block. No condition.
-/
import Derived.Lib.Hide
namespace Go.Proofs.YtidibhphnkiacaaDoor
set_option linter.unusedVariables false

abbrev W64 := BitVec 64
def rotr (x : W64) (n : Nat) : W64 := (x >>> n) ||| (x <<< (64 - n))
def bs1 (e : W64) : W64 := rotr e 14 ^^^ rotr e 18 ^^^ rotr e 41
def bs0 (a : W64) : W64 := rotr a 28 ^^^ rotr a 34 ^^^ rotr a 39
def ss0 (x : W64) : W64 := rotr x 1 ^^^ rotr x 8 ^^^ (x >>> 7)
def ss1 (x : W64) : W64 := rotr x 19 ^^^ rotr x 61 ^^^ (x >>> 6)
def chs (e f g : W64) : W64 := (e &&& f) ^^^ (~~~e &&& g)
def maj (a b c : W64) : W64 := (a &&& b) ^^^ (a &&& c) ^^^ (b &&& c)

/-- The eight words of a state. -/
structure S8 where
  a : W64
  b : W64
  c : W64
  d : W64
  e : W64
  f : W64
  g : W64
  h : W64
def S8.list (s : S8) : List W64 := [s.a, s.b, s.c, s.d, s.e, s.f, s.g, s.h]
def S8.add (s t : S8) : S8 := ⟨s.a + t.a, s.b + t.b, s.c + t.c, s.d + t.d, s.e + t.e, s.f + t.f, s.g + t.g, s.h + t.h⟩
def tOf (s : S8) (k w : W64) : W64 := s.h + bs1 s.e + chs s.e s.f s.g + k + w
def uOf (s : S8) : W64 := bs0 s.a + maj s.a s.b s.c
def rnd (s : S8) (k w : W64) : S8 := ⟨tOf s k w + uOf s, s.a, s.b, s.c, s.d + tOf s k w, s.e, s.f, s.g⟩

def kNats : List Nat := [4794697086780616226, 8158064640168781261, 13096744586834688815, 16840607885511220156, 4131703408338449720, 6480981068601479193, 10538285296894168987, 12329834152419229976, 15566598209576043074, 1334009975649890238, 2608012711638119052, 6128411473006802146, 8268148722764581231, 9286055187155687089, 11230858885718282805, 13951009754708518548, 16472876342353939154, 17275323862435702243, 1135362057144423861, 2597628984639134821, 3308224258029322869, 5365058923640841347, 6679025012923562964, 8573033837759648693, 10970295158949994411, 12119686244451234320, 12683024718118986047, 13788192230050041572, 14330467153632333762, 15395433587784984357, 489312712824947311, 1452737877330783856, 2861767655752347644, 3322285676063803686, 5560940570517711597, 5996557281743188959, 7280758554555802590, 8532644243296465576, 9350256976987008742, 10552545826968843579, 11727347734174303076, 12113106623233404929, 14000437183269869457, 14369950271660146224, 15101387698204529176, 15463397548674623760, 17586052441742319658, 1182934255886127544, 1847814050463011016, 2177327727835720531, 2830643537854262169, 3796741975233480872, 4115178125766777443, 5681478168544905931, 6601373596472566643, 7507060721942968483, 8399075790359081724, 8693463985226723168, 9568029438360202098, 10144078919501101548, 10430055236837252648, 11840083180663258601, 13761210420658862357, 14299343276471374635, 14566680578165727644, 15097957966210449927, 16922976911328602910, 17689382322260857208, 500013540394364858, 748580250866718886, 1242879168328830382, 1977374033974150939, 2944078676154940804, 3659926193048069267, 4368137639120453308, 4836135668995329356, 5532061633213252278, 6448918945643986474, 6902733635092675308, 7801388544844847127]
def kTab : List W64 := kNats.map (BitVec.ofNat 64)
def rnds (s : S8) (ws : List W64) : Nat → S8
  | 0 => s
  | n + 1 => rnd (rnds s ws n) (kTab.getD n 0) (ws.getD n 0)

def nextW (l : List W64) : W64 := l.getD (l.length - 16) 0 + ss0 (l.getD (l.length - 15) 0) + l.getD (l.length - 7) 0 + ss1 (l.getD (l.length - 2) 0)
def spread (l : List W64) : Nat → List W64
  | 0 => l
  | k + 1 => spread l k ++ [nextW (spread l k)]
theorem spread_length (l : List W64) (k : Nat) : (spread l k).length = l.length + k := by
  induction k with
  | zero => rfl
  | succ k ih => simp [spread, ih]; omega

def w8 (b : UInt8) : W64 := BitVec.ofNat 64 b.toNat
/-- The word of n bytes from place s on, the highest first. -/
def pw (bs : List UInt8) (s : Nat) : Nat → W64
  | 0 => 0
  | n + 1 => (pw bs s n <<< 8) ||| w8 (bs.getD (s + n) 0)
def words16 (bs : List UInt8) : List W64 := (List.range 16).map fun j => pw bs (8 * j) 8
def allWords (bs : List UInt8) : List W64 := spread (words16 bs) 64
theorem words16_length (bs : List UInt8) : (words16 bs).length = 16 := by simp [words16]
theorem allWords_length (bs : List UInt8) : (allWords bs).length = 80 := by simp [allWords, spread_length, words16_length]

def compress (s : S8) (bs : List UInt8) : S8 := s.add (rnds s (allWords bs) 80)
/-- The state behind the first n blocks of a text. -/
def iter (s : S8) (m : List UInt8) : Nat → S8
  | 0 => s
  | n + 1 => compress (iter s m n) ((m.drop (128 * n)).take 128)
def init8 : S8 := ⟨BitVec.ofNat 64 7640891576956012808, BitVec.ofNat 64 13503953896175478587, BitVec.ofNat 64 4354685564936845355, BitVec.ofNat 64 11912009170470909681, BitVec.ofNat 64 5840696475078001361, BitVec.ofNat 64 11170449401992604703, BitVec.ofNat 64 2270897969802886507, BitVec.ofNat 64 6620516959819538809⟩

def be64 (n : Nat) : List UInt8 := (List.range 8).map fun i => UInt8.ofNat (n / 2 ^ (8 * (7 - i)))
def noughts (n : Nat) : Nat := (239 - n % 128) % 128
def padOf (n : Nat) : List UInt8 := 128 :: (List.replicate (noughts n) 0 ++ (List.replicate 8 0 ++ be64 (8 * n)))
def outB (w : W64) : List UInt8 := [UInt8.ofNat (w >>> 56).toNat, UInt8.ofNat (w >>> 48).toNat, UInt8.ofNat (w >>> 40).toNat, UInt8.ofNat (w >>> 32).toNat, UInt8.ofNat (w >>> 24).toNat, UInt8.ofNat (w >>> 16).toNat, UInt8.ofNat (w >>> 8).toNat, UInt8.ofNat (w >>> 0).toNat]
def S8.out (s : S8) : List UInt8 := s.list.flatMap outB
def padded (m : List UInt8) : List UInt8 := m ++ padOf m.length
def sha (m : List UInt8) : List UInt8 := (iter init8 (padded m) ((padded m).length / 128)).out

theorem outB_length (w : W64) : (outB w).length = 8 := rfl
theorem out_length (s : S8) : s.out.length = 64 := rfl
theorem sha_length (m : List UInt8) : (sha m).length = 64 := rfl
theorem be64_length (n : Nat) : (be64 n).length = 8 := by simp [be64]
theorem padOf_length (n : Nat) : (padOf n).length = 17 + noughts n := by simp [padOf, be64_length]; omega
theorem noughts_lt (n : Nat) : noughts n < 128 := by unfold noughts; omega
theorem padded_mod (m : List UInt8) : (padded m).length % 128 = 0 := by
  simp [padded, padOf_length, noughts]; omega

theorem iter_congr (s : S8) (m m' : List UInt8) (n : Nat) (h : m.take (128 * n) = m'.take (128 * n)) : iter s m n = iter s m' n := by
  induction n with
  | zero => rfl
  | succ n ih =>
    have h1 : m.take (128 * n) = m'.take (128 * n) := by
      have := congrArg (List.take (128 * n)) h
      rwa [List.take_take, List.take_take, Nat.min_eq_left (by omega)] at this
    have h2 : (m.drop (128 * n)).take 128 = (m'.drop (128 * n)).take 128 := by
      have := congrArg (List.drop (128 * n)) h
      rw [List.drop_take, List.drop_take] at this
      rwa [show 128 * (n + 1) - 128 * n = 128 by omega] at this
    simp only [iter, ih h1, h2]
theorem iter_append (s : S8) (m l : List UInt8) (n : Nat) (h : 128 * n ≤ m.length) : iter s (m ++ l) n = iter s m n :=
  iter_congr s _ _ n (by rw [List.take_append_of_le_length h])

/-- What a sum under way holds of the text m: the state behind its whole blocks, and the bytes behind them at the head of rest. -/
def Took (m : List UInt8) (st : S8) (rest : List UInt8) : Prop :=
  st = iter init8 m (m.length / 128) ∧ rest.length = 128 ∧ rest.take (m.length % 128) = m.drop (128 * (m.length / 128))
theorem Took.nil : Took [] init8 (List.replicate 128 0) := ⟨rfl, rfl, rfl⟩

/-- c bytes laid over L from place k on. -/
def over (L : List UInt8) (k : Nat) (c : List UInt8) : List UInt8 := L.take k ++ (c ++ L.drop (k + c.length))
theorem over_length (L : List UInt8) (k : Nat) (c : List UInt8) (h : k + c.length ≤ L.length) : (over L k c).length = L.length := by simp [over]; omega
theorem over_take (L : List UInt8) (k : Nat) (c : List UInt8) (h : k + c.length ≤ L.length) : (over L k c).take (k + c.length) = L.take k ++ c := by
  unfold over
  rw [← List.append_assoc, List.take_append_of_le_length (by simp; omega)]
  exact List.take_of_length_le (by simp; omega)

/-- A piece that does not fill the block. -/
theorem Took.some {m : List UInt8} {st : S8} {rest : List UInt8} (h : Took m st rest) (c : List UInt8) (hc : m.length % 128 + c.length < 128) : Took (m ++ c) st (over rest (m.length % 128) c) := by
  obtain ⟨h1, h2, h3⟩ := h
  have e1 : (m ++ c).length / 128 = m.length / 128 := by simp; omega
  have e2 : (m ++ c).length % 128 = m.length % 128 + c.length := by simp; omega
  refine ⟨?_, ?_, ?_⟩
  · rw [e1, iter_append _ _ _ _ (by omega)]; exact h1
  · rw [over_length _ _ _ (by omega)]; exact h2
  · rw [e1, e2, over_take _ _ _ (by omega), h3, List.drop_append_of_le_length (by omega)]
/-- A piece that just fills the block. -/
theorem Took.full {m : List UInt8} {st : S8} {rest : List UInt8} (h : Took m st rest) (c : List UInt8) (hc : m.length % 128 + c.length = 128) :
    Took (m ++ c) (compress st (over rest (m.length % 128) c)) (over rest (m.length % 128) c) := by
  obtain ⟨h1, h2, h3⟩ := h
  have e1 : (m ++ c).length / 128 = m.length / 128 + 1 := by simp; omega
  have e2 : (m ++ c).length % 128 = 0 := by simp; omega
  have hl : (over rest (m.length % 128) c).length = 128 := by rw [over_length _ _ _ (by omega)]; exact h2
  have ho : over rest (m.length % 128) c = m.drop (128 * (m.length / 128)) ++ c := by
    have := over_take rest (m.length % 128) c (by omega)
    rw [hc, List.take_of_length_le (by omega), h3] at this
    exact this
  refine ⟨?_, hl, ?_⟩
  · rw [e1, iter, iter_append _ _ _ _ (by omega), ← h1, List.drop_append_of_le_length (by omega), ← ho, List.take_of_length_le (by omega)]
  · rw [e1, e2, List.take_zero, List.drop_eq_nil_of_le (by simp; omega)]
theorem Took.end_ {m : List UInt8} {st : S8} {rest : List UInt8} (h : Took (padded m) st rest) : st.out = sha m := by
  rw [h.1]; rfl

/-- The words as the program packs them, byte by byte, into 80 cells. -/
def packs (bs : List UInt8) : Nat → List W64
  | 0 => List.replicate 80 0
  | i + 1 => (packs bs i).set (i / 8) (((packs bs i).getD (i / 8) 0 <<< 8) ||| w8 (bs.getD i 0))
theorem packs_eq (bs : List UInt8) (i : Nat) (h : i ≤ 128) : packs bs i = (List.range 80).map fun j => pw bs (8 * j) (min (i - 8 * j) 8) := by
  induction i with
  | zero =>
    simp only [packs]
    apply List.ext_getElem
    · simp
    · intro j h1 h2
      rw [List.getElem_replicate, List.getElem_map, show min (0 - 8 * (List.range 80)[j]) 8 = 0 by omega]
      rfl
  | succ i ih =>
    rw [packs, ih (by omega)]
    apply List.ext_getElem
    · simp
    · intro j h1 h2
      have hj : j < 80 := by simpa using h2
      rw [List.getElem_set]
      split
      · next e =>
        subst e
        have e4 : min (i + 1 - 8 * (i / 8)) 8 = min (i - 8 * (i / 8)) 8 + 1 := by omega
        have e5 : 8 * (i / 8) + min (i - 8 * (i / 8)) 8 = i := by omega
        simp only [List.getElem_map, List.getElem_range, e4, pw, e5]
        rw [List.getD_eq_getElem?_getD, List.getElem?_eq_getElem (by simp; omega)]
        simp
      · next e =>
        simp only [List.getElem_map, List.getElem_range]
        congr 1
        omega
theorem packs_all (bs : List UInt8) : packs bs 128 = words16 bs ++ List.replicate 64 0 := by
  rw [packs_eq bs 128 (by omega)]
  apply List.ext_getElem
  · simp [words16]
  · intro j h1 h2
    have hj : j < 80 := by simpa using h1
    rw [List.getElem_map, List.getElem_range, List.getElem_append]
    split
    · next hl =>
      have : j < 16 := by simpa [words16] using hl
      simp only [words16, List.getElem_map, List.getElem_range]
      congr 1
      omega
    · next hl =>
      have : ¬ j < 16 := by simpa [words16] using hl
      rw [List.getElem_replicate, show min (128 - 8 * j) 8 = 0 by omega]
      rfl
theorem packs_length (bs : List UInt8) (i : Nat) : (packs bs i).length = 80 := by
  induction i with
  | zero => simp [packs]
  | succ i ih => simp [packs, ih]
theorem mul_add_or (x : W64) (b : UInt8) : x * 256 + w8 b = (x <<< 8) ||| w8 b := by
  have hb := b.toNat_lt
  rw [show x * 256 = x <<< 8 by rw [BitVec.shiftLeft_eq_mul_twoPow]; rfl]
  apply BitVec.add_eq_or_of_and_eq_zero
  apply BitVec.eq_of_getLsbD_eq
  intro i hi
  simp only [BitVec.getLsbD_and, BitVec.getLsbD_shiftLeft, w8, BitVec.getLsbD_ofNat]
  by_cases h8 : i < 8
  · simp [h8]
  · have : b.toNat.testBit i = false := Nat.testBit_lt_two_pow (Nat.lt_of_lt_of_le hb (Nat.pow_le_pow_right (by omega) (show 8 ≤ i by omega)))
    simp [this]
end Go.Proofs.YtidibhphnkiacaaDoor
