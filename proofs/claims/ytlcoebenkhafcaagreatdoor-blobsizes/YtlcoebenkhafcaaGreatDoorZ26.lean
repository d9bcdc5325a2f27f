/-
  The program's short sum: what New, Write, Sum and Of answer.
-/
import Derived.Lib.Hide
import Derived.Laws.BitsAllLaws
import Derived.Test.YtlcoebenkhafcaaGreatDoorProg
import Derived.KernelRfl
import Derived.WalkKit
import Derived.WalkSpells
import Derived.WalkLawsBesides
import Derived.Outline
import Derived.Deep.QuietTactic
import Derived.BigQuiet
import Derived.Laws.CopyOwn
import Derived.Laws.BytesArg
import Derived.Deep.MidRow
import Derived.Maps.AppendAt
import Derived.Deep.AppendLies
import Derived.OwnWalk
import Derived.WalkSmall
import Derived.StillTailTactics
import Derived.ScopeJumps
import Derived.WalkMore
namespace Go.Proofs.YtlcoebenkhafcaaGreatDoorSh
set_option linter.unusedVariables false
abbrev W32 := BitVec 32
def rotr (x : W32) (n : Nat) : W32 := (x >>> n) ||| (x <<< (32 - n))
def bs1 (e : W32) : W32 := rotr e 6 ^^^ rotr e 11 ^^^ rotr e 25
def bs0 (a : W32) : W32 := rotr a 2 ^^^ rotr a 13 ^^^ rotr a 22
def ss0 (x : W32) : W32 := rotr x 7 ^^^ rotr x 18 ^^^ (x >>> 3)
def ss1 (x : W32) : W32 := rotr x 17 ^^^ rotr x 19 ^^^ (x >>> 10)
def chs (e f g : W32) : W32 := (e &&& f) ^^^ (~~~e &&& g)
def maj (a b c : W32) : W32 := (a &&& b) ^^^ (a &&& c) ^^^ (b &&& c)
structure S8 where
  a : W32
  b : W32
  c : W32
  d : W32
  e : W32
  f : W32
  g : W32
  h : W32
def S8.list (s : S8) : List W32 := [s.a, s.b, s.c, s.d, s.e, s.f, s.g, s.h]
def S8.add (s t : S8) : S8 := ⟨s.a + t.a, s.b + t.b, s.c + t.c, s.d + t.d, s.e + t.e, s.f + t.f, s.g + t.g, s.h + t.h⟩
def tOf (s : S8) (k w : W32) : W32 := s.h + bs1 s.e + chs s.e s.f s.g + k + w
def uOf (s : S8) : W32 := bs0 s.a + maj s.a s.b s.c
def rnd (s : S8) (k w : W32) : S8 := ⟨tOf s k w + uOf s, s.a, s.b, s.c, s.d + tOf s k w, s.e, s.f, s.g⟩
def kNats : List Nat := [1116352408, 1899447441, 3049323471, 3921009573, 961987163, 1508970993, 2453635748, 2870763221, 3624381080, 310598401, 607225278, 1426881987, 1925078388, 2162078206, 2614888103, 3248222580, 3835390401, 4022224774, 264347078, 604807628, 770255983, 1249150122, 1555081692, 1996064986, 2554220882, 2821834349, 2952996808, 3210313671, 3336571891, 3584528711, 113926993, 338241895, 666307205, 773529912, 1294757372, 1396182291, 1695183700, 1986661051, 2177026350, 2456956037, 2730485921, 2820302411, 3259730800, 3345764771, 3516065817, 3600352804, 4094571909, 275423344, 430227734, 506948616, 659060556, 883997877, 958139571, 1322822218, 1537002063, 1747873779, 1955562222, 2024104815, 2227730452, 2361852424, 2428436474, 2756734187, 3204031479, 3329325298]
def kTab : List W32 := kNats.map (BitVec.ofNat 32)
def rnds (s : S8) (ws : List W32) : Nat → S8
  | 0 => s
  | n + 1 => rnd (rnds s ws n) (kTab.getD n 0) (ws.getD n 0)
def nextW (l : List W32) : W32 := l.getD (l.length - 16) 0 + ss0 (l.getD (l.length - 15) 0) + l.getD (l.length - 7) 0 + ss1 (l.getD (l.length - 2) 0)
def spread (l : List W32) : Nat → List W32
  | 0 => l
  | k + 1 => spread l k ++ [nextW (spread l k)]
theorem spread_length (l : List W32) (k : Nat) : (spread l k).length = l.length + k := by
  induction k with
  | zero => rfl
  | succ k ih => simp [spread, ih]; omega
def w8 (b : UInt8) : W32 := BitVec.ofNat 32 b.toNat
def pw (bs : List UInt8) (s : Nat) : Nat → W32
  | 0 => 0
  | n + 1 => (pw bs s n <<< 8) ||| w8 (bs.getD (s + n) 0)
def words16 (bs : List UInt8) : List W32 := (List.range 16).map fun j => pw bs (4 * j) 4
def allWords (bs : List UInt8) : List W32 := spread (words16 bs) 48
theorem words16_length (bs : List UInt8) : (words16 bs).length = 16 := by simp [words16]
theorem allWords_length (bs : List UInt8) : (allWords bs).length = 64 := by simp [allWords, spread_length, words16_length]
def compress (s : S8) (bs : List UInt8) : S8 := s.add (rnds s (allWords bs) 64)
def iter (s : S8) (m : List UInt8) : Nat → S8
  | 0 => s
  | n + 1 => compress (iter s m n) ((m.drop (64 * n)).take 64)
def init8 : S8 := ⟨BitVec.ofNat 32 1779033703, BitVec.ofNat 32 3144134277, BitVec.ofNat 32 1013904242, BitVec.ofNat 32 2773480762, BitVec.ofNat 32 1359893119, BitVec.ofNat 32 2600822924, BitVec.ofNat 32 528734635, BitVec.ofNat 32 1541459225⟩
def be64 (n : Nat) : List UInt8 := (List.range 8).map fun i => UInt8.ofNat (n / 2 ^ (8 * (7 - i)))
def noughts (n : Nat) : Nat := (119 - n % 64) % 64
def padOf (n : Nat) : List UInt8 := 128 :: (List.replicate (noughts n) 0 ++ be64 (8 * n))
def outB (w : W32) : List UInt8 := [UInt8.ofNat (w >>> 24).toNat, UInt8.ofNat (w >>> 16).toNat, UInt8.ofNat (w >>> 8).toNat, UInt8.ofNat (w >>> 0).toNat]
def S8.out (s : S8) : List UInt8 := s.list.flatMap outB
def padded (m : List UInt8) : List UInt8 := m ++ padOf m.length
def sha (m : List UInt8) : List UInt8 := (iter init8 (padded m) ((padded m).length / 64)).out
theorem outB_length (w : W32) : (outB w).length = 4 := rfl
theorem out_length (s : S8) : s.out.length = 32 := rfl
theorem sha_length (m : List UInt8) : (sha m).length = 32 := rfl
theorem be64_length (n : Nat) : (be64 n).length = 8 := by simp [be64]
theorem padOf_length (n : Nat) : (padOf n).length = 9 + noughts n := by simp [padOf, be64_length]; omega
theorem noughts_lt (n : Nat) : noughts n < 64 := by unfold noughts; omega
theorem iter_congr (s : S8) (m m' : List UInt8) (n : Nat) (h : m.take (64 * n) = m'.take (64 * n)) : iter s m n = iter s m' n := by
  induction n with
  | zero => rfl
  | succ n ih =>
    have h1 : m.take (64 * n) = m'.take (64 * n) := by
      have := congrArg (List.take (64 * n)) h
      rwa [List.take_take, List.take_take, Nat.min_eq_left (by omega)] at this
    have h2 : (m.drop (64 * n)).take 64 = (m'.drop (64 * n)).take 64 := by
      have := congrArg (List.drop (64 * n)) h
      rw [List.drop_take, List.drop_take] at this
      rwa [show 64 * (n + 1) - 64 * n = 64 by omega] at this
    simp only [iter, ih h1, h2]
theorem iter_append (s : S8) (m l : List UInt8) (n : Nat) (h : 64 * n ≤ m.length) : iter s (m ++ l) n = iter s m n :=
  iter_congr s _ _ n (by rw [List.take_append_of_le_length h])
def Took (m : List UInt8) (st : S8) (rest : List UInt8) : Prop :=
  st = iter init8 m (m.length / 64) ∧ rest.length = 64 ∧ rest.take (m.length % 64) = m.drop (64 * (m.length / 64))
theorem Took.nil : Took [] init8 (List.replicate 64 0) := ⟨rfl, rfl, rfl⟩
def over (L : List UInt8) (k : Nat) (c : List UInt8) : List UInt8 := L.take k ++ (c ++ L.drop (k + c.length))
theorem over_length (L : List UInt8) (k : Nat) (c : List UInt8) (h : k + c.length ≤ L.length) : (over L k c).length = L.length := by simp [over]; omega
theorem over_take (L : List UInt8) (k : Nat) (c : List UInt8) (h : k + c.length ≤ L.length) : (over L k c).take (k + c.length) = L.take k ++ c := by
  unfold over
  rw [← List.append_assoc, List.take_append_of_le_length (by simp; omega)]
  exact List.take_of_length_le (by simp; omega)
theorem Took.some {m : List UInt8} {st : S8} {rest : List UInt8} (h : Took m st rest) (c : List UInt8) (hc : m.length % 64 + c.length < 64) : Took (m ++ c) st (over rest (m.length % 64) c) := by
  obtain ⟨h1, h2, h3⟩ := h
  have e1 : (m ++ c).length / 64 = m.length / 64 := by simp; omega
  have e2 : (m ++ c).length % 64 = m.length % 64 + c.length := by simp; omega
  refine ⟨?_, ?_, ?_⟩
  · rw [e1, iter_append _ _ _ _ (by omega)]; exact h1
  · rw [over_length _ _ _ (by omega)]; exact h2
  · rw [e1, e2, over_take _ _ _ (by omega), h3, List.drop_append_of_le_length (by omega)]
theorem Took.full {m : List UInt8} {st : S8} {rest : List UInt8} (h : Took m st rest) (c : List UInt8) (hc : m.length % 64 + c.length = 64) :
    Took (m ++ c) (compress st (over rest (m.length % 64) c)) (over rest (m.length % 64) c) := by
  obtain ⟨h1, h2, h3⟩ := h
  have e1 : (m ++ c).length / 64 = m.length / 64 + 1 := by simp; omega
  have e2 : (m ++ c).length % 64 = 0 := by simp; omega
  have hl : (over rest (m.length % 64) c).length = 64 := by rw [over_length _ _ _ (by omega)]; exact h2
  have ho : over rest (m.length % 64) c = m.drop (64 * (m.length / 64)) ++ c := by
    have := over_take rest (m.length % 64) c (by omega)
    rw [hc, List.take_of_length_le (by omega), h3] at this
    exact this
  refine ⟨?_, hl, ?_⟩
  · rw [e1, iter, iter_append _ _ _ _ (by omega), ← h1, List.drop_append_of_le_length (by omega), ← ho, List.take_of_length_le (by omega)]
  · rw [e1, e2, List.take_zero, List.drop_eq_nil_of_le (by simp; omega)]
theorem Took.end_ {m : List UInt8} {st : S8} {rest : List UInt8} (h : Took (padded m) st rest) : st.out = sha m := by
  rw [h.1]; rfl
def packs (bs : List UInt8) : Nat → List W32
  | 0 => List.replicate 64 0
  | i + 1 => (packs bs i).set (i / 4) (((packs bs i).getD (i / 4) 0 <<< 8) ||| w8 (bs.getD i 0))
theorem packs_eq (bs : List UInt8) (i : Nat) (h : i ≤ 64) : packs bs i = (List.range 64).map fun j => pw bs (4 * j) (min (i - 4 * j) 4) := by
  induction i with
  | zero =>
    simp only [packs]
    apply List.ext_getElem
    · simp
    · intro j h1 h2
      rw [List.getElem_replicate, List.getElem_map, show min (0 - 4 * (List.range 64)[j]) 4 = 0 by omega]
      rfl
  | succ i ih =>
    rw [packs, ih (by omega)]
    apply List.ext_getElem
    · simp
    · intro j h1 h2
      have hj : j < 64 := by simpa using h2
      rw [List.getElem_set]
      split
      · next e =>
        subst e
        have e4 : min (i + 1 - 4 * (i / 4)) 4 = min (i - 4 * (i / 4)) 4 + 1 := by omega
        have e5 : 4 * (i / 4) + min (i - 4 * (i / 4)) 4 = i := by omega
        simp only [List.getElem_map, List.getElem_range, e4, pw, e5]
        rw [List.getD_eq_getElem?_getD, List.getElem?_eq_getElem (by simp; omega)]
        simp
      · next e =>
        simp only [List.getElem_map, List.getElem_range]
        congr 1
        omega
theorem packs_all (bs : List UInt8) : packs bs 64 = words16 bs ++ List.replicate 48 0 := by
  rw [packs_eq bs 64 (by omega)]
  apply List.ext_getElem
  · simp [words16]
  · intro j h1 h2
    have hj : j < 64 := by simpa using h1
    rw [List.getElem_map, List.getElem_range, List.getElem_append]
    split
    · next hl =>
      have : j < 16 := by simpa [words16] using hl
      simp only [words16, List.getElem_map, List.getElem_range]
      congr 1
      omega
    · next hl =>
      have : ¬ j < 16 := by simpa [words16] using hl
      rw [List.getElem_replicate, show min (64 - 4 * j) 4 = 0 by omega]
      rfl
theorem packs_length (bs : List UInt8) (i : Nat) : (packs bs i).length = 64 := by
  induction i with
  | zero => simp [packs]
  | succ i ih => simp [packs, ih]
end Go.Proofs.YtlcoebenkhafcaaGreatDoorSh
namespace Go.Proofs.YtlcoebenkhafcaaGreatDoorSh
set_option linter.unusedVariables false
def ui (x : W32) : Int := x.toNat
def ub (b : UInt8) : Int := b.toNat
theorem ui_lo (x : W32) : 0 ≤ ui x := by unfold ui; omega
theorem ui_hi (x : W32) : ui x < 4294967296 := by unfold ui; have := x.isLt; omega
theorem ub_lo (x : UInt8) : 0 ≤ ub x := by unfold ub; omega
theorem ub_hi (x : UInt8) : ub x ≤ 255 := by unfold ub; have := x.toNat_lt; omega
theorem ui_nat (x : W32) : x.toNat < 4294967296 := x.isLt
theorem ui_and (x y : W32) : bits .and .u32 (ui x) (ui y) = ui (x &&& y) := by
  unfold ui; rw [u32_and_nat _ _ (ui_nat x) (ui_nat y), BitVec.toNat_and]
theorem ui_or (x y : W32) : bits .or .u32 (ui x) (ui y) = ui (x ||| y) := by
  unfold ui; rw [u32_or_nat _ _ (ui_nat x) (ui_nat y), BitVec.toNat_or]
theorem ui_xor (x y : W32) : bits .xor .u32 (ui x) (ui y) = ui (x ^^^ y) := by
  unfold ui; rw [u32_xor_nat _ _ (ui_nat x) (ui_nat y), BitVec.toNat_xor]
theorem ui_not (x : W32) : bits .xor .u32 4294967295 (ui x) = ui (~~~x) := by
  have h : (4294967295 : Int) = ui (BitVec.allOnes 32) := rfl
  rw [h, ui_xor, BitVec.allOnes_xor]
theorem ui_add (x y : W32) : (ui x + ui y) % 4294967296 = ui (x + y) := by
  unfold ui; rw [BitVec.toNat_add]; omega
theorem ui_addw (x y : W32) : IntKind.u32.wrap (ui x + ui y) = ui (x + y) := by
  rw [IntKind.wrap_u32']; exact ui_add x y
theorem ui_shr (x : W32) (n : Nat) : ui x / 2 ^ n = ui (x >>> n) := by
  unfold ui
  rw [BitVec.toNat_ushiftRight, Nat.shiftRight_eq_div_pow]
  have : ((2 : Int) ^ n) = ((2 ^ n : Nat) : Int) := by simp
  rw [this]; omega
theorem ui_shl (x : W32) (n : Nat) : ui x * 2 ^ n % 4294967296 = ui (x <<< n) := by
  unfold ui
  rw [BitVec.toNat_shiftLeft, Nat.shiftLeft_eq]
  have : ((2 : Int) ^ n) = ((2 ^ n : Nat) : Int) := by simp
  rw [this, ← Int.natCast_mul]; omega
theorem ui_w8 (b : UInt8) : ub b = ui (w8 b) := by
  unfold ub ui w8
  rw [BitVec.toNat_ofNat, Nat.mod_eq_of_lt (by have := b.toNat_lt; omega)]
theorem ub_cut (x : W32) (n : Nat) : ui x / 2 ^ n % 256 = ub (UInt8.ofNat (x >>> n).toNat) := by
  rw [ui_shr]; unfold ui ub
  rw [UInt8.toNat_ofNat']; omega
theorem ub_nat (n k : Nat) : ((n : Int) / 2 ^ k) % 256 = ub (UInt8.ofNat (n / 2 ^ k)) := by
  unfold ub
  have : ((2 : Int) ^ k) = ((2 ^ k : Nat) : Int) := by simp
  rw [UInt8.toNat_ofNat', this]; omega
theorem rotr_prog (x : W32) (n : Nat) : x <<< (32 - n) ||| x >>> n = rotr x n := by unfold rotr; exact BitVec.or_comm _ _
theorem neg_and31 (i : Nat) (h1 : 1 ≤ i) (h2 : i ≤ 31) : bits .and .u64 (IntKind.u64.wrap (-(i : Int))) 31 = ((32 - i : Nat) : Int) := by
  have : ∀ j : Fin 32, 1 ≤ j.val → bits .and .u64 (IntKind.u64.wrap (-(j.val : Int))) 31 = ((32 - j.val : Nat) : Int) := by decide
  exact this ⟨i, by omega⟩ h1
end Go.Proofs.YtlcoebenkhafcaaGreatDoorSh
namespace Go.Proofs.YtlcoebenkhafcaaGreatDoorSh
set_option maxRecDepth 100000
open Go.RowKit
set_option linter.unusedVariables false
theorem ret_int {k : IntKind} {a b : Int} (h : a = b) : Ending.returned (.int k a) = .returned (.int k b) := by rw [h]
theorem rot_any (x : W32) (i : Nat) (w : World) (h1 : 1 ≤ i) (h2 : i ≤ 31) :
    Calls Tryz.prog 224 #[.int .u32 (ui x), .int .i64 (-(i : Int))] w fun e w' => e = .returned (.int .u32 (ui (rotr x i))) ∧ w = w' := by
  obtain ⟨j, hj⟩ : ∃ j : Nat, j = 32 - i := ⟨_, rfl⟩
  have hs : bits .and .u64 (IntKind.u64.wrap (-(i : Int))) 31 = (j : Int) := by rw [hj]; exact neg_and31 i h1 h2
  have HJ := Lib.hid hj
  have b1 : 1 ≤ j := by omega
  have b2 : j ≤ 31 := by omega
  have u0 := ui_lo x
  have u1 := ui_hi x
  clear hj
  go_enter Tryz.func224, Tryz.ntmps224
  go_wp2
  go_ret
  refine ⟨ret_int ?_, rfl⟩
  have e : 32 - j = i := by have := HJ.out; omega
  rw [e, ui_shr, ui_shl, ui_or, HJ.out, rotr_prog]
theorem turns_any (x : W32) (i j k : Nat) (w : World) (h1 : 1 ≤ i) (h2 : i ≤ 31) (h3 : 1 ≤ j) (h4 : j ≤ 31) (h5 : 1 ≤ k) (h6 : k ≤ 31) :
    Calls Tryz.prog 211 #[.int .u32 (ui x), .int .i64 (i : Int), .int .i64 (j : Int), .int .i64 (k : Int)] w
      fun e w' => e = .returned (.int .u32 (ui (rotr x i ^^^ rotr x j ^^^ rotr x k))) ∧ w = w' := by
  go_enter Tryz.func211, Tryz.ntmps211
  go_wp2_with fail
  refine (rot_any x i _ h1 h2).mono ?_
  rintro e w' ⟨rfl, rfl⟩
  go_wp2_with fail
  refine (rot_any x j _ h3 h4).mono ?_
  rintro e w' ⟨rfl, rfl⟩
  go_wp2_with fail
  refine (rot_any x k _ h5 h6).mono ?_
  rintro e w' ⟨rfl, rfl⟩
  go_wp2
  go_ret
  exact ⟨ret_int (by rw [ui_xor, ui_xor]), rfl⟩
theorem mixed_any (x : W32) (i j k : Nat) (w : World) (h1 : 1 ≤ i) (h2 : i ≤ 31) (h3 : 1 ≤ j) (h4 : j ≤ 31) (h5 : 1 ≤ k) (h6 : k ≤ 31) :
    Calls Tryz.prog 223 #[.int .u32 (ui x), .int .i64 (i : Int), .int .i64 (j : Int), .int .u64 (k : Int)] w
      fun e w' => e = .returned (.int .u32 (ui (rotr x i ^^^ rotr x j ^^^ (x >>> k)))) ∧ w = w' := by
  have u0 := ui_lo x
  have u1 := ui_hi x
  go_enter Tryz.func223, Tryz.ntmps223
  go_wp2_with fail
  refine (rot_any x i _ h1 h2).mono ?_
  rintro e w' ⟨rfl, rfl⟩
  go_wp2_with fail
  refine (rot_any x j _ h3 h4).mono ?_
  rintro e w' ⟨rfl, rfl⟩
  go_wp2
  go_ret
  refine ⟨ret_int ?_, rfl⟩
  rw [ui_shr, ui_xor, ui_xor]
theorem bs1_any (x : W32) (w : World) : Calls Tryz.prog 211 #[.int .u32 (ui x), .int .i64 6, .int .i64 11, .int .i64 25] w fun e w' => e = .returned (.int .u32 (ui (bs1 x))) ∧ w = w' :=
  turns_any x 6 11 25 w (by omega) (by omega) (by omega) (by omega) (by omega) (by omega)
theorem bs0_any (x : W32) (w : World) : Calls Tryz.prog 211 #[.int .u32 (ui x), .int .i64 2, .int .i64 13, .int .i64 22] w fun e w' => e = .returned (.int .u32 (ui (bs0 x))) ∧ w = w' :=
  turns_any x 2 13 22 w (by omega) (by omega) (by omega) (by omega) (by omega) (by omega)
theorem ss0_any (x : W32) (w : World) : Calls Tryz.prog 223 #[.int .u32 (ui x), .int .i64 7, .int .i64 18, .int .u64 3] w fun e w' => e = .returned (.int .u32 (ui (ss0 x))) ∧ w = w' :=
  mixed_any x 7 18 3 w (by omega) (by omega) (by omega) (by omega) (by omega) (by omega)
theorem ss1_any (x : W32) (w : World) : Calls Tryz.prog 223 #[.int .u32 (ui x), .int .i64 17, .int .i64 19, .int .u64 10] w fun e w' => e = .returned (.int .u32 (ui (ss1 x))) ∧ w = w' :=
  mixed_any x 17 19 10 w (by omega) (by omega) (by omega) (by omega) (by omega) (by omega)
end Go.Proofs.YtlcoebenkhafcaaGreatDoorSh
namespace Go.Proofs.YtlcoebenkhafcaaGreatDoorSh
set_option maxRecDepth 100000
open Go.RowKit
set_option linter.unusedVariables false
def cw (l : List W32) : List Value := l.map fun x => .int .u32 (ui x)
def cb (l : List UInt8) : List Value := l.map fun x => .int .u8 (ub x)
theorem cw_length (l : List W32) : (cw l).length = l.length := by simp [cw]
theorem cb_length (l : List UInt8) : (cb l).length = l.length := by simp [cb]
theorem cw_one (l : List W32) : ∀ v ∈ cw l, v.oneCell' = true := by intro v hv; simp [cw] at hv; obtain ⟨x, _, rfl⟩ := hv; rfl
theorem cb_one (l : List UInt8) : ∀ v ∈ cb l, v.oneCell' = true := by intro v hv; simp [cb] at hv; obtain ⟨x, _, rfl⟩ := hv; rfl
theorem cw_get (l : List W32) (i : Nat) (h : i < l.length) : (cw l)[i]? = some (.int .u32 (ui (l.getD i 0))) := by
  simp [cw, List.getElem?_eq_getElem h, List.getD]
theorem cb_get (l : List UInt8) (i : Nat) (h : i < l.length) : (cb l)[i]? = some (.int .u8 (ub (l.getD i 0))) := by
  simp [cb, List.getElem?_eq_getElem h, List.getD]
def Blk (w : World) (g : Nat) (t : TypeId) (cs : List Value) : Prop := w.heap[g]? = some (.cells cs.toArray t (0, 0))
section
variable {w w' : World} {g : Nat} {t : TypeId} {cs : List Value}
theorem Blk.lt (h : Blk w g t cs) : g < w.heap.size := by
  rcases Nat.lt_or_ge g w.heap.size with hlt | hge
  · exact hlt
  · unfold Blk at h; rw [Array.getElem?_eq_none hge] at h; cases h
theorem Blk.cell (h : Blk w g t cs) (i : Nat) : w.cell? ⟨g, i, none⟩ = cs[i]? := by
  have := cell_of_row w g i cs.toArray t (0, 0) h
  simpa using this
theorem Blk.frozen (h : Blk w g t cs) (i : Nat) : w.frozen? ⟨g, i, none⟩ = false := frozen_of_row w g i _ t h
theorem Blk.new (w : World) (t : TypeId) (cs : List Value) : Blk (w.alloc (.cells cs.toArray t)) w.heap.size t cs := heap_alloc_new w _
theorem Blk.drewN (h : Blk w g t cs) (n : Nat) : Blk (w.drewN n) g t cs := h
theorem Blk.alloc (h : Blk w g t cs) (o : Obj) : Blk (w.alloc o) g t cs := (Below.heap_alloc w o g h.lt).trans h
theorem Blk.set_ (h : Blk w g t cs) (i : Nat) (u : Value) : Blk (w.setCell ⟨g, i, none⟩ u) g t (cs.set i u) := by
  have := heap_setCell_same w g i cs.toArray t u h
  unfold Blk
  rw [this]
  simp
theorem Blk.far (h : Blk w g t cs) {p : Addr} (hp : g ≠ p.block) (u : Value) : Blk (w.setCell p u) g t cs := (Below.heap_setCell w p u g hp).trans h
theorem Blk.below {B : Nat} (h : Blk w g t cs) (hb : Below B w w') (hg : g < B) : Blk w' g t cs := (hb.block g hg).trans h
theorem Blk.grown {row : Option Nat} (h : Blk w g t cs) (hb : w.grownBy w' row) (hg : some g ≠ row) : Blk w' g t cs := (hb.block g h.lt hg).trans h
theorem Blk.range (h : Blk w g t cs) (o : Nat) (l : List Value) (hl : ∀ j v, l[j]? = some v → cs[o + j]? = some v) : w.rangeAt g o l := fun j v hv => by
  rw [h.cell]; exact hl j v hv
end
section
variable {a w : World}
theorem only_drewN {row : Option Nat} (h : a.grownBy w row) (n : Nat) : a.grownBy (w.drewN n) row := ⟨h.os, h.tape, h.output, h.size, h.block⟩
theorem only_alloc {row : Option Nat} (h : a.grownBy w row) (o : Obj) : a.grownBy (w.alloc o) row :=
  ⟨h.os, h.tape, h.output, Nat.le_trans h.size (by simp), fun i hi hne => (Below.heap_alloc w o i (Nat.lt_of_lt_of_le hi h.size)).trans (h.block i hi hne)⟩
theorem only_setCell {g : Nat} (h : a.grownBy w (some g)) {p : Addr} (hp : p.block = g ∨ a.heap.size ≤ p.block) (u : Value) : a.grownBy (w.setCell p u) (some g) :=
  ⟨h.os, h.tape, h.output, by simpa [World.setCell] using h.size, fun i hi hne => (Below.heap_setCell w p u i (by
    rintro rfl
    rcases hp with hp | hp
    · exact hne (by rw [hp])
    · omega)).trans (h.block i hi hne)⟩
theorem only_of_below (h : Below a.heap.size a w) (row : Option Nat) : a.grownBy w row := ⟨h.os, h.tape, h.output, h.size, fun i hi _ => h.block i hi⟩
theorem only_then {w2 : World} {g : Nat} {row : Option Nat} (h : a.grownBy w (some g)) (k : w.grownBy w2 row) (hr : ∀ j, row = some j → j = g ∨ a.heap.size ≤ j) : a.grownBy w2 (some g) :=
  ⟨k.os.trans h.os, k.tape.trans h.tape, k.output.trans h.output, Nat.le_trans h.size k.size, fun i hi hne =>
    (k.block i (Nat.lt_of_lt_of_le hi h.size) (fun e => by
      rcases hr i e.symm with h' | h'
      · exact hne (by rw [h'])
      · omega)).trans (h.block i hi hne)⟩
theorem below_only {B : Nat} {w2 : World} {row : Option Nat} (h : Below B a w) (k : w.grownBy w2 row) (hB : B ≤ w.heap.size) (hr : ∀ j, row = some j → B ≤ j) : Below B a w2 :=
  ⟨k.os.trans h.os, k.tape.trans h.tape, k.output.trans h.output, Nat.le_trans h.size k.size, fun i hi =>
    (k.block i (by omega) (fun e => by have := hr i e.symm; omega)).trans (h.block i hi)⟩
end
theorem at_dst {P : Program} {ops : Array Oper} {Q : Exit → Act → World → Prop} {rest : List Oper} {a : Act} {w : World} (d : Option Nat) {op : Op} {ty : TypeId} {pos : String} {aft : Array Edge} {gd : Option (Nat × Bool)}
    (h : wpList P ops Q (⟨d, op, ty, pos, aft, gd⟩ :: rest) a w) : wpList P ops Q (⟨d, op, ty, pos, aft, gd⟩ :: rest) a w := h
theorem at_store {P : Program} {ops : Array Oper} {Q : Exit → Act → World → Prop} {rest : List Oper} {a : Act} {w : World} (t : TypeId) {x y : Operand} {d : Option Nat} {ty : TypeId} {pos : String} {aft : Array Edge} {gd : Option (Nat × Bool)}
    (h : wpList P ops Q (⟨d, .store t x y, ty, pos, aft, gd⟩ :: rest) a w) : wpList P ops Q (⟨d, .store t x y, ty, pos, aft, gd⟩ :: rest) a w := h
theorem wpList_store_abs {P : Program} {ops : Array Oper} {rest : List Oper} {o : Oper} {a : Act} {w : World} {Q : Exit → Act → World → Prop} (hgd : o.guard = none) (ty : TypeId) (x y : Operand) (ho : o.op = .store ty x y)
    (g : Nat) (cells : List Value) (hx : a.eval x = .pointer (some ⟨g, 0, none⟩)) (hy : a.eval y = .agg cells.toArray)
    (t : TypeId) (old : List Value) (hg : Blk w g t old) (hi : (P.info? ty).map (·.size) = some cells.length)
    (hold : old.length = cells.length) (h1 : ∀ v ∈ cells, v.oneCell' = true)
    (h : ∀ w', Hid (Blk w' g t cells) → w.grownBy w' (some g) → wpList P ops Q rest (a.put o.dst undef) w') : wpList P ops Q (o :: rest) a w := by
  refine wpList_store_row hgd ty x y ho g cells.toArray hx hy t old.toArray hg (by simpa using hi) (by simpa using hold) (all_oneCell_toArray h1) (h _ (setRow_heap _ _ _ _ _ _ hg) ?_)
  exact ⟨rfl, rfl, rfl, by simp [World.setRow], fun k hk hne => setRow_other w g k _ (fun e => hne (by rw [e]))⟩
theorem wpList_copy_abs {P : Program} {w : World} {ops : Array Oper} {rest : List Oper} {o : Oper} {a : Act} {Q : Exit → Act → World → Prop} (hgd : o.guard = none) (d s : Operand) (dT sT : TypeId)
    (ho : o.op = .call { callee := .builtin .copy, args := #[d, s], argTypes := #[dT, sT] }) (elem : TypeId) (hu : P.underlying dT = some (.slice elem)) (hsz : (P.info? elem).map (·.size) = some 1)
    (dp sp : Option Addr) (dLen dCap sLen sCap : Nat) (hd : a.eval d = .slice dp dLen dCap) (hs : a.eval s = .slice sp sLen sCap)
    (g off : Nat) (cur : List Value) (t : TypeId) (hg : Blk w g t cur) (cs : List Value) (hn : cs.length = Nat.min sLen dLen)
    (hpos : 0 < cs.length → dp = some ⟨g, off, none⟩ ∧ ∃ ad, sp = some ad ∧ ∀ j v, cs[j]? = some v → w.cell? (ad.add j) = some v)
    (hfit : off + cs.length ≤ cur.length) (h1 : ∀ v ∈ cs, v.oneCell' = true)
    (h : ∀ w', Hid (Blk w' g t (splice cur off cs)) → w.grownBy w' (some g) → wpList P ops Q rest (a.put o.dst (goInt cs.length)) w') :
    wpList P ops Q (o :: rest) a w := by
  by_cases h0 : cs.length = 0
  · obtain rfl : cs = [] := List.eq_nil_of_length_eq_zero h0
    refine wpList_copy_nothing hgd d s dT sT ho elem hu hsz dp sp dLen dCap sLen sCap hd hs (by simpa using hn.symm) ?_
    refine h w ?_ (World.grownBy.refl w _)
    show Blk w g t (splice cur off [])
    simpa [splice] using hg
  · obtain ⟨rfl, ad, rfl, hsrc⟩ := hpos (by omega)
    refine wpList_copy_own hgd d s dT sT ho elem hu hsz g off dLen dCap ad sLen sCap hd hs cur.toArray t hg cs hn hsrc (by simpa using hfit) h1 ?_
    refine h _ ?_ ⟨rfl, rfl, rfl, by simp [World.setRow], fun k hk hne => setRow_other w g k _ (fun e => hne (by rw [e]))⟩
    show Blk _ g t (splice cur off cs)
    have := setRow_heap w g _ (cur.toArray.toList.take off ++ (cs ++ cur.toArray.toList.drop (off + cs.length))).toArray t _ hg
    simpa [splice, Blk] using this
def HB (w : World) (g : Nat) (st : S8) (rest : List UInt8) (len : Int) : Prop := Blk w g 222 (cw st.list ++ (cb rest ++ [.int .u64 len]))
def Tabs (w : World) : Prop := (∃ t fr, w.heap[0]? = some (.cells (cw init8.list).toArray t fr)) ∧ (∃ t fr, w.heap[3]? = some (.cells (cw kTab).toArray t fr))
theorem Tabs.lt {w : World} (h : Tabs w) : 3 < w.heap.size := by
  obtain ⟨_, t, fr, h⟩ := h
  rcases Nat.lt_or_ge 3 w.heap.size with hlt | hge
  · exact hlt
  · rw [Array.getElem?_eq_none hge] at h; cases h
theorem Tabs.grown {w w' : World} {row : Option Nat} (h : Tabs w) (k : w.grownBy w' row) (hr : ∀ j, row = some j → 3 < j) : Tabs w' := by
  have hl := h.lt
  obtain ⟨⟨t, fr, h0⟩, t', fr', h1⟩ := h
  exact ⟨⟨t, fr, (k.block 0 (by omega) (fun e => by have := hr 0 e.symm; omega)).trans h0⟩, t', fr', (k.block 3 (by omega) (fun e => by have := hr 3 e.symm; omega)).trans h1⟩
theorem Tabs.below {w w' : World} (h : Tabs w) (k : Below w.heap.size w w') : Tabs w' := h.grown (only_of_below k none) (by simp)
theorem Tabs.k {w : World} (h : Tabs w) (i : Nat) (hi : i < 64) : w.cell? ⟨3, i, none⟩ = some (.int .u32 (ui (kTab.getD i 0))) := by
  obtain ⟨_, t, fr, h⟩ := h
  have := cell_of_row w 3 i _ t fr h
  rw [this, List.getElem?_toArray]
  exact cw_get _ _ (show i < 64 from hi)
theorem info39 : (Tryz.prog.info? 222).map (·.size) = some 73 := by kernel_rfl
theorem info43 : (Tryz.prog.info? 235).map (·.size) = some 64 := by kernel_rfl
theorem info35 : (Tryz.prog.info? 219).map (·.size) = some 8 := by kernel_rfl
theorem info36 : (Tryz.prog.info? 220).map (·.size) = some 64 := by kernel_rfl
theorem byteInfo : (Tryz.prog.info? 5).map (fun i => (i.zero, i.size, i.bytes)) = some (some (.int .u8 0), 1, 1) := by kernel_rfl
theorem byteSize : (Tryz.prog.info? 5).map (·.size) = some 1 := by kernel_rfl
theorem wordInfo : (Tryz.prog.info? 133).map (fun i => (i.zero, i.size, i.bytes)) = some (some (.int .u32 0), 1, 4) := by kernel_rfl
theorem run_index_agg {t e : TypeId} {n : Nat} {i0 : TypeInfo} (ht : Tryz.prog.underlying t = some (.array n e)) (hi : Tryz.prog.info? e = some i0) (hz : i0.size = 1) (hag : ∀ w, (isAgg e).run Tryz.prog w = .ok false w)
    (cs : List Value) (i : Nat) (v : Value) (hn : i < n) (hv : cs[i]? = some v) (w : World) :
    (Instr.index t (.agg cs.toArray) (.int .i64 (i : Int))).run Tryz.prog w = .ok v w := by
  have h1 : (0 : Int) ≤ (i : Int) ∧ (i : Int) < (n : Int) := ⟨by omega, by omega⟩
  have hv' : cs.toArray[i]? = some v := by simpa using hv
  simp [Instr.index, asIntOf, run_underlying ht, h1, sizeOf, typeInfo, hi, hz, part, hag, hv]
  intro; omega
end Go.Proofs.YtlcoebenkhafcaaGreatDoorSh
namespace Go.Proofs.YtlcoebenkhafcaaGreatDoorSh
set_option maxRecDepth 100000
open Go.RowKit
set_option linter.unusedVariables false
theorem index36 (rest : List UInt8) (i : Nat) (hr : rest.length = 64) (hi : i < 64) (w : World) :
    (Instr.index 220 (.agg (cb rest).toArray) (.int .i64 (i : Int))).run Tryz.prog w = .ok (.int .u8 (ub (rest.getD i 0))) w := by
  obtain ⟨i0, h0, hz0, hz1, hz2⟩ := info_parts byteInfo
  exact run_index_agg Tryz.underlying220 h0 hz1 (fun w => by simp [isAgg, run_underlying Tryz.underlying5]) (cb rest) i _ hi (cb_get rest i (by omega)) w
theorem pack_val (x : W32) (b : UInt8) : bits .or .u32 (ui x * 256 % 4294967296) (ub b % 4294967296) = ui ((x <<< 8) ||| w8 b) := by
  have h1 := ui_shl x 8
  rw [show (2 : Int) ^ 8 = 256 from rfl] at h1
  have h2 := ub_lo b
  have h3 := ub_hi b
  rw [h1, Int.emod_eq_of_lt h2 (by omega), ui_w8, ui_or]
theorem cw_set (l : List W32) (i : Nat) (x : W32) : (cw l).set i (.int .u32 (ui x)) = cw (l.set i x) := by simp [cw, List.map_set]
theorem ui_sum4 (a b c d : W32) : (ui a + ui b + ui c + ui d) % 4294967296 = ui (a + b + c + d) := by
  unfold ui; simp only [BitVec.toNat_add]; omega
def mid (rest : List UInt8) (k : Nat) : List W32 := spread (words16 rest) k ++ List.replicate (48 - k) 0
theorem mid_length (rest : List UInt8) (k : Nat) (h : k ≤ 48) : (mid rest k).length = 64 := by simp [mid, spread_length, words16_length]; omega
theorem mid_get (rest : List UInt8) (k i : Nat) (h : i < 16 + k) : (mid rest k).getD i 0 = (spread (words16 rest) k).getD i 0 := by
  unfold mid
  rw [List.getD_eq_getElem?_getD, List.getD_eq_getElem?_getD, List.getElem?_append_left (by rw [spread_length, words16_length]; omega)]
theorem mid_next (rest : List UInt8) (k : Nat) (h : k < 48) : (mid rest k).set (16 + k) (nextW (spread (words16 rest) k)) = mid rest (k + 1) := by
  unfold mid
  have hl : (spread (words16 rest) k).length = 16 + k := by rw [spread_length, words16_length]
  rw [List.set_append_right _ _ (by omega), hl, Nat.sub_self, show 48 - k = (48 - (k + 1)) + 1 by omega, List.replicate_succ, List.set_cons_zero, spread]
  simp
theorem nextW_eq (rest : List UInt8) (n : Nat) (h0 : 16 ≤ n) (h : n < 64) : nextW (spread (words16 rest) (n - 16)) =
    (mid rest (n - 16)).getD (n - 16) 0 + ss0 ((mid rest (n - 16)).getD (n - 15) 0) + (mid rest (n - 16)).getD (n - 7) 0 + ss1 ((mid rest (n - 16)).getD (n - 2) 0) := by
  have hl : (spread (words16 rest) (n - 16)).length = n := by rw [spread_length, words16_length]; omega
  rw [mid_get _ _ _ (by omega), mid_get _ _ _ (by omega), mid_get _ _ _ (by omega), mid_get _ _ _ (by omega), nextW, hl]
def GivesWords (w : World) (ws : List W32) (e : Ending) (w' : World) : Prop := e = .returned (.agg (cw ws).toArray) ∧ Below w.heap.size w w'
set_option maxHeartbeats 1000000 in
set_option maxRecDepth 100000 in
theorem words_any (g : Nat) (st : S8) (rest : List UInt8) (len : Int) (w : World) (h : HB w g st rest len) (hr : rest.length = 64) :
    Calls Tryz.prog 210 #[.pointer (some ⟨g, 0, none⟩)] w (GivesWords w (allWords rest)) := by
  have HR := Lib.hid hr
  have hlt := h.lt
  have hrange : w.rangeAt g 8 (cb rest) := h.range 8 _ (fun j v hv => by
    have hj : j < 64 := by
      have := (List.getElem?_eq_some_iff.1 hv).1
      rw [cb_length] at this
      omega
    rw [List.getElem?_append_right (by rw [cw_length]; show 8 ≤ 8 + j; omega)]
    rw [show 8 + j - (cw st.list).length = j by rw [cw_length]; show 8 + j - 8 = j; omega]
    rw [List.getElem?_append_left (by rw [cb_length]; omega)]
    exact hv)
  clear hr
  go_enter Tryz.func210, Tryz.ntmps210
  go_wp2_with ((with_reducible refine at_dst (some 10) ?_); refine wpList_load_mid (op := ⟨some 10, _, _, _, _, _⟩) rfl 220 (.tmp 9) rfl g 8 rfl (cb rest) _ ?c1 Tryz.underlying220 rfl ?c2 ?_)
  case c1 => exact World.rangeAt_alloc (World.rangeAt_alloc hrange _) _
  case c2 => rw [info36, cb_length, HR.out]
  go_loopw [11] (fun i wr => ∃ k : Nat, k ≤ 64 ∧ i = .int .i64 k ∧ Blk wr w.heap.size 235 (cw (List.replicate 64 0)) ∧ Blk wr (w.heap.size + 1) 235 (cw (packs rest k)) ∧ Below w.heap.size w wr) (fun i _ => 64 - (intOf i).toNat)
  case atStart => exact ⟨0, by omega, rfl, heap_alloc2_old _ _ _, heap_alloc2_new _ _ _, ((Below.refl _ _).alloc (Nat.le_refl _) _).alloc (by simp) _⟩
  case round =>
    obtain ⟨k, hk, rfl, hb0, hb1, hb⟩ := hrel
    by_cases hk64 : k < 64
    · have hix := index36 rest k HR.out hk64
      obtain ⟨x, hx⟩ : ∃ x, x = (packs rest k).getD (k / 4) 0 := ⟨_, rfl⟩
      have hc := hb1.cell (k / 4)
      rw [cw_get _ _ (by rw [packs_length]; omega), ← hx] at hc
      have HX := Lib.hid hx
      clear hx
      have hf := hb1.frozen (k / 4)
      have u0 := ui_lo x
      obtain ⟨b, hbb⟩ : ∃ b, b = rest.getD k 0 := ⟨_, rfl⟩
      rw [← hbb] at hix
      have HBB := Lib.hid hbb
      clear hbb
      have v0 := ub_lo b
      have HB0 := Lib.hid hb0
      have HB1 := Lib.hid hb1
      clear hb0 hb1
      go_wp2
      go_roundw
      case rel =>
        rw [pack_val]
        refine ⟨k + 1, by omega, by go_num, HB0.out.far (by simp) _, ?_, hb.setCell (by simp) _⟩
        have := HB1.out.set_ (k / 4) (.int .u32 (ui ((x <<< 8) ||| w8 b)))
        have e : (packs rest k).set (k / 4) ((x <<< 8) ||| w8 b) = packs rest (k + 1) := by rw [HX.out, HBB.out]; rfl
        rw [cw_set, e] at this
        exact this
      case measure => simp [intOf]; omega
    · have e : k = 64 := by omega
      rw [e, packs_all] at hb1
      clear e
      go_wp2
      rename World => w2
      go_loopw [6] (fun i wr => ∃ n : Nat, 16 ≤ n ∧ n ≤ 64 ∧ i = .int .i64 n ∧ Blk wr w.heap.size 235 (cw (List.replicate 64 0)) ∧ Blk wr (w.heap.size + 1) 235 (cw (mid rest (n - 16))) ∧ Below w.heap.size w wr) (fun i _ => 64 - (intOf i).toNat)
      case atStart => exact ⟨16, by omega, by omega, rfl, hb0, hb1, hb⟩
      case round =>
        obtain ⟨n, hn0, hn, rfl, hc0, hc1, hcb⟩ := hrel
        by_cases hn64 : n < 64
        · obtain ⟨x0, hx0⟩ : ∃ x, x = (mid rest (n - 16)).getD (n - 16) 0 := ⟨_, rfl⟩
          obtain ⟨x1, hx1⟩ : ∃ x, x = (mid rest (n - 16)).getD (n - 15) 0 := ⟨_, rfl⟩
          obtain ⟨x2, hx2⟩ : ∃ x, x = (mid rest (n - 16)).getD (n - 7) 0 := ⟨_, rfl⟩
          obtain ⟨x3, hx3⟩ : ∃ x, x = (mid rest (n - 16)).getD (n - 2) 0 := ⟨_, rfl⟩
          obtain ⟨x4, hx4⟩ : ∃ x, x = (mid rest (n - 16)).getD n 0 := ⟨_, rfl⟩
          have hl := mid_length rest (n - 16) (by omega)
          have c0 := hc1.cell (n - 16)
          have c1 := hc1.cell (n - 15)
          have c2 := hc1.cell (n - 7)
          have c3 := hc1.cell (n - 2)
          have c4 := hc1.cell n
          rw [cw_get _ _ (by omega), ← hx0] at c0
          rw [cw_get _ _ (by omega), ← hx1] at c1
          rw [cw_get _ _ (by omega), ← hx2] at c2
          rw [cw_get _ _ (by omega), ← hx3] at c3
          rw [cw_get _ _ (by omega), ← hx4] at c4
          have f4 := hc1.frozen n
          have hv := nextW_eq rest n hn0 hn64
          rw [← hx0, ← hx1, ← hx2, ← hx3] at hv
          have HV := Lib.hid hv
          have HC0 := Lib.hid hc0
          have HC1 := Lib.hid hc1
          clear hv hl hx0 hx1 hx2 hx3 hx4 hc0 hc1 hb0 hb1 hb
          obtain ⟨m0, hm0⟩ : ∃ m, m = n - 16 := ⟨_, rfl⟩
          obtain ⟨m1, hm1⟩ : ∃ m, m = n - 15 := ⟨_, rfl⟩
          obtain ⟨m2, hm2⟩ : ∃ m, m = n - 7 := ⟨_, rfl⟩
          obtain ⟨m3, hm3⟩ : ∃ m, m = n - 2 := ⟨_, rfl⟩
          have e0 : IntKind.i64.wrap ((n : Int) - 16) = (m0 : Int) := by rw [IntKind.wrap_i64]; omega
          have e1 : IntKind.i64.wrap ((n : Int) - 15) = (m1 : Int) := by rw [IntKind.wrap_i64]; omega
          have e2 : IntKind.i64.wrap ((n : Int) - 7) = (m2 : Int) := by rw [IntKind.wrap_i64]; omega
          have e3 : IntKind.i64.wrap ((n : Int) - 2) = (m3 : Int) := by rw [IntKind.wrap_i64]; omega
          have l0 : (m0 : Int) < 64 := by omega
          have l1 : (m1 : Int) < 64 := by omega
          have l2 : (m2 : Int) < 64 := by omega
          have l3 : (m3 : Int) < 64 := by omega
          have l4 : (n : Int) < 64 := by omega
          rw [← hm0] at c0
          rw [← hm1] at c1
          rw [← hm2] at c2
          rw [← hm3] at c3
          clear hm0 hm1 hm2 hm3
          go_wp2
          refine wp_region_still_tail 23 (by kernel_rfl) (by kernel_rfl) ?_
          simp only [List.take_succ_cons, List.take_zero, List.drop_succ_cons, List.drop_zero]
          change wpStill _ _ wr.drew _ _ _
          iterate 9 still_step
          still_call ((ss0_any x1 _).mono fun _ _ h => ⟨h.1, h.2.symm⟩)
          iterate 10 still_step
          still_call ((ss1_any x3 _).mono fun _ _ h => ⟨h.1, h.2.symm⟩)
          iterate 2 still_step
          refine wpStill_nil ?_
          go_wp2
          go_roundw
          case rel =>
            rw [ui_sum4, ← HV.out]
            refine ⟨n + 1, by omega, by omega, by go_num, (HC0.out.far (by simp) _).drewN 1, ?_, (hcb.setCell (by simp) _).drew⟩
            have := HC1.out.set_ n (.int .u32 (ui (nextW (spread (words16 rest) (n - 16)))))
            have e : (mid rest (n - 16)).set n (nextW (spread (words16 rest) (n - 16))) = mid rest (n + 1 - 16) := by
              have := mid_next rest (n - 16) (by omega)
              rw [show 16 + (n - 16) = n by omega, show n - 16 + 1 = n + 1 - 16 by omega] at this
              exact this
            rw [cw_set, e] at this
            exact this
          case measure => simp [intOf]; omega
        · have hall : mid rest (n - 16) = allWords rest := by
            have e : n = 64 := by omega
            rw [e]; simp [mid, allWords]
          rw [hall] at hc1
          have HC0 := Lib.hid hc0
          have HC1 := Lib.hid hc1
          have HI := Lib.hid info43
          clear hall hc0 hc1 hb0 hb1 hb
          go_wp2_with (first | ((with_reducible refine at_dst (some 54) ?_); refine wpList_load_mid (op := ⟨some 54, _, _, _, _, _⟩) rfl 235 (.tmp 3) rfl (w.heap.size + 1) 0 rfl (cw (allWords rest)) _ ?d1 Tryz.underlying235 rfl ?d2 ?_) | ((with_reducible refine at_store 235 ?_); refine wpList_store_row (o := ⟨none, _, _, _, _, _⟩) rfl 235 (.tmp 2) (.tmp 54) rfl w.heap.size (cw (allWords rest)).toArray rfl rfl 235 (cw (List.replicate 64 0)).toArray HC0.out ?d3 ?d4 ?d5 ?_))
          case d1 => exact HC1.out.range 0 _ (fun j v hv => by rw [Nat.zero_add]; exact hv)
          case d2 => rw [HI.out, cw_length, allWords_length]
          case d3 => rw [HI.out, List.size_toArray, cw_length, allWords_length]
          case d4 => rw [List.size_toArray, List.size_toArray, cw_length, cw_length, allWords_length]; simp
          case d5 => exact all_oneCell_toArray (cw_one _)
          refine bodyPost_ret (v := .agg (cw (allWords rest)).toArray) (results_cell_row (fr := (0, 0)) Tryz.results210 _ _ w.heap.size 235 _ _ rfl (setRow_heap _ _ _ _ _ _ HC0.out) Tryz.underlying235 rfl ?_) rfl ⟨rfl, ?_⟩
          · rw [HI.out, List.size_toArray, cw_length, allWords_length]
          · exact below_setRow hcb (Nat.le_refl _) _
end Go.Proofs.YtlcoebenkhafcaaGreatDoorSh
namespace Go.Proofs.YtlcoebenkhafcaaGreatDoorSh
set_option maxRecDepth 100000
open Go.RowKit
set_option linter.unusedVariables false
theorem index35 (l : List W32) (i : Nat) (hr : l.length = 8) (hi : i < 8) (w : World) :
    (Instr.index 219 (.agg (cw l).toArray) (.int .i64 (i : Int))).run Tryz.prog w = .ok (.int .u32 (ui (l.getD i 0))) w := by
  obtain ⟨i0, h0, hz0, hz1, hz2⟩ := info_parts wordInfo
  exact run_index_agg Tryz.underlying219 h0 hz1 (fun w => by simp [isAgg, run_underlying Tryz.underlying133]) (cw l) i _ hi (cw_get l i (by omega)) w
theorem ui_not_if (x : W32) : bits .xor .u32 (if IntKind.u32.signed = true then -1 else IntKind.u32.max) (ui x) = ui (~~~x) := ui_not x
theorem quiet_left {P : Program} {f : FuncId} {args : Array Value} {w : World} {n : Nat} {v : Value}
    (h : Calls P f args (w.drewN n) fun e w' => e = .returned v ∧ w.drewN n = w') : Calls P f args (w.drewN n) fun e w'' => e = .returned v ∧ ∃ m, w'' = w.drewN m :=
  h.mono fun _ _ ⟨he, hm⟩ => ⟨he, n, hm.symm⟩
def addsUpto (s r : List W32) (n : Nat) : List W32 := (List.range 8).map fun j => if j < n then s.getD j 0 + r.getD j 0 else s.getD j 0
theorem addsUpto_zero (s : S8) (r : List W32) : addsUpto s.list r 0 = s.list := by simp [addsUpto, S8.list, List.range, List.range.loop]
theorem addsUpto_all (s r : S8) : addsUpto s.list r.list 8 = (s.add r).list := by simp [addsUpto, S8.list, S8.add, List.range, List.range.loop]
theorem addsUpto_length (s r : List W32) (n : Nat) : (addsUpto s r n).length = 8 := by simp [addsUpto]
theorem addsUpto_get (s r : List W32) (n : Nat) (hn : n < 8) : (addsUpto s r n).getD n 0 = s.getD n 0 := by
  rw [List.getD_eq_getElem?_getD, List.getElem?_eq_getElem (by rw [addsUpto_length]; exact hn)]
  simp [addsUpto]
theorem addsUpto_set (s r : List W32) (n : Nat) (hn : n < 8) : (addsUpto s r n).set n (s.getD n 0 + r.getD n 0) = addsUpto s r (n + 1) := by
  apply List.ext_getElem
  · simp [addsUpto]
  · intro j h1 h2
    have hj : j < 8 := by simpa [addsUpto] using h2
    rw [List.getElem_set]
    simp only [addsUpto, List.getElem_map, List.getElem_range]
    split
    · next e => subst e; rw [if_pos (by omega)]
    · next e =>
      by_cases h : j < n
      · rw [if_pos h, if_pos (by omega)]
      · rw [if_neg h, if_neg (by omega)]
theorem HB.st {w : World} {g : Nat} {st : S8} {rest : List UInt8} {len : Int} (h : HB w g st rest len) : w.rangeAt g 0 (cw st.list) :=
  Blk.range h 0 _ (fun j v hv => by
    have hj : j < 8 := by
      have := (List.getElem?_eq_some_iff.1 hv).1
      rw [cw_length] at this
      exact this
    rw [Nat.zero_add, List.getElem?_append_left (by rw [cw_length]; exact hj)]
    exact hv)
theorem eight {w : World} {g : Nat} {t : TypeId} {s : S8} (h : Blk w g t (cw s.list)) :
    w.cell? ⟨g, 0, none⟩ = some (.int .u32 (ui s.a)) ∧ w.cell? ⟨g, 1, none⟩ = some (.int .u32 (ui s.b)) ∧ w.cell? ⟨g, 2, none⟩ = some (.int .u32 (ui s.c)) ∧ w.cell? ⟨g, 3, none⟩ = some (.int .u32 (ui s.d)) ∧
    w.cell? ⟨g, 4, none⟩ = some (.int .u32 (ui s.e)) ∧ w.cell? ⟨g, 5, none⟩ = some (.int .u32 (ui s.f)) ∧ w.cell? ⟨g, 6, none⟩ = some (.int .u32 (ui s.g)) ∧ w.cell? ⟨g, 7, none⟩ = some (.int .u32 (ui s.h)) :=
  ⟨h.cell 0, h.cell 1, h.cell 2, h.cell 3, h.cell 4, h.cell 5, h.cell 6, h.cell 7⟩
def InTake (w : World) (g B : Nat) (st : S8) (rest : List UInt8) (len : Int) (wr : World) : Prop :=
  HB wr g st rest len ∧ Blk wr B 235 (cw (allWords rest)) ∧ Tabs wr ∧ Below w.heap.size w wr
theorem InTake.drewN {w wr : World} {g B : Nat} {st : S8} {rest : List UInt8} {len : Int} (h : InTake w g B st rest len wr) (n : Nat) : InTake w g B st rest len (wr.drewN n) :=
  ⟨h.1, h.2.1, h.2.2.1, ⟨h.2.2.2.os, h.2.2.2.tape, h.2.2.2.output, h.2.2.2.size, h.2.2.2.block⟩⟩
set_option maxHeartbeats 1000000 in
set_option maxRecDepth 100000 in
theorem take_any (g : Nat) (st : S8) (rest : List UInt8) (len : Int) (w : World) (h : HB w g st rest len) (hr : rest.length = 64) (ht : Tabs w) (hg : 3 < g) :
    Calls Tryz.prog 197 #[.pointer (some ⟨g, 0, none⟩)] w fun e w' => e = .returned (.tuple #[]) ∧ HB w' g (compress st rest) rest len ∧ w.grownBy w' (some g) := by
  have HR := Lib.hid hr
  clear hr
  have hlt := h.lt
  have H1 := Lib.hid h
  have HT := Lib.hid ht
  have HI43 := Lib.hid info43
  have HI35 := Lib.hid info35
  clear h ht
  go_enter Tryz.func197, Tryz.ntmps197
  go_wp2_with fail
  refine (words_any g st rest len _ H1.out HR.out).mono ?_
  rintro e w1 ⟨rfl, hb1⟩
  go_wp2_with (first
    | ((with_reducible refine at_store 235 ?_); refine wpList_store_abs (o := ⟨none, _, _, _, _, _⟩) rfl 235 (.tmp 2) (.tmp 18) rfl w1.heap.size (cw (allWords rest)) rfl rfl 235 (cw (List.replicate 64 0)) ?d0 ?d1 ?d2 ?d3 (fun w2 hb2 hg2 => ?_))
    | ((with_reducible refine at_dst (some 22) ?_); refine wpList_load_mid (op := ⟨some 22, _, _, _, _, _⟩) rfl 219 (.tmp 21) rfl g 0 rfl (cw st.list) _ ?d4 Tryz.underlying219 rfl ?d5 ?_)
    | ((with_reducible refine at_store 219 ?_); refine wpList_store_abs (o := ⟨none, _, _, _, _, _⟩) rfl 219 (.tmp 3) (.tmp 22) rfl w2.heap.size (cw st.list) rfl rfl 219 (cw (List.replicate 8 0)) ?d9 ?d6 ?d7 ?d8 (fun w3 hb3 hg3 => ?_)))
  case d0 => exact heap_alloc_new _ _
  case d1 => rw [HI43.out, cw_length, allWords_length]
  case d2 => rw [cw_length, cw_length, allWords_length]; rfl
  case d3 => exact cw_one _
  case d4 => exact HB.st (((H1.out.below hb1 hlt).alloc _).grown hg2 (by have := hb1.size; intro e; injection e; omega))
  case d5 => rw [HI35.out]; rfl
  case d9 => exact heap_alloc_new _ _
  case d6 => rw [HI35.out]; rfl
  case d7 => rfl
  case d8 => exact cw_one _
  have hs1 := hb1.size
  have hs2 : w1.heap.size < w2.heap.size := by have := hg2.size; simp at this; omega
  have hs3 : w2.heap.size < w3.heap.size := by have := hg3.size; simp at this; omega
  have K : InTake w g w1.heap.size st rest len w3 := by
    refine ⟨?_, ?_, ?_, ?_⟩
    · exact ((((H1.out.below hb1 hlt).alloc _).grown hg2 (by intro e; injection e; omega)).alloc _).grown hg3 (by intro e; injection e; omega)
    · exact (Blk.alloc hb2.out _).grown hg3 (by intro e; injection e; omega)
    · have hl := HT.out.lt
      have t1 : Tabs w1 := HT.out.below hb1
      have t2 : Tabs w2 := (t1.grown (only_alloc (World.grownBy.refl w1 none) _) (by simp)).grown hg2 (by intro j hj; injection hj; omega)
      exact (t2.grown (only_alloc (World.grownBy.refl w2 none) _) (by simp)).grown hg3 (by intro j hj; injection hj; omega)
    · have b2 : Below w.heap.size w w2 := below_only (hb1.alloc hs1 _) hg2 (by simp; omega) (by intro j hj; injection hj; omega)
      exact below_only (b2.alloc (by omega) _) hg3 (by simp; omega) (by intro j hj; injection hj; omega)
  obtain ⟨c0, c1, c2, c3, c4, c5, c6, c7⟩ := eight hb3.out
  have HK := Lib.hid K
  clear K hg2 hg3 hb1 hb2 hb3 hs3
  go_quiet (fail)
  go_wp2
  clear c0 c1 c2 c3 c4 c5 c6 c7
  go_loopw [39, 4, 5, 6, 7, 8, 9, 10, 11] (fun i xa xb xc xd xe xf xg xh wr => ∃ (k : Nat) (s : S8), k ≤ 64 ∧ s = rnds st (allWords rest) k ∧ i = .int .i64 k ∧ xa = .int .u32 (ui s.a) ∧ xb = .int .u32 (ui s.b) ∧ xc = .int .u32 (ui s.c) ∧ xd = .int .u32 (ui s.d) ∧ xe = .int .u32 (ui s.e) ∧ xf = .int .u32 (ui s.f) ∧ xg = .int .u32 (ui s.g) ∧ xh = .int .u32 (ui s.h) ∧ InTake w g w1.heap.size st rest len wr) (fun i _ _ _ _ _ _ _ _ _ => 64 - (intOf i).toNat)
  case atStart => exact ⟨0, st, by omega, rfl, rfl, rfl, rfl, rfl, rfl, rfl, rfl, rfl, rfl, HK.out.drewN _⟩
  case round =>
    obtain ⟨k, ⟨a, b, c, d, e, f, gg, hh⟩, hk, hs, rfl, rfl, rfl, rfl, rfl, rfl, rfl, rfl, rfl, hin⟩ := hrel
    have HS := Lib.hid hs
    have HIN := Lib.hid hin
    clear hs hin
    by_cases hk64 : k < 64
    · obtain ⟨kv, hkv⟩ : ∃ x, x = kTab.getD k 0 := ⟨_, rfl⟩
      obtain ⟨wv, hwv⟩ : ∃ x, x = (allWords rest).getD k 0 := ⟨_, rfl⟩
      have ck := HIN.out.2.2.1.k k hk64
      have cv := HIN.out.2.1.cell k
      rw [← hkv] at ck
      rw [cw_get _ _ (by rw [allWords_length]; exact hk64), ← hwv] at cv
      have E : Hid (rnds st (allWords rest) (k + 1) = rnd ⟨a, b, c, d, e, f, gg, hh⟩ kv wv) := by
        have := HS.out
        show rnd (rnds st (allWords rest) k) _ _ = _
        rw [← this, hkv, hwv]
      clear hkv hwv
      have l4 : (k : Int) < 64 := by omega
      have r1 := ui_addw
      have r2 := ui_and
      have r3 := ui_xor
      have r4 := ui_not_if
      have r6 := ui_not
      have r5 := ui_add
      go_wp2
      go_quiet ((go_at_call 211; exact quiet_left (bs1_any _ _)))
      go_wp2_with (go_at_call 211; refine (bs0_any _ _).mono ?_; rintro e1 w' ⟨rfl, rfl⟩)
      go_roundw
      case rel =>
        exact ⟨k + 1, _, by omega, E.out.symm, by go_num, rfl, rfl, rfl, rfl, rfl, rfl, rfl, rfl, HIN.out.drewN _⟩
      case measure => simp [intOf]; omega
    · have hr8 : (S8.list ⟨a, b, c, d, e, f, gg, hh⟩) = (rnds st (allWords rest) 64).list := by
        have e64 : k = 64 := by omega
        have := HS.out
        rw [e64] at this
        rw [this]
      have HR8 := Lib.hid hr8
      clear hr8 HS
      go_wp2
      rename World => w4
      have e98 : #[Value.int IntKind.u32 (ui a), .int .u32 (ui b), .int .u32 (ui c), .int .u32 (ui d), .int .u32 (ui e), .int .u32 (ui f), .int .u32 (ui gg), .int .u32 (ui hh)] = (cw (rnds st (allWords rest) 64).list).toArray := by rw [← HR8.out]; rfl
      rw [e98]
      clear e98 HR8
      go_loopw [99] (fun i wr => ∃ k : Nat, k ≤ 8 ∧ i = .int .i64 k ∧ Blk wr g 222 (cw (addsUpto st.list (rnds st (allWords rest) 64).list k) ++ (cb rest ++ [.int .u64 len])) ∧ w.grownBy wr (some g)) (fun i _ => 8 - (intOf i).toNat)
      case atStart => exact ⟨0, by omega, rfl, by rw [addsUpto_zero]; exact HIN.out.1, only_of_below HIN.out.2.2.2 _⟩
      case round =>
        obtain ⟨k2, hk2, rfl, hblk, hgr⟩ := hrel
        have HBK := Lib.hid hblk
        clear hblk
        by_cases hk8 : k2 < 8
        · have hix := index35 (rnds st (allWords rest) 64).list k2 rfl hk8
          obtain ⟨rv, hrv⟩ : ∃ x, x = (rnds st (allWords rest) 64).list.getD k2 0 := ⟨_, rfl⟩
          obtain ⟨sv, hsv⟩ : ∃ x, x = st.list.getD k2 0 := ⟨_, rfl⟩
          rw [← hrv] at hix
          have hc := HBK.out.cell k2
          rw [List.getElem?_append_left (by rw [cw_length, addsUpto_length]; exact hk8), cw_get _ _ (by rw [addsUpto_length]; exact hk8), addsUpto_get _ _ _ hk8, ← hsv] at hc
          have hf := HBK.out.frozen k2
          have HE : Hid ((addsUpto st.list (rnds st (allWords rest) 64).list k2).set k2 (sv + rv) = addsUpto st.list (rnds st (allWords rest) 64).list (k2 + 1)) := by
            show _ = _
            rw [hsv, hrv]; exact addsUpto_set _ _ _ hk8
          clear hrv hsv
          have l4 : (k2 : Int) < 8 := by omega
          have r1 := ui_addw
          have r5 := ui_add
          go_wp2
          refine wp_region_still_tail 11 (by kernel_rfl) (by kernel_rfl) ?_
          simp only [List.take_succ_cons, List.take_zero, List.drop_succ_cons, List.drop_zero]
          change wpStill _ _ wr.drew _ _ _
          iterate 11 still_step
          refine wpStill_nil ?_
          go_wp2
          go_roundw
          case rel =>
            refine ⟨k2 + 1, by omega, by go_num, ?_, ?_⟩
            · have := HBK.out.set_ k2 (.int .u32 (ui (sv + rv)))
              rw [List.set_append_left _ _ (by rw [cw_length, addsUpto_length]; exact hk8), cw_set, HE.out] at this
              exact this
            · exact only_drewN (only_setCell hgr (.inl rfl) _) 1
          case measure => simp [intOf]; omega
        · have e8 : k2 = 8 := by omega
          go_wp2
          go_end0
          refine ⟨rfl, ?_, hgr⟩
          have := HBK.out
          rw [e8, addsUpto_all] at this
          exact this
end Go.Proofs.YtlcoebenkhafcaaGreatDoorSh
namespace Go.Proofs.YtlcoebenkhafcaaGreatDoorSh
set_option maxRecDepth 100000
open Go.RowKit
set_option linter.unusedVariables false
def Sums (w : World) (g : Nat) (m : List UInt8) : Prop := ∃ st rest, HB w g st rest (m.length : Int) ∧ Took m st rest
theorem zero39 (w : World) : (zeroValue 222).run Tryz.prog w = .ok (.agg #[.int .u32 0, .int .u32 0, .int .u32 0, .int .u32 0, .int .u32 0, .int .u32 0, .int .u32 0, .int .u32 0, .int .u8 0, .int .u8 0, .int .u8 0, .int .u8 0, .int .u8 0, .int .u8 0, .int .u8 0, .int .u8 0, .int .u8 0, .int .u8 0, .int .u8 0, .int .u8 0, .int .u8 0, .int .u8 0, .int .u8 0, .int .u8 0, .int .u8 0, .int .u8 0, .int .u8 0, .int .u8 0, .int .u8 0, .int .u8 0, .int .u8 0, .int .u8 0, .int .u8 0, .int .u8 0, .int .u8 0, .int .u8 0, .int .u8 0, .int .u8 0, .int .u8 0, .int .u8 0, .int .u8 0, .int .u8 0, .int .u8 0, .int .u8 0, .int .u8 0, .int .u8 0, .int .u8 0, .int .u8 0, .int .u8 0, .int .u8 0, .int .u8 0, .int .u8 0, .int .u8 0, .int .u8 0, .int .u8 0, .int .u8 0, .int .u8 0, .int .u8 0, .int .u8 0, .int .u8 0, .int .u8 0, .int .u8 0, .int .u8 0, .int .u8 0, .int .u8 0, .int .u8 0, .int .u8 0, .int .u8 0, .int .u8 0, .int .u8 0, .int .u8 0, .int .u8 0, .int .u64 0]) w := by kernel_rfl
set_option maxRecDepth 100000 in
theorem New_any (w : World) (ht : Tabs w) :
    Calls Tryz.prog 174 #[] w fun e w' => e = .returned (.pointer (some ⟨w.heap.size, 0, none⟩)) ∧ Sums w' w.heap.size [] ∧ Below w.heap.size w w' := by
  obtain ⟨⟨t, fr, h0⟩, _⟩ := ht
  have H0 := Lib.hid h0
  have HI := Lib.hid info35
  clear h0
  have hz := zero39
  go_enter Tryz.func174, Tryz.ntmps174
  go_wp2_with ((with_reducible refine at_dst (some 1) ?_); refine wpList_load_row (o := ⟨some 1, _, _, _, _, _⟩) rfl 219 (.global 0) rfl 0 rfl t #[.int .u32 1779033703, .int .u32 3144134277, .int .u32 1013904242, .int .u32 2773480762, .int .u32 1359893119, .int .u32 2600822924, .int .u32 528734635, .int .u32 1541459225] fr _ H0.out Tryz.underlying219 rfl ?d1 ?_)
  case d1 => simpa using HI.out
  go_ret
  refine ⟨rfl, ⟨init8, List.replicate 64 0, ?_, Took.nil⟩, (Below.refl _ _).alloc (Nat.le_refl _) _⟩
  exact heap_alloc_new _ _
theorem wpList_makeBytes {ops : Array Oper} {rest : List Oper} {o : Oper} {a : Act} {w : World} {Q : Exit → Act → World → Prop} (hgd : o.guard = none) (x y : Operand) (ho : o.op = .makeSlice 25 x y)
    (k : IntKind) (z : Int) (hx : a.eval x = .int k z) (hy : a.eval y = .int k z) (L : Nat) (hz : z = L) (hL : L ≤ 100000)
    (h : ∀ w', Hid (Blk w' w.heap.size 5 (cb (List.replicate L 0))) → Below w.heap.size w w' → w.heap.size < w'.heap.size → wpList Tryz.prog ops Q rest (a.put o.dst (.slice (some ⟨w.heap.size, 0, none⟩) L L)) w') :
    wpList Tryz.prog ops Q (o :: rest) a w := by
  obtain ⟨i0, hi, hz0, hz1, hz2⟩ := info_parts byteInfo
  subst hz
  have hm : madeCells (Value.int .u8 0).cells L = (cb (List.replicate L 0)).toArray := by
    apply Array.ext
    · simp [size_madeCells, cb]
    · intro i h1 h2
      simp [madeCells, cb, Value.cells, Nat.mod_one]
      rfl
  have hrun : (Instr.makeSlice 25 (.int k (L : Int)) (.int k (L : Int))).run Tryz.prog w = .ok (.slice (some ⟨w.heap.size, 0, none⟩) L L) (w.alloc (.cells (cb (List.replicate L 0)).toArray 5)) := by
    have := run_make (P := Tryz.prog) w 25 5 i0 _ Tryz.underlying25 hi hz0 k k (L : Int) (L : Int) (by omega) (by omega) (by rw [hz2]; omega) (by omega)
    rw [hz1, Nat.mul_one, Int.toNat_natCast, hm] at this
    exact this
  refine wpList_plain hgd fun K hK => ?_
  unfold Oper.wp
  simp [execOp, ho, hx, hy, hrun, Result.andThen]
  exact hK _ _ (h _ (heap_alloc_new _ _) ((Below.refl _ _).alloc (Nat.le_refl _) _) (by simp))
def endUpto (n k : Nat) : List UInt8 := 128 :: (List.replicate (noughts n) 0 ++ (List.range 8).map fun i => if 8 ≤ i + k then UInt8.ofNat ((8 * n) / 2 ^ (8 * (7 - i))) else 0)
theorem endUpto_length (n k : Nat) : (endUpto n k).length = 9 + noughts n := by simp [endUpto]; omega
theorem endUpto_zero (n : Nat) : endUpto n 0 = (List.replicate (9 + noughts n) 0).set 0 128 := by
  unfold endUpto
  rw [show 9 + noughts n = (noughts n + 8) + 1 by omega, List.replicate_succ, List.set_cons_zero, ← List.replicate_append_replicate]
  rfl
theorem endUpto_all (n : Nat) : endUpto n 8 = padOf n := by simp [endUpto, padOf, be64]
theorem endUpto_set (n k : Nat) (hk : k < 8) : (endUpto n k).set (9 + noughts n - 1 - k) (UInt8.ofNat ((8 * n) / 2 ^ (8 * k))) = endUpto n (k + 1) := by
  unfold endUpto
  rw [show 9 + noughts n - 1 - k = (noughts n + (7 - k)) + 1 by omega, List.set_cons_succ, List.set_append_right _ _ (by simp), List.length_replicate, Nat.add_sub_cancel_left]
  congr 2
  apply List.ext_getElem
  · simp
  · intro j h1 h2
    have hj : j < 8 := by simpa using h2
    rw [List.getElem_set]
    simp only [List.getElem_map, List.getElem_range]
    split
    · next e => subst e; rw [if_pos (by omega), show 7 - (7 - k) = k by omega]
    · next e =>
      by_cases h : 8 ≤ j + k
      · rw [if_pos h, if_pos (by omega)]
      · rw [if_neg h, if_neg (by omega)]
theorem cb_set (l : List UInt8) (i : Nat) (x : UInt8) : (cb l).set i (.int .u8 (ub x)) = cb (l.set i x) := by simp [cb, List.map_set]
theorem ub_len (n k : Nat) : ((n : Int) * 8 / 2 ^ k) % 256 = ub (UInt8.ofNat (8 * n / 2 ^ k)) := by
  have := ub_nat (8 * n) k
  rw [← this, show ((8 * n : Nat) : Int) = (n : Int) * 8 by omega]
set_option maxHeartbeats 400000 in
theorem ending_any (n : Nat) (w : World) (hn : n < 1099511627776) (L : Nat) (hL : L = (padOf n).length) :
    Calls Tryz.prog 198 #[.int .u64 (n : Int)] w fun e w' => e = .returned (.slice (some ⟨w.heap.size, 0, none⟩) L L) ∧ Blk w' w.heap.size 5 (cb (padOf n)) ∧ Below w.heap.size w w' := by
  have hq := noughts_lt n
  rw [padOf_length] at hL
  have HL := Lib.hid hL
  have l0 : 9 ≤ L := by omega
  have l1 : L ≤ 80 := by omega
  have HZ : Hid ((1 + (119 - (n : Int)) % 64 + 8 = (L : Int))) := by
    show _ = _
    rw [hL]; unfold noughts; omega
  clear hL hq
  go_enter Tryz.func198, Tryz.ntmps198
  have l2 : L ≤ 100000 := by omega
  have l3 : 0 < L := by omega
  go_wp2_with ((with_reducible refine at_dst (some 13) ?_); refine wpList_makeBytes (o := ⟨some 13, _, _, _, _, _⟩) rfl (.tmp 12) (.tmp 12) rfl _ _ rfl rfl L HZ.out l2 ?_; intro w1 hb1 hbel hsz; have hc := (hb1.out.cell 0).trans (cb_get _ 0 (by simpa using l3)); have hf := hb1.out.frozen 0)
  have K0 : Blk (w1.setCell ⟨w.heap.size, 0, none⟩ (.int .u8 128)) w.heap.size 5 (cb (endUpto n 0)) := by
    have := hb1.out.set_ 0 (.int .u8 (ub 128))
    rw [cb_set, HL.out, ← endUpto_zero] at this
    exact this
  have HK0 := Lib.hid K0
  clear K0 hc hf hb1
  go_loopw [16] (fun i wr => ∃ k : Nat, k ≤ 8 ∧ i = .int .i64 k ∧ Blk wr w.heap.size 5 (cb (endUpto n k)) ∧ Below w.heap.size w wr) (fun i _ => 8 - (intOf i).toNat)
  case atStart => exact ⟨0, by omega, rfl, HK0.out, hbel.setCell (Nat.le_refl _) _⟩
  case round =>
    obtain ⟨k, hk, rfl, hb, hbe⟩ := hrel
    by_cases hlt : k < 8
    · have hlen := endUpto_length n k
      rw [← HL.out] at hlen
      have hc := (hb.cell (L - 1 - k)).trans (cb_get _ _ (by rw [hlen]; omega))
      have hf := hb.frozen (L - 1 - k)
      have HB1 := Lib.hid hb
      clear hlen hb
      go_wp2
      go_roundw
      case rel =>
        rw [ub_len]
        refine ⟨k + 1, by omega, by go_num, ?_, hbe.setCell (Nat.le_refl _) _⟩
        have := HB1.out.set_ (L - 1 - k) (.int .u8 (ub (UInt8.ofNat (8 * n / 2 ^ (8 * k)))))
        rw [cb_set, HL.out, endUpto_set n k hlt] at this
        rw [HL.out]
        exact this
      case measure => simp [intOf]; omega
    · have e8 : k = 8 := by omega
      rw [e8, endUpto_all] at hb
      have HB1 := Lib.hid hb
      clear hb e8
      go_wp2
      go_ret
      exact ⟨rfl, HB1.out, hbe⟩
end Go.Proofs.YtlcoebenkhafcaaGreatDoorSh
namespace Go.Proofs.YtlcoebenkhafcaaGreatDoorSh
set_option maxRecDepth 100000
open Go.RowKit
set_option linter.unusedVariables false
def Seg (w : World) (A : Option Addr) (n : Nat) (l : List UInt8) : Prop :=
  l.length = n ∧ (0 < n → ∃ ad, A = some ad ∧ ad.block < w.heap.size ∧ ∀ j v, (cb l)[j]? = some v → w.cell? (ad.add j) = some v)
def Apart (A : Option Addr) (n g : Nat) : Prop := 0 < n → ∀ ad, A = some ad → ad.block ≠ g
theorem block_add (a : Addr) (n : Nat) : (a.add n).block = a.block := by unfold Addr.add; split <;> rfl
theorem add_add (a : Addr) (i j : Nat) : (a.add i).add j = a.add (i + j) := by
  unfold Addr.add
  by_cases hi : i = 0 <;> by_cases hj : j = 0 <;> simp [hi, hj, Nat.add_assoc]
theorem addr_add (b off j : Nat) : (⟨b, off, none⟩ : Addr).add j = ⟨b, off + j, none⟩ := by unfold Addr.add; split <;> simp_all
theorem Seg.grown {w w' : World} {A : Option Addr} {n : Nat} {l : List UInt8} {g : Nat} (h : Seg w A n l) (hb : w.grownBy w' (some g)) (ha : Apart A n g) : Seg w' A n l :=
  ⟨h.1, fun hn => by
    obtain ⟨ad, e, hlt, hc⟩ := h.2 hn
    exact ⟨ad, e, Nat.lt_of_lt_of_le hlt hb.size, fun j v hv => (World.cell?_of_block (hb.block (ad.add j).block (by rw [block_add]; exact hlt) (by rw [block_add]; intro e'; injection e' with e'; exact ha hn ad e e'))).trans (hc j v hv)⟩⟩
theorem Seg.below {w w' : World} {A : Option Addr} {n : Nat} {l : List UInt8} (h : Seg w A n l) (hb : Below w.heap.size w w') : Seg w' A n l :=
  ⟨h.1, fun hn => by
    obtain ⟨ad, e, hlt, hc⟩ := h.2 hn
    exact ⟨ad, e, Nat.lt_of_lt_of_le hlt hb.size, fun j v hv => (hb.cell (p := ad.add j) (by rw [block_add]; exact hlt)).trans (hc j v hv)⟩⟩
theorem Seg.cut {w : World} {A : Option Addr} {n : Nat} {l : List UInt8} (h : Seg w A n l) (k cap : Nat) (hk : k ≤ n) (hc : n ≤ cap) : Seg w (if cap = k then A else A.map (·.add k)) (n - k) (l.drop k) := by
  refine ⟨by rw [List.length_drop, h.1], fun hm => ?_⟩
  obtain ⟨ad, rfl, hlt, hcell⟩ := h.2 (by omega)
  rw [if_neg (by omega)]
  refine ⟨ad.add k, rfl, by rw [block_add]; exact hlt, fun j v hv => ?_⟩
  rw [add_add]
  refine hcell _ v ?_
  rw [← hv]
  simp [cb, List.getElem?_drop]
theorem Apart.cut {A : Option Addr} {n g : Nat} (h : Apart A n g) (k cap : Nat) (hk : k ≤ n) (hc : n ≤ cap) : Apart (if cap = k then A else A.map (·.add k)) (n - k) g := by
  intro hn ad e
  rw [if_neg (by omega)] at e
  rcases A with _ | a
  · cases e
  · have : a.add k = ad := by injection e
    rw [← this, block_add]
    exact h (by omega) a rfl
theorem Seg.head {w : World} {A : Option Addr} {n : Nat} {l : List UInt8} (h : Seg w A n l) (k : Nat) (hk : k ≤ n) (hp : 0 < (cb (l.take k)).length) :
    ∃ ad, A = some ad ∧ ∀ j v, (cb (l.take k))[j]? = some v → w.cell? (ad.add j) = some v := by
  rw [cb_length, List.length_take, h.1] at hp
  obtain ⟨ad, e, _, hc⟩ := h.2 (by omega)
  refine ⟨ad, e, fun j v hv => hc j v ?_⟩
  have : (cb (l.take k)) = (cb l).take k := by simp [cb, List.map_take]
  rw [this] at hv
  rw [List.getElem?_take] at hv
  split at hv
  · exact hv
  · cases hv
theorem run_tail (A : Option Addr) (k cap lo : Nat) (h2 : lo ≤ k) (L : Int) (hL : L = (lo : Int)) (w : World) :
    (Instr.slice 25 (.slice A k cap) (some (.int .i64 L)) none none).run Tryz.prog w = .ok (.slice (if cap = lo then A else A.map (·.add lo)) (k - lo) (cap - lo)) w := by
  subst hL
  obtain ⟨i0, hi0, hz0, hz1, hz2⟩ := info_parts byteInfo
  simp [Instr.slice, run_underlying Tryz.underlying25, Instr.sliceBounds, run_sliceBound, sizeOf, typeInfo, hi0, hz1, h2]
theorem splice_HB (st : S8) (rest c : List UInt8) (len : Int) (at_ : Nat) (hr : rest.length = 64) (hc : at_ + c.length ≤ 64) :
    splice (cw st.list ++ (cb rest ++ [.int .u64 len])) (8 + at_) (cb c) = cw st.list ++ (cb (over rest at_ c) ++ [.int .u64 len]) := by
  have h8 : (cw st.list).length = 8 := rfl
  unfold splice over
  rw [List.take_append, h8, List.take_of_length_le (by rw [h8]; omega), show 8 + at_ - 8 = at_ by omega, List.take_append_of_le_length (by rw [cb_length]; omega),
    List.drop_append, h8, List.drop_eq_nil_of_le (by rw [h8]; omega), List.nil_append, cb_length, show 8 + at_ + c.length - 8 = at_ + c.length by omega, List.drop_append_of_le_length (by rw [cb_length]; omega)]
  simp [cb, List.map_take, List.map_drop]
theorem run_cutRest (g at_ : Nat) (h : at_ < 64) (w : World) : (Instr.sliceAt 220 (.pointer (some ⟨g, 8, none⟩)) (some (.int .i64 (at_ : Int))) none none).run Tryz.prog w = .ok (.slice (some ⟨g, 8 + at_, none⟩) (64 - at_) (64 - at_)) w := by
  obtain ⟨i0, hi0, hz0, hz1, hz2⟩ := info_parts byteInfo
  have h1 : ¬ 64 = at_ := by omega
  have hb := run_sliceBound (P := Tryz.prog) (w := w) .i64 (at_ : Int) 64 .sliceB (by omega) (by omega)
  rw [Int.toNat_natCast] at hb
  simp [Instr.sliceAt, Instr.sureAddr, run_underlying Tryz.underlying220, Instr.sliceBounds, hb, sizeOf, typeInfo, hi0, hz1, h1, addr_add]
theorem HB.length {w : World} {g : Nat} {st : S8} {rest : List UInt8} {len : Int} (h : HB w g st rest len) : w.cell? ⟨g, 8 + rest.length, none⟩ = some (.int .u64 len) := by
  have := Blk.cell h (8 + rest.length)
  rw [this, List.getElem?_append_right (by rw [cw_length]; show 8 ≤ _; omega), List.getElem?_append_right (by rw [cw_length, cb_length]; show _ ≤ _ - 8; omega), cw_length, cb_length]
  rw [show 8 + rest.length - st.list.length - rest.length = 0 by show 8 + rest.length - 8 - rest.length = 0; omega]
  rfl
theorem HB.setLen {w : World} {g : Nat} {st : S8} {rest : List UInt8} {len : Int} (h : HB w g st rest len) (hr : rest.length = 64) (n : Int) : HB (w.setCell ⟨g, 72, none⟩ (.int .u64 n)) g st rest n := by
  have := Blk.set_ h 72 (.int .u64 n)
  rw [List.set_append_right _ _ (by rw [cw_length]; show 8 ≤ 72; omega), List.set_append_right _ _ (by rw [cw_length, cb_length, hr]; show 64 ≤ 72 - 8; omega), cw_length, cb_length, hr] at this
  exact this
def Left (w : World) (g : Nat) (m l : List UInt8) (A1 : Option Addr) (n1 cap1 : Nat) (w' : World) : Prop :=
  ∃ (m1 l1 : List UInt8) (st1 : S8) (rest1 : List UInt8), m1 ++ l1 = m ++ l ∧ m1.length % 64 = 0 ∧ Took m1 st1 rest1 ∧ HB w' g st1 rest1 ((m.length + l.length : Nat) : Int) ∧ Seg w' A1 n1 l1 ∧ Apart A1 n1 g ∧ n1 ≤ cap1 ∧ n1 ≤ 140737488355328 ∧ Tabs w' ∧ w.grownBy w' (some g)
def AtMore (w : World) (g : Nat) (m l : List UInt8) (a' : Act) (w' : World) : Prop :=
  ∃ (A1 : Option Addr) (n1 cap1 : Nat) (u5 u6 u7 u8 u9 u10 u11 u12 u13 u14 u15 u16 u17 u18 u19 u20 u21 u22 u23 u24 u25 u26 u27 u28 u29 u30 u31 u32 u33 u34 u35 u36 u37 u38 : Value), a' = ⟨#[.pointer (some ⟨g, 0, none⟩), .slice A1 n1 cap1, undef, undef, .int .i64 0, u5, u6, u7, u8, u9, u10, u11, u12, u13, u14, u15, u16, u17, u18, u19, u20, u21, u22, u23, u24, u25, u26, u27, u28, u29, u30, u31, u32, u33, u34, u35, u36, u37, u38, undef, undef, undef, undef, undef, undef, undef], []⟩ ∧ Left w g m l A1 n1 cap1 w'
def lenOfSlot (a' : Act) : Nat := match a'.tmps.getD 1 undef with
  | .slice _ n _ => n
  | _ => 0
theorem Left.step {w w2 : World} {g : Nat} {m l m1 l1 : List UInt8} {st1 : S8} {rest1 : List UInt8} {A1 : Option Addr} {n1 cap1 k : Nat} (e : m1 ++ l1 = m ++ l) (htk : Took m1 st1 rest1) (hk : m1.length % 64 + k = 64) (hkn : k ≤ n1)
    (hHB : HB w2 g (compress st1 (over rest1 (m1.length % 64) (l1.take k))) (over rest1 (m1.length % 64) (l1.take k)) ((m.length + l.length : Nat) : Int)) (hs : Seg w2 A1 n1 l1) (ha : Apart A1 n1 g) (hc : n1 ≤ cap1) (hcap : n1 ≤ 140737488355328)
    (ht : Tabs w2) (hgr : w.grownBy w2 (some g)) : Left w g m l (if cap1 = k then A1 else A1.map (·.add k)) (n1 - k) (cap1 - k) w2 := by
  have hl : (l1.take k).length = k := by rw [List.length_take, hs.1]; omega
  refine ⟨m1 ++ l1.take k, l1.drop k, _, _, ?_, ?_, htk.full (l1.take k) (by omega), hHB, hs.cut k cap1 hkn hc, ha.cut k cap1 hkn hc, by omega, by omega, ht, hgr⟩
  · rw [List.append_assoc, List.take_append_drop]; exact e
  · rw [List.length_append, hl]; omega
set_option maxHeartbeats 1000000 in
set_option maxRecDepth 100000 in
theorem Write_any (g : Nat) (m l : List UInt8) (A : Option Addr) (n cap : Nat) (w : World) (h : Sums w g m) (hs : Seg w A n l) (ha : Apart A n g) (hc : n ≤ cap) (hcap : n ≤ 140737488355328) (hm : m.length < 1099511627776) (ht : Tabs w) (hg : 3 < g) :
    Calls Tryz.prog 175 #[.pointer (some ⟨g, 0, none⟩), .slice A n cap] w fun e w' => e = .returned (.tuple #[]) ∧ Sums w' g (m ++ l) ∧ w.grownBy w' (some g) := by
  obtain ⟨st, rest, hb, htk⟩ := h
  obtain ⟨M, hM⟩ : ∃ M, M = m.length := ⟨_, rfl⟩
  have c72 := hb.length
  rw [htk.2.1, ← hM] at c72
  have f72 := Blk.frozen hb 72
  have hbnd : M < 1099511627776 := by omega
  have HM := Lib.hid hM
  have HHB := Lib.hid hb
  have HTK := Lib.hid htk
  have HSEG := Lib.hid hs
  have HAP := Lib.hid ha
  have HTB := Lib.hid ht
  clear hM hb htk hs ha ht hm
  have hsl := run_cutRest g (M % 64) (by omega)
  rw [show (((M % 64 : Nat)) : Int) = (M : Int) % 64 by omega] at hsl
  have B0 : HB (w.setCell ⟨g, 72, none⟩ (.int .u64 ((M : Int) + n))) g st rest ((M : Int) + n) := HHB.out.setLen HTK.out.2.1 _
  have G0 : w.grownBy (w.setCell ⟨g, 72, none⟩ (.int .u64 ((M : Int) + n))) (some g) := only_setCell (World.grownBy.refl w _) (.inl rfl) _
  have S0 := HSEG.out.grown G0 HAP.out
  have T0 := HTB.out.grown G0 (by intro j hj; injection hj; omega)
  have HB0 := Lib.hid B0
  have HG0 := Lib.hid G0
  have HS0 := Lib.hid S0
  have HT0 := Lib.hid T0
  clear B0 G0 S0 T0
  by_cases hfull : 64 ≤ M % 64 + n
  · obtain ⟨k0, hk0⟩ : ∃ k, k = 64 - M % 64 := ⟨_, rfl⟩
    obtain ⟨C, hC⟩ : ∃ C, C = cb (l.take k0) := ⟨_, rfl⟩
    have hCl : C.length = k0 := by rw [hC, cb_length, List.length_take, HSEG.out.1]; omega
    have htl := run_tail A n cap k0 (by omega) (k0 : Int) rfl
    obtain ⟨A2, hA2⟩ : ∃ A2, A2 = (if cap = k0 then A else A.map (·.add k0)) := ⟨_, rfl⟩
    obtain ⟨n2, hn2⟩ : ∃ n2, n2 = n - k0 := ⟨_, rfl⟩
    obtain ⟨cap2, hcap2⟩ : ∃ c, c = cap - k0 := ⟨_, rfl⟩
    rw [← hA2, ← hn2, ← hcap2] at htl
    rw [← hk0] at hsl
    have hd : decide (64 ≤ (M : Int) % 64 + n) = true := by simp; omega
    have HK0 := Lib.hid hk0
    have HC := Lib.hid hC
    have HA2 := Lib.hid hA2
    have HN2 := Lib.hid hn2
    have HCAP2 := Lib.hid hcap2
    clear hk0 hC hA2 hn2 hcap2
    go_enter Tryz.func175, Tryz.ntmps175
    go_wp2
    refine wp_scope_jumps 0 (AtMore w g m l) (fun a' _ => lenOfSlot a') rfl ?_ ?_
    · go_wp2
      go_step3
      go_wp2_with (first
        | ((with_reducible refine at_dst (some 33) ?_); refine wpList_copy_abs (o := ⟨some 33, _, _, _, _, _⟩) rfl (.tmp 31) (.tmp 32) 25 25 rfl 5 Tryz.underlying25 byteSize _ _ _ _ _ _ rfl rfl g (8 + M % 64) _ 222 HB0.out C ?d1 ?d2 ?d3 ?d4 (fun w1 hb1 hg1 => ?_)))
      case d1 => rw [hCl]; have := HK0.out; show k0 = min n k0; omega
      case d2 =>
        intro hp
        have hp2 : 0 < (cb (l.take k0)).length := by rw [← HC.out, hCl]; exact hp
        rw [HC.out]
        exact HS0.out.head k0 (by have := HK0.out; omega) hp2
      case d3 => rw [hCl]; have := HK0.out; rw [List.length_append, List.length_append, cw_length, cb_length, HTK.out.2.1]; show 8 + M % 64 + k0 ≤ 8 + (64 + 1); omega
      case d4 => rw [HC.out]; exact cb_one _
      have B1 : HB w1 g st (over rest (M % 64) (l.take k0)) ((m.length + l.length : Nat) : Int) := by
        have := hb1.out
        rw [HC.out, splice_HB st rest (l.take k0) _ (M % 64) HTK.out.2.1 (by rw [List.length_take, HSEG.out.1]; have := HK0.out; omega)] at this
        rw [← HM.out, HSEG.out.1]
        exact this
      have R1 : (over rest (M % 64) (l.take k0)).length = 64 := by rw [over_length _ _ _ (by rw [List.length_take, HSEG.out.1, HTK.out.2.1]; have := HK0.out; omega)]; exact HTK.out.2.1
      have T1 := HT0.out.grown hg1 (by intro j hj; injection hj; omega)
      refine (take_any g st _ _ w1 B1 R1 T1 hg).mono ?_
      rintro e w2 ⟨rfl, hHB, hg2⟩
      have G2 : w.grownBy w2 (some g) := only_then (only_then HG0.out hg1 (fun j hj => .inl (by injection hj with hj; exact hj.symm))) hg2 (fun j hj => .inl (by injection hj with hj; exact hj.symm))
      have S2 := (HS0.out.grown hg1 HAP.out).grown hg2 HAP.out
      have T2 := T1.grown hg2 (by intro j hj; injection hj; omega)
      have LL : Left w g m l A2 n2 cap2 w2 := by
        rw [HA2.out, HN2.out, HCAP2.out]
        rw [HM.out] at hHB
        have hk := HK0.out
        rw [HM.out] at hk
        exact Left.step rfl HTK.out (by omega) (by have := HM.out; omega) hHB S2 HAP.out hc hcap T2 G2
      have HLL := Lib.hid LL
      clear B1 R1 T1 hHB hg2 G2 S2 T2 LL hb1 hg1
      go_wp2
      go_step3
      show 0 = 0 ∧ AtMore w g m l _ w2
      exact ⟨rfl, _, _, _, _, _, _, _, _, _, _, _, _, _, _, _, _, _, _, _, _, _, _, _, _, _, _, _, _, _, _, _, _, _, _, _, _, _, rfl, HLL.out⟩
    · rintro a' w' ⟨A1, n1, cap1, u5, u6, u7, u8, u9, u10, u11, u12, u13, u14, u15, u16, u17, u18, u19, u20, u21, u22, u23, u24, u25, u26, u27, u28, u29, u30, u31, u32, u33, u34, u35, u36, u37, u38, rfl, m1, l1, st1, rest1, he, hm64, htk1, hb1, hs1, ha1, hc1, hcap1, ht1, hgr1⟩
      have hsl0 := run_cutRest g 0 (by omega)
      have HE := Lib.hid he
      have HM64 := Lib.hid hm64
      have HTK1 := Lib.hid htk1
      have HB1 := Lib.hid hb1
      have HS1 := Lib.hid hs1
      have HT1 := Lib.hid ht1
      clear he hm64 htk1 hb1 hs1 ht1 htl hsl hCl hd HK0 HC HA2 HN2 HCAP2 A2 n2 cap2 C k0
      by_cases h64 : 64 ≤ n1
      · obtain ⟨C, hC⟩ : ∃ C, C = cb (l1.take 64) := ⟨_, rfl⟩
        have hCl : C.length = 64 := by rw [hC, cb_length, List.length_take, HS1.out.1]; omega
        have htl := run_tail A1 n1 cap1 64 (by omega) 64 rfl
        obtain ⟨A2, hA2⟩ : ∃ A2, A2 = (if cap1 = 64 then A1 else A1.map (·.add 64)) := ⟨_, rfl⟩
        obtain ⟨n2, hn2⟩ : ∃ n2, n2 = n1 - 64 := ⟨_, rfl⟩
        obtain ⟨cap2, hcap2⟩ : ∃ c, c = cap1 - 64 := ⟨_, rfl⟩
        rw [← hA2, ← hn2, ← hcap2] at htl
        have hd : decide (64 ≤ (n1 : Int)) = true := by simp; omega
        have HC := Lib.hid hC
        have HA2 := Lib.hid hA2
        have HN2 := Lib.hid hn2
        have HCAP2 := Lib.hid hcap2
        clear hC hA2 hn2 hcap2
        go_wp2_with (first
          | ((with_reducible refine at_dst (some 33) ?_); refine wpList_copy_abs (o := ⟨some 33, _, _, _, _, _⟩) rfl (.tmp 31) (.tmp 32) 25 25 rfl 5 Tryz.underlying25 byteSize _ _ _ _ _ _ rfl rfl g 8 _ 222 HB1.out C ?d1 ?d2 ?d3 ?d4 (fun w1 hb1 hg1 => ?_)))
        case d1 => rw [hCl]; show 64 = min n1 64; omega
        case d2 =>
          have hp2 : 0 < (cb (l1.take 64)).length := by rw [← HC.out, hCl]; omega
          rw [HC.out]
          exact HS1.out.head 64 h64 hp2
        case d3 => rw [hCl, List.length_append, List.length_append, cw_length, cb_length, HTK1.out.2.1]; show 8 + 64 ≤ 8 + (64 + 1); omega
        case d4 => rw [HC.out]; exact cb_one _
        have B1 : HB w1 g st1 (over rest1 (m1.length % 64) (l1.take 64)) ((m.length + l.length : Nat) : Int) := by
          have := hb1.out
          rw [HC.out] at this
          have e := splice_HB st1 rest1 (l1.take 64) ((m.length + l.length : Nat) : Int) 0 HTK1.out.2.1 (by rw [List.length_take, HS1.out.1]; omega)
          rw [HM64.out]
          rw [show 8 + 0 = 8 from rfl] at e
          rw [e] at this
          exact this
        have R1 : (over rest1 (m1.length % 64) (l1.take 64)).length = 64 := by rw [over_length _ _ _ (by rw [List.length_take, HS1.out.1, HTK1.out.2.1, HM64.out]; omega)]; exact HTK1.out.2.1
        have T1 := HT1.out.grown hg1 (by intro j hj; injection hj; omega)
        refine (take_any g st1 _ _ w1 B1 R1 T1 hg).mono ?_
        rintro e w2 ⟨rfl, hHB, hg2⟩
        have G2 : w.grownBy w2 (some g) := only_then (only_then hgr1 hg1 (fun j hj => .inl (by injection hj with hj; exact hj.symm))) hg2 (fun j hj => .inl (by injection hj with hj; exact hj.symm))
        have S2 := (HS1.out.grown hg1 ha1).grown hg2 ha1
        have T2 := T1.grown hg2 (by intro j hj; injection hj; omega)
        have LL : Left w g m l A2 n2 cap2 w2 := by
          rw [HA2.out, HN2.out, HCAP2.out]
          exact Left.step HE.out HTK1.out (by rw [HM64.out]) h64 hHB S2 ha1 hc1 hcap1 T2 G2
        have HLL := Lib.hid LL
        clear B1 R1 T1 hHB hg2 G2 S2 T2 LL hb1 hg1
        go_wp2
        go_step3
        show 0 = 0 ∧ (AtMore w g m l _ w2 ∧ _)
        refine ⟨rfl, ⟨_, _, _, _, _, _, _, _, _, _, _, _, _, _, _, _, _, _, _, _, _, _, _, _, _, _, _, _, _, _, _, _, _, _, _, _, _, rfl, HLL.out⟩, ?_⟩
        have := HN2.out
        simp [lenOfSlot]
        omega
      · have hd : decide (64 ≤ (n1 : Int)) = false := by simp; omega
        obtain ⟨C, hC⟩ : ∃ C, C = cb l1 := ⟨_, rfl⟩
        have hCl : C.length = n1 := by rw [hC, cb_length, HS1.out.1]
        have HC := Lib.hid hC
        clear hC
        go_wp2_with (first
          | ((with_reducible refine at_dst (some 45) ?_); refine wpList_copy_abs (o := ⟨some 45, _, _, _, _, _⟩) rfl (.tmp 43) (.tmp 44) 25 25 rfl 5 Tryz.underlying25 byteSize _ _ _ _ _ _ rfl rfl g 8 _ 222 HB1.out C ?e1 ?e2 ?e3 ?e4 (fun w1 hb1 hg1 => ?_)))
        case e1 => rw [hCl]; show n1 = min n1 64; omega
        case e2 =>
          intro hp
          rw [HC.out]
          obtain ⟨ad, e, _, hcl⟩ := HS1.out.2 (by omega)
          exact ⟨ad, e, hcl⟩
        case e3 => rw [hCl, List.length_append, List.length_append, cw_length, cb_length, HTK1.out.2.1]; show 8 + n1 ≤ 8 + (64 + 1); omega
        case e4 => rw [HC.out]; exact cb_one _
        simp only [Exit.jump]
        go_end0
        refine ⟨rfl, ?_, only_then hgr1 hg1 (fun j hj => .inl (by injection hj with hj; exact hj.symm))⟩
        have hl1 := HS1.out.1
        have hq := HTK1.out.some l1 (by rw [HM64.out]; omega)
        have hz := hb1.out
        have e := splice_HB st1 rest1 l1 ((m.length + l.length : Nat) : Int) 0 HTK1.out.2.1 (by omega)
        rw [show 8 + 0 = 8 from rfl] at e
        rw [HC.out, e] at hz
        rw [HM64.out, HE.out] at hq
        exact ⟨st1, _, by rw [List.length_append]; exact hz, hq⟩
  · obtain ⟨C, hC⟩ : ∃ C, C = cb l := ⟨_, rfl⟩
    have hCl : C.length = n := by rw [hC, cb_length, HSEG.out.1]
    have hd : decide (64 ≤ (M : Int) % 64 + n) = false := by simp; omega
    have HC := Lib.hid hC
    clear hC
    go_enter Tryz.func175, Tryz.ntmps175
    go_wp2
    refine wp_scope_jumps 0 (fun _ _ => False) (fun _ _ => 0) rfl ?_ (fun _ _ h => h.elim)
    go_wp2
    go_step3
    go_wp2_with (first
      | ((with_reducible refine at_dst (some 45) ?_); refine wpList_copy_abs (o := ⟨some 45, _, _, _, _, _⟩) rfl (.tmp 43) (.tmp 44) 25 25 rfl 5 Tryz.underlying25 byteSize _ _ _ _ _ _ rfl rfl g (8 + M % 64) _ 222 HB0.out C ?e1 ?e2 ?e3 ?e4 (fun w1 hb1 hg1 => ?_)))
    case e1 => rw [hCl]; show n = min n (64 - M % 64); omega
    case e2 =>
      intro hp
      rw [HC.out]
      obtain ⟨ad, e, _, hcl⟩ := HS0.out.2 (by omega)
      exact ⟨ad, e, hcl⟩
    case e3 => rw [hCl, List.length_append, List.length_append, cw_length, cb_length, HTK.out.2.1]; show 8 + M % 64 + n ≤ 8 + (64 + 1); omega
    case e4 => rw [HC.out]; exact cb_one _
    simp only [Exit.jump]
    go_end0
    refine ⟨rfl, ?_, only_then HG0.out hg1 (fun j hj => .inl (by injection hj with hj; exact hj.symm))⟩
    have hl1 := HSEG.out.1
    have hq := HTK.out.some l (by have := HM.out; omega)
    have hz := hb1.out
    have e := splice_HB st rest l ((M : Int) + n) (M % 64) HTK.out.2.1 (by omega)
    rw [HC.out, e] at hz
    rw [HM.out] at hz
    refine ⟨st, _, ?_, hq⟩
    rw [List.length_append, HSEG.out.1]
    exact hz
end Go.Proofs.YtlcoebenkhafcaaGreatDoorSh
namespace Go.Proofs.YtlcoebenkhafcaaGreatDoorSh
set_option maxRecDepth 100000
open Go.RowKit
set_option linter.unusedVariables false
def outUpto (s : S8) (n : Nat) : List UInt8 := s.out.take n ++ List.replicate (32 - n) 0
theorem outUpto_length (s : S8) (n : Nat) (h : n ≤ 32) : (outUpto s n).length = 32 := by simp [outUpto, out_length]; omega
theorem outUpto_set (s : S8) (n : Nat) (h : n < 32) : (outUpto s n).set n (s.out.getD n 0) = outUpto s (n + 1) := by
  unfold outUpto
  have hl : (s.out.take n).length = n := by rw [List.length_take, out_length]; omega
  rw [List.set_append_right _ _ (by omega), hl, Nat.sub_self, show 32 - n = (32 - (n + 1)) + 1 by omega, List.replicate_succ, List.set_cons_zero, List.take_succ_eq_append_getElem (by rw [out_length]; exact h)]
  rw [List.append_assoc]
  have e : s.out.getD n 0 = s.out[n]'(by rw [out_length]; exact h) := by simp [List.getD, List.getElem?_eq_getElem (show n < s.out.length by rw [out_length]; exact h)]
  rw [e]; rfl
theorem outUpto_all (s : S8) : outUpto s 32 = s.out := by simp [outUpto, List.take_of_length_le (show s.out.length ≤ 32 by rw [out_length]; omega)]
theorem out_get (s : S8) (i k : Nat) (hi : i < 8) (hk : k < 4) : s.out.getD (4 * i + k) 0 = UInt8.ofNat (s.list.getD i 0 >>> (24 - 8 * k)).toNat := by
  obtain ⟨a, b, c, d, e, f, g, h⟩ := s
  obtain rfl | rfl | rfl | rfl | rfl | rfl | rfl | rfl : i = 0 ∨ i = 1 ∨ i = 2 ∨ i = 3 ∨ i = 4 ∨ i = 5 ∨ i = 6 ∨ i = 7 := by omega
  all_goals
    obtain rfl | rfl | rfl | rfl : k = 0 ∨ k = 1 ∨ k = 2 ∨ k = 3 := by omega
    all_goals rfl
theorem Sums.drewN {w : World} {g : Nat} {m : List UInt8} (h : Sums w g m) (n : Nat) : Sums (w.drewN n) g m := h
theorem Sums.grown {w w' : World} {g : Nat} {m : List UInt8} {row : Option Nat} (h : Sums w g m) (k : w.grownBy w' row) (hne : some g ≠ row) : Sums w' g m := by
  obtain ⟨st, rest, hb, ht⟩ := h
  exact ⟨st, rest, Blk.grown hb k hne, ht⟩
theorem Sums.below {w w' : World} {g : Nat} {m : List UInt8} {B : Nat} (h : Sums w g m) (k : Below B w w') (hg : g < B) : Sums w' g m := by
  obtain ⟨st, rest, hb, ht⟩ := h
  exact ⟨st, rest, Blk.below hb k hg, ht⟩
theorem Sums.lt {w : World} {g : Nat} {m : List UInt8} (h : Sums w g m) : g < w.heap.size := by
  obtain ⟨st, rest, hb, ht⟩ := h
  exact Blk.lt hb
theorem Blk.seg {w : World} {g : Nat} {l : List UInt8} (h : Blk w g 5 (cb l)) (n : Nat) (hn : l.length = n) : Seg w (some ⟨g, 0, none⟩) n l :=
  ⟨hn, fun _ => ⟨_, rfl, h.lt, fun j v hv => by rw [addr_add, Nat.zero_add, h.cell]; exact hv⟩⟩
theorem HB.cells_length (st : S8) (rest : List UInt8) (len : Int) (hr : rest.length = 64) : (cw st.list ++ (cb rest ++ [Value.int .u64 len])).length = 73 := by
  rw [List.length_append, List.length_append, cw_length, cb_length, hr]; rfl
theorem HB.cells_one (st : S8) (rest : List UInt8) (len : Int) : ∀ v ∈ cw st.list ++ (cb rest ++ [Value.int .u64 len]), v.oneCell' = true := by
  intro v hv
  rcases List.mem_append.1 hv with h | h
  · exact cw_one _ v h
  · rcases List.mem_append.1 h with h | h
    · exact cb_one _ v h
    · rw [List.mem_singleton.1 h]; rfl
theorem store_fact {w w1 : World} {o : Obj} {g off : Nat} {v : Value} (hg1 : (w.alloc o).grownBy w1 (some w.heap.size)) (hc : w.cell? ⟨g, off, none⟩ = some v) : w1.cell? ⟨g, off, none⟩ = some v := by
  have hlt : g < w.heap.size := World.block_lt_of_cell? w ⟨g, off, none⟩ hc
  rw [World.cell?_of_block (hg1.block g (by simp; omega) (by intro e; injection e; omega)), World.cell?_alloc_lt _ _ _ hlt]
  exact hc
def GivesSum (w : World) (L : List UInt8) (e : Ending) (w' : World) : Prop :=
  ∃ g, e = .returned (.slice (some ⟨g, 0, none⟩) 32 32) ∧ w.heap.size ≤ g ∧ Blk w' g 5 (cb L) ∧ Below w.heap.size w w'
set_option maxHeartbeats 1000000 in
set_option maxRecDepth 100000 in
theorem Sum_any (g : Nat) (m : List UInt8) (w : World) (h : Sums w g m) (hm : m.length < 1000000) (ht : Tabs w) (hg : 3 < g) :
    Calls Tryz.prog 176 #[.pointer (some ⟨g, 0, none⟩)] w (GivesSum w (sha m)) := by
  obtain ⟨st, rest, hb, htk⟩ := h
  have hlt := Blk.lt hb
  have c72 := hb.length
  rw [htk.2.1] at c72
  have hr : w.rangeAt g 0 (cw st.list ++ (cb rest ++ [.int .u64 (m.length : Int)])) := Blk.range hb 0 _ (fun j v hv => by rw [Nat.zero_add]; exact hv)
  obtain ⟨M, hM⟩ : ∃ M, M = m.length := ⟨_, rfl⟩
  obtain ⟨CS, hCS⟩ : ∃ CS, CS = cw st.list ++ (cb rest ++ [Value.int .u64 (m.length : Int)]) := ⟨_, rfl⟩
  obtain ⟨L, hL⟩ : ∃ L, L = (padOf m.length).length := ⟨_, rfl⟩
  have hLb : L ≤ 80 := by rw [hL, padOf_length]; have := noughts_lt m.length; omega
  rw [← hM] at c72
  rw [← hCS] at hr
  have hCl : CS.length = 73 := by rw [hCS]; exact HB.cells_length st rest _ htk.2.1
  have hC1 : ∀ v ∈ CS, v.oneCell' = true := by rw [hCS]; exact HB.cells_one st rest _
  have HCS := Lib.hid hCS
  have HCL := Lib.hid hCl
  have HC1 := Lib.hid hC1
  have HR := Lib.hid hr
  have HM := Lib.hid hM
  have HL := Lib.hid hL
  have HTK := Lib.hid htk
  have HTB := Lib.hid ht
  have HI39 := Lib.hid info39
  have HI35 := Lib.hid info35
  have hMb : M < 1000000 := by omega
  clear hCS hCl hC1 hr hM hL htk ht hb hm
  have hz := zero39
  go_enter Tryz.func176, Tryz.ntmps176
  go_wp2_with (first
    | ((with_reducible refine at_dst (some 10) ?_); refine wpList_load_mid (op := ⟨some 10, _, _, _, _, _⟩) rfl 222 (.tmp 9) rfl g 0 rfl CS _ ?d1 Tryz.underlying222 rfl ?d2 ?_)
    | ((with_reducible refine at_store 222 ?_); refine wpList_store_abs (o := ⟨none, _, _, _, _, _⟩) rfl 222 (.tmp 3) (.tmp 10) rfl w.heap.size CS rfl rfl 222 (cw (List.replicate 8 0) ++ (cb (List.replicate 64 0) ++ [.int .u64 0])) ?d3 ?d4 ?d5 ?d6 (fun w1 hb1 hg1 => (fun (c1 : w1.cell? ⟨g, 72, none⟩ = some (.int .u64 (M : Int))) => ?_) (store_fact hg1 c72)))
    | (go_at_call 198; refine (ending_any M w1 (by omega) L (by rw [HM.out]; exact HL.out)).mono ?_; rintro e w2 ⟨rfl, hbk2, hbel2⟩))
  case d1 => exact HR.out
  case d2 => simpa [HCL.out] using HI39.out
  case d3 => exact heap_alloc_new _ _
  case d4 => simpa [HCL.out] using HI39.out
  case d5 => rw [HCL.out]; rfl
  case d6 => exact HC1.out
  have hs1 : w.heap.size < w1.heap.size := by have := hg1.size; simp at this; omega
  have hs2 := hbel2.size
  have b1 : Below w.heap.size w w1 := below_only ((Below.refl w.heap.size w).alloc (Nat.le_refl _) _) hg1 (by simp) (by intro j hj; injection hj; omega)
  have T1 : Tabs w1 := HTB.out.below b1
  have T2 : Tabs w2 := T1.below hbel2
  have b2 : Below w.heap.size w w2 := b1.trans (hbel2.mono (by omega))
  have SM : Sums w2 w.heap.size m := by
    refine ⟨st, rest, ?_, HTK.out⟩
    have := hb1.out
    rw [HCS.out] at this
    exact Blk.below this hbel2 hs1
  have SG := hbk2.seg L (by rw [HL.out, HM.out])
  have AP : Apart (some (⟨w1.heap.size, 0, none⟩ : Addr)) L w.heap.size := by
    intro _ ad e
    injection e with e
    rw [← e]
    show w1.heap.size ≠ w.heap.size
    omega
  rw [HM.out] at SG
  refine (Write_any w.heap.size m (padOf m.length) _ L L w2 SM SG AP (Nat.le_refl _) (by omega) (by have := HM.out; omega) T2 (by have := HTB.out.lt; omega)).mono ?_
  rintro e w3 ⟨rfl, hSM3, hg3⟩
  obtain ⟨st3, rest3, hb3, htk3⟩ := hSM3
  have hs3 := hg3.size
  have hout : st3.out = sha m := Took.end_ htk3
  have b3 : Below w.heap.size w w3 := below_only b2 hg3 (by omega) (by intro j hj; injection hj; omega)
  have R3 := hb3.st
  have HR3 := Lib.hid R3
  have HOUT := Lib.hid hout
  have HB3 := Lib.hid hb3
  clear T1 T2 b1 b2 SM SG AP hbk2 hbel2 hg1 hb1 hg3 R3 hout hb3 htk3 c1 c72
  go_wp2_with (first
    | ((with_reducible refine at_dst (some 17) ?_); refine wpList_makeBytes (o := ⟨some 17, _, _, _, _, _⟩) rfl _ _ rfl _ _ rfl rfl 32 rfl (by omega) ?_; intro w4 hb4 hbel4 hs4)
    | ((with_reducible refine at_dst (some 19) ?_); refine wpList_load_mid (op := ⟨some 19, _, _, _, _, _⟩) rfl 219 (.tmp 18) rfl w.heap.size 0 rfl (cw st3.list) _ ?f1 Tryz.underlying219 rfl ?f2 ?_))
  case f1 => exact HB.st (Blk.below HB3.out hbel4 (by omega))
  case f2 => rw [HI35.out]; rfl
  have hb4' : Blk w4 w3.heap.size 5 (cb (outUpto st3 (4 * 0))) := hb4.out
  have b4 : Below w.heap.size w w4 := b3.trans (hbel4.mono (by omega))
  have HB4 := Lib.hid hb4'
  have HOB : w.heap.size ≤ w3.heap.size := by omega
  clear hb4' hb4 hbel4 b3
  go_loopw [20] (fun i wr => ∃ k : Nat, k ≤ 8 ∧ i = .int .i64 k ∧ Blk wr w3.heap.size 5 (cb (outUpto st3 (4 * k))) ∧ Below w.heap.size w wr) (fun i _ => 8 - (intOf i).toNat)
  case atStart => exact ⟨0, by omega, rfl, HB4.out, b4⟩
  case round =>
    obtain ⟨i, hi, rfl, hbk, hbe⟩ := hrel
    have HBK := Lib.hid hbk
    clear hbk b4 HB4
    by_cases hi8 : i < 8
    · have hix := index35 st3.list i rfl hi8
      obtain ⟨x, hx⟩ : ∃ x, x = st3.list.getD i 0 := ⟨_, rfl⟩
      rw [← hx] at hix
      have HX := Lib.hid hx
      clear hx
      have u0 := ui_lo x
      go_wp2
      rename World => w5
      go_loopw [24] (fun j wr => ∃ k : Nat, k ≤ 4 ∧ j = .int .i64 k ∧ Blk wr w3.heap.size 5 (cb (outUpto st3 (4 * i + k))) ∧ Below w.heap.size w wr) (fun j _ => 4 - (intOf j).toNat)
      case atStart => exact ⟨0, by omega, rfl, HBK.out, hbe⟩
      case round =>
        obtain ⟨k, hk, rfl, hbk2, hbe2⟩ := hrel
        by_cases hk4 : k < 4
        · have hc := (hbk2.cell (4 * i + k)).trans (cb_get _ _ (by rw [outUpto_length _ _ (by omega)]; omega))
          have hf := hbk2.frozen (4 * i + k)
          have HBK2 := Lib.hid hbk2
          clear hbk2
          go_wp2
          go_roundw
          case rel =>
            rw [ub_cut]
            refine ⟨k + 1, by omega, by go_num, ?_, hbe2.setCell HOB _⟩
            have := HBK2.out.set_ (4 * i + k) (.int .u8 (ub (UInt8.ofNat (x >>> (24 - 8 * k)).toNat)))
            have e := outUpto_set st3 (4 * i + k) (by omega)
            rw [out_get st3 i k hi8 hk4, ← HX.out] at e
            rw [cb_set, e] at this
            exact this
          case measure => simp [intOf]; omega
        · have HBK2 := Lib.hid hbk2
          clear hbk2
          go_wp2
          go_roundw
          case rel =>
            refine ⟨i + 1, by omega, by go_num, ?_, hbe2⟩
            have := HBK2.out
            rw [show 4 * i + k = 4 * (i + 1) by omega] at this
            exact this
          case measure => simp [intOf]; omega
    · have e8 : i = 8 := by omega
      go_wp2
      go_ret
      have := HBK.out
      rw [e8, show 4 * 8 = 32 from rfl, outUpto_all, HOUT.out] at this
      exact ⟨_, rfl, HOB, this, hbe⟩
structure Part where
  A : Option Addr
  n : Nat
  cap : Nat
  l : List UInt8
def textOf (ps : List Part) : List UInt8 := ps.flatMap (·.l)
def Parts (w : World) (A : Option Addr) (n : Nat) (ps : List Part) : Prop :=
  ps.length = n ∧ (0 < n → ∃ ad, A = some ad ∧ ad.block < w.heap.size ∧ ∀ j p, ps[j]? = some p → w.cell? (ad.add j) = some (.slice p.A p.n p.cap)) ∧ ∀ p ∈ ps, Seg w p.A p.n p.l ∧ p.n ≤ p.cap ∧ 0 ≤ p.cap
theorem Parts.below {w w' : World} {A : Option Addr} {n : Nat} {ps : List Part} (h : Parts w A n ps) (hb : Below w.heap.size w w') : Parts w' A n ps :=
  ⟨h.1, fun hn => by
    obtain ⟨ad, e, hlt, hc⟩ := h.2.1 hn
    exact ⟨ad, e, Nat.lt_of_lt_of_le hlt hb.size, fun j p hp => (hb.cell (p := ad.add j) (by rw [block_add]; exact hlt)).trans (hc j p hp)⟩,
   fun p hp => ⟨(h.2.2 p hp).1.below hb, (h.2.2 p hp).2⟩⟩
theorem textOf_snoc (ps : List Part) (i : Nat) (p : Part) (h : ps[i]? = some p) : textOf (ps.take (i + 1)) = textOf (ps.take i) ++ p.l := by
  obtain ⟨hi, rfl⟩ := List.getElem?_eq_some_iff.1 h
  rw [List.take_succ_eq_append_getElem hi]
  simp only [textOf, List.flatMap_append, List.flatMap_cons, List.flatMap_nil, List.append_nil]
theorem textOf_take_le (ps : List Part) (i : Nat) : (textOf (ps.take i)).length ≤ (textOf ps).length := by
  have : textOf ps = textOf (ps.take i) ++ textOf (ps.drop i) := by
    simp only [textOf]
    rw [← List.flatMap_append, List.take_append_drop]
  rw [this, List.length_append]; omega
set_option maxHeartbeats 400000 in
theorem Of_any (A : Option Addr) (n cap : Nat) (ps : List Part) (w : World) (hp : Parts w A n ps) (hn : n ≤ 100000) (hl : (textOf ps).length < 100000) (ht : Tabs w) :
    Calls Tryz.prog 144 #[.slice A n cap] w (GivesSum w (sha (textOf ps))) := by
  have HP := Lib.hid hp
  have HT := Lib.hid ht
  have hG := ht.lt
  clear hp ht
  go_enter Tryz.func144, Tryz.ntmps144
  go_wp2_with (go_at_call 174; refine (New_any _ HT.out).mono ?_; rintro e w1 ⟨rfl, hs1, hb1⟩)
  have HS1 := Lib.hid hs1
  clear hs1
  go_loopw [9] (fun j wr => ∃ i : Nat, i ≤ n ∧ j = .int .i64 i ∧ Sums wr w.heap.size (textOf (ps.take i)) ∧ Below w.heap.size w wr) (fun j _ => n - (intOf j).toNat)
  case atStart => exact ⟨0, by omega, rfl, HS1.out, hb1⟩
  case round =>
    obtain ⟨i, hi, rfl, hs, hb⟩ := hrel
    have HS := Lib.hid hs
    clear hs
    by_cases hin : i < n
    · have hps := HP.out.below hb
      obtain ⟨p, hpi⟩ : ∃ p, ps[i]? = some p := ⟨_, List.getElem?_eq_getElem (by rw [HP.out.1]; exact hin)⟩
      obtain ⟨ad, hA, had, hcell⟩ := hps.2.1 (by omega)
      have hc := hcell i p hpi
      have hpm := hps.2.2 p (List.mem_of_getElem? hpi)
      have HPM := Lib.hid hpm
      have HPI := Lib.hid hpi
      have hadw : 0 < p.n → ∀ a, p.A = some a → a.block ≠ w.heap.size := by
        intro hn0 a ha
        obtain ⟨a', e', hlt', _⟩ := (HP.out.2.2 p (List.mem_of_getElem? hpi)).1.2 hn0
        rw [ha] at e'
        injection e' with e'
        rw [e']
        omega
      have HAW := Lib.hid hadw
      have hlen : (textOf (ps.take i)).length < 1099511627776 := by have := textOf_take_le ps i; omega
      have HLEN := Lib.hid hlen
      have hnb : p.n ≤ 140737488355328 := by
        have e1 := textOf_snoc ps i p hpi
        have e2 := textOf_take_le ps (i + 1)
        have e3 := (HP.out.2.2 p (List.mem_of_getElem? hpi)).1.1
        rw [e1, List.length_append] at e2
        omega
      have HNB := Lib.hid hnb
      clear hcell hpm hpi hps hadw hlen hnb
      subst hA
      go_wp2_with (go_at_call 175; refine (Write_any w.heap.size (textOf (ps.take i)) p.l p.A p.n p.cap _ HS.out HPM.out.1 HAW.out HPM.out.2.1 HNB.out HLEN.out (HT.out.below hb) hG).mono ?_; rintro e w2 ⟨rfl, hs2, hg2⟩)
      go_roundw
      case rel =>
        refine ⟨i + 1, by omega, by go_num, ?_, below_only hb hg2 hb.size (by intro j hj; injection hj; omega)⟩
        rw [textOf_snoc ps i p HPI.out]
        exact hs2
      case measure => simp [intOf]; omega
    · have ei : i = n := by omega
      go_wp2_with (go_at_call 176; refine (Sum_any w.heap.size (textOf (ps.take i)) _ HS.out (by have := textOf_take_le ps i; omega) (HT.out.below hb) hG).mono ?_; rintro e w2 ⟨g2, rfl, hge, hbk, hb2⟩)
      go_ret
      rw [ei, List.take_of_length_le (by rw [HP.out.1]; omega)] at hbk
      have := hb.size
      exact ⟨g2, rfl, by omega, hbk, hb.trans (hb2.mono (by omega))⟩
end Go.Proofs.YtlcoebenkhafcaaGreatDoorSh
