/-
  The program's long sum: what New, Write, Sum and Of answer.
-/
import Derived.Lib.Hide
import Derived.Laws.BitsAllLaws
import Derived.Test.YtlcoebenkhafcaaGreatDoorProg
import Derived.KernelRfl
import Derived.WalkKit
import Derived.WalkSpells
import Derived.WalkLawsBesides
import Derived.Outline
import Derived.Deep.QuietTactic
import Derived.BigQuiet
import Derived.Laws.CopyOwn
import Derived.Laws.BytesArg
import Derived.Deep.MidRow
import Derived.Maps.AppendAt
import Derived.Deep.AppendLies
import Derived.OwnWalk
import Derived.WalkSmall
import Derived.RegionTactic
import Derived.StillTailTactics
import Derived.WalkMore
namespace Go.Proofs.YtlcoebenkhafcaaGreatDoorLn
set_option linter.unusedVariables false
abbrev W64 := BitVec 64
def rotr (x : W64) (n : Nat) : W64 := (x >>> n) ||| (x <<< (64 - n))
def bs1 (e : W64) : W64 := rotr e 14 ^^^ rotr e 18 ^^^ rotr e 41
def bs0 (a : W64) : W64 := rotr a 28 ^^^ rotr a 34 ^^^ rotr a 39
def ss0 (x : W64) : W64 := rotr x 1 ^^^ rotr x 8 ^^^ (x >>> 7)
def ss1 (x : W64) : W64 := rotr x 19 ^^^ rotr x 61 ^^^ (x >>> 6)
def chs (e f g : W64) : W64 := (e &&& f) ^^^ (~~~e &&& g)
def maj (a b c : W64) : W64 := (a &&& b) ^^^ (a &&& c) ^^^ (b &&& c)
structure S8 where
  a : W64
  b : W64
  c : W64
  d : W64
  e : W64
  f : W64
  g : W64
  h : W64
def S8.list (s : S8) : List W64 := [s.a, s.b, s.c, s.d, s.e, s.f, s.g, s.h]
def S8.add (s t : S8) : S8 := ⟨s.a + t.a, s.b + t.b, s.c + t.c, s.d + t.d, s.e + t.e, s.f + t.f, s.g + t.g, s.h + t.h⟩
def tOf (s : S8) (k w : W64) : W64 := s.h + bs1 s.e + chs s.e s.f s.g + k + w
def uOf (s : S8) : W64 := bs0 s.a + maj s.a s.b s.c
def rnd (s : S8) (k w : W64) : S8 := ⟨tOf s k w + uOf s, s.a, s.b, s.c, s.d + tOf s k w, s.e, s.f, s.g⟩
def kNats : List Nat := [4794697086780616226, 8158064640168781261, 13096744586834688815, 16840607885511220156, 4131703408338449720, 6480981068601479193, 10538285296894168987, 12329834152419229976, 15566598209576043074, 1334009975649890238, 2608012711638119052, 6128411473006802146, 8268148722764581231, 9286055187155687089, 11230858885718282805, 13951009754708518548, 16472876342353939154, 17275323862435702243, 1135362057144423861, 2597628984639134821, 3308224258029322869, 5365058923640841347, 6679025012923562964, 8573033837759648693, 10970295158949994411, 12119686244451234320, 12683024718118986047, 13788192230050041572, 14330467153632333762, 15395433587784984357, 489312712824947311, 1452737877330783856, 2861767655752347644, 3322285676063803686, 5560940570517711597, 5996557281743188959, 7280758554555802590, 8532644243296465576, 9350256976987008742, 10552545826968843579, 11727347734174303076, 12113106623233404929, 14000437183269869457, 14369950271660146224, 15101387698204529176, 15463397548674623760, 17586052441742319658, 1182934255886127544, 1847814050463011016, 2177327727835720531, 2830643537854262169, 3796741975233480872, 4115178125766777443, 5681478168544905931, 6601373596472566643, 7507060721942968483, 8399075790359081724, 8693463985226723168, 9568029438360202098, 10144078919501101548, 10430055236837252648, 11840083180663258601, 13761210420658862357, 14299343276471374635, 14566680578165727644, 15097957966210449927, 16922976911328602910, 17689382322260857208, 500013540394364858, 748580250866718886, 1242879168328830382, 1977374033974150939, 2944078676154940804, 3659926193048069267, 4368137639120453308, 4836135668995329356, 5532061633213252278, 6448918945643986474, 6902733635092675308, 7801388544844847127]
def kTab : List W64 := kNats.map (BitVec.ofNat 64)
def rnds (s : S8) (ws : List W64) : Nat → S8
  | 0 => s
  | n + 1 => rnd (rnds s ws n) (kTab.getD n 0) (ws.getD n 0)
def nextW (l : List W64) : W64 := l.getD (l.length - 16) 0 + ss0 (l.getD (l.length - 15) 0) + l.getD (l.length - 7) 0 + ss1 (l.getD (l.length - 2) 0)
def spread (l : List W64) : Nat → List W64
  | 0 => l
  | k + 1 => spread l k ++ [nextW (spread l k)]
theorem spread_length (l : List W64) (k : Nat) : (spread l k).length = l.length + k := by
  induction k with
  | zero => rfl
  | succ k ih => simp [spread, ih]; omega
def w8 (b : UInt8) : W64 := BitVec.ofNat 64 b.toNat
def pw (bs : List UInt8) (s : Nat) : Nat → W64
  | 0 => 0
  | n + 1 => (pw bs s n <<< 8) ||| w8 (bs.getD (s + n) 0)
def words16 (bs : List UInt8) : List W64 := (List.range 16).map fun j => pw bs (8 * j) 8
def allWords (bs : List UInt8) : List W64 := spread (words16 bs) 64
theorem words16_length (bs : List UInt8) : (words16 bs).length = 16 := by simp [words16]
theorem allWords_length (bs : List UInt8) : (allWords bs).length = 80 := by simp [allWords, spread_length, words16_length]
def compress (s : S8) (bs : List UInt8) : S8 := s.add (rnds s (allWords bs) 80)
def iter (s : S8) (m : List UInt8) : Nat → S8
  | 0 => s
  | n + 1 => compress (iter s m n) ((m.drop (128 * n)).take 128)
def init8 : S8 := ⟨BitVec.ofNat 64 7640891576956012808, BitVec.ofNat 64 13503953896175478587, BitVec.ofNat 64 4354685564936845355, BitVec.ofNat 64 11912009170470909681, BitVec.ofNat 64 5840696475078001361, BitVec.ofNat 64 11170449401992604703, BitVec.ofNat 64 2270897969802886507, BitVec.ofNat 64 6620516959819538809⟩
def be64 (n : Nat) : List UInt8 := (List.range 8).map fun i => UInt8.ofNat (n / 2 ^ (8 * (7 - i)))
def noughts (n : Nat) : Nat := (239 - n % 128) % 128
def padOf (n : Nat) : List UInt8 := 128 :: (List.replicate (noughts n) 0 ++ (List.replicate 8 0 ++ be64 (8 * n)))
def outB (w : W64) : List UInt8 := [UInt8.ofNat (w >>> 56).toNat, UInt8.ofNat (w >>> 48).toNat, UInt8.ofNat (w >>> 40).toNat, UInt8.ofNat (w >>> 32).toNat, UInt8.ofNat (w >>> 24).toNat, UInt8.ofNat (w >>> 16).toNat, UInt8.ofNat (w >>> 8).toNat, UInt8.ofNat (w >>> 0).toNat]
def S8.out (s : S8) : List UInt8 := s.list.flatMap outB
def padded (m : List UInt8) : List UInt8 := m ++ padOf m.length
def sha (m : List UInt8) : List UInt8 := (iter init8 (padded m) ((padded m).length / 128)).out
theorem outB_length (w : W64) : (outB w).length = 8 := rfl
theorem out_length (s : S8) : s.out.length = 64 := rfl
theorem sha_length (m : List UInt8) : (sha m).length = 64 := rfl
theorem be64_length (n : Nat) : (be64 n).length = 8 := by simp [be64]
theorem padOf_length (n : Nat) : (padOf n).length = 17 + noughts n := by simp [padOf, be64_length]; omega
theorem noughts_lt (n : Nat) : noughts n < 128 := by unfold noughts; omega
theorem iter_congr (s : S8) (m m' : List UInt8) (n : Nat) (h : m.take (128 * n) = m'.take (128 * n)) : iter s m n = iter s m' n := by
  induction n with
  | zero => rfl
  | succ n ih =>
    have h1 : m.take (128 * n) = m'.take (128 * n) := by
      have := congrArg (List.take (128 * n)) h
      rwa [List.take_take, List.take_take, Nat.min_eq_left (by omega)] at this
    have h2 : (m.drop (128 * n)).take 128 = (m'.drop (128 * n)).take 128 := by
      have := congrArg (List.drop (128 * n)) h
      rw [List.drop_take, List.drop_take] at this
      rwa [show 128 * (n + 1) - 128 * n = 128 by omega] at this
    simp only [iter, ih h1, h2]
theorem iter_append (s : S8) (m l : List UInt8) (n : Nat) (h : 128 * n ≤ m.length) : iter s (m ++ l) n = iter s m n :=
  iter_congr s _ _ n (by rw [List.take_append_of_le_length h])
def Took (m : List UInt8) (st : S8) (rest : List UInt8) : Prop :=
  st = iter init8 m (m.length / 128) ∧ rest.length = 128 ∧ rest.take (m.length % 128) = m.drop (128 * (m.length / 128))
theorem Took.nil : Took [] init8 (List.replicate 128 0) := ⟨rfl, rfl, rfl⟩
def over (L : List UInt8) (k : Nat) (c : List UInt8) : List UInt8 := L.take k ++ (c ++ L.drop (k + c.length))
theorem over_length (L : List UInt8) (k : Nat) (c : List UInt8) (h : k + c.length ≤ L.length) : (over L k c).length = L.length := by simp [over]; omega
theorem over_take (L : List UInt8) (k : Nat) (c : List UInt8) (h : k + c.length ≤ L.length) : (over L k c).take (k + c.length) = L.take k ++ c := by
  unfold over
  rw [← List.append_assoc, List.take_append_of_le_length (by simp; omega)]
  exact List.take_of_length_le (by simp; omega)
theorem Took.some {m : List UInt8} {st : S8} {rest : List UInt8} (h : Took m st rest) (c : List UInt8) (hc : m.length % 128 + c.length < 128) : Took (m ++ c) st (over rest (m.length % 128) c) := by
  obtain ⟨h1, h2, h3⟩ := h
  have e1 : (m ++ c).length / 128 = m.length / 128 := by simp; omega
  have e2 : (m ++ c).length % 128 = m.length % 128 + c.length := by simp; omega
  refine ⟨?_, ?_, ?_⟩
  · rw [e1, iter_append _ _ _ _ (by omega)]; exact h1
  · rw [over_length _ _ _ (by omega)]; exact h2
  · rw [e1, e2, over_take _ _ _ (by omega), h3, List.drop_append_of_le_length (by omega)]
theorem Took.full {m : List UInt8} {st : S8} {rest : List UInt8} (h : Took m st rest) (c : List UInt8) (hc : m.length % 128 + c.length = 128) :
    Took (m ++ c) (compress st (over rest (m.length % 128) c)) (over rest (m.length % 128) c) := by
  obtain ⟨h1, h2, h3⟩ := h
  have e1 : (m ++ c).length / 128 = m.length / 128 + 1 := by simp; omega
  have e2 : (m ++ c).length % 128 = 0 := by simp; omega
  have hl : (over rest (m.length % 128) c).length = 128 := by rw [over_length _ _ _ (by omega)]; exact h2
  have ho : over rest (m.length % 128) c = m.drop (128 * (m.length / 128)) ++ c := by
    have := over_take rest (m.length % 128) c (by omega)
    rw [hc, List.take_of_length_le (by omega), h3] at this
    exact this
  refine ⟨?_, hl, ?_⟩
  · rw [e1, iter, iter_append _ _ _ _ (by omega), ← h1, List.drop_append_of_le_length (by omega), ← ho, List.take_of_length_le (by omega)]
  · rw [e1, e2, List.take_zero, List.drop_eq_nil_of_le (by simp; omega)]
theorem Took.end_ {m : List UInt8} {st : S8} {rest : List UInt8} (h : Took (padded m) st rest) : st.out = sha m := by
  rw [h.1]; rfl
def packs (bs : List UInt8) : Nat → List W64
  | 0 => List.replicate 80 0
  | i + 1 => (packs bs i).set (i / 8) (((packs bs i).getD (i / 8) 0 <<< 8) ||| w8 (bs.getD i 0))
theorem packs_eq (bs : List UInt8) (i : Nat) (h : i ≤ 128) : packs bs i = (List.range 80).map fun j => pw bs (8 * j) (min (i - 8 * j) 8) := by
  induction i with
  | zero =>
    simp only [packs]
    apply List.ext_getElem
    · simp
    · intro j h1 h2
      rw [List.getElem_replicate, List.getElem_map, show min (0 - 8 * (List.range 80)[j]) 8 = 0 by omega]
      rfl
  | succ i ih =>
    rw [packs, ih (by omega)]
    apply List.ext_getElem
    · simp
    · intro j h1 h2
      have hj : j < 80 := by simpa using h2
      rw [List.getElem_set]
      split
      · next e =>
        subst e
        have e4 : min (i + 1 - 8 * (i / 8)) 8 = min (i - 8 * (i / 8)) 8 + 1 := by omega
        have e5 : 8 * (i / 8) + min (i - 8 * (i / 8)) 8 = i := by omega
        simp only [List.getElem_map, List.getElem_range, e4, pw, e5]
        rw [List.getD_eq_getElem?_getD, List.getElem?_eq_getElem (by simp; omega)]
        simp
      · next e =>
        simp only [List.getElem_map, List.getElem_range]
        congr 1
        omega
theorem packs_all (bs : List UInt8) : packs bs 128 = words16 bs ++ List.replicate 64 0 := by
  rw [packs_eq bs 128 (by omega)]
  apply List.ext_getElem
  · simp [words16]
  · intro j h1 h2
    have hj : j < 80 := by simpa using h1
    rw [List.getElem_map, List.getElem_range, List.getElem_append]
    split
    · next hl =>
      have : j < 16 := by simpa [words16] using hl
      simp only [words16, List.getElem_map, List.getElem_range]
      congr 1
      omega
    · next hl =>
      have : ¬ j < 16 := by simpa [words16] using hl
      rw [List.getElem_replicate, show min (128 - 8 * j) 8 = 0 by omega]
      rfl
theorem packs_length (bs : List UInt8) (i : Nat) : (packs bs i).length = 80 := by
  induction i with
  | zero => simp [packs]
  | succ i ih => simp [packs, ih]
end Go.Proofs.YtlcoebenkhafcaaGreatDoorLn
namespace Go.Proofs.YtlcoebenkhafcaaGreatDoorLn
set_option linter.unusedVariables false
def ui (x : W64) : Int := x.toNat
def ub (b : UInt8) : Int := b.toNat
theorem ui_lo (x : W64) : 0 ≤ ui x := by unfold ui; omega
theorem ui_hi (x : W64) : ui x < 18446744073709551616 := by unfold ui; have := x.isLt; omega
theorem ub_lo (x : UInt8) : 0 ≤ ub x := by unfold ub; omega
theorem ub_hi (x : UInt8) : ub x ≤ 255 := by unfold ub; have := x.toNat_lt; omega
theorem ui_nat (x : W64) : x.toNat < 18446744073709551616 := x.isLt
theorem ui_and (x y : W64) : bits .and .u64 (ui x) (ui y) = ui (x &&& y) := by
  unfold ui; rw [u64_and_nat _ _ (ui_nat x) (ui_nat y), BitVec.toNat_and]
theorem ui_or (x y : W64) : bits .or .u64 (ui x) (ui y) = ui (x ||| y) := by
  unfold ui; rw [u64_or_nat _ _ (ui_nat x) (ui_nat y), BitVec.toNat_or]
theorem ui_xor (x y : W64) : bits .xor .u64 (ui x) (ui y) = ui (x ^^^ y) := by
  unfold ui; rw [u64_xor_nat _ _ (ui_nat x) (ui_nat y), BitVec.toNat_xor]
theorem ui_not (x : W64) : bits .xor .u64 18446744073709551615 (ui x) = ui (~~~x) := by
  have h : (18446744073709551615 : Int) = ui (BitVec.allOnes 64) := rfl
  rw [h, ui_xor, BitVec.allOnes_xor]
theorem ui_add (x y : W64) : (ui x + ui y) % 18446744073709551616 = ui (x + y) := by
  unfold ui; rw [BitVec.toNat_add]; omega
theorem ui_addw (x y : W64) : IntKind.u64.wrap (ui x + ui y) = ui (x + y) := by
  simp only [IntKind.wrap, IntKind.bits, IntKind.signed]; simpa using ui_add x y
theorem ui_shr (x : W64) (n : Nat) : ui x / 2 ^ n = ui (x >>> n) := by
  unfold ui
  rw [BitVec.toNat_ushiftRight, Nat.shiftRight_eq_div_pow]
  have : ((2 : Int) ^ n) = ((2 ^ n : Nat) : Int) := by simp
  rw [this]; omega
theorem ui_shl (x : W64) (n : Nat) : ui x * 2 ^ n % 18446744073709551616 = ui (x <<< n) := by
  unfold ui
  rw [BitVec.toNat_shiftLeft, Nat.shiftLeft_eq]
  have : ((2 : Int) ^ n) = ((2 ^ n : Nat) : Int) := by simp
  rw [this, ← Int.natCast_mul]; omega
theorem ui_shlw (x : W64) (n : Nat) : IntKind.u64.wrap (ui x * 2 ^ n) = ui (x <<< n) := by
  rw [← ui_shl]; simp [IntKind.wrap, IntKind.bits, IntKind.signed]
theorem ui_w8 (b : UInt8) : ub b = ui (w8 b) := by
  unfold ub ui w8
  rw [BitVec.toNat_ofNat, Nat.mod_eq_of_lt (by have := b.toNat_lt; omega)]
theorem ub_cut (x : W64) (n : Nat) : ui x / 2 ^ n % 256 = ub (UInt8.ofNat (x >>> n).toNat) := by
  rw [ui_shr]; unfold ui ub
  rw [UInt8.toNat_ofNat']; omega
theorem ub_nat (n k : Nat) : ((n : Int) / 2 ^ k) % 256 = ub (UInt8.ofNat (n / 2 ^ k)) := by
  unfold ub
  have : ((2 : Int) ^ k) = ((2 ^ k : Nat) : Int) := by simp
  rw [UInt8.toNat_ofNat', this]; omega
theorem rotr_prog (x : W64) (n : Nat) : x <<< (64 - n) ||| x >>> n = rotr x n := by unfold rotr; exact BitVec.or_comm _ _
theorem neg_and63 (i : Nat) (h1 : 1 ≤ i) (h2 : i ≤ 63) : bits .and .u64 (IntKind.u64.wrap (-(i : Int))) 63 = ((64 - i : Nat) : Int) := by
  have : ∀ j : Fin 64, 1 ≤ j.val → bits .and .u64 (IntKind.u64.wrap (-(j.val : Int))) 63 = ((64 - j.val : Nat) : Int) := by decide
  exact this ⟨i, by omega⟩ h1
end Go.Proofs.YtlcoebenkhafcaaGreatDoorLn
namespace Go.Proofs.YtlcoebenkhafcaaGreatDoorLn
set_option maxRecDepth 100000
open Go.RowKit
set_option linter.unusedVariables false
theorem ret_int {k : IntKind} {a b : Int} (h : a = b) : Ending.returned (.int k a) = .returned (.int k b) := by rw [h]
theorem rot_any (x : W64) (i : Nat) (w : World) (h1 : 1 ≤ i) (h2 : i ≤ 63) :
    Calls Tryz.prog 225 #[.int .u64 (ui x), .int .i64 (-(i : Int))] w fun e w' => e = .returned (.int .u64 (ui (rotr x i))) ∧ w = w' := by
  obtain ⟨j, hj⟩ : ∃ j : Nat, j = 64 - i := ⟨_, rfl⟩
  have hs : bits .and .u64 (IntKind.u64.wrap (-(i : Int))) 63 = (j : Int) := by rw [hj]; exact neg_and63 i h1 h2
  have HJ := Lib.hid hj
  have b1 : 1 ≤ j := by omega
  have b2 : j ≤ 63 := by omega
  have u0 := ui_lo x
  have u1 := ui_hi x
  clear hj
  go_enter Tryz.func225, Tryz.ntmps225
  go_wp2
  go_ret
  refine ⟨ret_int ?_, rfl⟩
  have e : 64 - j = i := by have := HJ.out; omega
  rw [e, ui_shr, ui_shlw, ui_or, HJ.out, rotr_prog]
def xors (x : W64) (ns : List Nat) : W64 := ns.foldl (fun acc k => acc ^^^ rotr x k) 0
theorem xors_snoc (x : W64) (ns : List Nat) (i k : Nat) (h : ns[i]? = some k) : xors x (ns.take (i + 1)) = xors x (ns.take i) ^^^ rotr x k := by
  obtain ⟨hi, rfl⟩ := List.getElem?_eq_some_iff.1 h
  rw [List.take_succ_eq_append_getElem hi]
  rw [xors, List.foldl_append]
  rfl
theorem xors_bs1 (x : W64) : xors x [14, 18, 41] = bs1 x := by simp [xors, bs1]
theorem xors_bs0 (x : W64) : xors x [28, 34, 39] = bs0 x := by simp [xors, bs0]
theorem xors_ss0 (x : W64) : xors x [1, 8] ^^^ (x >>> 7) = ss0 x := by simp [xors, ss0]
theorem xors_ss1 (x : W64) : xors x [19, 61] ^^^ (x >>> 6) = ss1 x := by simp [xors, ss1]
theorem turned_any (x : W64) (ns : List Nat) (g n cap : Nat) (w : World) (hl : ns.length = n) (hn : n ≤ 100) (hc : ∀ (j k : Nat), ns[j]? = some k → w.cell? ⟨g, j, none⟩ = some (.int .i64 (k : Int))) (hb : ∀ k ∈ ns, 1 ≤ k ∧ k ≤ 63) :
    Calls Tryz.prog 213 #[.int .u64 (ui x), .slice (some ⟨g, 0, none⟩) n cap] w fun e w' => e = .returned (.int .u64 (ui (xors x ns))) ∧ w = w' := by
  have HL := Lib.hid hl
  have HC := Lib.hid hc
  have HB := Lib.hid hb
  clear hl hc hb
  go_enter Tryz.func213, Tryz.ntmps213
  go_wp2
  go_loop [9, 5] (fun i x' => ∃ j : Nat, j ≤ n ∧ i = .int .i64 j ∧ x' = .int .u64 (ui (xors x (ns.take j)))) (fun i _ => n - (intOf i).toNat)
  case atStart => exact ⟨0, by omega, rfl, rfl⟩
  case round =>
    obtain ⟨j, hj, rfl, rfl⟩ := hrel
    by_cases hjn : j < n
    · obtain ⟨k, hk⟩ : ∃ k, ns[j]? = some k := ⟨_, List.getElem?_eq_getElem (by rw [HL.out]; exact hjn)⟩
      have c := HC.out j k hk
      have hkb := HB.out k (List.mem_of_getElem? hk)
      obtain ⟨y, hy⟩ : ∃ y, y = xors x (ns.take j) := ⟨_, rfl⟩
      have e := xors_snoc x ns j k hk
      rw [← hy] at e
      rw [← hy]
      have HE := Lib.hid e
      have HKB := Lib.hid hkb
      have b1 : k ≤ 63 := hkb.2
      have r1 := ui_xor
      clear hy e hk hkb
      go_wp2_with (go_at_call 225; refine (rot_any x k _ HKB.out.1 HKB.out.2).mono ?_; rintro e w' ⟨rfl, rfl⟩)
      go_round
      case rel => exact ⟨j + 1, by omega, by go_num, by rw [HE.out]⟩
      case measure => simp [intOf]; omega
    · have ej : j = n := by omega
      have e : ns.take j = ns := by rw [ej]; exact List.take_of_length_le (by rw [HL.out]; omega)
      rw [e]
      clear e ej
      go_wp2
      go_ret
      exact ⟨rfl, rfl⟩
end Go.Proofs.YtlcoebenkhafcaaGreatDoorLn
namespace Go.Proofs.YtlcoebenkhafcaaGreatDoorLn
set_option maxRecDepth 100000
open Go.RowKit
set_option linter.unusedVariables false
def cw (l : List W64) : List Value := l.map fun x => .int .u64 (ui x)
def cb (l : List UInt8) : List Value := l.map fun x => .int .u8 (ub x)
theorem cw_length (l : List W64) : (cw l).length = l.length := by simp [cw]
theorem cb_length (l : List UInt8) : (cb l).length = l.length := by simp [cb]
theorem cw_one (l : List W64) : ∀ v ∈ cw l, v.oneCell' = true := by intro v hv; simp [cw] at hv; obtain ⟨x, _, rfl⟩ := hv; rfl
theorem cb_one (l : List UInt8) : ∀ v ∈ cb l, v.oneCell' = true := by intro v hv; simp [cb] at hv; obtain ⟨x, _, rfl⟩ := hv; rfl
theorem cw_get (l : List W64) (i : Nat) (h : i < l.length) : (cw l)[i]? = some (.int .u64 (ui (l.getD i 0))) := by
  simp [cw, List.getElem?_eq_getElem h, List.getD]
theorem cb_get (l : List UInt8) (i : Nat) (h : i < l.length) : (cb l)[i]? = some (.int .u8 (ub (l.getD i 0))) := by
  simp [cb, List.getElem?_eq_getElem h, List.getD]
def Blk (w : World) (g : Nat) (t : TypeId) (cs : List Value) : Prop := w.heap[g]? = some (.cells cs.toArray t (0, 0))
section
variable {w w' : World} {g : Nat} {t : TypeId} {cs : List Value}
theorem Blk.lt (h : Blk w g t cs) : g < w.heap.size := by
  rcases Nat.lt_or_ge g w.heap.size with hlt | hge
  · exact hlt
  · unfold Blk at h; rw [Array.getElem?_eq_none hge] at h; cases h
theorem Blk.cell (h : Blk w g t cs) (i : Nat) : w.cell? ⟨g, i, none⟩ = cs[i]? := by
  have := cell_of_row w g i cs.toArray t (0, 0) h
  simpa using this
theorem Blk.frozen (h : Blk w g t cs) (i : Nat) : w.frozen? ⟨g, i, none⟩ = false := frozen_of_row w g i _ t h
theorem Blk.new (w : World) (t : TypeId) (cs : List Value) : Blk (w.alloc (.cells cs.toArray t)) w.heap.size t cs := heap_alloc_new w _
theorem Blk.drewN (h : Blk w g t cs) (n : Nat) : Blk (w.drewN n) g t cs := h
theorem Blk.alloc (h : Blk w g t cs) (o : Obj) : Blk (w.alloc o) g t cs := (Below.heap_alloc w o g h.lt).trans h
theorem Blk.set_ (h : Blk w g t cs) (i : Nat) (u : Value) : Blk (w.setCell ⟨g, i, none⟩ u) g t (cs.set i u) := by
  have := heap_setCell_same w g i cs.toArray t u h
  unfold Blk
  rw [this]
  simp
theorem Blk.far (h : Blk w g t cs) {p : Addr} (hp : g ≠ p.block) (u : Value) : Blk (w.setCell p u) g t cs := (Below.heap_setCell w p u g hp).trans h
theorem Blk.below {B : Nat} (h : Blk w g t cs) (hb : Below B w w') (hg : g < B) : Blk w' g t cs := (hb.block g hg).trans h
theorem Blk.grown {row : Option Nat} (h : Blk w g t cs) (hb : w.grownBy w' row) (hg : some g ≠ row) : Blk w' g t cs := (hb.block g h.lt hg).trans h
theorem Blk.range (h : Blk w g t cs) (o : Nat) (l : List Value) (hl : ∀ j v, l[j]? = some v → cs[o + j]? = some v) : w.rangeAt g o l := fun j v hv => by
  rw [h.cell]; exact hl j v hv
end
section
variable {a w : World}
theorem only_drewN {row : Option Nat} (h : a.grownBy w row) (n : Nat) : a.grownBy (w.drewN n) row := ⟨h.os, h.tape, h.output, h.size, h.block⟩
theorem only_alloc {row : Option Nat} (h : a.grownBy w row) (o : Obj) : a.grownBy (w.alloc o) row :=
  ⟨h.os, h.tape, h.output, Nat.le_trans h.size (by simp), fun i hi hne => (Below.heap_alloc w o i (Nat.lt_of_lt_of_le hi h.size)).trans (h.block i hi hne)⟩
theorem only_setCell {g : Nat} (h : a.grownBy w (some g)) {p : Addr} (hp : p.block = g ∨ a.heap.size ≤ p.block) (u : Value) : a.grownBy (w.setCell p u) (some g) :=
  ⟨h.os, h.tape, h.output, by simpa [World.setCell] using h.size, fun i hi hne => (Below.heap_setCell w p u i (by
    rintro rfl
    rcases hp with hp | hp
    · exact hne (by rw [hp])
    · omega)).trans (h.block i hi hne)⟩
theorem only_of_below (h : Below a.heap.size a w) (row : Option Nat) : a.grownBy w row := ⟨h.os, h.tape, h.output, h.size, fun i hi _ => h.block i hi⟩
theorem only_then {w2 : World} {g : Nat} {row : Option Nat} (h : a.grownBy w (some g)) (k : w.grownBy w2 row) (hr : ∀ j, row = some j → j = g ∨ a.heap.size ≤ j) : a.grownBy w2 (some g) :=
  ⟨k.os.trans h.os, k.tape.trans h.tape, k.output.trans h.output, Nat.le_trans h.size k.size, fun i hi hne =>
    (k.block i (Nat.lt_of_lt_of_le hi h.size) (fun e => by
      rcases hr i e.symm with h' | h'
      · exact hne (by rw [h'])
      · omega)).trans (h.block i hi hne)⟩
theorem below_only {B : Nat} {w2 : World} {row : Option Nat} (h : Below B a w) (k : w.grownBy w2 row) (hB : B ≤ w.heap.size) (hr : ∀ j, row = some j → B ≤ j) : Below B a w2 :=
  ⟨k.os.trans h.os, k.tape.trans h.tape, k.output.trans h.output, Nat.le_trans h.size k.size, fun i hi =>
    (k.block i (by omega) (fun e => by have := hr i e.symm; omega)).trans (h.block i hi)⟩
end
theorem at_dst {P : Program} {ops : Array Oper} {Q : Exit → Act → World → Prop} {rest : List Oper} {a : Act} {w : World} (d : Option Nat) {op : Op} {ty : TypeId} {pos : String} {aft : Array Edge} {gd : Option (Nat × Bool)}
    (h : wpList P ops Q (⟨d, op, ty, pos, aft, gd⟩ :: rest) a w) : wpList P ops Q (⟨d, op, ty, pos, aft, gd⟩ :: rest) a w := h
theorem at_store {P : Program} {ops : Array Oper} {Q : Exit → Act → World → Prop} {rest : List Oper} {a : Act} {w : World} (t : TypeId) {x y : Operand} {d : Option Nat} {ty : TypeId} {pos : String} {aft : Array Edge} {gd : Option (Nat × Bool)}
    (h : wpList P ops Q (⟨d, .store t x y, ty, pos, aft, gd⟩ :: rest) a w) : wpList P ops Q (⟨d, .store t x y, ty, pos, aft, gd⟩ :: rest) a w := h
theorem wpList_store_abs {P : Program} {ops : Array Oper} {rest : List Oper} {o : Oper} {a : Act} {w : World} {Q : Exit → Act → World → Prop} (hgd : o.guard = none) (ty : TypeId) (x y : Operand) (ho : o.op = .store ty x y)
    (g : Nat) (cells : List Value) (hx : a.eval x = .pointer (some ⟨g, 0, none⟩)) (hy : a.eval y = .agg cells.toArray)
    (t : TypeId) (old : List Value) (hg : Blk w g t old) (hi : (P.info? ty).map (·.size) = some cells.length)
    (hold : old.length = cells.length) (h1 : ∀ v ∈ cells, v.oneCell' = true)
    (h : ∀ w', Hid (Blk w' g t cells) → w.grownBy w' (some g) → wpList P ops Q rest (a.put o.dst undef) w') : wpList P ops Q (o :: rest) a w := by
  refine wpList_store_row hgd ty x y ho g cells.toArray hx hy t old.toArray hg (by simpa using hi) (by simpa using hold) (all_oneCell_toArray h1) (h _ (setRow_heap _ _ _ _ _ _ hg) ?_)
  exact ⟨rfl, rfl, rfl, by simp [World.setRow], fun k hk hne => setRow_other w g k _ (fun e => hne (by rw [e]))⟩
theorem wpList_copy_abs {P : Program} {w : World} {ops : Array Oper} {rest : List Oper} {o : Oper} {a : Act} {Q : Exit → Act → World → Prop} (hgd : o.guard = none) (d s : Operand) (dT sT : TypeId)
    (ho : o.op = .call { callee := .builtin .copy, args := #[d, s], argTypes := #[dT, sT] }) (elem : TypeId) (hu : P.underlying dT = some (.slice elem)) (hsz : (P.info? elem).map (·.size) = some 1)
    (dp sp : Option Addr) (dLen dCap sLen sCap : Nat) (hd : a.eval d = .slice dp dLen dCap) (hs : a.eval s = .slice sp sLen sCap)
    (g off : Nat) (cur : List Value) (t : TypeId) (hg : Blk w g t cur) (cs : List Value) (hn : cs.length = Nat.min sLen dLen)
    (hpos : 0 < cs.length → dp = some ⟨g, off, none⟩ ∧ ∃ ad, sp = some ad ∧ ∀ j v, cs[j]? = some v → w.cell? (ad.add j) = some v)
    (hfit : off + cs.length ≤ cur.length) (h1 : ∀ v ∈ cs, v.oneCell' = true)
    (h : ∀ w', Hid (Blk w' g t (splice cur off cs)) → w.grownBy w' (some g) → wpList P ops Q rest (a.put o.dst (goInt cs.length)) w') :
    wpList P ops Q (o :: rest) a w := by
  by_cases h0 : cs.length = 0
  · obtain rfl : cs = [] := List.eq_nil_of_length_eq_zero h0
    refine wpList_copy_nothing hgd d s dT sT ho elem hu hsz dp sp dLen dCap sLen sCap hd hs (by simpa using hn.symm) ?_
    refine h w ?_ (World.grownBy.refl w _)
    show Blk w g t (splice cur off [])
    simpa [splice] using hg
  · obtain ⟨rfl, ad, rfl, hsrc⟩ := hpos (by omega)
    refine wpList_copy_own hgd d s dT sT ho elem hu hsz g off dLen dCap ad sLen sCap hd hs cur.toArray t hg cs hn hsrc (by simpa using hfit) h1 ?_
    refine h _ ?_ ⟨rfl, rfl, rfl, by simp [World.setRow], fun k hk hne => setRow_other w g k _ (fun e => hne (by rw [e]))⟩
    show Blk _ g t (splice cur off cs)
    have := setRow_heap w g _ (cur.toArray.toList.take off ++ (cs ++ cur.toArray.toList.drop (off + cs.length))).toArray t _ hg
    simpa [splice, Blk] using this
def HB (w : World) (g : Nat) (st : S8) (rest : List UInt8) (len : Int) : Prop := Blk w g 227 (cw st.list ++ (cb rest ++ [.int .u64 len]))
def Tabs (w : World) : Prop := (∃ t fr, w.heap[1]? = some (.cells (cw init8.list).toArray t fr)) ∧ (∃ t fr, w.heap[4]? = some (.cells (cw kTab).toArray t fr))
theorem Tabs.lt {w : World} (h : Tabs w) : 4 < w.heap.size := by
  obtain ⟨_, t, fr, h⟩ := h
  rcases Nat.lt_or_ge 4 w.heap.size with hlt | hge
  · exact hlt
  · rw [Array.getElem?_eq_none hge] at h; cases h
theorem Tabs.grown {w w' : World} {row : Option Nat} (h : Tabs w) (k : w.grownBy w' row) (hr : ∀ j, row = some j → 4 < j) : Tabs w' := by
  have hl := h.lt
  obtain ⟨⟨t, fr, h0⟩, t', fr', h1⟩ := h
  exact ⟨⟨t, fr, (k.block 1 (by omega) (fun e => by have := hr 1 e.symm; omega)).trans h0⟩, t', fr', (k.block 4 (by omega) (fun e => by have := hr 4 e.symm; omega)).trans h1⟩
theorem Tabs.below {w w' : World} (h : Tabs w) (k : Below w.heap.size w w') : Tabs w' := h.grown (only_of_below k none) (by simp)
theorem Tabs.k {w : World} (h : Tabs w) (i : Nat) (hi : i < 80) : w.cell? ⟨4, i, none⟩ = some (.int .u64 (ui (kTab.getD i 0))) := by
  obtain ⟨_, t, fr, h⟩ := h
  have := cell_of_row w 4 i _ t fr h
  rw [this, List.getElem?_toArray]
  exact cw_get _ _ (show i < 80 from hi)
theorem info38 : (Tryz.prog.info? 227).map (·.size) = some 137 := by kernel_rfl
theorem info43 : (Tryz.prog.info? 238).map (·.size) = some 80 := by kernel_rfl
theorem info35 : (Tryz.prog.info? 224).map (·.size) = some 8 := by kernel_rfl
theorem info36 : (Tryz.prog.info? 225).map (·.size) = some 128 := by kernel_rfl
theorem zero43 (w : World) : (zeroValue 238).run Tryz.prog w = .ok (.agg (cw (List.replicate 80 0)).toArray) w := by kernel_rfl
theorem zero38 (w : World) : (zeroValue 227).run Tryz.prog w = .ok (.agg (cw (List.replicate 8 0) ++ (cb (List.replicate 128 0) ++ [Value.int .u64 0])).toArray) w := by kernel_rfl
theorem byteInfo : (Tryz.prog.info? 5).map (fun i => (i.zero, i.size, i.bytes)) = some (some (.int .u8 0), 1, 1) := by kernel_rfl
theorem byteSize : (Tryz.prog.info? 5).map (·.size) = some 1 := by kernel_rfl
theorem wordInfo : (Tryz.prog.info? 135).map (fun i => (i.zero, i.size, i.bytes)) = some (some (.int .u64 0), 1, 8) := by kernel_rfl
theorem run_index_agg {t e : TypeId} {n : Nat} {i0 : TypeInfo} (ht : Tryz.prog.underlying t = some (.array n e)) (hi : Tryz.prog.info? e = some i0) (hz : i0.size = 1) (hag : ∀ w, (isAgg e).run Tryz.prog w = .ok false w)
    (cs : List Value) (i : Nat) (v : Value) (hn : i < n) (hv : cs[i]? = some v) (w : World) :
    (Instr.index t (.agg cs.toArray) (.int .i64 (i : Int))).run Tryz.prog w = .ok v w := by
  have h1 : (0 : Int) ≤ (i : Int) ∧ (i : Int) < (n : Int) := ⟨by omega, by omega⟩
  have hv' : cs.toArray[i]? = some v := by simpa using hv
  simp [Instr.index, asIntOf, run_underlying ht, h1, sizeOf, typeInfo, hi, hz, part, hag, hv]
  intro; omega
end Go.Proofs.YtlcoebenkhafcaaGreatDoorLn
namespace Go.Proofs.YtlcoebenkhafcaaGreatDoorLn
set_option maxRecDepth 100000
open Go.RowKit
set_option linter.unusedVariables false
set_option linter.unusedSimpArgs false
def eachB (l : List Oper) (size : Nat) : Bool :=
  (List.range l.length).all fun i => match l[i]? with
    | some o => (match o.dst with
      | some d => decide (d < size) && (List.range i).all fun j => match l[j]? with
        | some o' => o'.dst != some d
        | none => true
      | none => false) && o.after.all fun e => decide (e.on < i)
    | none => true
theorem each_dst {l : List Oper} {size : Nat} (h : eachB l size = true) {i : Nat} {o : Oper} (ho : l[i]? = some o) : ∃ d, o.dst = some d ∧ d < size := by
  have hi := (List.getElem?_eq_some_iff.1 ho).1
  have := List.all_eq_true.1 h i (List.mem_range.2 hi)
  rw [ho] at this
  simp only [Bool.and_eq_true] at this
  rcases hd : o.dst with _ | d
  · rw [hd] at this; simp at this
  · rw [hd] at this
    simp only [Bool.and_eq_true, decide_eq_true_eq] at this
    exact ⟨d, rfl, this.1.1⟩
theorem each_ne_lt {l : List Oper} {size : Nat} (h : eachB l size = true) {i j : Nat} {o o' : Oper} {d : Nat} (ho : l[i]? = some o) (ho' : l[j]? = some o') (hd : o.dst = some d) (hlt : j < i) : o'.dst ≠ some d := by
  have hi := (List.getElem?_eq_some_iff.1 ho).1
  have := List.all_eq_true.1 h i (List.mem_range.2 hi)
  rw [ho] at this
  simp only [hd, Bool.and_eq_true] at this
  have h2 := List.all_eq_true.1 this.1.2 j (List.mem_range.2 hlt)
  rw [ho'] at h2
  simpa using h2
theorem each_ne {l : List Oper} {size : Nat} (h : eachB l size = true) {i j : Nat} {o o' : Oper} {d d' : Nat} (ho : l[i]? = some o) (ho' : l[j]? = some o') (hd : o.dst = some d) (hd' : o'.dst = some d') (hne : i ≠ j) : d ≠ d' := by
  rintro rfl
  rcases Nat.lt_or_gt_of_ne hne with hlt | hlt
  · exact each_ne_lt h ho' ho hd' hlt hd
  · exact each_ne_lt h ho ho' hd hlt hd'
theorem each_on {l : List Oper} {size : Nat} (h : eachB l size = true) {i : Nat} {o : Oper} (ho : l[i]? = some o) {e : Edge} (he : e ∈ o.after) : e.on < i := by
  have hi := (List.getElem?_eq_some_iff.1 ho).1
  have := List.all_eq_true.1 h i (List.mem_range.2 hi)
  rw [ho] at this
  simp only [Bool.and_eq_true] at this
  have h2 := Array.all_eq_true_iff_forall_mem.1 this.2 e he
  simpa using h2
theorem count_drop (f g : Nat → Bool) (i : Nat) (hf : f i = true) (hg : g i = false) (hs : ∀ j, j ≠ i → g j = f j) : ∀ n, i < n → (List.range n).countP f = (List.range n).countP g + 1
  | 0, h => by omega
  | n + 1, h => by
    rw [List.range_succ, List.countP_append, List.countP_append]
    by_cases hin : i < n
    · have := count_drop f g i hf hg hs n hin
      have e : g n = f n := hs n (by omega)
      simp only [List.countP_cons, List.countP_nil, e]
      omega
    · have hi : i = n := by omega
      subst hi
      have e : (List.range i).countP f = (List.range i).countP g := by
        apply List.countP_congr
        intro j hj
        have := List.mem_range.1 hj
        rw [hs j (by omega)]
      simp [List.countP_cons, hf, hg, e]
structure Keeps (l : List Oper) (a0 a : Act) : Prop where
  defers : a.defers = a0.defers
  size : a.tmps.size = a0.tmps.size
  slot : ∀ s, (∀ o ∈ l, o.dst ≠ some s) → a.tmps.getD s undef = a0.tmps.getD s undef
theorem wp_region_each {P : Program} {id : Nat} {l : List Oper} {Q : Exit → Act → World → Prop} {a0 : Act} {w0 : World} (hm : P.follows .mixedOrders = true) (hB : eachB l a0.tmps.size = true)
    (V : Nat → Value → World → Prop) (R : World → Prop)
    (mono : ∀ i v w w', V i v w → R w → Below w.heap.size w w' → V i v w') (hR : ∀ w w', R w → Below w.heap.size w w' → R w') (h0 : R w0.drew)
    (step : ∀ i o, l[i]? = some o → ∀ (a : Act) (w : World), R w → Keeps l a0 a → (∀ j o' d, l[j]? = some o' → o'.dst = some d → (∃ e ∈ o.after, Region.binds .any e = true ∧ e.on = j) → V j (a.tmps.getD d undef) w) →
      ∀ K : Act → World → Prop, (∀ v w', V i v w' → Below w.heap.size w w' → K (a.put o.dst v) w') → (if Region.wanted o (yielded l.toArray a.tmps) then o.wp P a w K Q else K (a.put o.dst undef) w))
    (fin : ∀ (a : Act) (w : World), R w → Keeps l a0 a → (∀ i o d, l[i]? = some o → o.dst = some d → V i (a.tmps.getD d undef) w) → Q .normal a w) :
    (Code.region id l.toArray true).wp P Q a0 w0 := by
  refine wp_region_any hm ?_
  have key : ∀ (fuel : Nat) (listed : Array Bool) (a : Act) (w : World), listed.size = l.length → (List.range l.length).countP (fun j => !listed.getD j true) = fuel → R w → Keeps l a0 a →
      (∀ i o d, l[i]? = some o → o.dst = some d → listed.getD i true = true → V i (a.tmps.getD d undef) w) → wpAny P .any l.toArray Q fuel listed a w := by
    intro fuel
    induction fuel with
    | zero =>
      intro listed a w hsz hc hr hk hv
      have all : ∀ i, i < l.length → listed.getD i true = true := by
        intro i hi
        have := List.countP_eq_zero.1 hc i (List.mem_range.2 hi)
        simpa using this
      refine ⟨?_, fin a w hr hk (fun i o d ho hd => hv i o d ho hd (all i (List.getElem?_eq_some_iff.1 ho).1))⟩
      apply List.eq_nil_iff_forall_not_mem.2
      intro j hj
      obtain ⟨h1, o, ho, _⟩ := mem_ready.1 hj
      have hjl : j < l.length := by
        have := (Array.getElem?_eq_some_iff.1 ho).1
        simpa using this
      rw [all j hjl] at h1
      cases h1
    | succ fuel ih =>
      intro listed a w hsz hc hr hk hv
      refine ⟨fun hnil => ?_, fun i hi => ?_⟩
      · -- the least operation that is not listed is ready
        exfalso
        have hex : ∃ j, j < l.length ∧ listed.getD j true = false := by
          have hpos : 0 < (List.range l.length).countP (fun j => !listed.getD j true) := by omega
          obtain ⟨j, hj, hf⟩ := List.countP_pos_iff.1 hpos
          exact ⟨j, List.mem_range.1 hj, by simpa using hf⟩
        have least : ∀ n, (∃ j, j < n ∧ j < l.length ∧ listed.getD j true = false) → ∃ j, j < l.length ∧ listed.getD j true = false ∧ ∀ k, k < j → listed.getD k true = true := by
          intro n
          induction n with
          | zero => rintro ⟨j, h, _⟩; omega
          | succ n ihn =>
            rintro ⟨j, h1, h2, h3⟩
            by_cases hb : ∃ j, j < n ∧ j < l.length ∧ listed.getD j true = false
            · exact ihn hb
            · refine ⟨j, h2, h3, fun k hk => ?_⟩
              cases hq : listed.getD k true with
              | true => rfl
              | false => exact absurd ⟨k, by omega, by omega, hq⟩ hb
        obtain ⟨j, hj, hf⟩ := hex
        obtain ⟨j, hj, hf, hlow⟩ := least (j + 1) ⟨j, by omega, hj, hf⟩
        have hmem : j ∈ Region.ready .any l.toArray listed := by
          refine mem_ready.2 ⟨hf, l[j], by simp [hj], fun e he _ => ?_⟩
          have hon := each_on hB (List.getElem?_eq_getElem hj) he
          have h1 := hlow e.on hon
          have hlt : e.on < listed.size := by omega
          simp [Array.getD, hlt] at h1 ⊢
          exact h1
        rw [hnil] at hmem
        cases hmem
      · obtain ⟨hun, o, ho, hall⟩ := mem_ready.1 hi
        have ho' : l[i]? = some o := by simpa using ho
        have hil := (List.getElem?_eq_some_iff.1 ho').1
        obtain ⟨d, hd, hds⟩ := each_dst hB ho'
        have hst := step i o ho' a w hr hk (fun j oj dj hj hdj ⟨e, he, hbd, hej⟩ => hv j oj dj hj hdj (by
          have h1 := hall e he hbd
          rw [hej] at h1
          have hlt : j < listed.size := by rw [hsz]; exact (List.getElem?_eq_some_iff.1 hj).1
          simp [Array.getD, hlt] at h1 ⊢
          exact h1)) (wpAny P .any l.toArray Q fuel (listed.setIfInBounds i true)) (fun v w' hvv hb => by
          have hkd : (a.put o.dst v).tmps = a.tmps.setIfInBounds d v := by rw [hd]; rfl
          refine ih _ _ _ (by simpa using hsz) ?_ (hR _ _ hr hb) ⟨?_, ?_, ?_⟩ ?_
          · have hlt : i < listed.size := by omega
            have := count_drop (fun j => !listed.getD j true) (fun j => !(listed.setIfInBounds i true).getD j true) i (by simp [hun]) (by simp [Array.getD, hlt]) (fun j hj => by simp [Array.getD_eq_getD_getElem?, Ne.symm hj]) l.length hil
            omega
          · rw [hd]; exact hk.defers
          · rw [hkd]; simpa using hk.size
          · intro s hs
            rw [hkd, ← hk.slot s hs]
            have hne : d ≠ s := fun e => hs o (List.mem_of_getElem? ho') (by rw [hd, e])
            simp [Array.getD_eq_getD_getElem?, Array.getElem?_setIfInBounds, hne]
          · intro j oj dj hj hdj hlj
            rw [hkd]
            by_cases hij : i = j
            · subst hij
              rw [ho'] at hj
              injection hj with hj
              subst hj
              rw [hd] at hdj
              injection hdj with hdj
              subst hdj
              have hlt : d < a.tmps.size := by rw [hk.size]; exact hds
              simp [Array.getD_eq_getD_getElem?, Array.getElem?_setIfInBounds, hlt]
              exact hvv
            · have hne := each_ne hB ho' hj hd hdj hij
              have : (a.tmps.setIfInBounds d v).getD dj undef = a.tmps.getD dj undef := by
                simp [Array.getD_eq_getD_getElem?, Array.getElem?_setIfInBounds, hne]
              rw [this]
              refine mono j _ w w' (hv j oj dj hj hdj ?_) hr hb
              have hlt : j < listed.size := by rw [hsz]; exact (List.getElem?_eq_some_iff.1 hj).1
              have e : (listed.setIfInBounds i true).getD j true = listed.getD j true := by
                simp [Array.getD_eq_getD_getElem?, Array.getElem?_setIfInBounds, hij]
              rw [e] at hlj
              exact hlj)
        unfold wpOp
        rw [ho]
        simp only []
        split
        · next hw => rw [if_pos hw] at hst; exact .inl hst
        · next hw => rw [if_neg hw] at hst; exact hst
  have hsz : (Array.replicate l.toArray.size false).size = l.length := by simp
  have hcnt : (List.range l.length).countP (fun j => !(Array.replicate l.toArray.size false).getD j true) = l.toArray.size := by
    have e : (List.range l.length).countP (fun j => !(Array.replicate l.toArray.size false).getD j true) = (List.range l.length).length := by
      apply List.countP_eq_length.2
      intro j hj
      have := List.mem_range.1 hj
      simp [Array.getD, this]
    rw [e]; simp
  refine key _ _ a0 _ hsz hcnt h0 ⟨rfl, rfl, fun _ _ => rfl⟩ ?_
  intro i o d ho hd hl
  have := (List.getElem?_eq_some_iff.1 ho).1
  simp [Array.getD, this] at hl
end Go.Proofs.YtlcoebenkhafcaaGreatDoorLn
namespace Go.Proofs.YtlcoebenkhafcaaGreatDoorLn
set_option maxRecDepth 100000
open Go.RowKit
set_option linter.unusedVariables false
set_option linter.unusedSimpArgs false
def mixP (p : Nat → Bool) (f : Nat → Value) : Nat → List Value → List Value
  | _, [] => []
  | k, v :: r => (if p k = true then f k else v) :: mixP p f (k + 1) r
theorem mixP_length (p : Nat → Bool) (f : Nat → Value) : ∀ (l : List Value) (k : Nat), (mixP p f k l).length = l.length
  | [], _ => rfl
  | _ :: r, k => by simp [mixP, mixP_length p f r (k + 1)]
theorem mixP_get (p : Nat → Bool) (f : Nat → Value) : ∀ (l : List Value) (k i : Nat), i < l.length → (mixP p f k l).getD i undef = if p (k + i) = true then f (k + i) else l.getD i undef
  | [], _, _, h => by simp at h
  | v :: r, k, 0, _ => by simp [mixP]
  | v :: r, k, i + 1, h => by
    have := mixP_get p f r (k + 1) i (by simpa using h)
    simp only [mixP, List.getD_cons_succ]
    rw [this, show k + 1 + i = k + (i + 1) by omega]
theorem keeps_frameP {l : List Oper} {tm : Array Value} {a : Act} (p : Nat → Bool) (hk : Keeps l ⟨tm, []⟩ a) (hd : ∀ o ∈ l, ∀ s, o.dst = some s → p s = true) : a = ⟨(mixP p (fun s => a.tmps.getD s undef) 0 tm.toList).toArray, []⟩ := by
  obtain ⟨t, df⟩ := a
  have h1 : df = [] := hk.defers
  have h2 : t.size = tm.size := hk.size
  subst h1
  congr 1
  apply Array.ext
  · simp [mixP_length, h2]
  · intro i hi1 hi2
    have hl : i < tm.toList.length := by simp; omega
    have e := mixP_get p (fun s => t.getD s undef) tm.toList 0 i hl
    rw [Nat.zero_add] at e
    have e1 : t[i] = t.getD i undef := by simp [Array.getD, hi1]
    have e2 : ((mixP p (fun s => t.getD s undef) 0 tm.toList).toArray)[i] = (mixP p (fun s => t.getD s undef) 0 tm.toList).getD i undef := by
      rw [List.getD_eq_getElem?_getD, List.getElem?_eq_getElem (by simpa using hi2)]
      simp
    rw [e1, e2, e]
    by_cases hn : p i = true
    · rw [if_pos hn]
    · rw [if_neg hn]
      have e3 : t.getD i undef = tm.getD i undef := hk.slot i (fun o ho e => hn (hd o ho i e))
      rw [e3]
      simp [Array.getD, show i < tm.size by simpa using hl, List.getD_eq_getElem?_getD]
end Go.Proofs.YtlcoebenkhafcaaGreatDoorLn
namespace Go.Proofs.YtlcoebenkhafcaaGreatDoorLn
set_option maxRecDepth 100000
open Go.RowKit
set_option linter.unusedVariables false
set_option linter.unusedSimpArgs false
theorem want_none {o : Oper} {y : Nat → Option Bool} (h : o.guard = none) : Region.wanted o y = true := by simp [Region.wanted, h]
theorem cf20 (v u : Value) (w : World) : (callFunc 213 #[v, u]).run Tryz.prog w = .ok (.enter 213 #[v, u]) w := by kernel_rfl
section
variable {o : Oper} {a : Act} {w : World} {K : Act → World → Prop} {Q : Exit → Act → World → Prop} {E : Prop} {b : Bool}
theorem st_move (x : Operand) (ho : o.op = .move x) (hw : b = true) (v : Value) (hx : a.eval x = v) (h : K (a.put o.dst v) w) : if b = true then o.wp Tryz.prog a w K Q else E := by
  rw [if_pos hw]; unfold Oper.wp execOp; simp only [ho, hx, Sem.run_pure]; exact h
theorem st_assign (x : Operand) (ho : o.op = .assign x) (hw : b = true) (v : Value) (hx : a.eval x = v) (h : K (a.put o.dst v) w) : if b = true then o.wp Tryz.prog a w K Q else E := by
  rw [if_pos hw]; unfold Oper.wp execOp; simp only [ho, hx, Sem.run_pure]; exact h
theorem st_add (x y : Operand) (ho : o.op = .binOp .add 135 x y 135) (hw : b = true) (m n : W64) (hx : a.eval x = .int .u64 (ui m)) (hy : a.eval y = .int .u64 (ui n)) (h : K (a.put o.dst (.int .u64 (ui (m + n)))) w) : if b = true then o.wp Tryz.prog a w K Q else E := by
  rw [if_pos hw]; unfold Oper.wp execOp
  simp only [ho, hx, hy]
  simp [eqGuard, go_sem, Result.andThen, ui_addw]
  exact h
theorem st_and (x y : Operand) (ho : o.op = .binOp .and 135 x y 135) (hw : b = true) (m n : W64) (hx : a.eval x = .int .u64 (ui m)) (hy : a.eval y = .int .u64 (ui n)) (h : K (a.put o.dst (.int .u64 (ui (m &&& n)))) w) : if b = true then o.wp Tryz.prog a w K Q else E := by
  rw [if_pos hw]; unfold Oper.wp execOp
  simp only [ho, hx, hy]
  simp [eqGuard, go_sem, Result.andThen, ui_and]
  exact h
theorem st_xor (x y : Operand) (ho : o.op = .binOp .xor 135 x y 135) (hw : b = true) (m n : W64) (hx : a.eval x = .int .u64 (ui m)) (hy : a.eval y = .int .u64 (ui n)) (h : K (a.put o.dst (.int .u64 (ui (m ^^^ n)))) w) : if b = true then o.wp Tryz.prog a w K Q else E := by
  rw [if_pos hw]; unfold Oper.wp execOp
  simp only [ho, hx, hy]
  simp [eqGuard, go_sem, Result.andThen, ui_xor]
  exact h
theorem ui_not_if (x : W64) : bits .xor .u64 (if IntKind.u64.signed = true then -1 else IntKind.u64.max) (ui x) = ui (~~~x) := ui_not x
theorem st_not (x : Operand) (ho : o.op = .unOp .xor 135 x) (hw : b = true) (m : W64) (hx : a.eval x = .int .u64 (ui m)) (h : K (a.put o.dst (.int .u64 (ui (~~~m)))) w) : if b = true then o.wp Tryz.prog a w K Q else E := by
  rw [if_pos hw]; unfold Oper.wp execOp
  simp only [ho, hx]
  simp [eqGuard, go_sem, Result.andThen, ui_not_if]
  exact h
theorem st_shr (x : Operand) (n : Nat) (hn : n < 64) (z : Int) (hz : z = n) (ho : o.op = .binOp .shr 135 x (.const (.int .u64 z)) 143) (hw : b = true) (m : W64) (hx : a.eval x = .int .u64 (ui m)) (h : K (a.put o.dst (.int .u64 (ui (m >>> n)))) w) : if b = true then o.wp Tryz.prog a w K Q else E := by
  rw [if_pos hw]; unfold Oper.wp execOp
  subst hz
  have hy : a.eval (.const (.int .u64 (n : Int))) = .int .u64 (n : Int) := rfl
  have u0 := ui_lo m
  have u1 := ui_hi m
  have e := ui_shr m n
  simp only [ho, hx, hy]
  simp [eqGuard, go_sem, Result.andThen, e]
  exact h
theorem st_subInt (x : Operand) (c m : Int) (ho : o.op = .binOp .sub 3 x (.const (.int .i64 c)) 3) (hw : b = true) (k : Int) (hx : a.eval x = .int .i64 k) (hm : IntKind.i64.wrap (k - c) = m) (h : K (a.put o.dst (.int .i64 m)) w) : if b = true then o.wp Tryz.prog a w K Q else E := by
  rw [if_pos hw]; unfold Oper.wp execOp
  have hy : a.eval (.const (.int .i64 c)) = .int .i64 c := rfl
  simp only [ho, hx, hy]
  simp [eqGuard, go_sem, Result.andThen, hm]
  exact h
theorem st_index (x y : Operand) (ho : o.op = .indexAddr 238 x y) (hw : b = true) (g k : Nat) (hx : a.eval x = .pointer (some ⟨g, 0, none⟩)) (hy : a.eval y = .int .i64 (k : Int)) (hk : k < 80) (h : K (a.put o.dst (.pointer (some ⟨g, k, none⟩))) w) : if b = true then o.wp Tryz.prog a w K Q else E := by
  rw [if_pos hw]; unfold Oper.wp execOp
  have h1 : (0 : Int) ≤ (k : Int) ∧ (k : Int) < 80 := ⟨by omega, by omega⟩
  obtain ⟨i0, hi, hz0, hz1, hz2⟩ := info_parts wordInfo
  have e : (Instr.indexAt 238 (.pointer (some ⟨g, 0, none⟩)) (.int .i64 (k : Int))).run Tryz.prog w = .ok (.pointer (some ⟨g, k, none⟩)) w := by
    simp [Instr.indexAt, run_underlying Tryz.underlying238, Instr.sureAddr, asIntOf, sizeOf, typeInfo, hi, hz1, h1, Addr.add]
    split <;> simp_all
  simp only [ho, hx, hy, Sem.run_bind, e, Result.andThen_ok, Sem.run_pure]
  exact h
theorem st_load (x : Operand) (ho : o.op = .load 135 x) (hw : b = true) (g k : Nat) (v : Value) (hx : a.eval x = .pointer (some ⟨g, k, none⟩)) (hc : w.cell? ⟨g, k, none⟩ = some v) (h : K (a.put o.dst v) w) : if b = true then o.wp Tryz.prog a w K Q else E := by
  rw [if_pos hw]; unfold Oper.wp execOp
  simp only [ho, hx]
  simp [go_sem, Result.andThen, hc, Instr.loadAt, loadVar, isAgg, run_underlying Tryz.underlying135]
  exact h
theorem st_ints3 (x y z : Int) (ho : o.op = .buildSlice 109 3 #[(0, .const (.int .i64 x)), (1, .const (.int .i64 y)), (2, .const (.int .i64 z))]) (hw : b = true) (h : K (a.put o.dst (.slice (some ⟨w.heap.size, 0, none⟩) 3 3)) (w.alloc (.cells #[.int .i64 x, .int .i64 y, .int .i64 z] 3))) : if b = true then o.wp Tryz.prog a w K Q else E := by
  rw [if_pos hw]; unfold Oper.wp execOp
  have hm : Array.map (fun (i, x) => (i, a.eval x)) #[(0, Operand.const (.int .i64 x)), (1, .const (.int .i64 y)), (2, .const (.int .i64 z))] = #[(0, .int .i64 x), (1, .int .i64 y), (2, .int .i64 z)] := by simp [show ∀ c, a.eval (.const c) = c from fun _ => rfl]
  simp only [ho, hm]
  have hrun : (Instr.buildSlice 109 3 #[(0, .int .i64 x), (1, .int .i64 y), (2, .int .i64 z)]).run Tryz.prog w = .ok (.slice (some ⟨w.heap.size, 0, none⟩) 3 3) (w.alloc (.cells #[.int .i64 x, .int .i64 y, .int .i64 z] 3)) := by kernel_rfl
  simp only [Sem.run_bind, hrun, Result.andThen_ok, Sem.run_pure]
  exact h
theorem st_ints2 (x y : Int) (ho : o.op = .buildSlice 109 2 #[(0, .const (.int .i64 x)), (1, .const (.int .i64 y))]) (hw : b = true) (h : K (a.put o.dst (.slice (some ⟨w.heap.size, 0, none⟩) 2 2)) (w.alloc (.cells #[.int .i64 x, .int .i64 y] 3))) : if b = true then o.wp Tryz.prog a w K Q else E := by
  rw [if_pos hw]; unfold Oper.wp execOp
  have hm : Array.map (fun (i, x) => (i, a.eval x)) #[(0, Operand.const (.int .i64 x)), (1, .const (.int .i64 y))] = #[(0, .int .i64 x), (1, .int .i64 y)] := by simp [show ∀ c, a.eval (.const c) = c from fun _ => rfl]
  simp only [ho, hm]
  have hrun : (Instr.buildSlice 109 2 #[(0, .int .i64 x), (1, .int .i64 y)]).run Tryz.prog w = .ok (.slice (some ⟨w.heap.size, 0, none⟩) 2 2) (w.alloc (.cells #[.int .i64 x, .int .i64 y] 3)) := by kernel_rfl
  simp only [Sem.run_bind, hrun, Result.andThen_ok, Sem.run_pure]
  exact h
theorem st_call2 (f : Nat) (x y : Operand) (t u : TypeId) (ho : o.op = .call { callee := .value (.func f), args := #[x, y], argTypes := #[t, u] }) (hw : b = true) (v z : Value) (hx : a.eval x = v) (hy : a.eval y = z) (hcf : (callFunc f #[v, z]).run Tryz.prog w = .ok (.enter f #[v, z]) w) (post : Ending → World → Prop) (hc : Calls Tryz.prog f #[v, z] w post) (hp : ∀ e w', post e w' → ∃ u, e = .returned u ∧ K (a.put o.dst u) w') : if b = true then o.wp Tryz.prog a w K Q else E := by
  rw [if_pos hw]; unfold Oper.wp execOp
  have hf : a.eval (.func f) = .func (.func f) #[] #[] := rfl
  have hx' : Array.map a.eval #[x, y] = #[v, z] := by simp [hx, hy]
  simp only [ho]
  simp only [resolve, hf, hx']
  simp [invoke, go_sem, Result.andThen]
  rw [hcf]
  refine hc.mono fun e w' h => ?_
  obtain ⟨u, rfl, hk⟩ := hp e w' h
  exact hk
end
def Ints (w : World) (g : Nat) (ns : List Nat) : Prop := Blk w g 3 (ns.map fun (k : Nat) => Value.int .i64 (k : Int))
theorem Ints.cells {w : World} {g : Nat} {ns : List Nat} (h : Ints w g ns) : ∀ (j k : Nat), ns[j]? = some k → w.cell? ⟨g, j, none⟩ = some (.int .i64 (k : Int)) := by
  intro j k hk
  rw [Blk.cell h, List.getElem?_map, hk]
  rfl
end Go.Proofs.YtlcoebenkhafcaaGreatDoorLn
namespace Go.Proofs.YtlcoebenkhafcaaGreatDoorLn
set_option maxRecDepth 100000
open Go.RowKit
set_option linter.unusedVariables false
set_option linter.unusedSimpArgs false
theorem index36 (rest : List UInt8) (i : Nat) (hr : rest.length = 128) (hi : i < 128) (w : World) :
    (Instr.index 225 (.agg (cb rest).toArray) (.int .i64 (i : Int))).run Tryz.prog w = .ok (.int .u8 (ub (rest.getD i 0))) w := by
  obtain ⟨i0, h0, hz0, hz1, hz2⟩ := info_parts byteInfo
  exact run_index_agg Tryz.underlying225 h0 hz1 (fun w => by simp [isAgg, run_underlying Tryz.underlying5]) (cb rest) i _ hi (cb_get rest i (by omega)) w
theorem pack_val (x : W64) (b : UInt8) : bits .or .u64 (IntKind.u64.wrap (ui x * 256)) (ub b) = ui ((x <<< 8) ||| w8 b) := by
  have h1 := ui_shlw x 8
  rw [show (2 : Int) ^ 8 = 256 from rfl] at h1
  rw [h1, ui_w8, ui_or]
theorem cw_set (l : List W64) (i : Nat) (x : W64) : (cw l).set i (.int .u64 (ui x)) = cw (l.set i x) := by simp [cw, List.map_set]
def mid (rest : List UInt8) (k : Nat) : List W64 := spread (words16 rest) k ++ List.replicate (64 - k) 0
theorem mid_length (rest : List UInt8) (k : Nat) (h : k ≤ 64) : (mid rest k).length = 80 := by simp [mid, spread_length, words16_length]; omega
theorem mid_get (rest : List UInt8) (k i : Nat) (h : i < 16 + k) : (mid rest k).getD i 0 = (spread (words16 rest) k).getD i 0 := by
  unfold mid
  rw [List.getD_eq_getElem?_getD, List.getD_eq_getElem?_getD, List.getElem?_append_left (by rw [spread_length, words16_length]; omega)]
theorem mid_next (rest : List UInt8) (k : Nat) (h : k < 64) : (mid rest k).set (16 + k) (nextW (spread (words16 rest) k)) = mid rest (k + 1) := by
  unfold mid
  have hl : (spread (words16 rest) k).length = 16 + k := by rw [spread_length, words16_length]
  rw [List.set_append_right _ _ (by omega), hl, Nat.sub_self, show 64 - k = (64 - (k + 1)) + 1 by omega, List.replicate_succ, List.set_cons_zero, spread]
  simp
theorem nextW_eq (rest : List UInt8) (n : Nat) (h0 : 16 ≤ n) (h : n < 80) : nextW (spread (words16 rest) (n - 16)) =
    (mid rest (n - 16)).getD (n - 16) 0 + ss0 ((mid rest (n - 16)).getD (n - 15) 0) + (mid rest (n - 16)).getD (n - 7) 0 + ss1 ((mid rest (n - 16)).getD (n - 2) 0) := by
  have hl : (spread (words16 rest) (n - 16)).length = n := by rw [spread_length, words16_length]; omega
  rw [mid_get _ _ _ (by omega), mid_get _ _ _ (by omega), mid_get _ _ _ (by omega), mid_get _ _ _ (by omega), nextW, hl]
def GivesWords (w : World) (ws : List W64) (e : Ending) (w' : World) : Prop := e = .returned (.agg (cw ws).toArray) ∧ Below w.heap.size w w'
set_option maxHeartbeats 1000000 in
set_option maxRecDepth 100000 in
theorem words_any (g : Nat) (st : S8) (rest : List UInt8) (len : Int) (w : World) (h : HB w g st rest len) (hr : rest.length = 128) :
    Calls Tryz.prog 212 #[.pointer (some ⟨g, 0, none⟩)] w (GivesWords w (allWords rest)) := by
  have HR := Lib.hid hr
  have hlt := h.lt
  have hrange : w.rangeAt g 8 (cb rest) := h.range 8 _ (fun j v hv => by
    have hj : j < 128 := by
      have := (List.getElem?_eq_some_iff.1 hv).1
      rw [cb_length] at this
      omega
    rw [List.getElem?_append_right (by rw [cw_length]; show 8 ≤ 8 + j; omega)]
    rw [show 8 + j - (cw st.list).length = j by rw [cw_length]; show 8 + j - 8 = j; omega]
    rw [List.getElem?_append_left (by rw [cb_length]; omega)]
    exact hv)
  clear hr
  have z43 := zero43
  go_enter Tryz.func212, Tryz.ntmps212
  go_wp2_with ((with_reducible refine at_dst (some 12) ?_); refine wpList_load_mid (op := ⟨some 12, _, _, _, _, _⟩) rfl 225 (.tmp 11) rfl g 8 rfl (cb rest) _ ?c1 Tryz.underlying225 rfl ?c2 ?_)
  case c1 => exact World.rangeAt_alloc (World.rangeAt_alloc hrange _) _
  case c2 => rw [info36, cb_length, HR.out]
  go_loopw [13] (fun i wr => ∃ k : Nat, k ≤ 128 ∧ i = .int .i64 k ∧ Blk wr w.heap.size 238 (cw (List.replicate 80 0)) ∧ Blk wr (w.heap.size + 1) 238 (cw (packs rest k)) ∧ Below w.heap.size w wr) (fun i _ => 128 - (intOf i).toNat)
  case atStart => exact ⟨0, by omega, rfl, heap_alloc2_old _ _ _, heap_alloc2_new _ _ _, ((Below.refl _ _).alloc (Nat.le_refl _) _).alloc (by simp) _⟩
  case round =>
    obtain ⟨k, hk, rfl, hb0, hb1, hb⟩ := hrel
    by_cases hk64 : k < 128
    · have hix := index36 rest k HR.out hk64
      obtain ⟨x, hx⟩ : ∃ x, x = (packs rest k).getD (k / 8) 0 := ⟨_, rfl⟩
      have hc := hb1.cell (k / 8)
      rw [cw_get _ _ (by rw [packs_length]; omega), ← hx] at hc
      have HX := Lib.hid hx
      clear hx
      have hf := hb1.frozen (k / 8)
      have u0 := ui_lo x
      obtain ⟨b, hbb⟩ : ∃ b, b = rest.getD k 0 := ⟨_, rfl⟩
      rw [← hbb] at hix
      have HBB := Lib.hid hbb
      clear hbb
      have v0 := ub_lo b
      have v1 := ub_hi b
      have HB0 := Lib.hid hb0
      have HB1 := Lib.hid hb1
      clear hb0 hb1
      go_wp2
      go_roundw
      case rel =>
        rw [pack_val]
        refine ⟨k + 1, by omega, by go_num, HB0.out.far (by simp) _, ?_, hb.setCell (by simp) _⟩
        have := HB1.out.set_ (k / 8) (.int .u64 (ui ((x <<< 8) ||| w8 b)))
        have e : (packs rest k).set (k / 8) ((x <<< 8) ||| w8 b) = packs rest (k + 1) := by rw [HX.out, HBB.out]; rfl
        rw [cw_set, e] at this
        exact this
      case measure => simp [intOf]; omega
    · have e : k = 128 := by omega
      rw [e, packs_all] at hb1
      clear e
      go_wp2
      rename World => w2
      go_loopw [6] (fun i wr => ∃ n : Nat, 16 ≤ n ∧ n ≤ 80 ∧ i = .int .i64 n ∧ Blk wr w.heap.size 238 (cw (List.replicate 80 0)) ∧ Blk wr (w.heap.size + 1) 238 (cw (mid rest (n - 16))) ∧ Below w.heap.size w wr) (fun i _ => 80 - (intOf i).toNat)
      case atStart => exact ⟨16, by omega, by omega, rfl, hb0, hb1, hb⟩
      case round =>
        obtain ⟨n, hn0, hn, rfl, hc0, hc1, hcb⟩ := hrel
        by_cases hn64 : n < 80
        · obtain ⟨x0, hx0⟩ : ∃ x, x = (mid rest (n - 16)).getD (n - 16) 0 := ⟨_, rfl⟩
          obtain ⟨x1, hx1⟩ : ∃ x, x = (mid rest (n - 16)).getD (n - 15) 0 := ⟨_, rfl⟩
          obtain ⟨x2, hx2⟩ : ∃ x, x = (mid rest (n - 16)).getD (n - 7) 0 := ⟨_, rfl⟩
          obtain ⟨x3, hx3⟩ : ∃ x, x = (mid rest (n - 16)).getD (n - 2) 0 := ⟨_, rfl⟩
          obtain ⟨x4, hx4⟩ : ∃ x, x = (mid rest (n - 16)).getD n 0 := ⟨_, rfl⟩
          have hl := mid_length rest (n - 16) (by omega)
          obtain ⟨m0, hm0⟩ : ∃ m, m = n - 16 := ⟨_, rfl⟩
          obtain ⟨m1, hm1⟩ : ∃ m, m = n - 15 := ⟨_, rfl⟩
          obtain ⟨m2, hm2⟩ : ∃ m, m = n - 7 := ⟨_, rfl⟩
          obtain ⟨m3, hm3⟩ : ∃ m, m = n - 2 := ⟨_, rfl⟩
          have CC : Hid (∀ u, Blk u (w.heap.size + 1) 238 (cw (mid rest (n - 16))) → u.cell? ⟨w.heap.size + 1, m0, none⟩ = some (.int .u64 (ui x0)) ∧ u.cell? ⟨w.heap.size + 1, m1, none⟩ = some (.int .u64 (ui x1)) ∧ u.cell? ⟨w.heap.size + 1, m2, none⟩ = some (.int .u64 (ui x2)) ∧ u.cell? ⟨w.heap.size + 1, m3, none⟩ = some (.int .u64 (ui x3)) ∧ u.cell? ⟨w.heap.size + 1, n, none⟩ = some (.int .u64 (ui x4))) := by
            intro u hu
            have c0 := hu.cell m0
            have c1 := hu.cell m1
            have c2 := hu.cell m2
            have c3 := hu.cell m3
            have c4 := hu.cell n
            rw [cw_get _ _ (by omega), hm0, ← hx0] at c0
            rw [cw_get _ _ (by omega), hm1, ← hx1] at c1
            rw [cw_get _ _ (by omega), hm2, ← hx2] at c2
            rw [cw_get _ _ (by omega), hm3, ← hx3] at c3
            rw [cw_get _ _ (by omega), ← hx4] at c4
            rw [← hm0] at c0
            rw [← hm1] at c1
            rw [← hm2] at c2
            rw [← hm3] at c3
            exact ⟨c0, c1, c2, c3, c4⟩
          have hv := nextW_eq rest n hn0 hn64
          rw [← hx0, ← hx1, ← hx2, ← hx3] at hv
          have HV := Lib.hid hv
          have HC0 := Lib.hid hc0
          have HC1 := Lib.hid hc1
          have e0 : IntKind.i64.wrap ((n : Int) - 16) = (m0 : Int) := by rw [IntKind.wrap_i64]; omega
          have e1 : IntKind.i64.wrap ((n : Int) - 15) = (m1 : Int) := by rw [IntKind.wrap_i64]; omega
          have e2 : IntKind.i64.wrap ((n : Int) - 7) = (m2 : Int) := by rw [IntKind.wrap_i64]; omega
          have e3 : IntKind.i64.wrap ((n : Int) - 2) = (m3 : Int) := by rw [IntKind.wrap_i64]; omega
          have E0 := Lib.hid e0
          have E1 := Lib.hid e1
          have E2 := Lib.hid e2
          have E3 := Lib.hid e3
          have hbl := hc1.lt
          have L0 : Hid (m0 < 80 ∧ m1 < 80 ∧ m2 < 80 ∧ m3 < 80) := ⟨by omega, by omega, by omega, by omega⟩
          clear hv hl hx0 hx1 hx2 hx3 hx4 hc0 hc1 hb0 hb1 hb hm0 hm1 hm2 hm3 e0 e1 e2 e3
          go_wp2
          rename_i hKx
          refine wp_region_each (by kernel_rfl) (by kernel_rfl) (fun iX v u => match iX with
              | 0 => v = .int .i64 (n : Int)
              | 1 => v = .int .i64 (m3 : Int)
              | 2 => v = .pointer (some ⟨(w.heap.size + 1), m3, none⟩)
              | 3 => v = .int .u64 (ui (x3))
              | 4 => ∃ g, v = .slice (some ⟨g, 0, none⟩) 2 2 ∧ Ints u g [19, 61]
              | 5 => v = .int .u64 (ui (xors x3 [19, 61]))
              | 6 => v = .int .i64 (n : Int)
              | 7 => v = .int .i64 (m3 : Int)
              | 8 => v = .pointer (some ⟨(w.heap.size + 1), m3, none⟩)
              | 9 => v = .int .u64 (ui (x3))
              | 10 => v = .int .u64 (ui (x3 >>> 6))
              | 11 => v = .int .u64 (ui ((xors x3 [19, 61]) ^^^ (x3 >>> 6)))
              | 12 => v = .int .u64 (ui ((xors x3 [19, 61]) ^^^ (x3 >>> 6)))
              | _ => True) (fun u => Below wr.heap.size wr u) ?m1 (fun _ _ h1 h2 => h1.trans (h2.mono h1.size)) ⟨rfl, rfl, rfl, Nat.le_refl _, fun _ _ => rfl⟩ ?m2 ?m3
          case m1 =>
            intro iX v u u' h hr hb
            rcases iX with _ | _ | _ | _ | _ | _ | _ | _ | _ | _ | _ | _ | _ | iX
            · exact h
            · exact h
            · exact h
            · exact h
            · obtain ⟨g, e, hk⟩ := h; exact ⟨g, e, Blk.below hk hb (Blk.lt hk)⟩
            · exact h
            · exact h
            · exact h
            · exact h
            · exact h
            · exact h
            · exact h
            · exact h
            · trivial
          case m2 =>
            intro iX o ho a u hr hk hpre K hK
            have e6 : a.tmps.getD 6 undef = .int .i64 (n : Int) := hk.slot 6 (by simp)
            have e3 : a.tmps.getD 3 undef = .pointer (some ⟨(w.heap.size + 1), 0, none⟩) := hk.slot 3 (by simp)
            rcases iX with _ | _ | _ | _ | _ | _ | _ | _ | _ | _ | _ | _ | _ | iX
            · obtain rfl := Option.some.inj ho
              exact st_move (.tmp 6) rfl (want_none rfl) _ e6 (hK _ _ rfl (Below.refl _ _))
            · obtain rfl := Option.some.inj ho
              exact st_subInt (.tmp 33) 2 _ rfl (want_none rfl) _ (hpre 0 _ 33 rfl rfl ⟨⟨0, .data⟩, by simp, rfl, rfl⟩) E3.out (hK _ _ rfl (Below.refl _ _))
            · obtain rfl := Option.some.inj ho
              exact st_index (.tmp 3) (.tmp 34) rfl (want_none rfl) _ _ e3 (hpre 1 _ 34 rfl rfl ⟨⟨1, .data⟩, by simp, rfl, rfl⟩) L0.out.2.2.2 (hK _ _ rfl (Below.refl _ _))
            · obtain rfl := Option.some.inj ho
              exact st_load (.tmp 35) rfl (want_none rfl) _ _ _ (hpre 2 _ 35 rfl rfl ⟨⟨2, .data⟩, by simp, rfl, rfl⟩) ((hr.cell (p := ⟨w.heap.size + 1, m3, none⟩) hbl).trans (CC.out _ HC1.out).2.2.2.1) (hK _ _ rfl (Below.refl _ _))
            · obtain rfl := Option.some.inj ho
              exact st_ints2 19 61 rfl (want_none rfl) (hK _ _ ⟨u.heap.size, rfl, heap_alloc_new _ _⟩ ((Below.refl _ _).alloc (Nat.le_refl _) _))
            · obtain rfl := Option.some.inj ho
              obtain ⟨gs, egs, hgs⟩ := (hpre 4 _ 37 rfl rfl ⟨⟨4, .data⟩, by simp, rfl, rfl⟩)
              exact st_call2 213 (.tmp 36) (.tmp 37) 135 109 rfl (want_none rfl) _ _ (hpre 3 _ 36 rfl rfl ⟨⟨3, .data⟩, by simp, rfl, rfl⟩) egs (cf20 _ _ _) _ (turned_any x3 [19, 61] gs 2 2 u rfl (by omega) hgs.cells (by decide)) (fun e u' ⟨he, hw⟩ => ⟨_, he, hK _ _ rfl (by rw [← hw]; exact Below.refl _ _)⟩)
            · obtain rfl := Option.some.inj ho
              exact st_move (.tmp 6) rfl (want_none rfl) _ e6 (hK _ _ rfl (Below.refl _ _))
            · obtain rfl := Option.some.inj ho
              exact st_subInt (.tmp 39) 2 _ rfl (want_none rfl) _ (hpre 6 _ 39 rfl rfl ⟨⟨6, .data⟩, by simp, rfl, rfl⟩) E3.out (hK _ _ rfl (Below.refl _ _))
            · obtain rfl := Option.some.inj ho
              exact st_index (.tmp 3) (.tmp 40) rfl (want_none rfl) _ _ e3 (hpre 7 _ 40 rfl rfl ⟨⟨7, .data⟩, by simp, rfl, rfl⟩) L0.out.2.2.2 (hK _ _ rfl (Below.refl _ _))
            · obtain rfl := Option.some.inj ho
              exact st_load (.tmp 41) rfl (want_none rfl) _ _ _ (hpre 8 _ 41 rfl rfl ⟨⟨8, .data⟩, by simp, rfl, rfl⟩) ((hr.cell (p := ⟨w.heap.size + 1, m3, none⟩) hbl).trans (CC.out _ HC1.out).2.2.2.1) (hK _ _ rfl (Below.refl _ _))
            · obtain rfl := Option.some.inj ho
              exact st_shr (.tmp 42) 6 (by omega) _ rfl rfl (want_none rfl) _ (hpre 9 _ 42 rfl rfl ⟨⟨9, .data⟩, by simp, rfl, rfl⟩) (hK _ _ rfl (Below.refl _ _))
            · obtain rfl := Option.some.inj ho
              exact st_xor (.tmp 38) (.tmp 43) rfl (want_none rfl) _ _ (hpre 5 _ 38 rfl rfl ⟨⟨5, .data⟩, by simp, rfl, rfl⟩) (hpre 10 _ 43 rfl rfl ⟨⟨10, .data⟩, by simp, rfl, rfl⟩) (hK _ _ rfl (Below.refl _ _))
            · obtain rfl := Option.some.inj ho
              exact st_assign (.tmp 44) rfl (want_none rfl) _ (hpre 11 _ 44 rfl rfl ⟨⟨11, .data⟩, by simp, rfl, rfl⟩) (hK _ _ rfl (Below.refl _ _))
            · cases ho
          case m3 =>
            intro a u1 hr hk hv
            have h7 := hv 12 _ 7 rfl rfl
            have hfr := keeps_frameP (fun s => decide (s = 7 ∨ (33 ≤ s ∧ s ≤ 44))) hk (by simp)
            refine hKx a u1 ?_
            rw [hfr]
            generalize hf : (fun s => a.tmps.getD s undef) = f
            have hf7 : f 7 = .int .u64 (ui (ss1 x3)) := by rw [← hf, ← xors_ss1]; exact h7
            simp only [mixP, hf7, decide_eq_true_eq, Nat.reduceAdd, Nat.reduceLeDiff, Nat.reduceEqDiff, false_or, true_or, or_false, or_true, and_true, and_false, true_and, false_and, and_self, if_true, if_false, Nat.zero_le]
            have hsz1 := hr.size
            have hcb1 : Below w.heap.size w u1 := hcb.trans (hr.mono hcb.size)
            have HC0a := Lib.hid (HC0.out.below hr HC0.out.lt)
            have HC1a := Lib.hid (HC1.out.below hr HC1.out.lt)
            have hbl1 := HC1a.out.lt
            clear hfr hf h7 hv hk hr HC0 HC1 hcb hbl hKx
            go_wp2
            rename_i hKx
            refine wp_region_each (by kernel_rfl) (by kernel_rfl) (fun iX v u => match iX with
                | 0 => v = .int .i64 (n : Int)
                | 1 => v = .int .i64 (m1 : Int)
                | 2 => v = .pointer (some ⟨(w.heap.size + 1), m1, none⟩)
                | 3 => v = .int .u64 (ui (x1))
                | 4 => ∃ g, v = .slice (some ⟨g, 0, none⟩) 2 2 ∧ Ints u g [1, 8]
                | 5 => v = .int .u64 (ui (xors x1 [1, 8]))
                | 6 => v = .int .i64 (n : Int)
                | 7 => v = .int .i64 (m1 : Int)
                | 8 => v = .pointer (some ⟨(w.heap.size + 1), m1, none⟩)
                | 9 => v = .int .u64 (ui (x1))
                | 10 => v = .int .u64 (ui (x1 >>> 7))
                | 11 => v = .int .u64 (ui ((xors x1 [1, 8]) ^^^ (x1 >>> 7)))
                | 12 => v = .int .u64 (ui ((xors x1 [1, 8]) ^^^ (x1 >>> 7)))
                | _ => True) (fun u => Below u1.heap.size u1 u) ?m1 (fun _ _ h1 h2 => h1.trans (h2.mono h1.size)) ⟨rfl, rfl, rfl, Nat.le_refl _, fun _ _ => rfl⟩ ?m2 ?m3
            case m1 =>
              intro iX v u u' h hr hb
              rcases iX with _ | _ | _ | _ | _ | _ | _ | _ | _ | _ | _ | _ | _ | iX
              · exact h
              · exact h
              · exact h
              · exact h
              · obtain ⟨g, e, hk⟩ := h; exact ⟨g, e, Blk.below hk hb (Blk.lt hk)⟩
              · exact h
              · exact h
              · exact h
              · exact h
              · exact h
              · exact h
              · exact h
              · exact h
              · trivial
            case m2 =>
              intro iX o ho a u hr hk hpre K hK
              have e6 : a.tmps.getD 6 undef = .int .i64 (n : Int) := hk.slot 6 (by simp)
              have e3 : a.tmps.getD 3 undef = .pointer (some ⟨(w.heap.size + 1), 0, none⟩) := hk.slot 3 (by simp)
              rcases iX with _ | _ | _ | _ | _ | _ | _ | _ | _ | _ | _ | _ | _ | iX
              · obtain rfl := Option.some.inj ho
                exact st_move (.tmp 6) rfl (want_none rfl) _ e6 (hK _ _ rfl (Below.refl _ _))
              · obtain rfl := Option.some.inj ho
                exact st_subInt (.tmp 45) 15 _ rfl (want_none rfl) _ (hpre 0 _ 45 rfl rfl ⟨⟨0, .data⟩, by simp, rfl, rfl⟩) E1.out (hK _ _ rfl (Below.refl _ _))
              · obtain rfl := Option.some.inj ho
                exact st_index (.tmp 3) (.tmp 46) rfl (want_none rfl) _ _ e3 (hpre 1 _ 46 rfl rfl ⟨⟨1, .data⟩, by simp, rfl, rfl⟩) L0.out.2.1 (hK _ _ rfl (Below.refl _ _))
              · obtain rfl := Option.some.inj ho
                exact st_load (.tmp 47) rfl (want_none rfl) _ _ _ (hpre 2 _ 47 rfl rfl ⟨⟨2, .data⟩, by simp, rfl, rfl⟩) ((hr.cell (p := ⟨w.heap.size + 1, m1, none⟩) hbl1).trans (CC.out _ HC1a.out).2.1) (hK _ _ rfl (Below.refl _ _))
              · obtain rfl := Option.some.inj ho
                exact st_ints2 1 8 rfl (want_none rfl) (hK _ _ ⟨u.heap.size, rfl, heap_alloc_new _ _⟩ ((Below.refl _ _).alloc (Nat.le_refl _) _))
              · obtain rfl := Option.some.inj ho
                obtain ⟨gs, egs, hgs⟩ := (hpre 4 _ 49 rfl rfl ⟨⟨4, .data⟩, by simp, rfl, rfl⟩)
                exact st_call2 213 (.tmp 48) (.tmp 49) 135 109 rfl (want_none rfl) _ _ (hpre 3 _ 48 rfl rfl ⟨⟨3, .data⟩, by simp, rfl, rfl⟩) egs (cf20 _ _ _) _ (turned_any x1 [1, 8] gs 2 2 u rfl (by omega) hgs.cells (by decide)) (fun e u' ⟨he, hw⟩ => ⟨_, he, hK _ _ rfl (by rw [← hw]; exact Below.refl _ _)⟩)
              · obtain rfl := Option.some.inj ho
                exact st_move (.tmp 6) rfl (want_none rfl) _ e6 (hK _ _ rfl (Below.refl _ _))
              · obtain rfl := Option.some.inj ho
                exact st_subInt (.tmp 51) 15 _ rfl (want_none rfl) _ (hpre 6 _ 51 rfl rfl ⟨⟨6, .data⟩, by simp, rfl, rfl⟩) E1.out (hK _ _ rfl (Below.refl _ _))
              · obtain rfl := Option.some.inj ho
                exact st_index (.tmp 3) (.tmp 52) rfl (want_none rfl) _ _ e3 (hpre 7 _ 52 rfl rfl ⟨⟨7, .data⟩, by simp, rfl, rfl⟩) L0.out.2.1 (hK _ _ rfl (Below.refl _ _))
              · obtain rfl := Option.some.inj ho
                exact st_load (.tmp 53) rfl (want_none rfl) _ _ _ (hpre 8 _ 53 rfl rfl ⟨⟨8, .data⟩, by simp, rfl, rfl⟩) ((hr.cell (p := ⟨w.heap.size + 1, m1, none⟩) hbl1).trans (CC.out _ HC1a.out).2.1) (hK _ _ rfl (Below.refl _ _))
              · obtain rfl := Option.some.inj ho
                exact st_shr (.tmp 54) 7 (by omega) _ rfl rfl (want_none rfl) _ (hpre 9 _ 54 rfl rfl ⟨⟨9, .data⟩, by simp, rfl, rfl⟩) (hK _ _ rfl (Below.refl _ _))
              · obtain rfl := Option.some.inj ho
                exact st_xor (.tmp 50) (.tmp 55) rfl (want_none rfl) _ _ (hpre 5 _ 50 rfl rfl ⟨⟨5, .data⟩, by simp, rfl, rfl⟩) (hpre 10 _ 55 rfl rfl ⟨⟨10, .data⟩, by simp, rfl, rfl⟩) (hK _ _ rfl (Below.refl _ _))
              · obtain rfl := Option.some.inj ho
                exact st_assign (.tmp 56) rfl (want_none rfl) _ (hpre 11 _ 56 rfl rfl ⟨⟨11, .data⟩, by simp, rfl, rfl⟩) (hK _ _ rfl (Below.refl _ _))
              · cases ho
            case m3 =>
              intro a u2 hr hk hv
              have h8 := hv 12 _ 8 rfl rfl
              have hfr := keeps_frameP (fun s => decide (s = 8 ∨ (45 ≤ s ∧ s ≤ 56))) hk (by simp)
              refine hKx a u2 ?_
              rw [hfr]
              generalize hf2 : (fun s => a.tmps.getD s undef) = f2
              have hf8 : f2 8 = .int .u64 (ui (ss0 x1)) := by rw [← hf2, ← xors_ss0]; exact h8
              simp only [mixP, hf8, decide_eq_true_eq, Nat.reduceAdd, Nat.reduceLeDiff, Nat.reduceEqDiff, false_or, true_or, or_false, or_true, and_true, and_false, true_and, false_and, and_self, if_true, if_false, Nat.zero_le]
              have hcb2 : Below w.heap.size w u2 := hcb1.trans (hr.mono hcb1.size)
              have HC0b := Lib.hid (HC0a.out.below hr HC0a.out.lt)
              have HC1b := Lib.hid (HC1a.out.below hr HC1a.out.lt)
              obtain ⟨c0, _, c2, _, c4⟩ := CC.out _ HC1b.out
              have f4 := HC1b.out.frozen n
              have l0 : (m0 : Int) < 80 := by have := L0.out; omega
              have l2 : (m2 : Int) < 80 := by have := L0.out; omega
              have l4 : (n : Int) < 80 := by omega
              have e0 := E0.out
              have e2 := E2.out
              have r1 := ui_addw
              have r5 := ui_add
              clear hfr hf2 h8 hv hk hr HC0a HC1a hcb1 hbl1 hKx hsz1
              go_wp2
              refine wp_region_still_tail 15 (by kernel_rfl) (by kernel_rfl) ?_
              simp only [List.take_succ_cons, List.take_zero, List.drop_succ_cons, List.drop_zero]
              change wpStill _ _ u2.drew _ _ _
              iterate 15 still_step
              refine wpStill_nil ?_
              clear r1 r5 c0 c2 e0 e2 l0 l2
              go_wp2
              go_roundw
              case rel =>
                rw [← HV.out]
                refine ⟨n + 1, by omega, by omega, by go_num, (HC0b.out.far (by simp) _).drewN 1, ?_, (hcb2.setCell (by simp) _).drew⟩
                have := HC1b.out.set_ n (.int .u64 (ui (nextW (spread (words16 rest) (n - 16)))))
                have e : (mid rest (n - 16)).set n (nextW (spread (words16 rest) (n - 16))) = mid rest (n + 1 - 16) := by
                  have := mid_next rest (n - 16) (by omega)
                  rw [show 16 + (n - 16) = n by omega, show n - 16 + 1 = n + 1 - 16 by omega] at this
                  exact this
                rw [cw_set, e] at this
                exact this
              case measure => simp [intOf]; omega
        · have hall : mid rest (n - 16) = allWords rest := by
            have e : n = 80 := by omega
            rw [e]; simp [mid, allWords]
          rw [hall] at hc1
          have HC0 := Lib.hid hc0
          have HC1 := Lib.hid hc1
          have HI := Lib.hid info43
          clear hall hc0 hc1 hb0 hb1 hb
          go_wp2_with (first | ((with_reducible refine at_dst (some 72) ?_); refine wpList_load_mid (op := ⟨some 72, _, _, _, _, _⟩) rfl 238 (.tmp 3) rfl (w.heap.size + 1) 0 rfl (cw (allWords rest)) _ ?d1 Tryz.underlying238 rfl ?d2 ?_) | ((with_reducible refine at_store 238 ?_); refine wpList_store_row (o := ⟨none, _, _, _, _, _⟩) rfl 238 (.tmp 2) (.tmp 72) rfl w.heap.size (cw (allWords rest)).toArray rfl rfl 238 (cw (List.replicate 80 0)).toArray HC0.out ?d3 ?d4 ?d5 ?_))
          case d1 => exact HC1.out.range 0 _ (fun j v hv => by rw [Nat.zero_add]; exact hv)
          case d2 => rw [HI.out, cw_length, allWords_length]
          case d3 => rw [HI.out, List.size_toArray, cw_length, allWords_length]
          case d4 => rw [List.size_toArray, List.size_toArray, cw_length, cw_length, allWords_length]; simp
          case d5 => exact all_oneCell_toArray (cw_one _)
          refine bodyPost_ret (v := .agg (cw (allWords rest)).toArray) (results_cell_row (fr := (0, 0)) Tryz.results212 _ _ w.heap.size 238 _ _ rfl (setRow_heap _ _ _ _ _ _ HC0.out) Tryz.underlying238 rfl ?_) rfl ⟨rfl, ?_⟩
          · rw [HI.out, List.size_toArray, cw_length, allWords_length]
          · exact below_setRow hcb (Nat.le_refl _) _
end Go.Proofs.YtlcoebenkhafcaaGreatDoorLn
namespace Go.Proofs.YtlcoebenkhafcaaGreatDoorLn
set_option maxRecDepth 100000
open Go.RowKit
set_option linter.unusedVariables false
set_option linter.unusedSimpArgs false
theorem index35 (l : List W64) (i : Nat) (hr : l.length = 8) (hi : i < 8) (w : World) :
    (Instr.index 224 (.agg (cw l).toArray) (.int .i64 (i : Int))).run Tryz.prog w = .ok (.int .u64 (ui (l.getD i 0))) w := by
  obtain ⟨i0, h0, hz0, hz1, hz2⟩ := info_parts wordInfo
  exact run_index_agg Tryz.underlying224 h0 hz1 (fun w => by simp [isAgg, run_underlying Tryz.underlying135]) (cw l) i _ hi (cw_get l i (by omega)) w
def addsUpto (s r : List W64) (n : Nat) : List W64 := (List.range 8).map fun j => if j < n then s.getD j 0 + r.getD j 0 else s.getD j 0
theorem addsUpto_zero (s : S8) (r : List W64) : addsUpto s.list r 0 = s.list := by simp [addsUpto, S8.list, List.range, List.range.loop]
theorem addsUpto_all (s r : S8) : addsUpto s.list r.list 8 = (s.add r).list := by simp [addsUpto, S8.list, S8.add, List.range, List.range.loop]
theorem addsUpto_length (s r : List W64) (n : Nat) : (addsUpto s r n).length = 8 := by simp [addsUpto]
theorem addsUpto_get (s r : List W64) (n : Nat) (hn : n < 8) : (addsUpto s r n).getD n 0 = s.getD n 0 := by
  rw [List.getD_eq_getElem?_getD, List.getElem?_eq_getElem (by rw [addsUpto_length]; exact hn)]
  simp [addsUpto]
theorem addsUpto_set (s r : List W64) (n : Nat) (hn : n < 8) : (addsUpto s r n).set n (s.getD n 0 + r.getD n 0) = addsUpto s r (n + 1) := by
  apply List.ext_getElem
  · simp [addsUpto]
  · intro j h1 h2
    have hj : j < 8 := by simpa [addsUpto] using h2
    rw [List.getElem_set]
    simp only [addsUpto, List.getElem_map, List.getElem_range]
    split
    · next e => subst e; rw [if_pos (by omega)]
    · next e =>
      by_cases h : j < n
      · rw [if_pos h, if_pos (by omega)]
      · rw [if_neg h, if_neg (by omega)]
theorem HB.st {w : World} {g : Nat} {st : S8} {rest : List UInt8} {len : Int} (h : HB w g st rest len) : w.rangeAt g 0 (cw st.list) :=
  Blk.range h 0 _ (fun j v hv => by
    have hj : j < 8 := by
      have := (List.getElem?_eq_some_iff.1 hv).1
      rw [cw_length] at this
      exact this
    rw [Nat.zero_add, List.getElem?_append_left (by rw [cw_length]; exact hj)]
    exact hv)
theorem eight {w : World} {g : Nat} {t : TypeId} {s : S8} (h : Blk w g t (cw s.list)) :
    w.cell? ⟨g, 0, none⟩ = some (.int .u64 (ui s.a)) ∧ w.cell? ⟨g, 1, none⟩ = some (.int .u64 (ui s.b)) ∧ w.cell? ⟨g, 2, none⟩ = some (.int .u64 (ui s.c)) ∧ w.cell? ⟨g, 3, none⟩ = some (.int .u64 (ui s.d)) ∧
    w.cell? ⟨g, 4, none⟩ = some (.int .u64 (ui s.e)) ∧ w.cell? ⟨g, 5, none⟩ = some (.int .u64 (ui s.f)) ∧ w.cell? ⟨g, 6, none⟩ = some (.int .u64 (ui s.g)) ∧ w.cell? ⟨g, 7, none⟩ = some (.int .u64 (ui s.h)) :=
  ⟨h.cell 0, h.cell 1, h.cell 2, h.cell 3, h.cell 4, h.cell 5, h.cell 6, h.cell 7⟩
def InTake (w : World) (g B : Nat) (st : S8) (rest : List UInt8) (len : Int) (wr : World) : Prop :=
  HB wr g st rest len ∧ Blk wr B 238 (cw (allWords rest)) ∧ Tabs wr ∧ Below w.heap.size w wr
theorem InTake.drewN {w wr : World} {g B : Nat} {st : S8} {rest : List UInt8} {len : Int} (h : InTake w g B st rest len wr) (n : Nat) : InTake w g B st rest len (wr.drewN n) :=
  ⟨h.1, h.2.1, h.2.2.1, ⟨h.2.2.2.os, h.2.2.2.tape, h.2.2.2.output, h.2.2.2.size, h.2.2.2.block⟩⟩
theorem InTake.below {w wr wr' : World} {g B : Nat} {st : S8} {rest : List UInt8} {len : Int} (h : InTake w g B st rest len wr) (hb : Below wr.heap.size wr wr') : InTake w g B st rest len wr' :=
  ⟨Blk.below h.1 hb (Blk.lt h.1), h.2.1.below hb h.2.1.lt, h.2.2.1.below hb, h.2.2.2.trans (hb.mono h.2.2.2.size)⟩
theorem bs0_new (x : W64) (w : World) : Calls Tryz.prog 213 #[.int .u64 (ui x), .slice (some ⟨w.heap.size, 0, none⟩) 3 3] (w.alloc (.cells #[.int .i64 28, .int .i64 34, .int .i64 39] 3)) fun e w' => e = .returned (.int .u64 (ui (bs0 x))) ∧ w.alloc (.cells #[.int .i64 28, .int .i64 34, .int .i64 39] 3) = w' := by
  have hI : Ints (w.alloc (.cells #[.int .i64 28, .int .i64 34, .int .i64 39] 3)) w.heap.size [28, 34, 39] := heap_alloc_new _ _
  have := turned_any x [28, 34, 39] w.heap.size 3 3 _ rfl (by omega) hI.cells (by decide)
  rwa [xors_bs0] at this
set_option maxHeartbeats 1000000 in
set_option maxRecDepth 100000 in
theorem take_any (g : Nat) (st : S8) (rest : List UInt8) (len : Int) (w : World) (h : HB w g st rest len) (hr : rest.length = 128) (ht : Tabs w) (hg : 4 < g) :
    Calls Tryz.prog 199 #[.pointer (some ⟨g, 0, none⟩)] w fun e w' => e = .returned (.tuple #[]) ∧ HB w' g (compress st rest) rest len ∧ w.grownBy w' (some g) := by
  have HR := Lib.hid hr
  clear hr
  have hlt := h.lt
  have H1 := Lib.hid h
  have HT := Lib.hid ht
  have HI43 := Lib.hid info43
  have HI35 := Lib.hid info35
  clear h ht
  have z43 := zero43
  go_enter Tryz.func199, Tryz.ntmps199
  go_wp2_with fail
  refine (words_any g st rest len _ H1.out HR.out).mono ?_
  rintro e w1 ⟨rfl, hb1⟩
  go_wp2_with (first
    | ((with_reducible refine at_store 238 ?_); refine wpList_store_abs (o := ⟨none, _, _, _, _, _⟩) rfl 238 (.tmp 2) (.tmp 18) rfl w1.heap.size (cw (allWords rest)) rfl rfl 238 (cw (List.replicate 80 0)) ?d0 ?d1 ?d2 ?d3 (fun w2 hb2 hg2 => ?_))
    | ((with_reducible refine at_dst (some 22) ?_); refine wpList_load_mid (op := ⟨some 22, _, _, _, _, _⟩) rfl 224 (.tmp 21) rfl g 0 rfl (cw st.list) _ ?d4 Tryz.underlying224 rfl ?d5 ?_)
    | ((with_reducible refine at_store 224 ?_); refine wpList_store_abs (o := ⟨none, _, _, _, _, _⟩) rfl 224 (.tmp 3) (.tmp 22) rfl w2.heap.size (cw st.list) rfl rfl 224 (cw (List.replicate 8 0)) ?d9 ?d6 ?d7 ?d8 (fun w3 hb3 hg3 => ?_)))
  case d0 => exact heap_alloc_new _ _
  case d1 => rw [HI43.out, cw_length, allWords_length]
  case d2 => rw [cw_length, cw_length, allWords_length]; rfl
  case d3 => exact cw_one _
  case d4 => exact HB.st (((H1.out.below hb1 hlt).alloc _).grown hg2 (by have := hb1.size; intro e; injection e; omega))
  case d5 => rw [HI35.out]; rfl
  case d9 => exact heap_alloc_new _ _
  case d6 => rw [HI35.out]; rfl
  case d7 => rfl
  case d8 => exact cw_one _
  have hs1 := hb1.size
  have hs2 : w1.heap.size < w2.heap.size := by have := hg2.size; simp at this; omega
  have hs3 : w2.heap.size < w3.heap.size := by have := hg3.size; simp at this; omega
  have K : InTake w g w1.heap.size st rest len w3 := by
    refine ⟨?_, ?_, ?_, ?_⟩
    · exact ((((H1.out.below hb1 hlt).alloc _).grown hg2 (by intro e; injection e; omega)).alloc _).grown hg3 (by intro e; injection e; omega)
    · exact (Blk.alloc hb2.out _).grown hg3 (by intro e; injection e; omega)
    · have hl := HT.out.lt
      have t1 : Tabs w1 := HT.out.below hb1
      have t2 : Tabs w2 := (t1.grown (only_alloc (World.grownBy.refl w1 none) _) (by simp)).grown hg2 (by intro j hj; injection hj; omega)
      exact (t2.grown (only_alloc (World.grownBy.refl w2 none) _) (by simp)).grown hg3 (by intro j hj; injection hj; omega)
    · have b2 : Below w.heap.size w w2 := below_only (hb1.alloc hs1 _) hg2 (by simp; omega) (by intro j hj; injection hj; omega)
      exact below_only (b2.alloc (by omega) _) hg3 (by simp; omega) (by intro j hj; injection hj; omega)
  obtain ⟨c0, c1, c2, c3, c4, c5, c6, c7⟩ := eight hb3.out
  have HK := Lib.hid K
  clear K hg2 hg3 hb1 hb2 hb3 hs3
  go_quiet (fail)
  go_wp2
  clear c0 c1 c2 c3 c4 c5 c6 c7
  go_loopw [39, 4, 5, 6, 7, 8, 9, 10, 11] (fun i xa xb xc xd xe xf xg xh wr => ∃ (k : Nat) (s : S8), k ≤ 80 ∧ s = rnds st (allWords rest) k ∧ i = .int .i64 k ∧ xa = .int .u64 (ui s.a) ∧ xb = .int .u64 (ui s.b) ∧ xc = .int .u64 (ui s.c) ∧ xd = .int .u64 (ui s.d) ∧ xe = .int .u64 (ui s.e) ∧ xf = .int .u64 (ui s.f) ∧ xg = .int .u64 (ui s.g) ∧ xh = .int .u64 (ui s.h) ∧ InTake w g w1.heap.size st rest len wr) (fun i _ _ _ _ _ _ _ _ _ => 80 - (intOf i).toNat)
  case atStart => exact ⟨0, st, by omega, rfl, rfl, rfl, rfl, rfl, rfl, rfl, rfl, rfl, rfl, HK.out.drewN _⟩
  case round =>
    obtain ⟨k, ⟨sa, sb, sc, sd, se, sf, sg, sh⟩, hk, hs, rfl, rfl, rfl, rfl, rfl, rfl, rfl, rfl, rfl, hin⟩ := hrel
    have HS := Lib.hid hs
    have HIN := Lib.hid hin
    clear hs hin
    by_cases hk64 : k < 80
    · obtain ⟨kv, hkv⟩ : ∃ x, x = kTab.getD k 0 := ⟨_, rfl⟩
      obtain ⟨wv, hwv⟩ : ∃ x, x = (allWords rest).getD k 0 := ⟨_, rfl⟩
      have ck := HIN.out.2.2.1.k k hk64
      have cv := HIN.out.2.1.cell k
      rw [← hkv] at ck
      rw [cw_get _ _ (by rw [allWords_length]; exact hk64), ← hwv] at cv
      have E : Hid (rnds st (allWords rest) (k + 1) = rnd ⟨sa, sb, sc, sd, se, sf, sg, sh⟩ kv wv) := by
        have := HS.out
        show rnd (rnds st (allWords rest) k) _ _ = _
        rw [← this, hkv, hwv]
      have hlB := HIN.out.2.1.lt
      have hl1 := HIN.out.2.2.1.lt
      have HCK := Lib.hid ck
      have HCV := Lib.hid cv
      have hk80 : k < 80 := hk64
      clear hkv hwv ck cv
      go_wp2
      rename_i hKx
      refine wp_region_each (by kernel_rfl) (by kernel_rfl) (fun iX v u => match iX with
          | 0 => v = .int .u64 (ui (sh))
          | 1 => v = .int .u64 (ui (se))
          | 2 => ∃ g, v = .slice (some ⟨g, 0, none⟩) 3 3 ∧ Ints u g [14, 18, 41]
          | 3 => v = .int .u64 (ui (xors se [14, 18, 41]))
          | 4 => v = .int .u64 (ui ((sh) + (xors se [14, 18, 41])))
          | 5 => v = .int .u64 (ui (se))
          | 6 => v = .int .u64 (ui (sf))
          | 7 => v = .int .u64 (ui ((se) &&& (sf)))
          | 8 => v = .int .u64 (ui (se))
          | 9 => v = .int .u64 (ui (~~~(se)))
          | 10 => v = .int .u64 (ui (sg))
          | 11 => v = .int .u64 (ui ((~~~(se)) &&& (sg)))
          | 12 => v = .int .u64 (ui (((se) &&& (sf)) ^^^ ((~~~(se)) &&& (sg))))
          | 13 => v = .int .u64 (ui (((sh) + (xors se [14, 18, 41])) + (((se) &&& (sf)) ^^^ ((~~~(se)) &&& (sg)))))
          | 14 => v = .int .i64 (k : Int)
          | 15 => v = .pointer (some ⟨4, k, none⟩)
          | 16 => v = .int .u64 (ui (kv))
          | 17 => v = .int .u64 (ui ((((sh) + (xors se [14, 18, 41])) + (((se) &&& (sf)) ^^^ ((~~~(se)) &&& (sg)))) + (kv)))
          | 18 => v = .int .i64 (k : Int)
          | 19 => v = .pointer (some ⟨w1.heap.size, k, none⟩)
          | 20 => v = .int .u64 (ui (wv))
          | 21 => v = .int .u64 (ui (((((sh) + (xors se [14, 18, 41])) + (((se) &&& (sf)) ^^^ ((~~~(se)) &&& (sg)))) + (kv)) + (wv)))
          | 22 => v = .int .u64 (ui (((((sh) + (xors se [14, 18, 41])) + (((se) &&& (sf)) ^^^ ((~~~(se)) &&& (sg)))) + (kv)) + (wv)))
          | _ => True) (fun u => Below wr.heap.size wr u) ?m1 (fun _ _ h1 h2 => h1.trans (h2.mono h1.size)) ⟨rfl, rfl, rfl, Nat.le_refl _, fun _ _ => rfl⟩ ?m2 ?m3
      case m1 =>
        intro iX v u u' h hr hb
        rcases iX with _ | _ | _ | _ | _ | _ | _ | _ | _ | _ | _ | _ | _ | _ | _ | _ | _ | _ | _ | _ | _ | _ | _ | iX
        · exact h
        · exact h
        · obtain ⟨g, e, hk⟩ := h; exact ⟨g, e, Blk.below hk hb (Blk.lt hk)⟩
        · exact h
        · exact h
        · exact h
        · exact h
        · exact h
        · exact h
        · exact h
        · exact h
        · exact h
        · exact h
        · exact h
        · exact h
        · exact h
        · exact h
        · exact h
        · exact h
        · exact h
        · exact h
        · exact h
        · exact h
        · trivial
      case m2 =>
        intro iX o ho a u hr hk hpre K hK
        have e11 : a.tmps.getD 11 undef = .int .u64 (ui (sh)) := hk.slot 11 (by simp)
        have e8 : a.tmps.getD 8 undef = .int .u64 (ui (se)) := hk.slot 8 (by simp)
        have e9 : a.tmps.getD 9 undef = .int .u64 (ui (sf)) := hk.slot 9 (by simp)
        have e10 : a.tmps.getD 10 undef = .int .u64 (ui (sg)) := hk.slot 10 (by simp)
        have e12 : a.tmps.getD 12 undef = .int .i64 (k : Int) := hk.slot 12 (by simp)
        have e2 : a.tmps.getD 2 undef = .pointer (some ⟨w1.heap.size, 0, none⟩) := hk.slot 2 (by simp)
        rcases iX with _ | _ | _ | _ | _ | _ | _ | _ | _ | _ | _ | _ | _ | _ | _ | _ | _ | _ | _ | _ | _ | _ | _ | iX
        · obtain rfl := Option.some.inj ho
          exact st_move (.tmp 11) rfl (want_none rfl) _ e11 (hK _ _ rfl (Below.refl _ _))
        · obtain rfl := Option.some.inj ho
          exact st_move (.tmp 8) rfl (want_none rfl) _ e8 (hK _ _ rfl (Below.refl _ _))
        · obtain rfl := Option.some.inj ho
          exact st_ints3 14 18 41 rfl (want_none rfl) (hK _ _ ⟨u.heap.size, rfl, heap_alloc_new _ _⟩ ((Below.refl _ _).alloc (Nat.le_refl _) _))
        · obtain rfl := Option.some.inj ho
          obtain ⟨gs, egs, hgs⟩ := (hpre 2 _ 44 rfl rfl ⟨⟨2, .data⟩, by simp, rfl, rfl⟩)
          exact st_call2 213 (.tmp 43) (.tmp 44) 135 109 rfl (want_none rfl) _ _ (hpre 1 _ 43 rfl rfl ⟨⟨1, .data⟩, by simp, rfl, rfl⟩) egs (cf20 _ _ _) _ (turned_any se [14, 18, 41] gs 3 3 u rfl (by omega) hgs.cells (by decide)) (fun e u' ⟨he, hw⟩ => ⟨_, he, hK _ _ rfl (by rw [← hw]; exact Below.refl _ _)⟩)
        · obtain rfl := Option.some.inj ho
          exact st_add (.tmp 42) (.tmp 45) rfl (want_none rfl) _ _ (hpre 0 _ 42 rfl rfl ⟨⟨0, .data⟩, by simp, rfl, rfl⟩) (hpre 3 _ 45 rfl rfl ⟨⟨3, .data⟩, by simp, rfl, rfl⟩) (hK _ _ rfl (Below.refl _ _))
        · obtain rfl := Option.some.inj ho
          exact st_move (.tmp 8) rfl (want_none rfl) _ e8 (hK _ _ rfl (Below.refl _ _))
        · obtain rfl := Option.some.inj ho
          exact st_move (.tmp 9) rfl (want_none rfl) _ e9 (hK _ _ rfl (Below.refl _ _))
        · obtain rfl := Option.some.inj ho
          exact st_and (.tmp 47) (.tmp 48) rfl (want_none rfl) _ _ (hpre 5 _ 47 rfl rfl ⟨⟨5, .data⟩, by simp, rfl, rfl⟩) (hpre 6 _ 48 rfl rfl ⟨⟨6, .data⟩, by simp, rfl, rfl⟩) (hK _ _ rfl (Below.refl _ _))
        · obtain rfl := Option.some.inj ho
          exact st_move (.tmp 8) rfl (want_none rfl) _ e8 (hK _ _ rfl (Below.refl _ _))
        · obtain rfl := Option.some.inj ho
          exact st_not (.tmp 50) rfl (want_none rfl) _ (hpre 8 _ 50 rfl rfl ⟨⟨8, .data⟩, by simp, rfl, rfl⟩) (hK _ _ rfl (Below.refl _ _))
        · obtain rfl := Option.some.inj ho
          exact st_move (.tmp 10) rfl (want_none rfl) _ e10 (hK _ _ rfl (Below.refl _ _))
        · obtain rfl := Option.some.inj ho
          exact st_and (.tmp 51) (.tmp 52) rfl (want_none rfl) _ _ (hpre 9 _ 51 rfl rfl ⟨⟨9, .data⟩, by simp, rfl, rfl⟩) (hpre 10 _ 52 rfl rfl ⟨⟨10, .data⟩, by simp, rfl, rfl⟩) (hK _ _ rfl (Below.refl _ _))
        · obtain rfl := Option.some.inj ho
          exact st_xor (.tmp 49) (.tmp 53) rfl (want_none rfl) _ _ (hpre 7 _ 49 rfl rfl ⟨⟨7, .data⟩, by simp, rfl, rfl⟩) (hpre 11 _ 53 rfl rfl ⟨⟨11, .data⟩, by simp, rfl, rfl⟩) (hK _ _ rfl (Below.refl _ _))
        · obtain rfl := Option.some.inj ho
          exact st_add (.tmp 46) (.tmp 54) rfl (want_none rfl) _ _ (hpre 4 _ 46 rfl rfl ⟨⟨4, .data⟩, by simp, rfl, rfl⟩) (hpre 12 _ 54 rfl rfl ⟨⟨12, .data⟩, by simp, rfl, rfl⟩) (hK _ _ rfl (Below.refl _ _))
        · obtain rfl := Option.some.inj ho
          exact st_move (.tmp 12) rfl (want_none rfl) _ e12 (hK _ _ rfl (Below.refl _ _))
        · obtain rfl := Option.some.inj ho
          exact st_index (.global 4) (.tmp 56) rfl (want_none rfl) _ _ rfl (hpre 14 _ 56 rfl rfl ⟨⟨14, .data⟩, by simp, rfl, rfl⟩) hk80 (hK _ _ rfl (Below.refl _ _))
        · obtain rfl := Option.some.inj ho
          exact st_load (.tmp 57) rfl (want_none rfl) _ _ _ (hpre 15 _ 57 rfl rfl ⟨⟨15, .data⟩, by simp, rfl, rfl⟩) ((hr.cell (p := ⟨4, k, none⟩) hl1).trans HCK.out) (hK _ _ rfl (Below.refl _ _))
        · obtain rfl := Option.some.inj ho
          exact st_add (.tmp 55) (.tmp 58) rfl (want_none rfl) _ _ (hpre 13 _ 55 rfl rfl ⟨⟨13, .data⟩, by simp, rfl, rfl⟩) (hpre 16 _ 58 rfl rfl ⟨⟨16, .data⟩, by simp, rfl, rfl⟩) (hK _ _ rfl (Below.refl _ _))
        · obtain rfl := Option.some.inj ho
          exact st_move (.tmp 12) rfl (want_none rfl) _ e12 (hK _ _ rfl (Below.refl _ _))
        · obtain rfl := Option.some.inj ho
          exact st_index (.tmp 2) (.tmp 60) rfl (want_none rfl) _ _ e2 (hpre 18 _ 60 rfl rfl ⟨⟨18, .data⟩, by simp, rfl, rfl⟩) hk80 (hK _ _ rfl (Below.refl _ _))
        · obtain rfl := Option.some.inj ho
          exact st_load (.tmp 61) rfl (want_none rfl) _ _ _ (hpre 19 _ 61 rfl rfl ⟨⟨19, .data⟩, by simp, rfl, rfl⟩) ((hr.cell (p := ⟨w1.heap.size, k, none⟩) hlB).trans HCV.out) (hK _ _ rfl (Below.refl _ _))
        · obtain rfl := Option.some.inj ho
          exact st_add (.tmp 59) (.tmp 62) rfl (want_none rfl) _ _ (hpre 17 _ 59 rfl rfl ⟨⟨17, .data⟩, by simp, rfl, rfl⟩) (hpre 20 _ 62 rfl rfl ⟨⟨20, .data⟩, by simp, rfl, rfl⟩) (hK _ _ rfl (Below.refl _ _))
        · obtain rfl := Option.some.inj ho
          exact st_assign (.tmp 63) rfl (want_none rfl) _ (hpre 21 _ 63 rfl rfl ⟨⟨21, .data⟩, by simp, rfl, rfl⟩) (hK _ _ rfl (Below.refl _ _))
        · cases ho
      case m3 =>
        intro a u1 hr hk hv
        have h13 := hv 22 _ 13 rfl rfl
        have hfr := keeps_frameP (fun s => decide (s = 13 ∨ (42 ≤ s ∧ s ≤ 63))) hk (by simp)
        refine hKx a u1 ?_
        rw [hfr]
        generalize hf : (fun s => a.tmps.getD s undef) = ff
        obtain ⟨T, hT⟩ : ∃ T, T = tOf ⟨sa, sb, sc, sd, se, sf, sg, sh⟩ kv wv := ⟨_, rfl⟩
        have hf13 : ff 13 = .int .u64 (ui T) := by rw [← hf, hT]; unfold tOf chs; rw [← xors_bs1]; exact h13
        simp only [mixP, hf13, decide_eq_true_eq, Nat.reduceAdd, Nat.reduceLeDiff, Nat.reduceEqDiff, false_or, true_or, or_false, or_true, and_true, and_false, true_and, false_and, and_self, if_true, if_false, Nat.zero_le]
        have HINa := Lib.hid (HIN.out.below hr)
        have HT2 := Lib.hid hT
        clear hfr hf h13 hv hk hr HIN hT hKx HCK HCV hlB hl1
        have r1 := ui_addw
        have r2 := ui_and
        have r3 := ui_xor
        have r5 := ui_add
        go_wp2_with (go_at_call 213; refine (bs0_new sa _).mono ?_; rintro e1 w' ⟨rfl, rfl⟩)
        go_roundw
        case rel =>
          refine ⟨k + 1, ⟨T + (bs0 sa + ((sa &&& sb) ^^^ (sa &&& sc) ^^^ (sb &&& sc))), sa, sb, sc, sd + T, se, sf, sg⟩, by omega, ?_, by go_num, rfl, rfl, rfl, rfl, rfl, rfl, rfl, rfl, HINa.out.below ((Below.refl _ _).alloc (Nat.le_refl _) _)⟩
          rw [E.out, HT2.out]
          rfl
        case measure => simp [intOf]; omega
    · have hr8 : (S8.list ⟨sa, sb, sc, sd, se, sf, sg, sh⟩) = (rnds st (allWords rest) 80).list := by
        have e64 : k = 80 := by omega
        have := HS.out
        rw [e64] at this
        rw [this]
      have HR8 := Lib.hid hr8
      clear hr8 HS
      go_wp2
      rename World => w4
      have e98 : #[Value.int IntKind.u64 (ui sa), .int .u64 (ui sb), .int .u64 (ui sc), .int .u64 (ui sd), .int .u64 (ui se), .int .u64 (ui sf), .int .u64 (ui sg), .int .u64 (ui sh)] = (cw (rnds st (allWords rest) 80).list).toArray := by rw [← HR8.out]; rfl
      rw [e98]
      clear e98 HR8
      go_loopw [101] (fun i wr => ∃ k : Nat, k ≤ 8 ∧ i = .int .i64 k ∧ Blk wr g 227 (cw (addsUpto st.list (rnds st (allWords rest) 80).list k) ++ (cb rest ++ [.int .u64 len])) ∧ w.grownBy wr (some g)) (fun i _ => 8 - (intOf i).toNat)
      case atStart => exact ⟨0, by omega, rfl, by rw [addsUpto_zero]; exact HIN.out.1, only_of_below HIN.out.2.2.2 _⟩
      case round =>
        obtain ⟨k2, hk2, rfl, hblk, hgr⟩ := hrel
        have HBK := Lib.hid hblk
        clear hblk
        by_cases hk8 : k2 < 8
        · have hix := index35 (rnds st (allWords rest) 80).list k2 rfl hk8
          obtain ⟨rv, hrv⟩ : ∃ x, x = (rnds st (allWords rest) 80).list.getD k2 0 := ⟨_, rfl⟩
          obtain ⟨sv, hsv⟩ : ∃ x, x = st.list.getD k2 0 := ⟨_, rfl⟩
          rw [← hrv] at hix
          have hc := HBK.out.cell k2
          rw [List.getElem?_append_left (by rw [cw_length, addsUpto_length]; exact hk8), cw_get _ _ (by rw [addsUpto_length]; exact hk8), addsUpto_get _ _ _ hk8, ← hsv] at hc
          have hf := HBK.out.frozen k2
          have HE : Hid ((addsUpto st.list (rnds st (allWords rest) 80).list k2).set k2 (sv + rv) = addsUpto st.list (rnds st (allWords rest) 80).list (k2 + 1)) := by
            show _ = _
            rw [hsv, hrv]; exact addsUpto_set _ _ _ hk8
          clear hrv hsv
          have l4 : (k2 : Int) < 8 := by omega
          have r1 := ui_addw
          have r5 := ui_add
          go_wp2
          refine wp_region_still_tail 11 (by kernel_rfl) (by kernel_rfl) ?_
          simp only [List.take_succ_cons, List.take_zero, List.drop_succ_cons, List.drop_zero]
          change wpStill _ _ wr.drew _ _ _
          iterate 11 still_step
          refine wpStill_nil ?_
          go_wp2
          go_roundw
          case rel =>
            refine ⟨k2 + 1, by omega, by go_num, ?_, ?_⟩
            · have := HBK.out.set_ k2 (.int .u64 (ui (sv + rv)))
              rw [List.set_append_left _ _ (by rw [cw_length, addsUpto_length]; exact hk8), cw_set, HE.out] at this
              exact this
            · exact only_drewN (only_setCell hgr (.inl rfl) _) 1
          case measure => simp [intOf]; omega
        · have e8 : k2 = 8 := by omega
          go_wp2
          go_end0
          refine ⟨rfl, ?_, hgr⟩
          have := HBK.out
          rw [e8, addsUpto_all] at this
          exact this
end Go.Proofs.YtlcoebenkhafcaaGreatDoorLn
namespace Go.Proofs.YtlcoebenkhafcaaGreatDoorLn
set_option maxRecDepth 100000
open Go.RowKit
set_option linter.unusedVariables false
def Sums (w : World) (g : Nat) (m : List UInt8) : Prop := ∃ st rest, HB w g st rest (m.length : Int) ∧ Took m st rest
set_option maxRecDepth 100000 in
theorem New_any (w : World) (ht : Tabs w) :
    Calls Tryz.prog 177 #[] w fun e w' => e = .returned (.pointer (some ⟨w.heap.size, 0, none⟩)) ∧ Sums w' w.heap.size [] ∧ Below w.heap.size w w' := by
  obtain ⟨⟨t, fr, h0⟩, _⟩ := ht
  have H0 := Lib.hid h0
  have HI := Lib.hid info35
  clear h0
  have hz := zero38
  go_enter Tryz.func177, Tryz.ntmps177
  go_wp2_with ((with_reducible refine at_dst (some 1) ?_); refine wpList_load_row (o := ⟨some 1, _, _, _, _, _⟩) rfl 224 (.global 1) rfl 1 rfl t #[.int .u64 7640891576956012808, .int .u64 13503953896175478587, .int .u64 4354685564936845355, .int .u64 11912009170470909681, .int .u64 5840696475078001361, .int .u64 11170449401992604703, .int .u64 2270897969802886507, .int .u64 6620516959819538809] fr _ H0.out Tryz.underlying224 rfl ?d1 ?_)
  case d1 => simpa using HI.out
  go_ret
  refine ⟨rfl, ⟨init8, List.replicate 128 0, ?_, Took.nil⟩, (Below.refl _ _).alloc (Nat.le_refl _) _⟩
  exact heap_alloc_new _ _
theorem wpList_makeBytes {ops : Array Oper} {rest : List Oper} {o : Oper} {a : Act} {w : World} {Q : Exit → Act → World → Prop} (hgd : o.guard = none) (x y : Operand) (ho : o.op = .makeSlice 25 x y)
    (k : IntKind) (z : Int) (hx : a.eval x = .int k z) (hy : a.eval y = .int k z) (L : Nat) (hz : z = L) (hL : L ≤ 100000)
    (h : ∀ w', Hid (Blk w' w.heap.size 5 (cb (List.replicate L 0))) → Below w.heap.size w w' → w.heap.size < w'.heap.size → wpList Tryz.prog ops Q rest (a.put o.dst (.slice (some ⟨w.heap.size, 0, none⟩) L L)) w') :
    wpList Tryz.prog ops Q (o :: rest) a w := by
  obtain ⟨i0, hi, hz0, hz1, hz2⟩ := info_parts byteInfo
  subst hz
  have hm : madeCells (Value.int .u8 0).cells L = (cb (List.replicate L 0)).toArray := by
    apply Array.ext
    · simp [size_madeCells, cb]
    · intro i h1 h2
      simp [madeCells, cb, Value.cells, Nat.mod_one]
      rfl
  have hrun : (Instr.makeSlice 25 (.int k (L : Int)) (.int k (L : Int))).run Tryz.prog w = .ok (.slice (some ⟨w.heap.size, 0, none⟩) L L) (w.alloc (.cells (cb (List.replicate L 0)).toArray 5)) := by
    have := run_make (P := Tryz.prog) w 25 5 i0 _ Tryz.underlying25 hi hz0 k k (L : Int) (L : Int) (by omega) (by omega) (by rw [hz2]; omega) (by omega)
    rw [hz1, Nat.mul_one, Int.toNat_natCast, hm] at this
    exact this
  refine wpList_plain hgd fun K hK => ?_
  unfold Oper.wp
  simp [execOp, ho, hx, hy, hrun, Result.andThen]
  exact hK _ _ (h _ (heap_alloc_new _ _) ((Below.refl _ _).alloc (Nat.le_refl _) _) (by simp))
theorem cb_set (l : List UInt8) (i : Nat) (x : UInt8) : (cb l).set i (.int .u8 (ub x)) = cb (l.set i x) := by simp [cb, List.map_set]
theorem over_zero (L : List UInt8) (k : Nat) : over L k [] = L := by simp [over]
theorem over_snoc (L : List UInt8) (k : Nat) (c : List UInt8) (b : UInt8) (h : k + c.length < L.length) : (over L k c).set (k + c.length) b = over L k (c ++ [b]) := by
  unfold over
  have h1 : (L.take k).length = k := by rw [List.length_take]; omega
  rw [List.set_append_right _ _ (by omega), h1, Nat.add_sub_cancel_left, List.set_append_right _ _ (by omega), Nat.sub_self, List.drop_eq_getElem_cons h, List.set_cons_zero]
  simp [Nat.add_assoc]
theorem over_app (A B C B' : List UInt8) (k : Nat) (hk : A.length = k) (hb : B'.length = B.length) : over (A ++ (B ++ C)) k B' = A ++ (B' ++ C) := by
  subst hk
  unfold over
  rw [List.take_left, hb, ← List.drop_drop, List.drop_left, List.drop_left]
theorem outB_get (x : W64) (i : Nat) (hi : i < 8) : (outB x)[i]? = some (UInt8.ofNat (x >>> (56 - 8 * i)).toNat) := by
  obtain rfl | rfl | rfl | rfl | rfl | rfl | rfl | rfl : i = 0 ∨ i = 1 ∨ i = 2 ∨ i = 3 ∨ i = 4 ∨ i = 5 ∨ i = 6 ∨ i = 7 := by omega
  all_goals rfl
theorem outB_take (x : W64) (i : Nat) (hi : i < 8) : (outB x).take i ++ [UInt8.ofNat (x >>> (56 - 8 * i)).toNat] = (outB x).take (i + 1) := by
  rw [List.take_add_one, outB_get x i hi]
  rfl
theorem outB_be64 (n : Nat) (h : n < 18446744073709551616) : outB (BitVec.ofNat 64 n) = be64 n := by
  have e : (BitVec.ofNat 64 n).toNat = n := by rw [BitVec.toNat_ofNat]; exact Nat.mod_eq_of_lt h
  simp only [outB, be64, BitVec.toNat_ushiftRight, e, Nat.shiftRight_eq_div_pow]
  rfl
theorem addr_plus (b off j : Nat) : (⟨b, off, none⟩ : Addr).add j = ⟨b, off + j, none⟩ := by unfold Addr.add; split <;> simp_all
set_option maxHeartbeats 400000 in
theorem put_any (x : W64) (z : Int) (hz : z = ui x) (g off n cap : Nat) (L : List UInt8) (w : World) (hb : Blk w g 5 (cb L)) (hn : 8 ≤ n) (hn2 : n ≤ 1000000) (ho : off + 8 ≤ L.length) :
    Calls Tryz.prog 201 #[.slice (some ⟨g, off, none⟩) n cap, .int .u64 z] w fun e w' => e = .returned (.tuple #[]) ∧ Blk w' g 5 (cb (over L off (outB x))) ∧ w.grownBy w' (some g) := by
  subst hz
  have HO := Lib.hid ho
  have HB0 := Lib.hid hb
  have u0 := ui_lo x
  clear ho hb
  go_enter Tryz.func201, Tryz.ntmps201
  go_wp2
  go_loopw [5] (fun i wr => ∃ k : Nat, k ≤ 8 ∧ i = .int .i64 k ∧ Blk wr g 5 (cb (over L off ((outB x).take k))) ∧ w.grownBy wr (some g)) (fun i _ => 8 - (intOf i).toNat)
  case atStart => exact ⟨0, by omega, rfl, by rw [List.take_zero, over_zero]; exact HB0.out, World.grownBy.refl w _⟩
  case round =>
    obtain ⟨k, hk, rfl, hbk, hgr⟩ := hrel
    by_cases hk8 : k < 8
    · have hl : ((outB x).take k).length = k := by rw [List.length_take, outB_length]; omega
      have hol : (over L off ((outB x).take k)).length = L.length := over_length _ _ _ (by rw [hl]; have := HO.out; omega)
      have hc := (hbk.cell (off + k)).trans (cb_get _ _ (by rw [hol]; have := HO.out; omega))
      have hf := hbk.frozen (off + k)
      have e := over_snoc L off ((outB x).take k) (UInt8.ofNat (x >>> (56 - 8 * k)).toNat) (by rw [hl]; have := HO.out; omega)
      rw [outB_take x k hk8, hl] at e
      have HE := Lib.hid e
      have HBK := Lib.hid hbk
      clear hl hol e hbk
      go_wp2
      go_roundw
      case rel =>
        rw [ub_cut]
        refine ⟨k + 1, by omega, by go_num, ?_, only_setCell hgr (.inl rfl) _⟩
        have := HBK.out.set_ (off + k) (.int .u8 (ub (UInt8.ofNat (x >>> (56 - 8 * k)).toNat)))
        rw [cb_set, HE.out] at this
        exact this
      case measure => simp [intOf]; omega
    · have e8 : k = 8 := by omega
      rw [e8, List.take_of_length_le (by rw [outB_length]; omega)] at hbk
      have HBK := Lib.hid hbk
      clear hbk e8
      go_wp2
      go_end0
      exact ⟨rfl, HBK.out, hgr⟩
theorem run_from (k : IntKind) (g L lo : Nat) (h : lo < L) (z : Int) (hz : z = (lo : Int)) (w : World) :
    (Instr.slice 25 (.slice (some ⟨g, 0, none⟩) L L) (some (.int k z)) none none).run Tryz.prog w = .ok (.slice (some ⟨g, lo, none⟩) (L - lo) (L - lo)) w := by
  subst hz
  obtain ⟨i0, hi0, hz0, hz1, hz2⟩ := info_parts byteInfo
  have h1 : ¬ L = lo := by omega
  have hb := run_sliceBound (P := Tryz.prog) (w := w) k (lo : Int) L .sliceB (by omega) (by omega)
  rw [Int.toNat_natCast] at hb
  simp [Instr.slice, run_underlying Tryz.underlying25, Instr.sliceBounds, hb, sizeOf, typeInfo, hi0, hz1, h1, addr_plus]
theorem pad_first (n : Nat) : (List.replicate (17 + noughts n) (0 : UInt8)).set 0 128 = (128 :: List.replicate (noughts n) 0) ++ (List.replicate 8 0 ++ List.replicate 8 0) := by
  rw [show 17 + noughts n = (noughts n + (8 + 8)) + 1 by omega, List.replicate_succ, List.set_cons_zero, ← List.replicate_append_replicate]
  rfl
theorem outB_zero : outB 0 = List.replicate 8 0 := by decide
theorem pad_second (n : Nat) : over ((128 :: List.replicate (noughts n) 0) ++ (List.replicate 8 0 ++ List.replicate 8 0)) (1 + noughts n) (outB 0) = (128 :: List.replicate (noughts n) 0) ++ (List.replicate 8 0 ++ List.replicate 8 0) := by
  rw [outB_zero]
  exact over_app _ _ _ _ _ (by simp; omega) rfl
theorem pad_third (n : Nat) : over ((128 :: List.replicate (noughts n) 0) ++ (List.replicate 8 0 ++ List.replicate 8 0)) (1 + noughts n + 8) (be64 (8 * n)) = padOf n := by
  have := over_app ((128 :: List.replicate (noughts n) 0) ++ List.replicate 8 0) (List.replicate 8 0) [] (be64 (8 * n)) (1 + noughts n + 8) (by simp; omega) (by rw [be64_length]; simp)
  rw [List.append_nil, List.append_nil, List.append_assoc] at this
  rw [this]
  simp [padOf]
set_option maxHeartbeats 400000 in
theorem ending_any (n : Nat) (w : World) (hn : n < 1099511627776) (L : Nat) (hL : L = (padOf n).length) :
    Calls Tryz.prog 200 #[.int .u64 (n : Int)] w fun e w' => e = .returned (.slice (some ⟨w.heap.size, 0, none⟩) L L) ∧ Blk w' w.heap.size 5 (cb (padOf n)) ∧ Below w.heap.size w w' := by
  have hq := noughts_lt n
  rw [padOf_length] at hL
  have HL := Lib.hid hL
  have l0 : 17 ≤ L := by omega
  have l1 : L ≤ 160 := by omega
  obtain ⟨q, hqq⟩ : ∃ q, q = noughts n := ⟨_, rfl⟩
  have hq1 : (239 - (n : Int)) % 128 = (q : Int) := by rw [hqq]; unfold noughts; omega
  have HZ : Hid ((1 + (q : Int) + 16 = (L : Int))) := by
    show _ = _
    rw [hL, hqq]; omega
  have hsl1 := run_from .u64 w.heap.size L (1 + q) (by omega) (1 + (q : Int)) (by omega)
  have hsl2 := run_from .u64 w.heap.size L (1 + q + 8) (by omega) (1 + (q : Int) + 8) (by omega)
  obtain ⟨o1, ho1⟩ : ∃ o, o = 1 + q := ⟨_, rfl⟩
  obtain ⟨o2, ho2⟩ : ∃ o, o = 1 + q + 8 := ⟨_, rfl⟩
  rw [← ho1] at hsl1
  rw [← ho2] at hsl2
  obtain ⟨n1, hn1⟩ : ∃ o, o = L - o1 := ⟨_, rfl⟩
  obtain ⟨n2, hn2⟩ : ∃ o, o = L - o2 := ⟨_, rfl⟩
  rw [← hn1] at hsl1
  rw [← hn2] at hsl2
  have HQ := Lib.hid hqq
  have HO1 := Lib.hid ho1
  have HO2 := Lib.hid ho2
  have HN1 : Hid (8 ≤ n1 ∧ n1 ≤ 1000000) := ⟨by omega, by omega⟩
  have HN2 : Hid (8 ≤ n2 ∧ n2 ≤ 1000000) := ⟨by omega, by omega⟩
  have bq : q < 128 := by omega
  clear hL hq hqq ho1 ho2 hn1 hn2
  go_enter Tryz.func200, Tryz.ntmps200
  have l2 : L ≤ 100000 := by omega
  have l3 : 0 < L := by omega
  go_wp2_with (first
    | ((with_reducible refine at_dst (some 12) ?_); refine wpList_makeBytes (o := ⟨some 12, _, _, _, _, _⟩) rfl (.tmp 11) (.tmp 11) rfl _ _ rfl rfl L HZ.out l2 ?_; intro w1 hb1 hbel hsz; have hc := (hb1.out.cell 0).trans (cb_get _ 0 (by simpa using l3)); have hf := hb1.out.frozen 0))
  obtain ⟨PP, hPP⟩ : ∃ PP, PP = (128 :: List.replicate (noughts n) (0 : UInt8)) ++ (List.replicate 8 0 ++ List.replicate 8 0) := ⟨_, rfl⟩
  have hPL : PP.length = L := by rw [hPP, HL.out]; simp; omega
  have K0 : Blk (w1.setCell ⟨w.heap.size, 0, none⟩ (.int .u8 128)) w.heap.size 5 (cb PP) := by
    have := hb1.out.set_ 0 (.int .u8 (ub 128))
    rw [cb_set, HL.out, pad_first, ← hPP] at this
    exact this
  have B0 : Below w.heap.size w (w1.setCell ⟨w.heap.size, 0, none⟩ (.int .u8 128)) := hbel.setCell (Nat.le_refl _) _
  have hS0 : w.heap.size < (w1.setCell ⟨w.heap.size, 0, none⟩ (.int .u8 128)).heap.size := by simpa [World.setCell] using hsz
  have HPP := Lib.hid hPP
  have HPL := Lib.hid hPL
  clear hc hf hb1 hPP hPL
  refine (put_any 0 _ (by rw [show ui 0 = 0 from rfl]; omega) w.heap.size o1 n1 n1 PP _ K0 HN1.out.1 HN1.out.2 (by rw [HPL.out, HO1.out]; have := HL.out; have := HQ.out; omega)).mono ?_
  rintro e w2 ⟨rfl, hb2, hg2⟩
  have B2 : Below w.heap.size w w2 := below_only B0 hg2 (Nat.le_of_lt hS0) (by intro j hj; injection hj; omega)
  have hS2 : w.heap.size < w2.heap.size := Nat.lt_of_lt_of_le hS0 hg2.size
  rw [HPP.out, HO1.out, HQ.out, pad_second, ← HPP.out] at hb2
  have HB2 := Lib.hid hb2
  clear K0 B0 hS0 hg2 hb2
  go_wp2_with fail
  refine (put_any (BitVec.ofNat 64 (8 * n)) _ ?_ w.heap.size o2 n2 n2 PP _ HB2.out HN2.out.1 HN2.out.2 (by rw [HPL.out, HO2.out]; have := HL.out; have := HQ.out; omega)).mono ?_
  · unfold ui
    rw [BitVec.toNat_ofNat, Nat.mod_eq_of_lt (by omega)]
    omega
  rintro e w3 ⟨rfl, hb3, hg3⟩
  have B3 : Below w.heap.size w w3 := below_only B2 hg3 (Nat.le_of_lt hS2) (by intro j hj; injection hj; omega)
  rw [HPP.out, HO2.out, HQ.out, outB_be64 _ (by omega), pad_third] at hb3
  have HB3 := Lib.hid hb3
  clear hb3 hg3
  go_wp2
  go_ret
  exact ⟨rfl, HB3.out, B3⟩
end Go.Proofs.YtlcoebenkhafcaaGreatDoorLn
namespace Go.Proofs.YtlcoebenkhafcaaGreatDoorLn
set_option maxRecDepth 100000
open Go.RowKit
set_option linter.unusedVariables false
def Seg (w : World) (A : Option Addr) (n : Nat) (l : List UInt8) : Prop :=
  l.length = n ∧ (0 < n → ∃ ad, A = some ad ∧ ad.block < w.heap.size ∧ ∀ j v, (cb l)[j]? = some v → w.cell? (ad.add j) = some v)
def Apart (A : Option Addr) (n g : Nat) : Prop := 0 < n → ∀ ad, A = some ad → ad.block ≠ g
theorem block_add (a : Addr) (n : Nat) : (a.add n).block = a.block := by unfold Addr.add; split <;> rfl
theorem add_add (a : Addr) (i j : Nat) : (a.add i).add j = a.add (i + j) := by
  unfold Addr.add
  by_cases hi : i = 0 <;> by_cases hj : j = 0 <;> simp [hi, hj, Nat.add_assoc]
theorem addr_add (b off j : Nat) : (⟨b, off, none⟩ : Addr).add j = ⟨b, off + j, none⟩ := by unfold Addr.add; split <;> simp_all
theorem Seg.grown {w w' : World} {A : Option Addr} {n : Nat} {l : List UInt8} {g : Nat} (h : Seg w A n l) (hb : w.grownBy w' (some g)) (ha : Apart A n g) : Seg w' A n l :=
  ⟨h.1, fun hn => by
    obtain ⟨ad, e, hlt, hc⟩ := h.2 hn
    exact ⟨ad, e, Nat.lt_of_lt_of_le hlt hb.size, fun j v hv => (World.cell?_of_block (hb.block (ad.add j).block (by rw [block_add]; exact hlt) (by rw [block_add]; intro e'; injection e' with e'; exact ha hn ad e e'))).trans (hc j v hv)⟩⟩
theorem Seg.below {w w' : World} {A : Option Addr} {n : Nat} {l : List UInt8} (h : Seg w A n l) (hb : Below w.heap.size w w') : Seg w' A n l :=
  ⟨h.1, fun hn => by
    obtain ⟨ad, e, hlt, hc⟩ := h.2 hn
    exact ⟨ad, e, Nat.lt_of_lt_of_le hlt hb.size, fun j v hv => (hb.cell (p := ad.add j) (by rw [block_add]; exact hlt)).trans (hc j v hv)⟩⟩
theorem Seg.cut {w : World} {A : Option Addr} {n : Nat} {l : List UInt8} (h : Seg w A n l) (k cap : Nat) (hk : k ≤ n) (hc : n ≤ cap) : Seg w (if cap = k then A else A.map (·.add k)) (n - k) (l.drop k) := by
  refine ⟨by rw [List.length_drop, h.1], fun hm => ?_⟩
  obtain ⟨ad, rfl, hlt, hcell⟩ := h.2 (by omega)
  rw [if_neg (by omega)]
  refine ⟨ad.add k, rfl, by rw [block_add]; exact hlt, fun j v hv => ?_⟩
  rw [add_add]
  refine hcell _ v ?_
  rw [← hv]
  simp [cb, List.getElem?_drop]
theorem Apart.cut {A : Option Addr} {n g : Nat} (h : Apart A n g) (k cap : Nat) (hk : k ≤ n) (hc : n ≤ cap) : Apart (if cap = k then A else A.map (·.add k)) (n - k) g := by
  intro hn ad e
  rw [if_neg (by omega)] at e
  rcases A with _ | a
  · cases e
  · have : a.add k = ad := by injection e
    rw [← this, block_add]
    exact h (by omega) a rfl
theorem Seg.head {w : World} {A : Option Addr} {n : Nat} {l : List UInt8} (h : Seg w A n l) (k : Nat) (hk : k ≤ n) (hp : 0 < (cb (l.take k)).length) :
    ∃ ad, A = some ad ∧ ∀ j v, (cb (l.take k))[j]? = some v → w.cell? (ad.add j) = some v := by
  rw [cb_length, List.length_take, h.1] at hp
  obtain ⟨ad, e, _, hc⟩ := h.2 (by omega)
  refine ⟨ad, e, fun j v hv => hc j v ?_⟩
  have : (cb (l.take k)) = (cb l).take k := by simp [cb, List.map_take]
  rw [this] at hv
  rw [List.getElem?_take] at hv
  split at hv
  · exact hv
  · cases hv
theorem run_tail (A : Option Addr) (k cap lo : Nat) (h2 : lo ≤ k) (L : Int) (hL : L = (lo : Int)) (w : World) :
    (Instr.slice 25 (.slice A k cap) (some (.int .i64 L)) none none).run Tryz.prog w = .ok (.slice (if cap = lo then A else A.map (·.add lo)) (k - lo) (cap - lo)) w := by
  subst hL
  obtain ⟨i0, hi0, hz0, hz1, hz2⟩ := info_parts byteInfo
  simp [Instr.slice, run_underlying Tryz.underlying25, Instr.sliceBounds, run_sliceBound, sizeOf, typeInfo, hi0, hz1, h2]
theorem splice_HB (st : S8) (rest c : List UInt8) (len : Int) (at_ : Nat) (hr : rest.length = 128) (hc : at_ + c.length ≤ 128) :
    splice (cw st.list ++ (cb rest ++ [.int .u64 len])) (8 + at_) (cb c) = cw st.list ++ (cb (over rest at_ c) ++ [.int .u64 len]) := by
  have h8 : (cw st.list).length = 8 := rfl
  unfold splice over
  rw [List.take_append, h8, List.take_of_length_le (by rw [h8]; omega), show 8 + at_ - 8 = at_ by omega, List.take_append_of_le_length (by rw [cb_length]; omega),
    List.drop_append, h8, List.drop_eq_nil_of_le (by rw [h8]; omega), List.nil_append, cb_length, show 8 + at_ + c.length - 8 = at_ + c.length by omega, List.drop_append_of_le_length (by rw [cb_length]; omega)]
  simp [cb, List.map_take, List.map_drop]
theorem run_cutRest (g at_ : Nat) (h : at_ < 128) (w : World) : (Instr.sliceAt 225 (.pointer (some ⟨g, 8, none⟩)) (some (.int .i64 (at_ : Int))) none none).run Tryz.prog w = .ok (.slice (some ⟨g, 8 + at_, none⟩) (128 - at_) (128 - at_)) w := by
  obtain ⟨i0, hi0, hz0, hz1, hz2⟩ := info_parts byteInfo
  have h1 : ¬ 128 = at_ := by omega
  have hb := run_sliceBound (P := Tryz.prog) (w := w) .i64 (at_ : Int) 128 .sliceB (by omega) (by omega)
  rw [Int.toNat_natCast] at hb
  simp [Instr.sliceAt, Instr.sureAddr, run_underlying Tryz.underlying225, Instr.sliceBounds, hb, sizeOf, typeInfo, hi0, hz1, h1, addr_add]
theorem HB.length {w : World} {g : Nat} {st : S8} {rest : List UInt8} {len : Int} (h : HB w g st rest len) : w.cell? ⟨g, 8 + rest.length, none⟩ = some (.int .u64 len) := by
  have := Blk.cell h (8 + rest.length)
  rw [this, List.getElem?_append_right (by rw [cw_length]; show 8 ≤ _; omega), List.getElem?_append_right (by rw [cw_length, cb_length]; show _ ≤ _ - 8; omega), cw_length, cb_length]
  rw [show 8 + rest.length - st.list.length - rest.length = 0 by show 8 + rest.length - 8 - rest.length = 0; omega]
  rfl
theorem HB.setLen {w : World} {g : Nat} {st : S8} {rest : List UInt8} {len : Int} (h : HB w g st rest len) (hr : rest.length = 128) (n : Int) : HB (w.setCell ⟨g, 136, none⟩ (.int .u64 n)) g st rest n := by
  have := Blk.set_ h 136 (.int .u64 n)
  rw [List.set_append_right _ _ (by rw [cw_length]; show 8 ≤ 136; omega), List.set_append_right _ _ (by rw [cw_length, cb_length, hr]; show 128 ≤ 136 - 8; omega), cw_length, cb_length, hr, show 136 - st.list.length - 128 = 0 by rw [show st.list.length = 8 from rfl], List.set_cons_zero] at this
  exact this
def Left (w : World) (g : Nat) (m l : List UInt8) (A1 : Option Addr) (n1 cap1 at_ : Nat) (w' : World) : Prop :=
  ∃ (m1 l1 : List UInt8) (st1 : S8) (rest1 : List UInt8), m1 ++ l1 = m ++ l ∧ m1.length % 128 = at_ ∧ Took m1 st1 rest1 ∧ HB w' g st1 rest1 ((m.length + l.length : Nat) : Int) ∧ Seg w' A1 n1 l1 ∧ Apart A1 n1 g ∧ n1 ≤ cap1 ∧ n1 ≤ 140737488355328 ∧ Tabs w' ∧ w.grownBy w' (some g)
def lenOfV : Value → Nat
  | .slice _ n _ => n
  | _ => 0
theorem Left.step {w w2 : World} {g : Nat} {m l m1 l1 : List UInt8} {st1 : S8} {rest1 : List UInt8} {A1 : Option Addr} {n1 cap1 k : Nat} (e : m1 ++ l1 = m ++ l) (htk : Took m1 st1 rest1) (hk : m1.length % 128 + k = 128) (hkn : k ≤ n1)
    (hHB : HB w2 g (compress st1 (over rest1 (m1.length % 128) (l1.take k))) (over rest1 (m1.length % 128) (l1.take k)) ((m.length + l.length : Nat) : Int)) (hs : Seg w2 A1 n1 l1) (ha : Apart A1 n1 g) (hc : n1 ≤ cap1) (hcap : n1 ≤ 140737488355328)
    (ht : Tabs w2) (hgr : w.grownBy w2 (some g)) : Left w g m l (if cap1 = k then A1 else A1.map (·.add k)) (n1 - k) (cap1 - k) 0 w2 := by
  have hl : (l1.take k).length = k := by rw [List.length_take, hs.1]; omega
  refine ⟨m1 ++ l1.take k, l1.drop k, _, _, ?_, ?_, htk.full (l1.take k) (by omega), hHB, hs.cut k cap1 hkn hc, ha.cut k cap1 hkn hc, by omega, by omega, ht, hgr⟩
  · rw [List.append_assoc, List.take_append_drop]; exact e
  · rw [List.length_append, hl]; omega
set_option maxHeartbeats 1000000 in
set_option maxRecDepth 100000 in
theorem Write_any (g : Nat) (m l : List UInt8) (A : Option Addr) (n cap : Nat) (w : World) (h : Sums w g m) (hs : Seg w A n l) (ha : Apart A n g) (hc : n ≤ cap) (hcap : n ≤ 140737488355328) (hm : m.length < 1099511627776) (ht : Tabs w) (hg : 4 < g) :
    Calls Tryz.prog 178 #[.pointer (some ⟨g, 0, none⟩), .slice A n cap] w fun e w' => e = .returned (.tuple #[]) ∧ Sums w' g (m ++ l) ∧ w.grownBy w' (some g) := by
  obtain ⟨st, rest, hb, htk⟩ := h
  obtain ⟨M, hM⟩ : ∃ M, M = m.length := ⟨_, rfl⟩
  have c136 := hb.length
  rw [htk.2.1, ← hM] at c136
  have f136 := Blk.frozen hb 136
  have hbnd : M < 1099511627776 := by omega
  have HM := Lib.hid hM
  have HHB := Lib.hid hb
  have HTK := Lib.hid htk
  have HSEG := Lib.hid hs
  have HAP := Lib.hid ha
  have HTB := Lib.hid ht
  clear hM hb htk hs ha ht hm
  have B0 : HB (w.setCell ⟨g, 136, none⟩ (.int .u64 ((M : Int) + n))) g st rest ((M : Int) + n) := HHB.out.setLen HTK.out.2.1 _
  have G0 : w.grownBy (w.setCell ⟨g, 136, none⟩ (.int .u64 ((M : Int) + n))) (some g) := only_setCell (World.grownBy.refl w _) (.inl rfl) _
  have S0 := HSEG.out.grown G0 HAP.out
  have T0 := HTB.out.grown G0 (by intro j hj; injection hj; omega)
  have L0 : Left w g m l A n cap (M % 128) (w.setCell ⟨g, 136, none⟩ (.int .u64 ((M : Int) + n))) := by
    refine ⟨m, l, st, rest, rfl, by rw [HM.out], HTK.out, ?_, S0, HAP.out, hc, hcap, T0, G0⟩
    rw [show ((m.length + l.length : Nat) : Int) = (M : Int) + n by rw [HM.out, HSEG.out.1]; omega]
    exact B0
  have HL0 := Lib.hid L0
  clear B0 G0 S0 T0 L0
  go_enter Tryz.func178, Tryz.ntmps178
  go_wp2
  go_loopw [1, 4] (fun v i wr => ∃ (A1 : Option Addr) (n1 cap1 at_ : Nat), at_ < 128 ∧ v = .slice A1 n1 cap1 ∧ i = .int .i64 (at_ : Int) ∧ Left w g m l A1 n1 cap1 at_ wr) (fun v _ _ => lenOfV v)
  case atStart => exact ⟨A, n, cap, M % 128, by omega, rfl, by rw [show (((M % 128 : Nat)) : Int) = (M : Int) % 128 by omega], HL0.out⟩
  case round =>
    obtain ⟨A1, n1, cap1, at_, hat, rfl, rfl, m1, l1, st1, rest1, he, hm64, htk1, hb1, hs1, ha1, hc1, hcap1, ht1, hgr1⟩ := hrel
    have hsl := run_cutRest g at_ hat
    have HE := Lib.hid he
    have HM64 := Lib.hid hm64
    have HTK1 := Lib.hid htk1
    have HB1 := Lib.hid hb1
    have HS1 := Lib.hid hs1
    have HT1 := Lib.hid ht1
    clear he hm64 htk1 hb1 hs1 ht1 HL0 c136 f136 HHB HTK HSEG HAP HTB
    by_cases hfull : 128 ≤ at_ + n1
    · obtain ⟨k0, hk0⟩ : ∃ k, k = 128 - at_ := ⟨_, rfl⟩
      obtain ⟨C, hC⟩ : ∃ C, C = cb (l1.take k0) := ⟨_, rfl⟩
      have hCl : C.length = k0 := by rw [hC, cb_length, List.length_take, HS1.out.1]; omega
      have htl := run_tail A1 n1 cap1 k0 (by omega) (k0 : Int) rfl
      obtain ⟨A2, hA2⟩ : ∃ A2, A2 = (if cap1 = k0 then A1 else A1.map (·.add k0)) := ⟨_, rfl⟩
      obtain ⟨n2, hn2⟩ : ∃ n2, n2 = n1 - k0 := ⟨_, rfl⟩
      obtain ⟨cap2, hcap2⟩ : ∃ c, c = cap1 - k0 := ⟨_, rfl⟩
      rw [← hA2, ← hn2, ← hcap2] at htl
      rw [← hk0] at hsl
      have hd : decide (128 ≤ (at_ : Int) + n1) = true := by simp; omega
      have HK0 := Lib.hid hk0
      have HC := Lib.hid hC
      have HA2 := Lib.hid hA2
      have HN2 := Lib.hid hn2
      have HCAP2 := Lib.hid hcap2
      clear hk0 hC hA2 hn2 hcap2
      go_wp2_with (first
        | ((with_reducible refine at_dst (some 33) ?_); refine wpList_copy_abs (o := ⟨some 33, _, _, _, _, _⟩) rfl (.tmp 31) (.tmp 32) 25 25 rfl 5 Tryz.underlying25 byteSize _ _ _ _ _ _ rfl rfl g (8 + at_) _ 227 HB1.out C ?d1 ?d2 ?d3 ?d4 (fun w1 hb1 hg1 => ?_)))
      case d1 => rw [hCl]; have := HK0.out; show k0 = min n1 k0; omega
      case d2 =>
        intro hp
        have hp2 : 0 < (cb (l1.take k0)).length := by rw [← HC.out, hCl]; exact hp
        rw [HC.out]
        exact HS1.out.head k0 (by have := HK0.out; omega) hp2
      case d3 => rw [hCl]; have := HK0.out; rw [List.length_append, List.length_append, cw_length, cb_length, HTK1.out.2.1]; show 8 + at_ + k0 ≤ 8 + (128 + 1); omega
      case d4 => rw [HC.out]; exact cb_one _
      have B1 : HB w1 g st1 (over rest1 at_ (l1.take k0)) ((m.length + l.length : Nat) : Int) := by
        have := hb1.out
        rw [HC.out, splice_HB st1 rest1 (l1.take k0) _ at_ HTK1.out.2.1 (by rw [List.length_take, HS1.out.1]; have := HK0.out; omega)] at this
        exact this
      have R1 : (over rest1 at_ (l1.take k0)).length = 128 := by rw [over_length _ _ _ (by rw [List.length_take, HS1.out.1, HTK1.out.2.1]; have := HK0.out; omega)]; exact HTK1.out.2.1
      have T1 := HT1.out.grown hg1 (by intro j hj; injection hj; omega)
      refine (take_any g st1 _ _ w1 B1 R1 T1 hg).mono ?_
      rintro e w2 ⟨rfl, hHB, hg2⟩
      have G2 : w.grownBy w2 (some g) := only_then (only_then hgr1 hg1 (fun j hj => .inl (by injection hj with hj; exact hj.symm))) hg2 (fun j hj => .inl (by injection hj with hj; exact hj.symm))
      have S2 := (HS1.out.grown hg1 ha1).grown hg2 ha1
      have T2 := T1.grown hg2 (by intro j hj; injection hj; omega)
      have LL : Left w g m l A2 n2 cap2 0 w2 := by
        rw [HA2.out, HN2.out, HCAP2.out]
        rw [← HM64.out] at hHB
        have hk := HK0.out
        rw [← HM64.out] at hk
        exact Left.step HE.out HTK1.out (by have := HM64.out; omega) (by have := HK0.out; omega) hHB S2 ha1 hc1 hcap1 T2 G2
      have HLL := Lib.hid LL
      clear B1 R1 T1 hHB hg2 G2 S2 T2 LL hb1 hg1
      go_wp2
      go_roundw
      case rel => exact ⟨A2, n2, cap2, 0, by omega, rfl, rfl, HLL.out⟩
      case measure => have := HN2.out; have := HK0.out; simp [lenOfV]; omega
    · obtain ⟨C, hC⟩ : ∃ C, C = cb l1 := ⟨_, rfl⟩
      have hCl : C.length = n1 := by rw [hC, cb_length, HS1.out.1]
      have hd : decide (128 ≤ (at_ : Int) + n1) = false := by simp; omega
      have HC := Lib.hid hC
      clear hC
      go_wp2_with (first
        | ((with_reducible refine at_dst (some 45) ?_); refine wpList_copy_abs (o := ⟨some 45, _, _, _, _, _⟩) rfl (.tmp 43) (.tmp 44) 25 25 rfl 5 Tryz.underlying25 byteSize _ _ _ _ _ _ rfl rfl g (8 + at_) _ 227 HB1.out C ?e1 ?e2 ?e3 ?e4 (fun w1 hb1 hg1 => ?_)))
      case e1 => rw [hCl]; show n1 = min n1 (128 - at_); omega
      case e2 =>
        intro hp
        rw [HC.out]
        obtain ⟨ad, e, _, hcl⟩ := HS1.out.2 (by omega)
        exact ⟨ad, e, hcl⟩
      case e3 => rw [hCl, List.length_append, List.length_append, cw_length, cb_length, HTK1.out.2.1]; show 8 + at_ + n1 ≤ 8 + (128 + 1); omega
      case e4 => rw [HC.out]; exact cb_one _
      go_end0
      refine ⟨rfl, ?_, only_then hgr1 hg1 (fun j hj => .inl (by injection hj with hj; exact hj.symm))⟩
      have hl1 := HS1.out.1
      have hq := HTK1.out.some l1 (by rw [HM64.out]; omega)
      have hz := hb1.out
      have e := splice_HB st1 rest1 l1 ((m.length + l.length : Nat) : Int) at_ HTK1.out.2.1 (by omega)
      rw [HC.out, e] at hz
      rw [HM64.out, HE.out] at hq
      exact ⟨st1, _, by rw [List.length_append]; exact hz, hq⟩
end Go.Proofs.YtlcoebenkhafcaaGreatDoorLn
namespace Go.Proofs.YtlcoebenkhafcaaGreatDoorLn
set_option maxRecDepth 100000
open Go.RowKit
set_option linter.unusedVariables false
def outUpto (s : S8) (n : Nat) : List UInt8 := s.out.take (8 * n) ++ List.replicate (64 - 8 * n) 0
theorem outUpto_length (s : S8) (n : Nat) (h : n ≤ 8) : (outUpto s n).length = 64 := by simp [outUpto, out_length]; omega
theorem out_take8 (s : S8) (i : Nat) (hi : i < 8) : s.out.take (8 * i) ++ outB (s.list.getD i 0) = s.out.take (8 * (i + 1)) := by
  obtain ⟨a, b, c, d, e, f, g, h⟩ := s
  obtain rfl | rfl | rfl | rfl | rfl | rfl | rfl | rfl : i = 0 ∨ i = 1 ∨ i = 2 ∨ i = 3 ∨ i = 4 ∨ i = 5 ∨ i = 6 ∨ i = 7 := by omega
  all_goals rfl
theorem outUpto_over (s : S8) (n : Nat) (h : n < 8) : over (outUpto s n) (8 * n) (outB (s.list.getD n 0)) = outUpto s (n + 1) := by
  unfold outUpto
  rw [show 64 - 8 * n = 8 + (64 - 8 * (n + 1)) by omega, ← List.replicate_append_replicate, over_app _ _ _ _ _ (by rw [List.length_take, out_length]; omega) (by rw [outB_length]; simp), ← List.append_assoc, out_take8 s n h]
theorem outUpto_all (s : S8) : outUpto s 8 = s.out := by
  unfold outUpto
  rw [List.take_of_length_le (show s.out.length ≤ 8 * 8 by rw [out_length]; omega)]
  simp
theorem out_get (s : S8) (i k : Nat) (hi : i < 8) (hk : k < 8) : s.out.getD (8 * i + k) 0 = UInt8.ofNat (s.list.getD i 0 >>> (56 - 8 * k)).toNat := by
  obtain ⟨a, b, c, d, e, f, g, h⟩ := s
  obtain rfl | rfl | rfl | rfl | rfl | rfl | rfl | rfl : i = 0 ∨ i = 1 ∨ i = 2 ∨ i = 3 ∨ i = 4 ∨ i = 5 ∨ i = 6 ∨ i = 7 := by omega
  all_goals
    obtain rfl | rfl | rfl | rfl | rfl | rfl | rfl | rfl : k = 0 ∨ k = 1 ∨ k = 2 ∨ k = 3 ∨ k = 4 ∨ k = 5 ∨ k = 6 ∨ k = 7 := by omega
    all_goals rfl
theorem Sums.drewN {w : World} {g : Nat} {m : List UInt8} (h : Sums w g m) (n : Nat) : Sums (w.drewN n) g m := h
theorem Sums.grown {w w' : World} {g : Nat} {m : List UInt8} {row : Option Nat} (h : Sums w g m) (k : w.grownBy w' row) (hne : some g ≠ row) : Sums w' g m := by
  obtain ⟨st, rest, hb, ht⟩ := h
  exact ⟨st, rest, Blk.grown hb k hne, ht⟩
theorem Sums.below {w w' : World} {g : Nat} {m : List UInt8} {B : Nat} (h : Sums w g m) (k : Below B w w') (hg : g < B) : Sums w' g m := by
  obtain ⟨st, rest, hb, ht⟩ := h
  exact ⟨st, rest, Blk.below hb k hg, ht⟩
theorem Sums.lt {w : World} {g : Nat} {m : List UInt8} (h : Sums w g m) : g < w.heap.size := by
  obtain ⟨st, rest, hb, ht⟩ := h
  exact Blk.lt hb
theorem Blk.seg {w : World} {g : Nat} {l : List UInt8} (h : Blk w g 5 (cb l)) (n : Nat) (hn : l.length = n) : Seg w (some ⟨g, 0, none⟩) n l :=
  ⟨hn, fun _ => ⟨_, rfl, h.lt, fun j v hv => by rw [addr_add, Nat.zero_add, h.cell]; exact hv⟩⟩
theorem HB.cells_length (st : S8) (rest : List UInt8) (len : Int) (hr : rest.length = 128) : (cw st.list ++ (cb rest ++ [Value.int .u64 len])).length = 137 := by
  rw [List.length_append, List.length_append, cw_length, cb_length, hr]; rfl
theorem HB.cells_one (st : S8) (rest : List UInt8) (len : Int) : ∀ v ∈ cw st.list ++ (cb rest ++ [Value.int .u64 len]), v.oneCell' = true := by
  intro v hv
  rcases List.mem_append.1 hv with h | h
  · exact cw_one _ v h
  · rcases List.mem_append.1 h with h | h
    · exact cb_one _ v h
    · rw [List.mem_singleton.1 h]; rfl
theorem store_fact {w w1 : World} {o : Obj} {g off : Nat} {v : Value} (hg1 : (w.alloc o).grownBy w1 (some w.heap.size)) (hc : w.cell? ⟨g, off, none⟩ = some v) : w1.cell? ⟨g, off, none⟩ = some v := by
  have hlt : g < w.heap.size := World.block_lt_of_cell? w ⟨g, off, none⟩ hc
  rw [World.cell?_of_block (hg1.block g (by simp; omega) (by intro e; injection e; omega)), World.cell?_alloc_lt _ _ _ hlt]
  exact hc
def GivesSum (w : World) (L : List UInt8) (e : Ending) (w' : World) : Prop :=
  ∃ g, e = .returned (.slice (some ⟨g, 0, none⟩) 64 64) ∧ w.heap.size ≤ g ∧ Blk w' g 5 (cb L) ∧ Below w.heap.size w w'
set_option maxHeartbeats 1000000 in
set_option maxRecDepth 100000 in
theorem Sum_any (g : Nat) (m : List UInt8) (w : World) (h : Sums w g m) (hm : m.length < 1000000) (ht : Tabs w) (hg : 4 < g) :
    Calls Tryz.prog 179 #[.pointer (some ⟨g, 0, none⟩)] w (GivesSum w (sha m)) := by
  obtain ⟨st, rest, hb, htk⟩ := h
  have hlt := Blk.lt hb
  have c136 := hb.length
  rw [htk.2.1] at c136
  have hr : w.rangeAt g 0 (cw st.list ++ (cb rest ++ [.int .u64 (m.length : Int)])) := Blk.range hb 0 _ (fun j v hv => by rw [Nat.zero_add]; exact hv)
  obtain ⟨M, hM⟩ : ∃ M, M = m.length := ⟨_, rfl⟩
  obtain ⟨CS, hCS⟩ : ∃ CS, CS = cw st.list ++ (cb rest ++ [Value.int .u64 (m.length : Int)]) := ⟨_, rfl⟩
  obtain ⟨L, hL⟩ : ∃ L, L = (padOf m.length).length := ⟨_, rfl⟩
  have hLb : L ≤ 160 := by rw [hL, padOf_length]; have := noughts_lt m.length; omega
  rw [← hM] at c136
  rw [← hCS] at hr
  have hCl : CS.length = 137 := by rw [hCS]; exact HB.cells_length st rest _ htk.2.1
  have hC1 : ∀ v ∈ CS, v.oneCell' = true := by rw [hCS]; exact HB.cells_one st rest _
  have HCS := Lib.hid hCS
  have HCL := Lib.hid hCl
  have HC1 := Lib.hid hC1
  have HR := Lib.hid hr
  have HM := Lib.hid hM
  have HL := Lib.hid hL
  have HTK := Lib.hid htk
  have HTB := Lib.hid ht
  have HI38 := Lib.hid info38
  have HI35 := Lib.hid info35
  have hMb : M < 1000000 := by omega
  clear hCS hCl hC1 hr hM hL htk ht hb hm
  have hz := zero38
  go_enter Tryz.func179, Tryz.ntmps179
  go_wp2_with (first
    | ((with_reducible refine at_dst (some 9) ?_); refine wpList_load_mid (op := ⟨some 9, _, _, _, _, _⟩) rfl 227 (.tmp 8) rfl g 0 rfl CS _ ?d1 Tryz.underlying227 rfl ?d2 ?_)
    | ((with_reducible refine at_store 227 ?_); refine wpList_store_abs (o := ⟨none, _, _, _, _, _⟩) rfl 227 (.tmp 3) (.tmp 9) rfl w.heap.size CS rfl rfl 227 (cw (List.replicate 8 0) ++ (cb (List.replicate 128 0) ++ [.int .u64 0])) ?d3 ?d4 ?d5 ?d6 (fun w1 hb1 hg1 => (fun (c1 : w1.cell? ⟨g, 136, none⟩ = some (.int .u64 (M : Int))) => ?_) (store_fact hg1 c136)))
    | (go_at_call 200; refine (ending_any M w1 (by omega) L (by rw [HM.out]; exact HL.out)).mono ?_; rintro e w2 ⟨rfl, hbk2, hbel2⟩))
  case d1 => exact HR.out
  case d2 => simpa [HCL.out] using HI38.out
  case d3 => exact heap_alloc_new _ _
  case d4 => simpa [HCL.out] using HI38.out
  case d5 => rw [HCL.out]; rfl
  case d6 => exact HC1.out
  have hs1 : w.heap.size < w1.heap.size := by have := hg1.size; simp at this; omega
  have hs2 := hbel2.size
  have b1 : Below w.heap.size w w1 := below_only ((Below.refl w.heap.size w).alloc (Nat.le_refl _) _) hg1 (by simp) (by intro j hj; injection hj; omega)
  have T1 : Tabs w1 := HTB.out.below b1
  have T2 : Tabs w2 := T1.below hbel2
  have b2 : Below w.heap.size w w2 := b1.trans (hbel2.mono (by omega))
  have SM : Sums w2 w.heap.size m := by
    refine ⟨st, rest, ?_, HTK.out⟩
    have := hb1.out
    rw [HCS.out] at this
    exact Blk.below this hbel2 hs1
  have SG := hbk2.seg L (by rw [HL.out, HM.out])
  have AP : Apart (some (⟨w1.heap.size, 0, none⟩ : Addr)) L w.heap.size := by
    intro _ ad e
    injection e with e
    rw [← e]
    show w1.heap.size ≠ w.heap.size
    omega
  rw [HM.out] at SG
  refine (Write_any w.heap.size m (padOf m.length) _ L L w2 SM SG AP (Nat.le_refl _) (by omega) (by have := HM.out; omega) T2 (by have := HTB.out.lt; omega)).mono ?_
  rintro e w3 ⟨rfl, hSM3, hg3⟩
  obtain ⟨st3, rest3, hb3, htk3⟩ := hSM3
  have hs3 := hg3.size
  have hout : st3.out = sha m := Took.end_ htk3
  have b3 : Below w.heap.size w w3 := below_only b2 hg3 (by omega) (by intro j hj; injection hj; omega)
  have R3 := hb3.st
  have HR3 := Lib.hid R3
  have HOUT := Lib.hid hout
  have HB3 := Lib.hid hb3
  clear T1 T2 b1 b2 SM SG AP hbk2 hbel2 hg1 hb1 hg3 R3 hout hb3 htk3 c1 c136
  go_wp2_with (first
    | ((with_reducible refine at_dst (some 16) ?_); refine wpList_makeBytes (o := ⟨some 16, _, _, _, _, _⟩) rfl _ _ rfl _ _ rfl rfl 64 rfl (by omega) ?_; intro w4 hb4 hbel4 hs4)
    | ((with_reducible refine at_dst (some 18) ?_); refine wpList_load_mid (op := ⟨some 18, _, _, _, _, _⟩) rfl 224 (.tmp 17) rfl w.heap.size 0 rfl (cw st3.list) _ ?f1 Tryz.underlying224 rfl ?f2 ?_))
  case f1 => exact HB.st (Blk.below HB3.out hbel4 (by omega))
  case f2 => rw [HI35.out]; rfl
  have hb4' : Blk w4 w3.heap.size 5 (cb (outUpto st3 0)) := hb4.out
  have b4 : Below w.heap.size w w4 := b3.trans (hbel4.mono (by omega))
  have HB4 := Lib.hid hb4'
  have HOB : w.heap.size ≤ w3.heap.size := by omega
  clear hb4' hb4 hbel4 b3
  go_loopw [19] (fun i wr => ∃ k : Nat, k ≤ 8 ∧ i = .int .i64 k ∧ Blk wr w3.heap.size 5 (cb (outUpto st3 k)) ∧ Below w.heap.size w wr) (fun i _ => 8 - (intOf i).toNat)
  case atStart => exact ⟨0, by omega, rfl, HB4.out, b4⟩
  case round =>
    obtain ⟨i, hi, rfl, hbk, hbe⟩ := hrel
    have HBK := Lib.hid hbk
    clear hbk b4 HB4
    by_cases hi8 : i < 8
    · have hix := index35 st3.list i rfl hi8
      obtain ⟨x, hx⟩ : ∃ x, x = st3.list.getD i 0 := ⟨_, rfl⟩
      rw [← hx] at hix
      have HX := Lib.hid hx
      have hsl := run_from .i64 w3.heap.size 64 (8 * i) (by omega) (8 * (i : Int)) (by omega)
      obtain ⟨o1, ho1⟩ : ∃ o, o = 8 * i := ⟨_, rfl⟩
      obtain ⟨n1, hn1⟩ : ∃ o, o = 64 - 8 * i := ⟨_, rfl⟩
      rw [← hn1, ← ho1] at hsl
      have HO1 := Lib.hid ho1
      have HN1 : Hid (8 ≤ n1 ∧ n1 ≤ 1000000) := ⟨by omega, by omega⟩
      clear hx ho1 hn1
      go_wp2_with (go_at_call 201; refine (put_any x _ rfl w3.heap.size o1 n1 n1 (outUpto st3 i) _ HBK.out HN1.out.1 HN1.out.2 (by rw [outUpto_length _ _ hi, HO1.out]; omega)).mono ?_; rintro e w5 ⟨rfl, hb5, hg5⟩)
      go_roundw
      case rel =>
        have hsz := HBK.out.lt
        refine ⟨i + 1, by omega, by go_num, ?_, below_only hbe hg5 hbe.size (by intro j hj; injection hj; omega)⟩
        rw [HO1.out, HX.out, outUpto_over st3 i hi8] at hb5
        exact hb5
      case measure => simp [intOf]; omega
    · have e8 : i = 8 := by omega
      go_wp2
      go_ret
      have := HBK.out
      rw [e8, outUpto_all, HOUT.out] at this
      exact ⟨_, rfl, HOB, this, hbe⟩
structure Part where
  A : Option Addr
  n : Nat
  cap : Nat
  l : List UInt8
def textOf (ps : List Part) : List UInt8 := ps.flatMap (·.l)
def Parts (w : World) (A : Option Addr) (n : Nat) (ps : List Part) : Prop :=
  ps.length = n ∧ (0 < n → ∃ ad, A = some ad ∧ ad.block < w.heap.size ∧ ∀ j p, ps[j]? = some p → w.cell? (ad.add j) = some (.slice p.A p.n p.cap)) ∧ ∀ p ∈ ps, Seg w p.A p.n p.l ∧ p.n ≤ p.cap ∧ 0 ≤ p.cap
theorem Parts.below {w w' : World} {A : Option Addr} {n : Nat} {ps : List Part} (h : Parts w A n ps) (hb : Below w.heap.size w w') : Parts w' A n ps :=
  ⟨h.1, fun hn => by
    obtain ⟨ad, e, hlt, hc⟩ := h.2.1 hn
    exact ⟨ad, e, Nat.lt_of_lt_of_le hlt hb.size, fun j p hp => (hb.cell (p := ad.add j) (by rw [block_add]; exact hlt)).trans (hc j p hp)⟩,
   fun p hp => ⟨(h.2.2 p hp).1.below hb, (h.2.2 p hp).2⟩⟩
theorem textOf_snoc (ps : List Part) (i : Nat) (p : Part) (h : ps[i]? = some p) : textOf (ps.take (i + 1)) = textOf (ps.take i) ++ p.l := by
  obtain ⟨hi, rfl⟩ := List.getElem?_eq_some_iff.1 h
  rw [List.take_succ_eq_append_getElem hi]
  simp only [textOf, List.flatMap_append, List.flatMap_cons, List.flatMap_nil, List.append_nil]
theorem textOf_take_le (ps : List Part) (i : Nat) : (textOf (ps.take i)).length ≤ (textOf ps).length := by
  have : textOf ps = textOf (ps.take i) ++ textOf (ps.drop i) := by
    simp only [textOf]
    rw [← List.flatMap_append, List.take_append_drop]
  rw [this, List.length_append]; omega
set_option maxHeartbeats 400000 in
theorem Of_any (A : Option Addr) (n cap : Nat) (ps : List Part) (w : World) (hp : Parts w A n ps) (hn : n ≤ 100000) (hl : (textOf ps).length < 100000) (ht : Tabs w) :
    Calls Tryz.prog 145 #[.slice A n cap] w (GivesSum w (sha (textOf ps))) := by
  have HP := Lib.hid hp
  have HT := Lib.hid ht
  have hG := ht.lt
  clear hp ht
  go_enter Tryz.func145, Tryz.ntmps145
  go_wp2_with (go_at_call 177; refine (New_any _ HT.out).mono ?_; rintro e w1 ⟨rfl, hs1, hb1⟩)
  have HS1 := Lib.hid hs1
  clear hs1
  go_loopw [9] (fun j wr => ∃ i : Nat, i ≤ n ∧ j = .int .i64 i ∧ Sums wr w.heap.size (textOf (ps.take i)) ∧ Below w.heap.size w wr) (fun j _ => n - (intOf j).toNat)
  case atStart => exact ⟨0, by omega, rfl, HS1.out, hb1⟩
  case round =>
    obtain ⟨i, hi, rfl, hs, hb⟩ := hrel
    have HS := Lib.hid hs
    clear hs
    by_cases hin : i < n
    · have hps := HP.out.below hb
      obtain ⟨p, hpi⟩ : ∃ p, ps[i]? = some p := ⟨_, List.getElem?_eq_getElem (by rw [HP.out.1]; exact hin)⟩
      obtain ⟨ad, hA, had, hcell⟩ := hps.2.1 (by omega)
      have hc := hcell i p hpi
      have hpm := hps.2.2 p (List.mem_of_getElem? hpi)
      have HPM := Lib.hid hpm
      have HPI := Lib.hid hpi
      have hadw : 0 < p.n → ∀ a, p.A = some a → a.block ≠ w.heap.size := by
        intro hn0 a ha
        obtain ⟨a', e', hlt', _⟩ := (HP.out.2.2 p (List.mem_of_getElem? hpi)).1.2 hn0
        rw [ha] at e'
        injection e' with e'
        rw [e']
        omega
      have HAW := Lib.hid hadw
      have hlen : (textOf (ps.take i)).length < 1099511627776 := by have := textOf_take_le ps i; omega
      have HLEN := Lib.hid hlen
      have hnb : p.n ≤ 140737488355328 := by
        have e1 := textOf_snoc ps i p hpi
        have e2 := textOf_take_le ps (i + 1)
        have e3 := (HP.out.2.2 p (List.mem_of_getElem? hpi)).1.1
        rw [e1, List.length_append] at e2
        omega
      have HNB := Lib.hid hnb
      clear hcell hpm hpi hps hadw hlen hnb
      subst hA
      go_wp2_with (go_at_call 178; refine (Write_any w.heap.size (textOf (ps.take i)) p.l p.A p.n p.cap _ HS.out HPM.out.1 HAW.out HPM.out.2.1 HNB.out HLEN.out (HT.out.below hb) hG).mono ?_; rintro e w2 ⟨rfl, hs2, hg2⟩)
      go_roundw
      case rel =>
        refine ⟨i + 1, by omega, by go_num, ?_, below_only hb hg2 hb.size (by intro j hj; injection hj; omega)⟩
        rw [textOf_snoc ps i p HPI.out]
        exact hs2
      case measure => simp [intOf]; omega
    · have ei : i = n := by omega
      go_wp2_with (go_at_call 179; refine (Sum_any w.heap.size (textOf (ps.take i)) _ HS.out (by have := textOf_take_le ps i; omega) (HT.out.below hb) hG).mono ?_; rintro e w2 ⟨g2, rfl, hge, hbk, hb2⟩)
      go_ret
      rw [ei, List.take_of_length_le (by rw [HP.out.1]; omega)] at hbk
      have := hb.size
      exact ⟨g2, rfl, by omega, hbk, hb.trans (hb2.mono (by omega))⟩
end Go.Proofs.YtlcoebenkhafcaaGreatDoorLn
