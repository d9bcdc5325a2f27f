/-
  SpanOrder returns true for every three numbers: no condition.
-/
import Derived.Test.YthbhjpbcechdaaaRows
import Derived.Test.YthbhjpbcechdaaaLie
import Derived.WalkKit
import Derived.ProofKit
import Derived.OpenShut
import Derived.ShutString
import Derived.ChangeOld
import Derived.Below
namespace Go.Proofs.Ythbhjpbcechdaaa.spanOrder
open Go.Proofs.Ythbhjpbcechdaaa Go.ChangeShapes Go.WideShapes Go.ChangeAt Go.RowKit
open Go.ChangeMaps (open_string shut_string)
set_option linter.unusedVariables false      -- a walk need not use every 'w<i>' (that an integer argument fits its kind)

theorem own : ownKnob Try.prog.godebug = none := by kernel_rfl

-- THE WALK
def u8s (l : List Int) : List UInt8 := l.map fun n => UInt8.ofNat n.toNat
theorem strOf_toList (l : List Int) : (strOfNums l).toList = u8s l := by rw [ByteArray.toList_eq]; rfl
theorem u8_lt (a b : Int) (ha : 0 ≤ a ∧ a ≤ 255) (hb : 0 ≤ b ∧ b ≤ 255) : decide (UInt8.ofNat a.toNat < UInt8.ofNat b.toNat) = decide (a < b) := by
  rw [Bool.eq_iff_iff]
  simp only [decide_eq_true_eq, UInt8.lt_iff_toNat_lt, UInt8.toNat_ofNat']
  omega
theorem u8_eq (a b : Int) (ha : 0 ≤ a ∧ a ≤ 255) (hb : 0 ≤ b ∧ b ≤ 255) : (UInt8.ofNat a.toNat == UInt8.ofNat b.toNat) = decide (a = b) := by
  rw [Bool.eq_iff_iff]
  simp only [beq_iff_eq, decide_eq_true_eq, ← UInt8.toNat_inj, UInt8.toNat_ofNat']
  omega
theorem order_num : ∀ (x y : List Int), AreBytes x → AreBytes y → x.length = y.length → Op.bytesLess (u8s x) (u8s y) = decide (num x < num y) ∧ (u8s x == u8s y) = decide (num x = num y)
  | [], [], _, _, _ => by simp [u8s, Op.bytesLess, num]
  | [], _ :: _, _, _, h => by simp at h
  | _ :: _, [], _, _, h => by simp at h
  | a :: x, b :: y, hx, hy, h => by
    have hl : x.length = y.length := by simpa using h
    have hx' : AreBytes x := fun z hz => hx z (by simp [hz])
    have hy' : AreBytes y := fun z hz => hy z (by simp [hz])
    obtain ⟨i1, i2⟩ := order_num x y hx' hy' hl
    have ha := hx a (by simp)
    have hb := hy b (by simp)
    have n1 := num_bd x hx'
    have n2 := num_bd y hy'
    rw [hl] at n1
    rw [num_cons, num_cons, hl]
    generalize (256 : Int) ^ y.length = P at n1 n2 ⊢
    simp only [u8s, List.map_cons, Op.bytesLess] at i1 i2 ⊢
    rw [u8_lt a b ha hb, u8_eq a b ha hb, i1, List.cons_beq_cons, u8_eq a b ha hb, i2]
    rcases Int.lt_trichotomy a b with hab | hab | hab
    · have : (a + 1) * P ≤ b * P := Int.mul_le_mul_of_nonneg_right (by omega) (by omega)
      rw [Int.add_mul, Int.one_mul] at this
      constructor
      · rw [Bool.eq_iff_iff]; simp [hab]; omega
      · rw [Bool.eq_iff_iff]; simp; omega
    · subst hab
      constructor
      · rw [Bool.eq_iff_iff]; simp
      · rw [Bool.eq_iff_iff]; simp
    · have : (b + 1) * P ≤ a * P := Int.mul_le_mul_of_nonneg_right (by omega) (by omega)
      rw [Int.add_mul, Int.one_mul] at this
      constructor
      · rw [Bool.eq_iff_iff]; simp; omega
      · rw [Bool.eq_iff_iff]; simp; omega
theorem be_bytes (s : Nat) (n : Int) : AreBytes (be s n) := by
  intro x hx
  simp only [be, List.mem_map] at hx
  obtain ⟨j, _, rfl⟩ := hx
  omega
/-- Put has room for n in size bytes. -/
def Room (size n : Int) : Prop := 1 ≤ size ∧ size ≤ 8 ∧ 0 ≤ n ∧ n / 2 ^ (8 * size).toNat = 0
theorem Put_no (size n : Int) (hn : n ≤ 9223372036854775807) (h : ¬ Room size n) :
    ∃ x : Int, (x != 0) = true ∧ ∀ (A : Option Addr) (k cap : Nat) (w : World), Calls Try.prog 14 #[.slice A k cap, .int .i64 size, .int .i64 n] w fun e w' => e = .returned (.tuple #[.slice none 0 0, .int .i64 x]) ∧ w = w' := by
  by_cases h1 : size < 1 ∨ 8 < size
  · exact ⟨12, rfl, fun A k cap w => Put_form A k cap size n w h1⟩
  · by_cases h2 : n < 0
    · exact ⟨11, rfl, fun A k cap w => Put_neg A k cap size n w (by omega) (by omega) h2⟩
    · have h3 : ¬ n / 2 ^ (8 * size).toNat = 0 := fun h4 => h ⟨by omega, by omega, by omega, h4⟩
      exact ⟨11, rfl, fun A k cap w => Put_big A k cap size n w (by omega) (by omega) (by omega) hn (by simpa using h3)⟩
theorem Put_new (size n : Int) (w : World) (hn : n ≤ 9223372036854775807) (h : Room size n) (m : Nat) (hm : (m : Int) = size) :
    Calls Try.prog 14 #[.slice none 0 0, .int .i64 size, .int .i64 n] w (GivesBytesOK w m (be m n)) := by
  have := Put_ok none 0 0 [] size n w ⟨rfl, by simp [AreBytes], by simp⟩ (by omega) h.1 h.2.1 h.2.2.1 hn (by simpa using h.2.2.2) m (by omega)
  rw [show size.toNat = m by omega] at this
  exact this
set_option maxHeartbeats 800000 in
theorem walk (a0 : Int) (a1 : Int) (a2 : Int) (w0 : (Lit.int .i64 a0).wf = true) (w1 : (Lit.int .i64 a1).wf = true) (w2 : (Lit.int .i64 a2).wf = true) (w : World) :
    Calls Try.prog 9 #[.int .i64 a0, .int .i64 a1, .int .i64 a2] w fun e w' => e = .returned (.bool true) ∧ Below w.heap.size w w' := by
  obtain ⟨b0, b1⟩ := bounds_i64 w0
  obtain ⟨c0, c1⟩ := bounds_i64 w1
  clear w0 w1 w2
  by_cases ha : Room a2 a0
  · obtain ⟨m, rfl⟩ : ∃ m : Nat, a2 = (m : Int) := ⟨a2.toNat, by have := ha.1; omega⟩
    by_cases hb : Room m a1
    · have e8 : (8 * (m : Int)).toNat = 8 * m := by omega
      have na : num (be m a0) = a0 := num_be_all m a0 ha.2.2.1 (by rw [← e8]; exact ha.2.2.2)
      have nb : num (be m a1) = a1 := num_be_all m a1 hb.2.2.1 (by rw [← e8]; exact hb.2.2.2)
      have hord := order_num (be m a0) (be m a1) (be_bytes m a0) (be_bytes m a1) (by rw [be_length, be_length])
      rw [na, nb, ← strOf_toList, ← strOf_toList] at hord
      obtain ⟨o1, o2⟩ := hord
      have o3 : ((strOfNums (be m a0)).toList == (strOfNums (be m a1)).toList) = (a0 == a1) := by rw [o2]; rfl
      clear o2 na nb e8
      go_enter Try.func9, Try.ntmps9
      go_wp2_with (go_at_call 11; refine (anchor_any _).mono ?_; rintro e w1 ⟨rfl, hB⟩)
      refine (Put_new _ _ _ b1 ha m rfl).mono ?_
      rintro e w2 ⟨rfl, hL, hown, hB2⟩
      have hB3 : Below w.heap.size w w2 := hB.trans (hB2.mono hB.size)
      have hseg := hown.seg
      rw [hL] at hseg
      clear hL
      go_wp2_with fail
      refine (Put_new _ _ _ c1 hb m rfl).mono ?_
      rintro e w3 ⟨rfl, hL, hown3, hB4⟩
      have hB5 : Below w.heap.size w w3 := hB3.trans (hB4.mono hB3.size)
      have hseg3 := hown3.seg
      rw [hL] at hseg3
      clear hL
      have hcv1 := (hseg.below hB4).str m
      have hcv2 := hseg3.str m
      generalize strOfNums (be m a0) = S1 at hcv1 o1 o3
      generalize strOfNums (be m a1) = S2 at hcv2 o1 o3
      go_wp2_with fail
      go_ret
      exact ⟨rfl, hB5⟩
    · obtain ⟨x, hx, hput⟩ := Put_no m a1 c1 hb
      have HP := Lib.hid hput
      clear hput
      go_enter Try.func9, Try.ntmps9
      go_wp2_with (go_at_call 11; refine (anchor_any _).mono ?_; rintro e w1 ⟨rfl, hB⟩)
      refine (Put_new _ _ _ b1 ha m rfl).mono ?_
      rintro e w2 ⟨rfl, hL, hown, hB2⟩
      have hB3 : Below w.heap.size w w2 := hB.trans (hB2.mono hB.size)
      clear hL
      go_wp2_with fail
      refine (HP.out _ _ _ _).mono ?_
      rintro e w3 ⟨rfl, rfl⟩
      go_wp2_with fail
      go_ret
      exact ⟨rfl, hB3⟩
  · obtain ⟨x, hx, hput⟩ := Put_no a2 a0 b1 ha
    have HP := Lib.hid hput
    clear hput
    by_cases hb : Room a2 a1
    · obtain ⟨m, rfl⟩ : ∃ m : Nat, a2 = (m : Int) := ⟨a2.toNat, by have := hb.1; omega⟩
      go_enter Try.func9, Try.ntmps9
      go_wp2_with (go_at_call 11; refine (anchor_any _).mono ?_; rintro e w1 ⟨rfl, hB⟩)
      refine (HP.out _ _ _ _).mono ?_
      rintro e w2 ⟨rfl, rfl⟩
      go_wp2_with fail
      refine (Put_new _ _ _ c1 hb m rfl).mono ?_
      rintro e w2 ⟨rfl, hL, hown, hB2⟩
      have hB3 : Below w.heap.size w w2 := hB.trans (hB2.mono hB.size)
      clear hL
      go_wp2_with fail
      go_ret
      exact ⟨rfl, hB3⟩
    · obtain ⟨y, hy, hput2⟩ := Put_no a2 a1 c1 hb
      have HP2 := Lib.hid hput2
      clear hput2
      go_enter Try.func9, Try.ntmps9
      go_wp2_with (go_at_call 11; refine (anchor_any _).mono ?_; rintro e w1 ⟨rfl, hB⟩)
      refine (HP.out _ _ _ _).mono ?_
      rintro e w2 ⟨rfl, rfl⟩
      go_wp2_with fail
      refine (HP2.out _ _ _ _).mono ?_
      rintro e w2 ⟨rfl, rfl⟩
      go_wp2_with fail
      go_ret
      exact ⟨rfl, hB⟩

-- THE ROW's STEP
set_option maxRecDepth 100000 in
theorem lifted (os : Os) (started : os.Started) (H : Type) (enc : TypeId × Value → H) :
    ReturnsInHanded {} Try.checked os 9 .any (Rows.spanOrderSpec.pre6 enc Try.prog Try.f9 Rows.spanOrderRow.domain false) (Rows.spanOrderSpec.post enc Try.prog Try.f9 false true false false) := by
  refine returnsInHanded_of_change (C := Try.checked) own started (by kernel_rfl) Try.func9
    (ChangeSpec.witness6 (enc := enc) (C := Try.checked) false ⟨#[], #[.int .i64 0, .int .i64 0, .int .i64 0], []⟩ 8 (by kernel_rfl) (by kernel_rfl) (by kernel_rfl) (by kernel_rfl)) ?_
  intro W base args ds gs before hval0 hW hcnd _
  have hval : ∀ (j : Nat) t v, Try.f9.params[j]? = some t → args[j]? = some v → Value.okWide Try.prog W .any base t v := hval0
  have hW' := hW
  obtain ⟨p, q, hA0, hV, rfl, hfz, hnd⟩ := hW
  have hA : DataW.TrodAll enc Try.prog W 0 (fun _ => true) true Try.f9.params.toList args.toList ds p := hA0
  rw [Try.params9] at hA hval
  obtain ⟨v0, vs0, d0, ds0, p0, q0, hargs, rfl, rfl, h0, r0⟩ := trodAll_cons hA
  obtain ⟨v1, vs1, d1, ds1, p1, q1, rfl, rfl, rfl, h1, r1⟩ := trodAll_cons r0
  obtain ⟨v2, vs2, d2, ds2, p2, q2, rfl, rfl, rfl, h2, r2⟩ := trodAll_cons r1
  obtain ⟨rfl, rfl, rfl⟩ := trodAll_nil r2
  obtain rfl : args = #[v0, v1, v2] := by cases args; simp_all
  obtain ⟨rfl, rfl⟩ := trodVars_none hV
  obtain ⟨a0, rfl, rfl, rfl, w0⟩ := open_int Try.underlying3 (hval 0 3 v0 rfl rfl) h0
  obtain ⟨a1, rfl, rfl, rfl, w1⟩ := open_int Try.underlying3 (hval 1 3 v1 rfl rfl) h1
  obtain ⟨a2, rfl, rfl, rfl, w2⟩ := open_int Try.underlying3 (hval 2 3 v2 rfl rfl) h2
  clear hA0 hval0
  simp only [List.append_nil] at hW'
  refine (walk a0 a1 a2 w0 w1 w2 W).mono fun e W' ⟨he, bel⟩ => ?_
  subst he
  exact ⟨_, rfl, _, _, _, [], _, [], hW', trodAll_mk1 (shut_bool Try.underlying4 _), (trodAll_cons_mk (shut_int Try.underlying3 w0) (trodAll_cons_mk (shut_int Try.underlying3 w1) (trodAll_cons_mk (shut_int Try.underlying3 w2) trodAll_mk0))), rfl, bel.frame _, fun h => by cases h⟩

theorem over : Rows.spanOrderRow.holds Try.pinned (OpenSpec.ofChange Rows.spanOrderSpec) :=
  OpenClaim.holds_of_wide 9 Try.f9 rfl rfl rfl rfl rfl rfl rfl ⟨rfl, rfl, rfl, rfl, rfl⟩ rfl rfl rfl rfl rfl (by kernel_rfl) Try.func9 (by kernel_rfl)
    (of_decide_eq_true (by kernel_rfl)) (by unfold Func.isWrapper; first | (rw [if_pos (by decide +kernel)]; kernel_rfl) | (rw [if_neg (by decide +kernel)]; exact ⟨rfl, rfl⟩))
    (fun os started H enc _ => lifted os started H enc)

-- the statement
theorem proved : Rows.SpanOrderSaid :=
  over
end Go.Proofs.Ythbhjpbcechdaaa.spanOrder
