/-
  The program's small functions: where a byte stands, noughts ahead trimmed, widths, one limb added or taken away, the bits of a limb, which is the greater.
-/
import Derived.Test.YtojpbfkdkkdpcaaDoorRef3
namespace Go.Proofs.YtojpbfkdkkdpcaaDoor
set_option maxRecDepth 100000
open Go.RowKit
set_option linter.unusedVariables false
set_option linter.unusedSimpArgs false

theorem placeOf_any (at_ size : Int) (u : Nat) (hu : size - 1 - at_ = (u : Int)) (h0 : 0 ≤ at_) (h1 : size ≤ 1000000) (w : World) :
    Calls Tryd.prog 52 #[.int .i64 at_, .int .i64 size] w fun e w' => e = .returned (.tuple #[.int .i64 ((u / 4 : Nat) : Int), .int .i64 ((8 * (u % 4) : Nat) : Int)]) ∧ w = w' := by
  have h2 : 0 ≤ size := by omega
  have h3 : (u : Int) ≤ 1000000 := by omega
  go_enter Tryd.func52, Tryd.ntmps52
  go_wp2
  go_ret2
  refine ⟨?_, rfl⟩
  have e1 : ((u / 4 : Nat) : Int) = (u : Int) / 4 := by omega
  have e2 : ((8 * (u % 4) : Nat) : Int) = 8 * ((u : Int) % 4) := by omega
  rw [e1, e2]
  rfl

theorem run_from (A : Option Addr) (k cap lo : Nat) (L : Int) (hL : L = lo) (h : lo ≤ k) (h2 : k ≤ cap) (w : World) :
    (Instr.slice 22 (.slice A k cap) (some (.int .i64 L)) none none).run Tryd.prog w = .ok (.slice (if cap = lo then A else A.map (·.add lo)) (k - lo) (cap - lo)) w := by
  obtain ⟨i0, hi0, hz0, hz1, hz2⟩ := info_parts byteInfo
  subst hL
  simp [Instr.slice, run_underlying Tryd.underlying22, Instr.sliceBounds, run_sliceBound, sizeOf, typeInfo, hi0, hz1, h, h2]
theorem run_tail (A : Option Addr) (k cap : Nat) (h : 1 ≤ k) (h2 : k ≤ cap) (w : World) :
    (Instr.slice 22 (.slice A k cap) (some (.int .i64 1)) none none).run Tryd.prog w = .ok (.slice (if cap = 1 then A else A.map (·.add 1)) (k - 1) (cap - 1)) w := run_from A k cap 1 1 rfl h h2 w

/-- Bytes without the noughts ahead. -/
def strip : List Nat → List Nat
  | [] => []
  | d :: r => if d = 0 then strip r else d :: r
theorem vbe_cons (d : Nat) (r : List Nat) : vbe (d :: r) = vbe r + 256 ^ r.length * d := by
  rw [vbe, List.reverse_cons, val_snoc, List.length_reverse, vbe]
theorem vbe_strip : ∀ l : List Nat, vbe (strip l) = vbe l
  | [] => rfl
  | d :: r => by
    rw [strip]
    split
    · next h => rw [vbe_strip r, vbe_cons, h, Nat.mul_zero, Nat.add_zero]
    · rfl
theorem strip_tight : ∀ l : List Nat, Tight (strip l).reverse
  | [] => .inl rfl
  | d :: r => by
    rw [strip]
    split
    · exact strip_tight r
    · next h => exact .inr ⟨r.reverse, d, by simp, h⟩
theorem strip_fit {B : Nat} : ∀ {l : List Nat}, Fit B l → Fit B (strip l)
  | [], h => h
  | d :: r, h => by
    rw [strip]
    split
    · exact strip_fit h.cons.2
    · exact h
theorem strip_le : ∀ l : List Nat, (strip l).length ≤ l.length
  | [] => Nat.le_refl _
  | d :: r => by
    rw [strip]
    split
    · have := strip_le r; simp; omega
    · exact Nat.le_refl _

set_option maxHeartbeats 800000 in
theorem trimByte_any (A : Option Addr) (n cap : Nat) (l : List Nat) (w : World) (h : Rd .u8 w A n l) (hn : n ≤ cap) (hm : cap ≤ maxLen) :
    Calls Tryd.prog 74 #[.slice A n cap, .int .u8 0] w fun e w' => (∃ A' n' cap', e = .returned (.slice A' n' cap') ∧ Rd .u8 w A' n' (strip l)) ∧ w = w' := by
  unfold maxLen at hm
  go_enter Tryd.func74, Tryd.ntmps74
  go_wp2
  go_loop [0] (fun s => ∃ (A1 : Option Addr) (n1 c1 : Nat) (l1 : List Nat), s = .slice A1 n1 c1 ∧ n1 ≤ c1 ∧ c1 ≤ 9223372036854775807 ∧ Hid (Rd .u8 w A1 n1 l1) ∧ Hid (strip l = strip l1)) (fun s => match s with | .slice _ n _ => n | _ => 0)
  case atStart => exact ⟨A, n, cap, l, rfl, hn, hm, h, rfl⟩
  case round =>
    obtain ⟨A1, n1, c1, l1, rfl, hn1, hc1, HR, HS⟩ := hrel
    rcases n1 with _ | n1
    · go_wp2
      go_ret
      have : l1 = [] := List.eq_nil_of_length_eq_zero HR.out.1
      refine ⟨⟨none, 0, ⟨0, rfl⟩, ?_⟩, rfl⟩
      rw [HS.out, this]
      exact Rd.nil _ _ _
    · obtain ⟨ad, x, rfl, hx, hcell⟩ := HR.out.get (j := 0) (by omega)
      rw [add_zero_] at hcell
      obtain ⟨r, rfl⟩ : ∃ r, l1 = x :: r := by
        cases l1 with
        | nil => cases hx
        | cons d r => simp at hx; subst hx; exact ⟨r, rfl⟩
      clear hx
      rcases x with _ | x
      · have hsl := run_tail (some ad) (n1 + 1) c1 (by omega) hn1
        have hd := HR.out.drop 1 c1 (by omega) hn1
        generalize (if c1 = 1 then some ad else (some ad).map (·.add 1)) = B at hsl hd
        rw [Nat.add_sub_cancel] at hsl hd
        have HD := Lib.hid hd
        clear hd
        go_wp2
        go_round
        case rel => exact ⟨B, n1, c1 - 1, r, rfl, by omega, by omega, by simpa using HD, by show _ = _; rw [HS.out, strip, if_pos rfl]⟩
        case measure => simp
      · go_wp2
        go_ret
        refine ⟨⟨_, _, ⟨_, rfl⟩, ?_⟩, rfl⟩
        rw [HS.out, strip, if_neg (by omega)]
        exact HR.out

set_option maxRecDepth 4000 in
set_option maxHeartbeats 800000 in
theorem TrimLeft_any (A : Option Addr) (n cap : Nat) (l : List Nat) (w : World) (h : Rd .u8 w A n l) (hn : n ≤ cap) (hm : cap ≤ maxLen) :
    Calls Tryd.prog 51 #[.slice A n cap, .string ⟨#[0]⟩] w fun e w' => (∃ A' n' cap', e = .returned (.slice A' n' cap') ∧ Rd .u8 w A' n' (strip l)) ∧ w = w' := by
  rcases n with _ | n
  · go_enter Tryd.func51, Tryd.ntmps51
    go_wp2
    go_ret
    have : l = [] := List.eq_nil_of_length_eq_zero h.1
    subst this
    exact ⟨⟨none, 0, 0, rfl, Rd.nil _ _ _⟩, rfl⟩
  · have HR := Lib.hid h
    have HM := Lib.hid hm
    have hix : ∀ w : World, (Instr.index 9 (.string ⟨#[0]⟩) (.int .i64 0)).run Tryd.prog w = .ok (.int .u8 0) w := fun w => by kernel_rfl
    have hne : ((⟨#[0]⟩ : ByteArray) == ⟨#[]⟩) = false := by decide
    clear h hm
    go_enter Tryd.func51, Tryd.ntmps51
    go_wp2_with fail
    refine (trimByte_any A (n + 1) cap l w HR.out hn HM.out).mono ?_
    rintro e w1 ⟨⟨A', n', cap', rfl, hr⟩, rfl⟩
    go_wp2
    go_ret
    exact ⟨⟨A', n', cap', rfl, hr⟩, rfl⟩
end Go.Proofs.YtojpbfkdkkdpcaaDoor
