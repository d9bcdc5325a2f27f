/-
  A key in memory; the small functions of package key; bytes that are cloned, put behind others, held against others.
-/
import Derived.Test.YtojpbfkdkkdpcaaDoorProg6
import Derived.Test.YtojpbfkdkkdpcaaDoorBytes
import Derived.Test.YtojpbfkdkkdpcaaDoorSpGet
namespace Go.Proofs.YtojpbfkdkkdpcaaDoor
open Go.RowKit
set_option linter.unusedVariables false
set_option linter.unusedSimpArgs false
set_option maxRecDepth 100000

theorem bitsRight_yes (z : Int) (w : World) (h1 : 512 ≤ z) (h2 : z ≤ 4096) (h3 : z % 512 = 0) :
    Calls Tryd.prog 31 #[.int .i64 z] w fun e w' => e = .returned (.bool true) ∧ w = w' := by
  have hd : (z % 512 == 0) = true := by simp [h3]
  go_enter Tryd.func31, Tryd.ntmps31
  go_wp2
  go_ret
  exact ⟨rfl, rfl⟩
theorem bitsRight_no (z : Int) (w : World) (h0 : 0 ≤ z) (h : z < 512 ∨ 4096 < z ∨ z % 512 ≠ 0) :
    Calls Tryd.prog 31 #[.int .i64 z] w fun e w' => e = .returned (.bool false) ∧ w = w' := by
  by_cases h1 : z < 512
  · have q : ¬ 512 ≤ z := by omega
    clear h
    go_enter Tryd.func31, Tryd.ntmps31
    go_wp2
    go_ret
    exact ⟨rfl, rfl⟩
  · have q : 512 ≤ z := by omega
    by_cases h2 : 4096 < z
    · have q2 : ¬ z ≤ 4096 := by omega
      clear h
      go_enter Tryd.func31, Tryd.ntmps31
      go_wp2
      go_ret
      exact ⟨rfl, rfl⟩
    · have q2 : z ≤ 4096 := by omega
      have q3 : z % 512 ≠ 0 := by omega
      have hd : (z % 512 == 0) = false := by simp [q3]
      clear h
      go_enter Tryd.func31, Tryd.ntmps31
      go_wp2
      go_ret
      exact ⟨rfl, rfl⟩

set_option maxHeartbeats 400000 in
theorem isModulus_yes (A : Option Addr) (n cap : Nat) (l : List Nat) (w : World) (h : Rd .u8 w A n l) (hf : Fit 256 l) (hs : 64 ≤ n ∧ n ≤ 512) (a z : Nat) (ha : l[0]? = some a) (hz : l[n - 1]? = some z) (hb : 128 ≤ a ∧ z % 2 = 1) :
    Calls Tryd.prog 32 #[.slice A n cap] w fun e w' => e = .returned (.bool true) ∧ w = w' := by
  obtain ⟨k1, k2⟩ := hs
  have HR := Lib.hid h
  obtain ⟨ad, x, rfl, hx, hc⟩ := HR.out.get (j := 0) (by omega)
  obtain ⟨ad2, y, e2, hy, hc2⟩ := HR.out.get (j := n - 1) (by omega)
  cases e2
  rw [add_zero_] at hc
  rw [ha] at hx; cases hx
  rw [hz] at hy; cases hy
  have hab := hf.get ha
  have hzb := hf.get hz
  clear h
  have q1 : ((a : Int) / 128) = 1 := by omega
  have hd1 : ((a : Int) / 128 == 1) = true := by simp [q1]
  have q2 : (z : Int) % 2 = 1 := by omega
  have hd2 : ((z : Int) % 2 == 1) = true := by simp [q2]
  go_enter Tryd.func32, Tryd.ntmps32
  go_wp2
  go_ret
  exact ⟨rfl, rfl⟩
set_option maxHeartbeats 400000 in
theorem isModulus_no (A : Option Addr) (n cap : Nat) (l : List Nat) (w : World) (h : Rd .u8 w A n l) (hf : Fit 256 l) (hs : 64 ≤ n ∧ n ≤ 512) (a z : Nat) (ha : l[0]? = some a) (hz : l[n - 1]? = some z) (hb : a < 128 ∨ z % 2 = 0) :
    Calls Tryd.prog 32 #[.slice A n cap] w fun e w' => e = .returned (.bool false) ∧ w = w' := by
  obtain ⟨k1, k2⟩ := hs
  have HR := Lib.hid h
  obtain ⟨ad, x, rfl, hx, hc⟩ := HR.out.get (j := 0) (by omega)
  obtain ⟨ad2, y, e2, hy, hc2⟩ := HR.out.get (j := n - 1) (by omega)
  cases e2
  rw [add_zero_] at hc
  rw [ha] at hx; cases hx
  rw [hz] at hy; cases hy
  have hab := hf.get ha
  have hzb := hf.get hz
  clear h
  by_cases h1 : a < 128
  · have q1 : ((a : Int) / 128) = 0 := by omega
    have hd1 : ((a : Int) / 128 == 1) = false := by simp [q1]
    clear hb
    go_enter Tryd.func32, Tryd.ntmps32
    go_wp2
    go_ret
    exact ⟨rfl, rfl⟩
  · have q1 : ((a : Int) / 128) = 1 := by omega
    have hd1 : ((a : Int) / 128 == 1) = true := by simp [q1]
    have q2 : (z : Int) % 2 = 0 := by omega
    have hd2 : ((z : Int) % 2 == 1) = false := by simp [q2]
    clear hb
    go_enter Tryd.func32, Tryd.ntmps32
    go_wp2
    go_ret
    exact ⟨rfl, rfl⟩

/-- Bytes as the walk's string. -/
def str (l : List Nat) : ByteArray := strOfNums (l.map fun (x : Nat) => (x : Int))
theorem rd_str {w : World} {A : Option Addr} {k : Nat} {l : List Nat} (h : Rd .u8 w A k l) (cap : Nat) : (convert 22 9 (.slice A k cap)).run Tryd.prog w = .ok (.string (str l)) w := by
  rcases A with _ | a
  · have hl : l = [] := by
      rcases Nat.eq_zero_or_pos k with h0 | h0
      · exact List.eq_nil_of_length_eq_zero (by rw [h.1]; exact h0)
      · obtain ⟨_, e, _⟩ := h.2 h0; cases e
    subst hl
    rw [run_convert_bytes_nil (P := Tryd.prog) w 22 5 Tryd.underlying22 Tryd.underlying5 k cap 9 Tryd.underlying9]
    rfl
  · have hl : (loadCells a k).run Tryd.prog w = .ok ((l.map fun (x : Nat) => (x : Int)).map (Value.int .u8)).toArray w := by
      have := run_loadCells_list (P := Tryd.prog) w a (cn .u8 l) (fun j v hj => by
        have hjl := (List.getElem?_eq_some_iff.1 hj).1
        rw [cn_length] at hjl
        obtain ⟨x, hx⟩ := get_some hjl
        rw [cn_get hx] at hj
        injection hj with hj
        obtain ⟨ad, e, _, hc⟩ := h.2 (by rw [← h.1]; omega)
        injection e with e
        subst e
        rw [← hj]
        exact hc j x hx)
      rw [cn_length, h.1] at this
      rw [this]
      simp [cn, Function.comp_def]
    rw [run_convert_bytes_string w 22 9 5 _ k cap Tryd.underlying22 Tryd.underlying5 Tryd.underlying9, run_bytesToString w _ k cap (l.map fun (x : Nat) => (x : Int)) hl, foldl_push_bytes]
    simp [str, strOfNums, ByteArray.empty, ByteArray.emptyWithCapacity]
    rfl
end Go.Proofs.YtojpbfkdkkdpcaaDoor
