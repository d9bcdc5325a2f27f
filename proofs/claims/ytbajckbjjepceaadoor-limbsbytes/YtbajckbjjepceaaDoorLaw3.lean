/-
  Bytes in memory as a string; Bytes and From at numbers spelt as they come.
-/
import Derived.Test.YtbajckbjjepceaaDoorLaw2
namespace Go.Proofs.YtbajckbjjepceaaDoor
open Go.RowKit
set_option linter.unusedVariables false
set_option linter.unusedSimpArgs false

/-- Bytes as the walk's string. -/
def str (l : List Nat) : ByteArray := strOfNums (l.map fun (x : Nat) => (x : Int))
theorem rd_str {w : World} {A : Option Addr} {k : Nat} {l : List Nat} (h : Rd .u8 w A k l) (cap : Nat) : (convert 22 9 (.slice A k cap)).run Tryd.prog w = .ok (.string (str l)) w := by
  rcases A with _ | a
  · have hl : l = [] := by
      rcases Nat.eq_zero_or_pos k with h0 | h0
      · exact List.eq_nil_of_length_eq_zero (by rw [h.1]; exact h0)
      · obtain ⟨_, e, _⟩ := h.2 h0; cases e
    subst hl
    rw [run_convert_bytes_nil (P := Tryd.prog) w 22 5 Tryd.underlying22 Tryd.underlying5 k cap 9 Tryd.underlying9]
    rfl
  · have hl : (loadCells a k).run Tryd.prog w = .ok ((l.map fun (x : Nat) => (x : Int)).map (Value.int .u8)).toArray w := by
      have := run_loadCells_list (P := Tryd.prog) w a (cn .u8 l) (fun j v hj => by
        have hjl := (List.getElem?_eq_some_iff.1 hj).1
        rw [cn_length] at hjl
        obtain ⟨x, hx⟩ := get_some hjl
        rw [cn_get hx] at hj
        injection hj with hj
        obtain ⟨ad, e, _, hc⟩ := h.2 (by rw [← h.1]; omega)
        injection e with e
        subst e
        rw [← hj]
        exact hc j x hx)
      rw [cn_length, h.1] at this
      rw [this]
      simp [cn, Function.comp_def]
    rw [run_convert_bytes_string w 22 9 5 _ k cap Tryd.underlying22 Tryd.underlying5 Tryd.underlying9, run_bytesToString w _ k cap (l.map fun (x : Nat) => (x : Int)) hl, foldl_push_bytes]
    simp [str, strOfNums, ByteArray.empty, ByteArray.emptyWithCapacity]
    rfl
theorem Bytes_okz (A : Option Addr) (n cap : Nat) (l : List Nat) (size : Nat) (z : Int) (hz : z = size) (w : World) (h : Rd .u32 w A n l) (hf : Fit 4294967296 l) (h1 : 1 ≤ n) (h2 : n ≤ 256) (hs : size ≤ 1024) (hb : val 4294967296 l < 256 ^ size) :
    Calls Tryd.prog 15 #[.slice A n cap, .int .i64 z] w fun e w' => ∃ g, e = .returned (.tuple #[.slice (some ⟨g, 0, none⟩) size size, .int .i64 0]) ∧ Blk w' g 5 (cn .u8 (bytesOf size (val 4294967296 l))) ∧ Below w.heap.size w w' := by
  subst hz; exact Bytes_ok A n cap l size w h hf h1 h2 hs hb
theorem From_bigz (A : Option Addr) (n cap : Nat) (l : List Nat) (W : Nat) (z : Int) (hz : z = W) (w : World) (h : Rd .u8 w A n l) (hf : Fit 256 l) (hn : n ≤ cap) (hm : cap ≤ maxLen) (hn2 : n ≤ 10000) (h1 : 1 ≤ W) (h2 : W ≤ 256) (hb : 4294967296 ^ W ≤ vbe l) :
    Calls Tryd.prog 12 #[.slice A n cap, .int .i64 z] w fun e w' => e = .returned (.tuple #[.slice none 0 0, .int .i64 11]) ∧ w = w' := by
  subst hz; exact From_big A n cap l W w h hf hn hm hn2 h1 h2 hb
end Go.Proofs.YtbajckbjjepceaaDoor
