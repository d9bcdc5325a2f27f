/-
  The document's long sum: what it answers.
-/
import Derived.Test.YtfoenafjaaidmaaDoorLnA
import Derived.Laws.AppendOwnNone
import Derived.StillTailTactics
namespace Go.Proofs.YtfoenafjaaidmaaDoorLn
set_option maxRecDepth 100000
open Go.RowKit
set_option linter.unusedVariables false

/-- A slice that the call has made, of n cells, in a block from B on (or nil). -/
def Row (w : World) (B : Nat) (e : TypeId) (A : Option Addr) (n cap : Nat) (xs : List Value) : Prop := w.ownsRow B e 1 (.slice A n cap) n xs
theorem Row.length {w : World} {B : Nat} {e : TypeId} {A : Option Addr} {n cap : Nat} {xs : List Value} (h : Row w B e A n cap xs) : xs.length = n := by
  have := h.1; omega
theorem Row.below {w w' : World} {B : Nat} {e : TypeId} {A : Option Addr} {n cap : Nat} {xs : List Value} (h : Row w B e A n cap xs) (hb : Below w.heap.size w w') : Row w' B e A n cap xs :=
  World.ownsRow.kept h (only_of_below hb none) (by cases hv : (Value.slice A n cap).ownBlock <;> simp)
theorem Row.grown {w w' : World} {B : Nat} {e : TypeId} {A : Option Addr} {n cap : Nat} {xs : List Value} {g : Nat} (h : Row w B e A n cap xs) (hb : w.grownBy w' (some g)) (hne : ∀ ad, A = some ad → ad.block ≠ g) : Row w' B e A n cap xs := by
  refine World.ownsRow.kept h hb ?_
  rcases A with _ | ad
  · exact .inl rfl
  · exact .inr (fun e => hne ad rfl (by injection e))
theorem Row.mono {w : World} {B B' : Nat} {e : TypeId} {A : Option Addr} {n cap : Nat} {xs : List Value} (h : Row w B e A n cap xs) (hb : B' ≤ B) : Row w B' e A n cap xs :=
  ⟨h.1, h.2.imp id fun ⟨g, cap, cur, h1, h2, h3⟩ => ⟨g, cap, cur, h1, Nat.le_trans hb h2, h3⟩⟩
theorem Row.lt {w : World} {B : Nat} {e : TypeId} {A : Option Addr} {n cap : Nat} {xs : List Value} (h : Row w B e A n cap xs) (ad : Addr) (ha : A = some ad) : B ≤ ad.block ∧ ad.block < w.heap.size :=
  World.ownsRow.lt h ad.block (by rw [ha]; rfl)
theorem Row.cells {w : World} {B : Nat} {e : TypeId} {A : Option Addr} {n cap : Nat} {xs : List Value} (h : Row w B e A n cap xs) (hn : 0 < n) : ∃ g, A = some ⟨g, 0, none⟩ ∧ B ≤ g ∧ g < w.heap.size ∧ ∀ j u, xs[j]? = some u → w.cell? ⟨g, j, none⟩ = some u := by
  obtain ⟨g, cap', hv, hb, hlt⟩ := World.ownsRow.form h hn
  have hA : A = some ⟨g, 0, none⟩ := by injection hv
  subst hA
  exact ⟨g, rfl, hb, hlt, fun j u hu => by have := World.ownsRow.cells h (g := g) rfl j u hu; rwa [addr_add, Nat.zero_add] at this⟩
theorem Row.le {w : World} {B : Nat} {e : TypeId} {A : Option Addr} {n cap : Nat} {xs : List Value} (h : Row w B e A n cap xs) : n ≤ cap ∧ cap ≤ maxLen := by
  rcases h.2 with ⟨hv, h0⟩ | ⟨g, cap', cur, hv, _, _, hnc, hm, _⟩
  · injection hv with _ h1 h2; omega
  · injection hv with _ h1 h2; omega
theorem Row.seg {w : World} {B : Nat} {A : Option Addr} {n cap : Nat} {l : List UInt8} (h : Row w B 5 A n cap (cb l)) : Seg w A n l := by
  refine ⟨by have := h.length; rwa [cb_length] at this, fun hn => ?_⟩
  obtain ⟨g, rfl, _, hlt, hc⟩ := h.cells hn
  exact ⟨_, rfl, hlt, fun j v hv => by rw [addr_add, Nat.zero_add]; exact hc j v hv⟩
theorem Row.lit (w : World) (e : TypeId) (cs : List Value) (B : Nat) (hB : B ≤ w.heap.size) (hm : cs.length ≤ maxLen) : Row (w.alloc (.cells cs.toArray e)) B e (some ⟨w.heap.size, 0, none⟩) cs.length cs.length cs := by
  have := World.ownsRow_lit (base := B) (e := e) (size := 1) w cs.toArray cs.length hB hm (by simp)
  unfold Row
  simpa using this
theorem Row.nil (w : World) (B : Nat) (e : TypeId) : Row w B e none 0 0 [] := World.ownsRow_nil w B e 1

theorem run_app {t ty e : TypeId} {i : TypeInfo} {z : Value} {bytes : Nat} (ht : Tryd.prog.underlying t = some (.slice e)) (hi : Tryd.prog.info? e = some i) (hz : i.zero = some z) (hsize : i.size = 1) (hby : i.bytes = bytes) (hzs : z.cells.size = 1) (hb8 : bytes ≤ 8)
    {B : Nat} {w0 w : World} (hbel : Below B w0 w) (hB : B ≤ w.heap.size) {A : Option Addr} {n cap : Nat} {xs : List Value} (hrow : Row w B e A n cap xs) {A2 : Option Addr} {m c2 : Nat} {news : List Value} (hl : news.length = m)
    (hsrc : A2 = none ∧ c2 = 0 ∨ ∃ ad, A2 = some ad ∧ ∀ j u, news[j]? = some u → w.cell? (ad.add j) = some u) (h1 : ∀ u ∈ news, u.oneCell' = true) (hm0 : A2 = none → m = 0) (hnm : n + m ≤ 1000000) :
    ∃ A' cap' w', (Builtin.append_ #[t, t] ty #[.slice A n cap, .slice A2 m c2]).run Tryd.prog w = .ok (.slice A' (n + m) cap') w' ∧ Row w' B e A' (n + m) cap' (xs ++ news) ∧ Below B w0 w' ∧ w.heap.size ≤ w'.heap.size := by
  rcases hsrc with ⟨rfl, rfl⟩ | ⟨ad, rfl, hc⟩
  · obtain rfl := hm0 rfl
    obtain rfl : news = [] := List.eq_nil_of_length_eq_zero hl
    exact ⟨A, cap, w, run_append_owned_none (P := Tryd.prog) (w := w) B t ty e i 1 ht hi _ n xs hrow, by simpa using hrow, hbel, Nat.le_refl _⟩
  · obtain ⟨v', w', hrun, hown, hg, hnil, hat⟩ := run_append_own_at (P := Tryd.prog) w B t ty e i z 1 bytes ht hi hz hsize hby hzs (by omega) _ n xs hrow ad m c2 news (by omega) hc h1 (by unfold maxLen; omega) (by
      have : (n + m) * bytes ≤ 1000000 * 8 := Nat.mul_le_mul hnm hb8
      omega) hB
    have hform : ∃ A' cap', v' = .slice A' (n + m) cap' := by
      rcases hown.2 with ⟨rfl, h0⟩ | ⟨g, cap', cur, rfl, _⟩
      · exact ⟨none, 0, by rw [h0]⟩
      · exact ⟨_, _, rfl⟩
    obtain ⟨A', cap', rfl⟩ := hform
    refine ⟨A', cap', w', hrun, hown, below_only hbel hg hB (fun j hj => ?_), hg.size⟩
    exact (World.ownsRow.lt hrow j hj).1

theorem wpList_app {ops : Array Oper} {rest : List Oper} {o : Oper} {a : Act} {w : World} {Q : Exit → Act → World → Prop} (hgd : o.guard = none) (s x : Operand) (t e : TypeId) (ho : o.op = .call { callee := .builtin .append, args := #[s, x], argTypes := #[t, t] })
    {i : TypeInfo} {z : Value} {bytes : Nat} (ht : Tryd.prog.underlying t = some (.slice e)) (hi : Tryd.prog.info? e = some i) (hz : i.zero = some z) (hsize : i.size = 1) (hby : i.bytes = bytes) (hzs : z.cells.size = 1) (hb8 : bytes ≤ 8)
    {B : Nat} {w0 : World} (hbel : Below B w0 w) (hB : B ≤ w.heap.size) {A : Option Addr} {n cap : Nat} {xs : List Value} (hs : a.eval s = .slice A n cap) (hrow : Row w B e A n cap xs) {A2 : Option Addr} {m c2 : Nat} {news : List Value} (hx : a.eval x = .slice A2 m c2) (hl : news.length = m)
    (hsrc : A2 = none ∧ c2 = 0 ∨ ∃ ad, A2 = some ad ∧ ∀ j u, news[j]? = some u → w.cell? (ad.add j) = some u) (h1 : ∀ u ∈ news, u.oneCell' = true) (hm0 : A2 = none → m = 0) (hnm : n + m ≤ 1000000) (N : Nat) (hN : n + m = N)
    (h : ∀ A' cap' w', Hid (Row w' B e A' N cap' (xs ++ news)) → Below B w0 w' → B ≤ w'.heap.size → wpList Tryd.prog ops Q rest (a.put o.dst (.slice A' N cap')) w') : wpList Tryd.prog ops Q (o :: rest) a w := by
  subst hN
  obtain ⟨A', cap', w', hrun, hr, hb, hsz⟩ := run_app (ty := o.type) ht hi hz hsize hby hzs hb8 hbel hB hrow hl hsrc h1 hm0 hnm
  refine wpList_plain hgd fun K hK => ?_
  unfold Oper.wp
  simp [execOp, ho, resolve, invoke, builtin, hs, hx, hrun, Result.andThen]
  exact hK _ _ (h A' cap' w' hr hb (by omega))

/-- One byte more, one word more: what stands in the source that the walk has just built. -/
theorem one_src (w : World) (x : Value) (t : TypeId) : (some (⟨w.heap.size, 0, none⟩ : Addr) = none ∧ 1 = 0) ∨ ∃ ad, some (⟨w.heap.size, 0, none⟩ : Addr) = some ad ∧ ∀ j u, [x][j]? = some u → (w.alloc (.cells #[x] t)).cell? (ad.add j) = some u :=
  .inr ⟨_, rfl, cell_one_new w x t⟩
theorem wpList_appByte {ops : Array Oper} {rest : List Oper} {o : Oper} {a : Act} {w : World} {Q : Exit → Act → World → Prop} (hgd : o.guard = none) (s x : Operand) (ho : o.op = .call { callee := .builtin .append, args := #[s, x], argTypes := #[22, 22] })
    {B : Nat} {w0 : World} (hbel : Below B w0 w) (hB : B ≤ w.heap.size) {A : Option Addr} {n cap : Nat} {l : List UInt8} (b : UInt8) (y : Int) (hy : y = ub b) (hs : a.eval s = .slice A n cap) (hrow : Row w B 5 A n cap (cb l)) (hx : a.eval x = .slice (some ⟨w.heap.size, 0, none⟩) 1 1) (hn : n < 1000000) (N : Nat) (hN : n + 1 = N)
    (h : ∀ A' cap' w', Hid (Row w' B 5 A' N cap' (cb (l ++ [b]))) → Below B w0 w' → B ≤ w'.heap.size → wpList Tryd.prog ops Q rest (a.put o.dst (.slice A' N cap')) w') : wpList Tryd.prog ops Q (o :: rest) a (w.alloc (.cells #[.int .u8 y] 5)) := by
  obtain ⟨i0, hi, hz0, hz1, hz2⟩ := info_parts byteInfo
  subst hy
  refine wpList_app hgd s x 22 5 ho Tryd.underlying22 hi hz0 hz1 hz2 rfl (by omega) (hbel.alloc hB _) (by simp; omega) hs (World.ownsRow.alloc hrow _) hx (news := [.int .u8 (ub b)]) rfl (one_src w _ _) (by intro u hu; rw [List.mem_singleton.1 hu]; rfl) (fun e => by cases e) (by omega) N hN ?_
  intro A' cap' w' hr hb hB'
  refine h A' cap' w' ?_ hb hB'
  have := hr.out
  show Row _ _ _ _ _ _ _
  simpa [cb] using this
theorem wpList_appWord {ops : Array Oper} {rest : List Oper} {o : Oper} {a : Act} {w : World} {Q : Exit → Act → World → Prop} (hgd : o.guard = none) (s x : Operand) (ho : o.op = .call { callee := .builtin .append, args := #[s, x], argTypes := #[91, 91] })
    {B : Nat} {w0 : World} (hbel : Below B w0 w) (hB : B ≤ w.heap.size) {A : Option Addr} {n cap : Nat} {l : List W64} (b : W64) (y : Int) (hy : y = ui b) (hs : a.eval s = .slice A n cap) (hrow : Row w B 90 A n cap (cw l)) (hx : a.eval x = .slice (some ⟨w.heap.size, 0, none⟩) 1 1) (hn : n < 1000000) (N : Nat) (hN : n + 1 = N)
    (h : ∀ A' cap' w', Hid (Row w' B 90 A' N cap' (cw (l ++ [b]))) → Below B w0 w' → B ≤ w'.heap.size → wpList Tryd.prog ops Q rest (a.put o.dst (.slice A' N cap')) w') : wpList Tryd.prog ops Q (o :: rest) a (w.alloc (.cells #[.int .u64 y] 90)) := by
  obtain ⟨i0, hi, hz0, hz1, hz2⟩ := info_parts wordInfo
  subst hy
  refine wpList_app hgd s x 91 90 ho Tryd.underlying91 hi hz0 hz1 hz2 rfl (by omega) (hbel.alloc hB _) (by simp; omega) hs (World.ownsRow.alloc hrow _) hx (news := [.int .u64 (ui b)]) rfl (one_src w _ _) (by intro u hu; rw [List.mem_singleton.1 hu]; rfl) (fun e => by cases e) (by omega) N hN ?_
  intro A' cap' w' hr hb hB'
  refine h A' cap' w' ?_ hb hB'
  have := hr.out
  show Row _ _ _ _ _ _ _
  simpa [cw] using this
/-- The same as one step of a region that draws its order. -/
theorem step_appWord {ops : Array Oper} {o : Oper} {a : Act} {w : World} {K : Act → World → Prop} {Q : Exit → Act → World → Prop} {E : Prop} (hgd : o.guard = none) (s x : Operand) (ho : o.op = .call { callee := .builtin .append, args := #[s, x], argTypes := #[91, 91] })
    {B : Nat} {w0 : World} (hbel : Below B w0 w) (hB : B ≤ w.heap.size) {A : Option Addr} {n cap : Nat} {l : List W64} (b : W64) (hs : a.eval s = .slice A n cap) (hrow : Row w B 90 A n cap (cw l)) (g2 : Nat) (hx : a.eval x = .slice (some ⟨g2, 0, none⟩) 1 1) (hc : w.cell? ⟨g2, 0, none⟩ = some (.int .u64 (ui b))) (hn : n < 1000000) (N : Nat) (hN : n + 1 = N)
    (h : ∀ A' cap' w', Hid (Row w' B 90 A' N cap' (cw (l ++ [b]))) → Below B w0 w' → B ≤ w'.heap.size → K (a.put o.dst (.slice A' N cap')) w') :
    if Region.wanted o (yielded ops a.tmps) = true then Oper.wp Tryd.prog o a w K Q else E := by
  obtain ⟨i0, hi, hz0, hz1, hz2⟩ := info_parts wordInfo
  have hw : Region.wanted o (yielded ops a.tmps) = true := by simp [Region.wanted, hgd]
  rw [if_pos hw]
  obtain ⟨A', cap', w', hrun, hr, hb, hsz⟩ := run_app (ty := o.type) (A2 := some ⟨g2, 0, none⟩) (m := 1) (c2 := 1) (news := [.int .u64 (ui b)]) Tryd.underlying91 hi hz0 hz1 hz2 rfl (by omega) hbel hB hrow rfl (.inr ⟨_, rfl, fun j u hj => by
    match j, hj with
    | 0, hj => rw [addr_add]; simp at hj; subst hj; exact hc⟩) (by intro u hu; rw [List.mem_singleton.1 hu]; rfl) (fun e => by cases e) (by omega)
  subst hN
  unfold Oper.wp
  simp [execOp, ho, resolve, invoke, builtin, hs, hx, hrun, Result.andThen]
  refine h A' cap' w' ?_ hb (by omega)
  show Row _ _ _ _ _ _ _
  simpa [cw] using hr
theorem one_cell (w : World) (v : Value) (t : TypeId) : (w.alloc (.cells #[v] t)).drew.cell? ⟨w.heap.size, 0, none⟩ = some v := by
  rw [show (w.alloc (.cells #[v] t)).drew.cell? ⟨w.heap.size, 0, none⟩ = (w.alloc (.cells #[v] t)).cell? ⟨w.heap.size, 0, none⟩ from rfl, cell_of_row _ _ _ _ _ _ (heap_alloc_new w _)]
  rfl
theorem Row.allocDrew {w : World} {B : Nat} {e : TypeId} {A : Option Addr} {n cap : Nat} {xs : List Value} (h : Row w B e A n cap xs) (o : Obj) : Row (w.alloc o).drew B e A n cap xs := World.ownsRow.alloc h o
theorem below_allocDrew {B : Nat} {w0 w : World} (h : Below B w0 w) (hB : B ≤ w.heap.size) (o : Obj) : Below B w0 (w.alloc o).drew ∧ B ≤ (w.alloc o).drew.heap.size := by
  have := h.alloc hB o
  exact ⟨⟨this.os, this.tape, this.output, this.size, this.block⟩, by show B ≤ (w.alloc o).heap.size; simp; omega⟩
end Go.Proofs.YtfoenafjaaidmaaDoorLn

namespace Go.Proofs.YtfoenafjaaidmaaDoorLn
set_option maxRecDepth 100000
open Go.RowKit
set_option linter.unusedVariables false

set_option maxHeartbeats 4000000 in
set_option maxRecDepth 100000 in
theorem constants_any (w : World) : Calls Tryd.prog 68 #[] w fun e w' => e = .returned (.slice (some ⟨w.heap.size, 0, none⟩) 80 80) ∧ Blk w' w.heap.size 90 (cw kTab) ∧ Below w.heap.size w w' := by
  go_enter Tryd.func68, Tryd.ntmps68
  go_wp2
  go_ret
  exact ⟨rfl, heap_alloc_new _ _, (Below.refl _ _).alloc (Nat.le_refl _) _⟩

end Go.Proofs.YtfoenafjaaidmaaDoorLn

namespace Go.Proofs.YtfoenafjaaidmaaDoorLn
set_option maxRecDepth 100000
open Go.RowKit
set_option linter.unusedVariables false

/-- The text when k noughts stand behind the mark; when k bytes of the length do. -/
def padZ (l : List UInt8) (k : Nat) : List UInt8 := l ++ 128 :: List.replicate k 0
def padL (l : List UInt8) (k : Nat) : List UInt8 := padZ l (noughts l.length + 8) ++ (be64 (8 * l.length)).take k
theorem padZ_snoc (l : List UInt8) (k : Nat) : padZ l k ++ [0] = padZ l (k + 1) := by
  simp [padZ, List.replicate_succ', List.append_assoc]
theorem padL_all (l : List UInt8) : padL l 8 = padded l := by
  unfold padL padZ padded padOf
  rw [List.take_of_length_le (by rw [be64_length]; omega), ← List.replicate_append_replicate]
  simp
theorem be64_get (n i : Nat) (h : i < 8) : (be64 n)[i]? = some (UInt8.ofNat (n / 2 ^ (8 * (7 - i)))) := by
  simp [be64, h]
theorem padL_snoc (l : List UInt8) (k : Nat) (hk : k < 8) : padL l k ++ [UInt8.ofNat (8 * l.length / 2 ^ (8 * (7 - k)))] = padL l (k + 1) := by
  unfold padL
  rw [List.append_assoc, List.take_add_one, be64_get _ _ hk]
  rfl
theorem padZ_length (l : List UInt8) (k : Nat) : (padZ l k).length = l.length + 1 + k := by simp [padZ]; omega
theorem ub_len (n k : Nat) : ((n : Int) * 8 / 2 ^ k) % 256 = ub (UInt8.ofNat (8 * n / 2 ^ k)) := by
  have := ub_nat (8 * n) k
  rw [← this, show ((8 * n : Nat) : Int) = (n : Int) * 8 by omega]

theorem noughts_more (n k : Nat) (h : k < noughts n) : ((n + 1 + k : Nat) : Int) % 128 ≠ 112 := by unfold noughts at h; omega
theorem noughts_done (n k : Nat) (h : k = noughts n) : ((n + 1 + k : Nat) : Int) % 128 = 112 := by unfold noughts at h; omega

set_option maxHeartbeats 1000000 in
theorem padded_any (A : Option Addr) (n cap : Nat) (l : List UInt8) (w : World) (hs : Seg w A n l) (hA : A = none → cap = 0) (hn : n < 100000) :
    Calls Tryd.prog 53 #[.slice A n cap] w fun e w' => ∃ A' N cap', e = .returned (.slice A' N cap') ∧ Row w' w.heap.size 5 A' N cap' (cb (padded l)) ∧ Below w.heap.size w w' := by
  obtain ⟨i0, hi0, hz0, hz1, hz2⟩ := info_parts byteInfo
  have HI := Lib.hid hi0
  have HZ0 := Lib.hid hz0
  have HZ1 := Lib.hid hz1
  have HZ2 := Lib.hid hz2
  have HS := Lib.hid hs
  have HA := Lib.hid hA
  clear hs hi0 hz0 hz1 hz2 hA
  have hsrc : (A = none ∧ cap = 0) ∨ ∃ ad, A = some ad ∧ ∀ j u, (cb l)[j]? = some u → (w.alloc (.cells #[] 5)).cell? (ad.add j) = some u := by
    rcases A with _ | ad
    · exact .inl ⟨rfl, HA.out rfl⟩
    · refine .inr ⟨ad, rfl, fun j u hu => ?_⟩
      have hj := (List.getElem?_eq_some_iff.1 hu).1
      rw [cb_length, HS.out.1] at hj
      obtain ⟨ad', e, hlt, hc⟩ := HS.out.2 (by omega)
      injection e with e
      subst e
      rw [World.cell?_alloc_lt _ _ _ (by rw [block_add]; exact hlt)]
      exact hc j u hu
  have hm0 : A = none → n = 0 := by
    intro e
    rcases Nat.eq_zero_or_pos n with h0 | h0
    · exact h0
    · obtain ⟨ad, e', _⟩ := HS.out.2 h0
      rw [e] at e'
      cases e'
  have hlen : (cb l).length = n := by rw [cb_length]; exact HS.out.1
  have HSRC := Lib.hid hsrc
  have HM0 := Lib.hid hm0
  have HLEN := Lib.hid hlen
  have R0 : Row (w.alloc (.cells #[] 5)) w.heap.size 5 (some ⟨w.heap.size, 0, none⟩) 0 0 [] := Row.lit w 5 [] w.heap.size (Nat.le_refl _) (by simp)
  have HR0 := Lib.hid R0
  have b0 : Below w.heap.size w (w.alloc (.cells #[] 5)) := (Below.refl _ _).alloc (Nat.le_refl _) _
  have HB0 := Lib.hid b0
  obtain ⟨N1, hN1⟩ : ∃ N1, n + 1 = N1 := ⟨_, rfl⟩
  have HN1 := Lib.hid hN1
  have bn1 : N1 ≤ 100000 := by omega
  have bn2 : 1 ≤ N1 := by omega
  clear hsrc hm0 hlen R0 b0 hN1
  go_enter Tryd.func53, Tryd.ntmps53
  go_wp2_with (first
    | ((with_reducible refine at_dst (some 9) ?_); refine wpList_app (o := ⟨some 9, _, _, _, _, _⟩) rfl (.tmp 7) (.tmp 8) 22 5 rfl Tryd.underlying22 HI.out HZ0.out HZ1.out HZ2.out rfl (by omega) HB0.out (by simp) rfl HR0.out rfl HLEN.out HSRC.out (cb_one l) HM0.out (by omega) n (Nat.zero_add n) ?_; intro A1 cap1 w1 hr1 hb1 hB1)
    | ((with_reducible refine at_dst (some 12) ?_); refine wpList_appByte (o := ⟨some 12, _, _, _, _, _⟩) rfl (.tmp 10) (.tmp 11) rfl hb1 hB1 (l := l) 128 128 rfl rfl hr1.out rfl (by omega) N1 HN1.out ?_; intro A2 cap2 w2 hr2 hb2 hB2))
  have hq := noughts_lt n
  obtain ⟨q, hqe⟩ : ∃ q, q = noughts n := ⟨_, rfl⟩
  rw [← hqe] at hq
  have HQ := Lib.hid hqe
  have R2 : Row w2 w.heap.size 5 A2 N1 cap2 (cb (padZ l 0)) := hr2.out
  have HR2 := Lib.hid R2
  clear hqe R2 hr2 hr1 hb1 hB1 HR0 HB0 HSRC HM0 HLEN
  go_loopw [3] (fun v wr => ∃ (k : Nat) (A3 : Option Addr) (M cap3 : Nat), k ≤ q ∧ M = N1 + k ∧ v = .slice A3 M cap3 ∧ Row wr w.heap.size 5 A3 M cap3 (cb (padZ l k)) ∧ Below w.heap.size w wr ∧ w.heap.size ≤ wr.heap.size) (fun v _ => N1 + 128 - lenOfV v)
  case atStart => exact ⟨0, A2, N1, cap2, by omega, rfl, rfl, HR2.out, hb2, hB2⟩
  case round =>
    obtain ⟨k, A3, M, cap3, hk, hM, rfl, hr3, hb3, hB3⟩ := hrel
    have HR3 := Lib.hid hr3
    have HM := Lib.hid hM
    have bm : M ≤ 200000 := by omega
    by_cases hkq : k < q
    · have hd : (((M : Int) % 128) != 112) = true := by
        have := noughts_more n k (by rw [← HQ.out]; exact hkq)
        rw [show n + 1 + k = M by have := HN1.out; omega] at this
        simpa using this
      obtain ⟨M2, hM2⟩ : ∃ M2, M + 1 = M2 := ⟨_, rfl⟩
      have HM2 := Lib.hid hM2
      clear hr3 hM hM2
      go_wp2_with (first
        | ((with_reducible refine at_dst (some 19) ?_); refine wpList_appByte (o := ⟨some 19, _, _, _, _, _⟩) rfl (.tmp 17) (.tmp 18) rfl hb3 hB3 (l := padZ l k) 0 0 rfl rfl HR3.out rfl (by omega) M2 HM2.out ?_; intro A4 cap4 w4 hr4 hb4 hB4))
      go_roundw
      case rel =>
        refine ⟨k + 1, A4, M2, cap4, by omega, by have := HM.out; have := HM2.out; omega, rfl, ?_, hb4, hB4⟩
        rw [← padZ_snoc]; exact hr4.out
      case measure => have := HM.out; have := HM2.out; simp [lenOfV]; omega
    · have hd : (((M : Int) % 128) != 112) = false := by
        have := noughts_done n k (by rw [← HQ.out]; omega)
        rw [show n + 1 + k = M by have := HN1.out; omega] at this
        simpa using this
      have R5 : Row wr w.heap.size 5 A3 M cap3 (cb (padZ l (noughts l.length + 0))) := by
        have := HR3.out
        rw [show k = noughts l.length by rw [HS.out.1, ← HQ.out]; omega] at this
        exact this
      have HR5 := Lib.hid R5
      clear hr3 hM R5
      go_wp2
      rename World => w5
      go_loopw [4, 3] (fun i v wr => ∃ (j : Nat) (A6 : Option Addr) (M6 cap6 : Nat), j ≤ 8 ∧ M6 = M + j ∧ i = .int .i64 (j : Int) ∧ v = .slice A6 M6 cap6 ∧ Row wr w.heap.size 5 A6 M6 cap6 (cb (padZ l (noughts l.length + j))) ∧ Below w.heap.size w wr ∧ w.heap.size ≤ wr.heap.size) (fun i _ _ => 8 - (intOf i).toNat)
      case atStart => exact ⟨0, A3, M, cap3, by omega, rfl, rfl, rfl, HR5.out, hb3, hB3⟩
      case round =>
       obtain ⟨j0, A3, M3, cap3, hj0, hM3, rfl, rfl, hr30, hb3, hB3⟩ := hrel
       have HR30 := Lib.hid hr30
       have HM3 := Lib.hid hM3
       have bm3 : M3 ≤ 210000 := by omega
       clear hr30 hM3
       by_cases hj08 : j0 < 8
       · obtain ⟨M7, hM7⟩ : ∃ M7, M3 + 1 = M7 := ⟨_, rfl⟩
         have HM7 := Lib.hid hM7
         clear hM7 HR5 HR3
         go_wp2_with (first
           | ((with_reducible refine at_dst (some 26) ?_); refine wpList_appByte (o := ⟨some 26, _, _, _, _, _⟩) rfl (.tmp 24) (.tmp 25) rfl hb3 hB3 (l := padZ l (noughts l.length + j0)) 0 0 rfl rfl HR30.out rfl (by omega) M7 HM7.out ?_; intro A4 cap4 w4 hr4 hb4 hB4))
         go_roundw
         case rel =>
           refine ⟨j0 + 1, A4, M7, cap4, by omega, by have := HM3.out; have := HM7.out; omega, by go_num, rfl, ?_, hb4, hB4⟩
           rw [← Nat.add_assoc, ← padZ_snoc]; exact hr4.out
         case measure => simp [intOf]; omega
       · have R6 : Row wr w.heap.size 5 A3 M3 cap3 (cb (padL l 0)) := by
           have := HR30.out
           rw [show j0 = 8 by omega] at this
           unfold padL
           rw [List.take_zero, List.append_nil]
           exact this
         have HR5 := Lib.hid R6
         clear R6
         go_wp2
         rename World => w6
         go_loopw [6, 3] (fun i v wr => ∃ (j : Nat) (A6 : Option Addr) (M6 cap6 : Nat), j ≤ 8 ∧ M6 + j = M3 + 8 ∧ i = .int .i64 ((j : Int) - 1) ∧ v = .slice A6 M6 cap6 ∧ Row wr w.heap.size 5 A6 M6 cap6 (cb (padL l (8 - j))) ∧ Below w.heap.size w wr ∧ w.heap.size ≤ wr.heap.size) (fun i _ _ => (intOf i + 1).toNat)
         case atStart => exact ⟨8, A3, M3, cap3, by omega, by omega, rfl, rfl, HR5.out, hb3, hB3⟩
         case round =>
           obtain ⟨j, A6, M6, cap6, hj, hM6, hi, rfl, hr6, hb6, hB6⟩ := hrel
           have HR6 := Lib.hid hr6
           have HM6 := Lib.hid hM6
           have bm6 : M6 ≤ 300000 := by omega
           clear hr6 hM6
           rcases j with _ | j
           · subst hi
             go_wp2
             go_ret
             refine ⟨A6, M6, cap6, rfl, ?_, hb6⟩
             have := HR6.out
             rw [show 8 - 0 = 8 from rfl, padL_all] at this
             exact this
           · have ej : ((j + 1 : Nat) : Int) - 1 = (j : Int) := by omega
             rw [ej] at hi
             subst hi
             clear ej
             obtain ⟨M7, hM7⟩ : ∃ M7, M6 + 1 = M7 := ⟨_, rfl⟩
             have HM7 := Lib.hid hM7
             clear hM7
             have hy : (n : Int) * 8 / 2 ^ (8 * j) % 256 = ub (UInt8.ofNat (8 * l.length / 2 ^ (8 * (7 - (8 - (j + 1)))))) := by
               rw [show 7 - (8 - (j + 1)) = j by omega, HS.out.1]
               exact ub_len n (8 * j)
             have HY := Lib.hid hy
             clear hy
             go_wp2_with (first
               | ((with_reducible refine at_dst (some 42) ?_); refine wpList_appByte (o := ⟨some 42, _, _, _, _, _⟩) rfl (.tmp 35) (.tmp 41) rfl hb6 hB6 (l := padL l (8 - (j + 1))) _ _ HY.out rfl HR6.out rfl (by omega) M7 HM7.out ?_; intro A8 cap8 w8 hr8 hb8 hB8))
             go_roundw
             case rel =>
               refine ⟨j, A8, M7, cap8, by omega, by have := HM6.out; have := HM7.out; omega, rfl, rfl, ?_, hb8, hB8⟩
               rw [show 8 - j = 8 - (j + 1) + 1 by omega, ← padL_snoc l _ (by omega)]
               exact hr8.out
             case measure => simp [intOf]
end Go.Proofs.YtfoenafjaaidmaaDoorLn

namespace Go.Proofs.YtfoenafjaaidmaaDoorLn
set_option maxRecDepth 100000
open Go.RowKit
set_option linter.unusedVariables false

theorem quiet_more {P : Program} {f : FuncId} {args : Array Value} {w : World} {a n : Nat} {v : Value}
    (h : Calls P f args (w.drewN (a + n)) fun e w' => e = .returned v ∧ ∃ m, w' = (w.drewN (a + n)).drewN m) : Calls P f args (w.drewN (a + n)) fun e w'' => e = .returned v ∧ ∃ m, w'' = w.drewN (a + m) :=
  h.mono fun _ _ ⟨he, m, hm⟩ => ⟨he, n + m, by rw [hm, World.drewN_drewN, Nat.add_assoc]⟩
theorem right_int (x : W64) (z : Int) (w : World) (h1 : 1 ≤ z) (h2 : z ≤ 63) :
    Calls Tryd.prog 69 #[.int .u64 (ui x), .int .i64 z] w fun e w' => e = .returned (.int .u64 (ui (rotr x z.toNat))) ∧ ∃ n, w' = w.drewN n := by
  have := right_any x z.toNat w (by omega) (by omega)
  rwa [Int.toNat_of_nonneg (by omega)] at this
theorem ui_shr7 (x : W64) : ui x / (128 : Int) = ui (x >>> 7) := ui_shr x 7
theorem ui_shr7p (x : W64) : ui x / (2 : Int) ^ 7 = ui (x >>> 7) := ui_shr x 7
theorem ui_shr6 (x : W64) : ui x / (64 : Int) = ui (x >>> 6) := ui_shr x 6
theorem ui_shr6p (x : W64) : ui x / (2 : Int) ^ 6 = ui (x >>> 6) := ui_shr x 6
theorem ui_pack (x : W64) (b : UInt8) : IntKind.u64.wrap (IntKind.u64.wrap (ui x * (256 : Int)) + ub b) = ui ((x <<< 8) ||| w8 b) := by
  have h1 := ui_shlw x 8
  rw [show (2 : Int) ^ 8 = 256 from rfl] at h1
  have h4 := mul_add_or x b
  rw [show x * 256 = x <<< 8 by rw [BitVec.shiftLeft_eq_mul_twoPow]; rfl] at h4
  rw [h1, ui_w8, ui_addw, h4]
theorem ss0_eq (x : W64) : rotr x 1 ^^^ rotr x 8 ^^^ x >>> 7 = ss0 x := rfl
theorem ss1_eq (x : W64) : rotr x 19 ^^^ rotr x 61 ^^^ x >>> 6 = ss1 x := rfl
theorem words16_take (bs : List UInt8) (i : Nat) (h : i < 16) : (words16 bs).take i ++ [pw bs (8 * i) 8] = (words16 bs).take (i + 1) := by
  rw [List.take_succ_eq_append_getElem (by rw [words16_length]; exact h)]
  simp [words16]

set_option maxHeartbeats 400000 in
set_option maxRecDepth 100000 in
theorem refWords_any (A : Option Addr) (cap : Nat) (bs : List UInt8) (w : World) (hs : Seg w A 128 bs) :
    Calls Tryd.prog 67 #[.slice A 128 cap] w fun e w' => ∃ A' cap', e = .returned (.slice A' 80 cap') ∧ Row w' w.heap.size 90 A' 80 cap' (cw (allWords bs)) ∧ Below w.heap.size w w' := by
  obtain ⟨ad, hA, hlt, hcell⟩ := hs.2 (by omega)
  subst hA
  have hlen := hs.1
  have HL := Lib.hid hlen
  have HC := Lib.hid hcell
  clear hs hlen hcell
  go_enter Tryd.func67, Tryd.ntmps67
  go_wp2
  go_loopw [4, 3] (fun i v wr => ∃ (k : Nat) (A3 : Option Addr) (cap3 : Nat), k ≤ 16 ∧ i = .int .i64 k ∧ v = .slice A3 k cap3 ∧ Row wr w.heap.size 90 A3 k cap3 (cw ((words16 bs).take k)) ∧ Below w.heap.size w wr ∧ w.heap.size ≤ wr.heap.size) (fun i _ _ => 16 - (intOf i).toNat)
  case atStart => exact ⟨0, none, 0, by omega, rfl, rfl, Row.nil _ _ _, Below.refl _ _, Nat.le_refl _⟩
  case round =>
    obtain ⟨i, A3, cap3, hi, rfl, rfl, hr3, hb3, hB3⟩ := hrel
    have HR3 := Lib.hid hr3
    clear hr3
    by_cases hi16 : i < 16
    · go_wp2
      rename World => w3
      go_loop [6, 5] (fun k x => ∃ j : Nat, j ≤ 8 ∧ k = .int .i64 j ∧ x = .int .u64 (ui (pw bs (8 * i) j))) (fun k _ => 8 - (intOf k).toNat)
      case atStart => exact ⟨0, by omega, rfl, rfl⟩
      case round =>
        obtain ⟨j, hj, rfl, rfl⟩ := hrel
        by_cases hj4 : j < 8
        · obtain ⟨x, hx⟩ : ∃ x, x = pw bs (8 * i) j := ⟨_, rfl⟩
          obtain ⟨b, hbb⟩ : ∃ b, b = bs.getD (8 * i + j) 0 := ⟨_, rfl⟩
          have hc : w3.cell? (ad.add (8 * i + j)) = some (.int .u8 (ub b)) := by
            rw [hb3.cell (p := ad.add (8 * i + j)) (by rw [block_add]; exact hlt), hbb]
            exact HC.out _ _ (cb_get bs _ (by rw [HL.out]; omega))
          have HX := Lib.hid hx
          have HBB := Lib.hid hbb
          rw [← hx]
          have u0 := ui_lo x
          have v0 := ub_lo b
          have v1 := ub_hi b
          clear hx hbb
          go_wp2
          go_round
          case rel =>
            rw [ui_pack]
            exact ⟨j + 1, by omega, by go_num, by rw [HX.out, HBB.out]; rfl⟩
          case measure => simp [intOf]; omega
        · have e4 : j = 8 := by omega
          obtain ⟨x, hx⟩ : ∃ x, x = pw bs (8 * i) j := ⟨_, rfl⟩
          rw [← hx]
          rw [e4] at hx
          have HX := Lib.hid hx
          obtain ⟨i2, hi2⟩ : ∃ i2, i + 1 = i2 := ⟨_, rfl⟩
          have HI2 := Lib.hid hi2
          clear hx e4 hi2
          go_wp2_with (first
            | ((with_reducible refine at_dst (some 32) ?_); refine wpList_appWord (o := ⟨some 32, _, _, _, _, _⟩) rfl (.tmp 29) (.tmp 31) rfl hb3 hB3 (l := (words16 bs).take i) x _ rfl rfl HR3.out rfl (by omega) i2 HI2.out ?_; intro A4 cap4 w4 hr4 hb4 hB4))
          go_roundw
          case rel =>
            refine ⟨i2, A4, cap4, by have := HI2.out; omega, by have := HI2.out; rw [← this]; go_num, rfl, ?_, hb4, hB4⟩
            have := hr4.out
            rw [HX.out, words16_take bs i hi16, HI2.out] at this
            exact this
          case measure => simp [intOf]; omega
    · have e16 : i = 16 := by omega
      have hr5 : Row wr w.heap.size 90 A3 i cap3 (cw (spread (words16 bs) (i - 16))) := by
        have := HR3.out
        rw [e16, List.take_of_length_le (by rw [words16_length]; omega)] at this
        rw [e16]
        exact this
      have HR5 := Lib.hid hr5
      have i16 : 16 ≤ i := by omega
      have HE16 := Lib.hid e16
      clear hr5 HR3 e16
      go_wp2
      rename World => w5
      go_loopw [7, 3] (fun i v wr => ∃ (n : Nat) (A6 : Option Addr) (cap6 : Nat), 16 ≤ n ∧ n ≤ 80 ∧ i = .int .i64 n ∧ v = .slice A6 n cap6 ∧ Row wr w.heap.size 90 A6 n cap6 (cw (spread (words16 bs) (n - 16))) ∧ Below w.heap.size w wr ∧ w.heap.size ≤ wr.heap.size) (fun i _ _ => 80 - (intOf i).toNat)
      case atStart => exact ⟨16, A3, cap3, by omega, by omega, rfl, by rw [HE16.out], by have := HR5.out; rw [HE16.out] at this; exact this, hb3, hB3⟩
      case round =>
        obtain ⟨n, A6, cap6, hn0, hn, rfl, rfl, hr6, hb6, hB6⟩ := hrel
        have HR6 := Lib.hid hr6
        clear hr6
        by_cases hn64 : n < 80
        · obtain ⟨g, hA6, hgB, hgl, hcs⟩ := HR6.out.cells (by omega)
          subst hA6
          have hlen : (spread (words16 bs) (n - 16)).length = n := by rw [spread_length, words16_length]; omega
          obtain ⟨m0, hm0⟩ : ∃ m, m = n - 16 := ⟨_, rfl⟩
          obtain ⟨m1, hm1⟩ : ∃ m, m = n - 15 := ⟨_, rfl⟩
          obtain ⟨m2, hm2⟩ : ∃ m, m = n - 7 := ⟨_, rfl⟩
          obtain ⟨m3, hm3⟩ : ∃ m, m = n - 2 := ⟨_, rfl⟩
          have e0 : IntKind.i64.wrap ((n : Int) - 16) = (m0 : Int) := by rw [IntKind.wrap_i64]; omega
          have e1 : IntKind.i64.wrap ((n : Int) - 15) = (m1 : Int) := by rw [IntKind.wrap_i64]; omega
          have e2 : IntKind.i64.wrap ((n : Int) - 7) = (m2 : Int) := by rw [IntKind.wrap_i64]; omega
          have e3 : IntKind.i64.wrap ((n : Int) - 2) = (m3 : Int) := by rw [IntKind.wrap_i64]; omega
          have E0 := Lib.hid e0
          have E1 := Lib.hid e1
          have E2 := Lib.hid e2
          have E3 := Lib.hid e3
          clear e0 e1 e2 e3
          have k0 : m0 < n := by omega
          have k1 : m1 < n := by omega
          have k2 : m2 < n := by omega
          have k3 : m3 < n := by omega
          obtain ⟨x0, hx0⟩ : ∃ x, x = (spread (words16 bs) (n - 16)).getD m0 0 := ⟨_, rfl⟩
          obtain ⟨x1, hx1⟩ : ∃ x, x = (spread (words16 bs) (n - 16)).getD m1 0 := ⟨_, rfl⟩
          obtain ⟨x2, hx2⟩ : ∃ x, x = (spread (words16 bs) (n - 16)).getD m2 0 := ⟨_, rfl⟩
          obtain ⟨x3, hx3⟩ : ∃ x, x = (spread (words16 bs) (n - 16)).getD m3 0 := ⟨_, rfl⟩
          have c0 := hcs m0 _ (cw_get _ m0 (by omega))
          have c1 := hcs m1 _ (cw_get _ m1 (by omega))
          have c2 := hcs m2 _ (cw_get _ m2 (by omega))
          have c3 := hcs m3 _ (cw_get _ m3 (by omega))
          rw [← hx0] at c0
          rw [← hx1] at c1
          rw [← hx2] at c2
          rw [← hx3] at c3
          have HV : Hid (nextW (spread (words16 bs) (n - 16)) = x0 + ss0 x1 + x2 + ss1 x3) := by
            show _ = _
            rw [nextW, hlen, hx0, hx1, hx2, hx3, hm0, hm1, hm2, hm3]
          obtain ⟨n2, hn2⟩ : ∃ n2, n + 1 = n2 := ⟨_, rfl⟩
          have HN2 := Lib.hid hn2
          have HK : Hid ((m0 : Int) < n ∧ (m1 : Int) < n ∧ (m2 : Int) < n ∧ (m3 : Int) < n) := ⟨by omega, by omega, by omega, by omega⟩
          have HCC := Lib.hid (And.intro c0 (And.intro c1 (And.intro c2 c3)))
          clear hx0 hx1 hx2 hx3 hm0 hm1 hm2 hm3 hcs hlen hn2 c0 c1 c2 c3 k0 k1 k2 k3
          go_wp2
          have e1 := E1.out
          have l1 := HK.out.2.1
          have c1 := HCC.out.2.1
          have r3 := ui_xor
          have s1 := ui_shr7
          have s2 := ui_shr7p
          have s5 := ss0_eq
          go_quiet ((go_at_call 69; exact Calls.quiet_of (right_int _ _ _ (by decide) (by decide))))
          clear e1 l1 c1 s1 s2 s5
          rename Nat => q1
          go_wp2
          have e3 := E3.out
          have l3 := HK.out.2.2.2
          have c3 := HCC.out.2.2.2
          have s3 := ui_shr6
          have s4 := ui_shr6p
          have s6 := ss1_eq
          go_quiet ((go_at_call 69; exact quiet_more (right_int _ _ _ (by decide) (by decide))))
          clear e3 l3 c3 s3 s4 r3 s6
          go_wp2
          rename Nat => q2
          have F : Row ((wr.drewN q1).drewN q2) w.heap.size 90 (some ⟨g, 0, none⟩) n cap6 (cw (spread (words16 bs) (n - 16))) ∧ Below w.heap.size w ((wr.drewN q1).drewN q2) ∧ w.heap.size ≤ ((wr.drewN q1).drewN q2).heap.size ∧ ((wr.drewN q1).drewN q2).cell? ⟨g, m0, none⟩ = some (.int .u64 (ui x0)) ∧ ((wr.drewN q1).drewN q2).cell? ⟨g, m2, none⟩ = some (.int .u64 (ui x2)) :=
            ⟨HR6.out, ⟨hb6.os, hb6.tape, hb6.output, hb6.size, hb6.block⟩, hB6, HCC.out.1, HCC.out.2.2.1⟩
          generalize ((wr.drewN q1).drewN q2) = w6 at F ⊢
          obtain ⟨F1, F2, F3, c0, c2⟩ := F
          have HF1 := Lib.hid F1
          have e0 := E0.out
          have e2 := E2.out
          have l0 := HK.out.1
          have l2 := HK.out.2.2.1
          have r1 := ui_addw
          have r5 := ui_add
          clear F1 hb6 hB6 HR6 HCC
          go_region_law (refine step_appWord rfl (.tmp 77) (.tmp 93) rfl (below_allocDrew F2 F3 _).1 (below_allocDrew F2 F3 _).2 (l := spread (words16 bs) (n - 16)) (x0 + ss0 x1 + x2 + ss1 x3) rfl (HF1.out.allocDrew _) w6.heap.size rfl (one_cell _ _ _) (by omega) n2 HN2.out ?_; intro A8 cap8 w8 hr8 hb8 hB8)
          all_goals
            clear e0 e2 l0 l2 r1 r5 c0 c2
            go_wp2
            go_roundw
            case rel =>
              refine ⟨n2, A8, cap8, by have := HN2.out; omega, by have := HN2.out; omega, by have := HN2.out; rw [← this]; go_num, rfl, ?_, hb8, hB8⟩
              have := hr8.out
              rw [← HV.out] at this
              rw [← HN2.out, show n + 1 - 16 = n - 16 + 1 by omega]
              rw [← HN2.out] at this
              exact this
            case measure => simp [intOf]; omega
        · have e64 : n = 80 := by omega
          subst e64
          go_wp2
          go_ret
          exact ⟨A6, cap6, rfl, HR6.out, hb6⟩
end Go.Proofs.YtfoenafjaaidmaaDoorLn

namespace Go.Proofs.YtfoenafjaaidmaaDoorLn
set_option maxRecDepth 100000
open Go.RowKit
set_option linter.unusedVariables false

def Eight (w : World) (g : Nat) (s : S8) : Prop :=
  w.cell? ⟨g, 0, none⟩ = some (.int .u64 (ui s.a)) ∧ w.cell? ⟨g, 1, none⟩ = some (.int .u64 (ui s.b)) ∧ w.cell? ⟨g, 2, none⟩ = some (.int .u64 (ui s.c)) ∧ w.cell? ⟨g, 3, none⟩ = some (.int .u64 (ui s.d)) ∧
  w.cell? ⟨g, 4, none⟩ = some (.int .u64 (ui s.e)) ∧ w.cell? ⟨g, 5, none⟩ = some (.int .u64 (ui s.f)) ∧ w.cell? ⟨g, 6, none⟩ = some (.int .u64 (ui s.g)) ∧ w.cell? ⟨g, 7, none⟩ = some (.int .u64 (ui s.h))
def Eight' (w : World) (g : Nat) (s : S8) : Prop := ∀ j v, (cw s.list)[j]? = some v → w.cell? ⟨g, j, none⟩ = some v
theorem Eight'.eight {w : World} {g : Nat} {s : S8} (h : Eight' w g s) : Eight w g s := ⟨h 0 _ rfl, h 1 _ rfl, h 2 _ rfl, h 3 _ rfl, h 4 _ rfl, h 5 _ rfl, h 6 _ rfl, h 7 _ rfl⟩
/-- What is there in a round: the state s in block g, the words in g1, the constants in gk, the old state. -/
def InBlk (w : World) (g g1 gk : Nat) (Ah : Option Addr) (caph : Nat) (st : S8) (bs : List UInt8) (s : S8) (wr : World) : Prop :=
  Eight' wr g s ∧ (∀ j v, (cw (allWords bs))[j]? = some v → wr.cell? ⟨g1, j, none⟩ = some v) ∧ (∀ j v, (cw kTab)[j]? = some v → wr.cell? ⟨gk, j, none⟩ = some v) ∧ Row wr 0 90 Ah 8 caph (cw st.list) ∧ Below w.heap.size w wr ∧ w.heap.size ≤ wr.heap.size ∧ (g < wr.heap.size ∧ g1 < wr.heap.size ∧ gk < wr.heap.size)
theorem InBlk.drewN {w wr : World} {g g1 gk : Nat} {Ah : Option Addr} {caph : Nat} {st s : S8} {bs : List UInt8} (h : InBlk w g g1 gk Ah caph st bs s wr) (n : Nat) : InBlk w g g1 gk Ah caph st bs s (wr.drewN n) :=
  ⟨h.1, h.2.1, h.2.2.1, h.2.2.2.1, ⟨h.2.2.2.2.1.os, h.2.2.2.2.1.tape, h.2.2.2.2.1.output, h.2.2.2.2.1.size, h.2.2.2.2.1.block⟩, h.2.2.2.2.2.1, h.2.2.2.2.2.2⟩
theorem InBlk.next {w wr wr' : World} {g g1 gk g' : Nat} {Ah : Option Addr} {caph : Nat} {st s s' : S8} {bs : List UInt8} (h : InBlk w g g1 gk Ah caph st bs s wr) (hb : Below wr.heap.size wr wr') (h8 : Eight' wr' g' s') (hg : g' < wr'.heap.size) : InBlk w g' g1 gk Ah caph st bs s' wr' := by
  obtain ⟨_, hw, hk, hr, hbel, hB, hgl, hg1, hgk⟩ := h
  have hsz := hb.size
  exact ⟨h8, fun j v hv => (hb.cell (p := ⟨g1, j, none⟩) hg1).trans (hw j v hv), fun j v hv => (hb.cell (p := ⟨gk, j, none⟩) hgk).trans (hk j v hv), hr.below hb, hbel.trans (hb.mono hB), by omega, hg, by omega, by omega⟩
theorem rnd_ref (a b c d e f g h k w : W64) : rnd ⟨a, b, c, d, e, f, g, h⟩ k w = ⟨h + (rotr e 14 ^^^ rotr e 18 ^^^ rotr e 41) + (e &&& f ^^^ (~~~e &&& g)) + k + w + (rotr a 28 ^^^ rotr a 34 ^^^ rotr a 39) + (a &&& b ^^^ (a &&& c) ^^^ (b &&& c)), a, b, c, d + (h + (rotr e 14 ^^^ rotr e 18 ^^^ rotr e 41) + (e &&& f ^^^ (~~~e &&& g)) + k + w), e, f, g⟩ := by
  rw [BitVec.add_assoc _ (rotr a 28 ^^^ rotr a 34 ^^^ rotr a 39) _]
  rfl
theorem comp_take (l : List W64) (i : Nat) (h : i < l.length) : l.take i ++ [l.getD i 0] = l.take (i + 1) := by
  rw [List.take_succ_eq_append_getElem h]
  simp [List.getD, List.getElem?_eq_getElem h]
theorem add_get (s r : S8) (i : Nat) (h : i < 8) : (s.add r).list.getD i 0 = s.list.getD i 0 + r.list.getD i 0 := by
  obtain rfl | rfl | rfl | rfl | rfl | rfl | rfl | rfl : i = 0 ∨ i = 1 ∨ i = 2 ∨ i = 3 ∨ i = 4 ∨ i = 5 ∨ i = 6 ∨ i = 7 := by omega
  all_goals rfl

set_option maxHeartbeats 2000000 in
set_option maxRecDepth 100000 in
theorem refBlock_any (Ah Ab : Option Addr) (caph capb : Nat) (st : S8) (bs : List UInt8) (w : World) (hh : Row w 0 90 Ah 8 caph (cw st.list)) (hs : Seg w Ab 128 bs) :
    Calls Tryd.prog 54 #[.slice Ah 8 caph, .slice Ab 128 capb] w fun e w' => ∃ A' cap', e = .returned (.slice A' 8 cap') ∧ Row w' w.heap.size 90 A' 8 cap' (cw (compress st bs).list) ∧ Below w.heap.size w w' := by
  obtain ⟨gh, hAh, _, hghl, hhc⟩ := hh.cells (by omega)
  subst hAh
  obtain ⟨i0, hi0, hz0, hz1, hz2⟩ := info_parts wordInfo
  have HI := Lib.hid hi0
  have HZ0 := Lib.hid hz0
  have HZ1 := Lib.hid hz1
  have HZ2 := Lib.hid hz2
  have HH := Lib.hid hh
  have HHC := Lib.hid hhc
  have HS := Lib.hid hs
  clear hi0 hz0 hz1 hz2 hh hhc hs
  go_enter Tryd.func54, Tryd.ntmps54
  go_wp2_with fail
  refine (refWords_any Ab capb bs _ HS.out).mono ?_
  rintro e w1 ⟨A1, cap1, rfl, hr1, hb1⟩
  go_wp2_with fail
  refine (constants_any _).mono ?_
  rintro e w2 ⟨rfl, hk2, hb2⟩
  have hs1 := hb1.size
  have hs2 := hb2.size
  have HR1 := Lib.hid hr1
  have HK2 := Lib.hid hk2
  have hh2 : Row w2 0 90 (some ⟨gh, 0, none⟩) 8 caph (cw st.list) := (HH.out.below hb1).below hb2
  have hsrc : ((some (⟨gh, 0, none⟩ : Addr)) = none ∧ caph = 0) ∨ ∃ ad, some (⟨gh, 0, none⟩ : Addr) = some ad ∧ ∀ j u, (cw st.list)[j]? = some u → (w2.alloc (.cells #[] 90)).cell? (ad.add j) = some u := by
    refine .inr ⟨_, rfl, fun j u hu => ?_⟩
    rw [addr_add, Nat.zero_add, World.cell?_alloc_lt _ _ _ (show gh < w2.heap.size by omega), hb2.cell (p := ⟨gh, j, none⟩) (show gh < w1.heap.size by omega), hb1.cell (p := ⟨gh, j, none⟩) hghl]
    exact HHC.out j u hu
  have HSRC := Lib.hid hsrc
  have R0 : Row (w2.alloc (.cells #[] 90)) w2.heap.size 90 (some ⟨w2.heap.size, 0, none⟩) 0 0 [] := Row.lit w2 90 [] w2.heap.size (Nat.le_refl _) (by simp)
  have b0 : Below w2.heap.size w2 (w2.alloc (.cells #[] 90)) := (Below.refl _ _).alloc (Nat.le_refl _) _
  have HR0 := Lib.hid R0
  have HB0 := Lib.hid b0
  have HH2 := Lib.hid hh2
  clear hr1 hk2 hsrc R0 b0 hh2
  go_wp2_with (first
    | ((with_reducible refine at_dst (some 21) ?_); refine wpList_app (o := ⟨some 21, _, _, _, _, _⟩) rfl (.tmp 19) (.tmp 20) 91 90 rfl Tryd.underlying91 HI.out HZ0.out HZ1.out HZ2.out rfl (by omega) HB0.out (by simp) rfl HR0.out rfl rfl HSRC.out (cw_one st.list) (fun e => by cases e) (by omega) 8 rfl ?_; intro A3 cap3 w3 hr3 hb3 hB3))
  obtain ⟨g1, hA1, _, hg1l, hwc⟩ := HR1.out.cells (by omega)
  obtain ⟨g3, hA3, _, hg3l, h3c⟩ := hr3.out.cells (by omega)
  subst hA1 hA3
  have hs3 := hb3.size
  have F : InBlk w g3 g1 w1.heap.size (some ⟨gh, 0, none⟩) caph st bs st w3 := by
    refine ⟨h3c, fun j v hv => ?_, fun j v hv => ?_, HH2.out.below hb3, hb1.trans ((hb2.mono hs1).trans (hb3.mono (by omega))), by omega, hg3l, by omega, ?_⟩
    · rw [hb3.cell (p := ⟨g1, j, none⟩) (show g1 < w2.heap.size by omega), hb2.cell (p := ⟨g1, j, none⟩) hg1l]; exact hwc j v hv
    · rw [hb3.cell (p := ⟨w1.heap.size, j, none⟩) HK2.out.lt, HK2.out.cell]; exact hv
    · have := HK2.out.lt; omega
  have HF := Lib.hid F
  clear F hwc h3c hr3 hb3 hb1 hb2 HR1 HK2 HSRC HR0 HB0
  go_loopw [8, 7] (fun i v wr => ∃ (k : Nat) (s : S8) (g cap : Nat), k ≤ 80 ∧ s = rnds st (allWords bs) k ∧ i = .int .i64 k ∧ v = .slice (some ⟨g, 0, none⟩) 8 cap ∧ InBlk w g g1 w1.heap.size (some ⟨gh, 0, none⟩) caph st bs s wr) (fun i _ _ => 80 - (intOf i).toNat)
  case atStart => exact ⟨0, st, g3, cap3, by omega, rfl, rfl, rfl, HF.out⟩
  case round =>
    obtain ⟨k, ⟨a, b, c, d, e, f, gg, h⟩, g, cap, hk, hs, rfl, rfl, hin⟩ := hrel
    have HS := Lib.hid hs
    have HIN := Lib.hid hin
    clear hs hin HF
    by_cases hk64 : k < 80
    · obtain ⟨kv, hkv⟩ : ∃ x, x = kTab.getD k 0 := ⟨_, rfl⟩
      obtain ⟨wv, hwv⟩ : ∃ x, x = (allWords bs).getD k 0 := ⟨_, rfl⟩
      have ck := HIN.out.2.2.1 k _ (cw_get kTab k (show k < 80 from hk64))
      have cv := HIN.out.2.1 k _ (cw_get (allWords bs) k (by rw [allWords_length]; exact hk64))
      have E : Hid (rnds st (allWords bs) (k + 1) = rnd ⟨a, b, c, d, e, f, gg, h⟩ kv wv) := by
        have := HS.out
        show rnd (rnds st (allWords bs) k) _ _ = _
        rw [← this, hkv, hwv]
      rw [← hkv] at ck
      rw [← hwv] at cv
      have HCK := Lib.hid ck
      have HCV := Lib.hid cv
      clear hkv hwv ck cv
      go_wp2
      obtain ⟨c0, c1, c2, c3, c4, c5, c6, c7⟩ := HIN.out.1.eight
      clear c0 c1 c2 c3 c5 c6 c7
      have r0 := ui_xor
      go_quiet ((go_at_call 69; exact Calls.quiet_of (right_int _ _ _ (by decide) (by decide))))
      clear c4 r0
      rename Nat => q1
      go_wp2
      have F1 : InBlk w g g1 w1.heap.size (some ⟨gh, 0, none⟩) caph st bs ⟨a, b, c, d, e, f, gg, h⟩ (wr.drewN q1) ∧ (wr.drewN q1).cell? ⟨w1.heap.size, k, none⟩ = some (.int .u64 (ui kv)) ∧ (wr.drewN q1).cell? ⟨g1, k, none⟩ = some (.int .u64 (ui wv)) := ⟨HIN.out.drewN q1, HCK.out, HCV.out⟩
      generalize (wr.drewN q1) = u1 at F1 ⊢
      obtain ⟨F1, ck, cv⟩ := F1
      have HI1 := Lib.hid F1
      have HCK1 := Lib.hid ck
      have HCV1 := Lib.hid cv
      clear F1 ck cv
      obtain ⟨c0, c1, c2, c3, c4, c5, c6, c7⟩ := HI1.out.1.eight
      clear c0 c1 c2 c3 c7
      have r0 := ui_xor
      have r1 := ui_and
      have r2 := ui_not_if
      have r3 := ui_not
      go_quiet (fail)
      clear c4 c5 c6 r0 r1 r2 r3
      rename Nat => q2
      go_wp2
      have F2 : InBlk w g g1 w1.heap.size (some ⟨gh, 0, none⟩) caph st bs ⟨a, b, c, d, e, f, gg, h⟩ (u1.drewN q2) ∧ (u1.drewN q2).cell? ⟨w1.heap.size, k, none⟩ = some (.int .u64 (ui kv)) ∧ (u1.drewN q2).cell? ⟨g1, k, none⟩ = some (.int .u64 (ui wv)) := ⟨HI1.out.drewN q2, HCK1.out, HCV1.out⟩
      generalize (u1.drewN q2) = u2 at F2 ⊢
      obtain ⟨F2, ck, cv⟩ := F2
      have HI2 := Lib.hid F2
      have HCK2 := Lib.hid ck
      have HCV2 := Lib.hid cv
      clear F2 ck cv
      obtain ⟨c0, c1, c2, c3, c4, c5, c6, c7⟩ := HI2.out.1.eight
      clear c0 c1 c2 c3 c4 c5 c6
      have ck := HCK2.out
      have cv := HCV2.out
      have l4 : (k : Int) < 80 := by omega
      have r0 := ui_addw
      have r1 := ui_add
      go_quiet (fail)
      clear c7 r0 r1 ck cv l4
      rename Nat => q3
      go_wp2
      have F3 : InBlk w g g1 w1.heap.size (some ⟨gh, 0, none⟩) caph st bs ⟨a, b, c, d, e, f, gg, h⟩ (u2.drewN q3) ∧ (u2.drewN q3).cell? ⟨w1.heap.size, k, none⟩ = some (.int .u64 (ui kv)) ∧ (u2.drewN q3).cell? ⟨g1, k, none⟩ = some (.int .u64 (ui wv)) := ⟨HI2.out.drewN q3, HCK2.out, HCV2.out⟩
      generalize (u2.drewN q3) = u3 at F3 ⊢
      obtain ⟨F3, ck, cv⟩ := F3
      have HI3 := Lib.hid F3
      have HCK3 := Lib.hid ck
      have HCV3 := Lib.hid cv
      clear F3 ck cv
      obtain ⟨c0, c1, c2, c3, c4, c5, c6, c7⟩ := HI3.out.1.eight
      clear c1 c2 c3 c4 c5 c6 c7
      have r0 := ui_xor
      go_quiet ((go_at_call 69; exact Calls.quiet_of (right_int _ _ _ (by decide) (by decide))))
      clear c0 r0
      rename Nat => q4
      go_wp2
      have F4 : InBlk w g g1 w1.heap.size (some ⟨gh, 0, none⟩) caph st bs ⟨a, b, c, d, e, f, gg, h⟩ (u3.drewN q4) ∧ (u3.drewN q4).cell? ⟨w1.heap.size, k, none⟩ = some (.int .u64 (ui kv)) ∧ (u3.drewN q4).cell? ⟨g1, k, none⟩ = some (.int .u64 (ui wv)) := ⟨HI3.out.drewN q4, HCK3.out, HCV3.out⟩
      generalize (u3.drewN q4) = u4 at F4 ⊢
      obtain ⟨F4, ck, cv⟩ := F4
      have HI4 := Lib.hid F4
      have HCK4 := Lib.hid ck
      have HCV4 := Lib.hid cv
      clear F4 ck cv
      obtain ⟨c0, c1, c2, c3, c4, c5, c6, c7⟩ := HI4.out.1.eight
      clear c3 c4 c5 c6 c7
      have r0 := ui_xor
      have r1 := ui_and
      go_quiet (fail)
      clear c0 c1 c2 r0 r1
      rename Nat => q5
      go_wp2
      have F5 : InBlk w g g1 w1.heap.size (some ⟨gh, 0, none⟩) caph st bs ⟨a, b, c, d, e, f, gg, h⟩ (u4.drewN q5) ∧ (u4.drewN q5).cell? ⟨w1.heap.size, k, none⟩ = some (.int .u64 (ui kv)) ∧ (u4.drewN q5).cell? ⟨g1, k, none⟩ = some (.int .u64 (ui wv)) := ⟨HI4.out.drewN q5, HCK4.out, HCV4.out⟩
      generalize (u4.drewN q5) = u5 at F5 ⊢
      obtain ⟨F5, ck, cv⟩ := F5
      have HI5 := Lib.hid F5
      have HCK5 := Lib.hid ck
      have HCV5 := Lib.hid cv
      clear F5 ck cv
      obtain ⟨c0, c1, c2, c3, c4, c5, c6, c7⟩ := HI5.out.1.eight
      clear c7
      have r0 := ui_addw
      have r1 := ui_add
      refine wp_region_still_tail 28 (by kernel_rfl) (by kernel_rfl) ?_
      simp only [List.take_succ_cons, List.take_zero, List.drop_succ_cons, List.drop_zero]
      change wpStill _ _ u5.drew _ _ _
      iterate 28 still_step
      refine wpStill_nil ?_
      clear c0 c1 c2 c3 c4 c5 c6 r0 r1
      change wpList _ _ _ _ _ u5.drew
      have F6 := HI5.out.drewN 1
      change InBlk _ _ _ _ _ _ _ _ _ u5.drew at F6
      generalize u5.drew = u6 at F6 ⊢
      have HI6 := Lib.hid F6
      clear F6
      go_wp2
      go_roundw
      case rel =>
        refine ⟨k + 1, _, u6.heap.size, 8, by omega, E.out.symm, by go_num, rfl, ?_⟩
        rw [rnd_ref]
        refine HI6.out.next ((Below.refl _ _).alloc (Nat.le_refl _) _) (fun j v hv => ?_) (by simp)
        rw [cell_of_row _ _ _ _ _ _ (heap_alloc_new u6 _)]
        rw [← hv]
        rw [← List.getElem?_toArray]
        rfl
      case measure => simp [intOf]; omega
    · have hrn : (⟨a, b, c, d, e, f, gg, h⟩ : S8) = rnds st (allWords bs) 80 := by
        have e64 : k = 80 := by omega
        have := HS.out
        rw [e64] at this
        exact this
      have HRN := Lib.hid hrn
      obtain ⟨CL, hCL⟩ : ∃ CL, CL = (compress st bs).list := ⟨_, rfl⟩
      have HCL := Lib.hid hCL
      have hin := HIN.out
      have hB := hin.2.2.2.2.2.1
      have hgl := hin.2.2.2.2.2.2.1
      clear hrn hCL hin
      go_wp2
      rename World => w5
      go_loopw [15, 14] (fun i v wr => ∃ (j : Nat) (A6 : Option Addr) (cap6 : Nat), j ≤ 8 ∧ i = .int .i64 j ∧ v = .slice A6 j cap6 ∧ Row wr w5.heap.size 90 A6 j cap6 (cw (CL.take j)) ∧ Below w5.heap.size w5 wr ∧ w5.heap.size ≤ wr.heap.size) (fun i _ _ => 8 - (intOf i).toNat)
      case atStart => exact ⟨0, none, 0, by omega, rfl, rfl, Row.nil _ _ _, Below.refl _ _, Nat.le_refl _⟩
      case round =>
        obtain ⟨j, A6, cap6, hj, rfl, rfl, hr6, hb6, hB6⟩ := hrel
        have HR6 := Lib.hid hr6
        clear hr6
        by_cases hj8 : j < 8
        · have hhl : gh < w5.heap.size := by omega
          have ch : wr.cell? ⟨gh, j, none⟩ = some (.int .u64 (ui (st.list.getD j 0))) := by
            rw [hb6.cell (p := ⟨gh, j, none⟩) hhl]
            obtain ⟨g', e', _, _, hc'⟩ := HIN.out.2.2.2.1.cells (by omega)
            injection e' with e'
            injection e' with e'
            subst e'
            exact hc' j _ (cw_get st.list j (show j < 8 from hj8))
          have cs : wr.cell? ⟨g, j, none⟩ = some (.int .u64 (ui ((rnds st (allWords bs) 80).list.getD j 0))) := by
            rw [hb6.cell (p := ⟨g, j, none⟩) hgl, ← HRN.out]
            exact HIN.out.1 j _ (cw_get _ j (show j < 8 from hj8))
          obtain ⟨x, hx⟩ : ∃ x, x = st.list.getD j 0 := ⟨_, rfl⟩
          obtain ⟨y, hy⟩ : ∃ y, y = (rnds st (allWords bs) 80).list.getD j 0 := ⟨_, rfl⟩
          rw [← hx] at ch
          rw [← hy] at cs
          have HV : Hid (CL.take j ++ [x + y] = CL.take (j + 1)) := by
            show _ = _
            have e1 := comp_take CL j (by rw [HCL.out]; exact hj8)
            have e2 := add_get st (rnds st (allWords bs) 80) j hj8
            rw [← hx, ← hy] at e2
            rw [← e1, HCL.out]
            show _ = _ ++ [(st.add (rnds st (allWords bs) 80)).list.getD j 0]
            rw [e2]
          obtain ⟨j2, hj2⟩ : ∃ j2, j + 1 = j2 := ⟨_, rfl⟩
          have HJ2 := Lib.hid hj2
          have HCH := Lib.hid ch
          have HCS := Lib.hid cs
          clear hx hy hj2 hhl ch cs
          go_wp2
          have ch := HCH.out
          have cs := HCS.out
          have l4 : (j : Int) < 8 := by omega
          have r1 := ui_addw
          have r5 := ui_add
          go_region_law (refine step_appWord rfl (.tmp 143) (.tmp 153) rfl (below_allocDrew hb6 hB6 _).1 (below_allocDrew hb6 hB6 _).2 (l := CL.take j) (x + y) rfl (HR6.out.allocDrew _) wr.heap.size rfl (one_cell _ _ _) (by omega) j2 HJ2.out ?_; intro A8 cap8 w8 hr8 hb8 hB8)
          all_goals
            clear ch cs l4 r1 r5
            go_wp2
            go_roundw
            case rel =>
              refine ⟨j2, A8, cap8, by have := HJ2.out; omega, by have := HJ2.out; rw [← this]; go_num, rfl, ?_, hb8, hB8⟩
              have := hr8.out
              rw [HV.out, HJ2.out] at this
              exact this
            case measure => simp [intOf]; omega
        · have e8 : j = 8 := by omega
          have hr9 := HR6.out
          rw [e8, List.take_of_length_le (by rw [HCL.out]; show 8 ≤ 8; omega), HCL.out] at hr9
          have HR9 := Lib.hid hr9
          subst e8
          clear hr9
          go_wp2
          go_ret
          exact ⟨A6, cap6, rfl, HR9.out.mono hB, HIN.out.2.2.2.2.1.trans (hb6.mono hB)⟩
end Go.Proofs.YtfoenafjaaidmaaDoorLn

namespace Go.Proofs.YtfoenafjaaidmaaDoorLn
set_option maxRecDepth 100000
open Go.RowKit
set_option linter.unusedVariables false

theorem run_mid (A : Option Addr) (k cap lo hi : Nat) (h1 : lo ≤ hi) (h2 : hi ≤ cap) (L H : Int) (hL : L = (lo : Int)) (hH : H = (hi : Int)) (w : World) :
    (Instr.slice 22 (.slice A k cap) (some (.int .i64 L)) (some (.int .i64 H)) none).run Tryd.prog w = .ok (.slice (if cap = lo then A else A.map (·.add lo)) (hi - lo) (cap - lo)) w := by
  subst hL hH
  obtain ⟨i0, hi0, hz0, hz1, hz2⟩ := info_parts byteInfo
  simp [Instr.slice, run_underlying Tryd.underlying22, Instr.sliceBounds, run_sliceBound, sizeOf, typeInfo, hi0, hz1, h1, h2]
theorem Seg.mid {w : World} {A : Option Addr} {n : Nat} {l : List UInt8} (h : Seg w A n l) (k m cap : Nat) (hk : k + m ≤ n) (hc : n ≤ cap) : Seg w (if cap = k then A else A.map (·.add k)) m ((l.drop k).take m) := by
  obtain ⟨h1, h2⟩ := h.cut k cap (by omega) hc
  refine ⟨by rw [List.length_take, h1]; omega, fun hm => ?_⟩
  obtain ⟨ad, e, hlt, hcell⟩ := h2 (by omega)
  refine ⟨ad, e, hlt, fun j v hv => hcell j v ?_⟩
  have e2 : cb ((l.drop k).take m) = (cb (l.drop k)).take m := by simp [cb, List.map_take]
  rw [e2, List.getElem?_take] at hv
  split at hv
  · exact hv
  · cases hv
theorem out_take (s : S8) (n : Nat) (h : n < 64) : s.out.take n ++ [s.out.getD n 0] = s.out.take (n + 1) := by
  rw [List.take_succ_eq_append_getElem (by rw [out_length]; exact h)]
  simp [List.getD, List.getElem?_eq_getElem (show n < s.out.length by rw [out_length]; exact h)]

set_option maxHeartbeats 1000000 in
set_option maxRecDepth 100000 in
theorem refSum_any (A : Option Addr) (n cap : Nat) (l : List UInt8) (w : World) (hs : Seg w A n l) (hA : A = none → cap = 0) (hn : n < 100000) :
    Calls Tryd.prog 40 #[.slice A n cap] w fun e w' => ∃ A' cap', e = .returned (.slice A' 64 cap') ∧ Row w' w.heap.size 5 A' 64 cap' (cb (sha l)) ∧ Below w.heap.size w w' := by
  have HS := Lib.hid hs
  have HA := Lib.hid hA
  clear hs hA
  go_enter Tryd.func40, Tryd.ntmps40
  go_wp2_with fail
  obtain ⟨W1, hW1⟩ : ∃ W1, W1 = w.alloc (.cells #[.int .u64 7640891576956012808, .int .u64 13503953896175478587, .int .u64 4354685564936845355, .int .u64 11912009170470909681, .int .u64 5840696475078001361, .int .u64 11170449401992604703, .int .u64 2270897969802886507, .int .u64 6620516959819538809] 90) := ⟨_, rfl⟩
  have hrow : Row W1 w.heap.size 90 (some ⟨w.heap.size, 0, none⟩) 8 8 (cw init8.list) := by rw [hW1]; exact Row.lit w 90 (cw init8.list) w.heap.size (Nat.le_refl _) (by unfold maxLen; show 8 ≤ _; omega)
  have hb1 : Below w.heap.size w W1 := by rw [hW1]; exact (Below.refl _ _).alloc (Nat.le_refl _) _
  rw [← hW1]
  clear hW1
  refine (padded_any A n cap l W1 (HS.out.below hb1) HA.out hn).mono ?_
  rintro e w2 ⟨Ap, N, capp, rfl, hrp, hb2⟩
  have hs1 := hb1.size
  have hs2 := hb2.size
  obtain ⟨Z, hZ⟩ : ∃ Z, N = 128 * Z := by
    have h1 := hrp.length
    rw [cb_length] at h1
    have h2 := padded_mod l
    exact ⟨N / 128, by omega⟩
  have hNb : N ≤ 200000 := by
    have h1 := hrp.length
    rw [cb_length] at h1
    rw [← h1]
    simp only [padded, List.length_append, padOf_length]
    have := noughts_lt l.length
    have := HS.out.1
    omega
  have hle := hrp.le
  have hpl : (padded l).length = N := by have := hrp.length; rwa [cb_length] at this
  have hseg := hrp.seg
  have HROW := Lib.hid (hrow.below hb2)
  have HSEG := Lib.hid hseg
  have HZ := Lib.hid hZ
  have HPL := Lib.hid hpl
  have hz1 : N ≤ 128 * Z := by omega
  have hz2 : 128 * Z ≤ N := by omega
  have hle1 := hle.1
  have hle2 := hle.2
  have B2 : Below w.heap.size w w2 := hb1.trans (hb2.mono hs1)
  have HB2 := Lib.hid B2
  have hsz : w.heap.size ≤ w2.heap.size := by omega
  unfold maxLen at hle2
  clear hrow hrp hZ hpl hseg hle B2
  go_wp2
  go_loopw [5, 3] (fun i v wr => ∃ (k : Nat) (Ah : Option Addr) (caph : Nat), k ≤ Z ∧ i = .int .i64 ((128 * k : Nat) : Int) ∧ v = .slice Ah 8 caph ∧ Row wr w.heap.size 90 Ah 8 caph (cw (iter init8 (padded l) k).list) ∧ Below w2.heap.size w2 wr) (fun i _ _ => N - (intOf i).toNat)
  case atStart => exact ⟨0, _, _, by omega, rfl, rfl, HROW.out, Below.refl _ _⟩
  case round =>
    obtain ⟨k, Ah, caph, hk, rfl, rfl, hrh, hbr⟩ := hrel
    have HRH := Lib.hid hrh
    clear hrh HROW
    by_cases hkZ : k < Z
    · obtain ⟨i, hi⟩ : ∃ i, i = 128 * k := ⟨_, rfl⟩
      rw [← hi]
      have hcut := run_mid Ap N capp i (i + 128) (by omega) (by omega) (i : Int) ((i : Int) + 128) rfl (by omega)
      rw [show i + 128 - i = 128 by omega] at hcut
      obtain ⟨A7, hA7⟩ : ∃ A7, A7 = (if capp = i then Ap else Ap.map (·.add i)) := ⟨_, rfl⟩
      have hs7 : Seg wr A7 128 (((padded l).drop i).take 128) := by rw [hA7]; exact (HSEG.out.below hbr).mid i 128 capp (by omega) hle1
      rw [← hA7] at hcut
      have HS7 := Lib.hid hs7
      have HI := Lib.hid hi
      have hi1 : i + 128 ≤ N := by omega
      have hd2 : i < N := by omega
      clear hs7 hA7 hi
      go_wp2_with (go_at_call 54; refine (refBlock_any Ah A7 caph (capp - i) (iter init8 (padded l) k) _ _ (HRH.out.mono (Nat.zero_le _)) HS7.out).mono ?_; rintro e w6 ⟨A8, cap8, rfl, hr8, hb8⟩)
      go_roundw
      case rel =>
        have hsb := hbr.size
        refine ⟨k + 1, A8, cap8, by omega, ?_, rfl, ?_, hbr.trans (hb8.mono hsb)⟩
        · have := HI.out
          rw [show ((128 * (k + 1) : Nat) : Int) = (i : Int) + 128 by omega]
        · have := HI.out
          rw [this] at hr8
          exact hr8.mono (by omega)
      case measure => simp [intOf]; omega
    · have ek : k = Z := by omega
      obtain ⟨ST, hST⟩ : ∃ ST, ST = iter init8 (padded l) k := ⟨_, rfl⟩
      have hsha : ST.out = sha l := by
        rw [hST, ek]
        unfold sha
        rw [HPL.out, HZ.out, Nat.mul_div_cancel_left Z (by omega)]
      obtain ⟨gh, hAh, hgh0, hghl, hhc⟩ := HRH.out.cells (by omega)
      subst hAh
      rw [← hST] at hhc
      have HHC := Lib.hid hhc
      have HSHA := Lib.hid hsha
      obtain ⟨i, hi⟩ : ∃ i, i = 128 * k := ⟨_, rfl⟩
      rw [← hi]
      have hd2 : ¬ i < N := by omega
      have hd : decide (i < N) = false := by simp; omega
      have hsb := hbr.size
      clear hST hsha hhc hi ek
      go_wp2
      rename World => w5
      go_loopw [7, 6] (fun i v wr => ∃ (j : Nat) (A6 : Option Addr) (M6 cap6 : Nat), j ≤ 8 ∧ M6 = 8 * j ∧ i = .int .i64 j ∧ v = .slice A6 M6 cap6 ∧ Row wr w5.heap.size 5 A6 M6 cap6 (cb (ST.out.take (8 * j))) ∧ Below w5.heap.size w5 wr ∧ w5.heap.size ≤ wr.heap.size) (fun i _ _ => 8 - (intOf i).toNat)
      case atStart => exact ⟨0, none, 0, 0, by omega, rfl, rfl, rfl, Row.nil _ _ _, Below.refl _ _, Nat.le_refl _⟩
      case round =>
        obtain ⟨j, A6, M6, cap6, hj, hM6, rfl, rfl, hr6, hb6, hB6⟩ := hrel
        have HR6 := Lib.hid hr6
        have HM6 := Lib.hid hM6
        have bm6 : M6 ≤ 64 := by omega
        clear hr6 hM6
        by_cases hj8 : j < 8
        · have hdj : decide ((j : Int) < 8) = true := by simp; omega
          go_wp2
          rename World => w7
          go_loopw [8, 6] (fun q v wr => ∃ (t : Nat) (A9 : Option Addr) (M9 cap9 : Nat), t ≤ 8 ∧ M9 + t = M6 + 8 ∧ q = .int .i64 ((t : Int) - 1) ∧ v = .slice A9 M9 cap9 ∧ Row wr w5.heap.size 5 A9 M9 cap9 (cb (ST.out.take (8 * j + (8 - t)))) ∧ Below w5.heap.size w5 wr ∧ w5.heap.size ≤ wr.heap.size) (fun q _ _ => (intOf q + 1).toNat)
          case atStart => exact ⟨8, A6, M6, cap6, by omega, rfl, rfl, rfl, HR6.out, hb6, hB6⟩
          case round =>
            obtain ⟨t, A9, M9, cap9, ht, hM9, hq, rfl, hr9, hb9, hB9⟩ := hrel
            have HR9 := Lib.hid hr9
            have HM9 := Lib.hid hM9
            have bm9 : M9 ≤ 80 := by omega
            clear hr9 hM9
            rcases t with _ | t
            · subst hq
              go_wp2
              go_roundw
              case rel =>
                have h6 := HM6.out
                have h9 := HM9.out
                refine ⟨j + 1, A9, M9, cap9, by omega, by omega, by go_num, rfl, ?_, hb9, hB9⟩
                have := HR9.out
                rw [show 8 * j + (8 - 0) = 8 * (j + 1) by omega] at this
                exact this
              case measure => simp [intOf]; omega
            · have et : ((t + 1 : Nat) : Int) - 1 = (t : Int) := by omega
              rw [et] at hq
              subst hq
              have cx : wr.cell? ⟨gh, j, none⟩ = some (.int .u64 (ui (ST.list.getD j 0))) := by
                rw [hb9.cell (p := ⟨gh, j, none⟩) hghl]
                exact HHC.out j _ (cw_get ST.list j (show j < 8 from hj8))
              obtain ⟨x, hx⟩ : ∃ x, x = ST.list.getD j 0 := ⟨_, rfl⟩
              rw [← hx] at cx
              have hy : ui x / 2 ^ (8 * t) % 256 = ub (ST.out.getD (8 * j + (8 - (t + 1))) 0) := by
                rw [out_get ST j (8 - (t + 1)) hj8 (by omega), ← hx, show 56 - 8 * (8 - (t + 1)) = 8 * t by omega]
                exact ub_cut x (8 * t)
              obtain ⟨M10, hM10⟩ : ∃ M10, M9 + 1 = M10 := ⟨_, rfl⟩
              have HM10 := Lib.hid hM10
              have HY := Lib.hid hy
              have u0 := ui_lo x
              clear et hx hy hM10
              go_wp2_with (first
                | ((with_reducible refine at_dst (some 43) ?_); refine wpList_appByte (o := ⟨some 43, _, _, _, _, _⟩) rfl (.tmp 33) (.tmp 42) rfl hb9 hB9 (l := ST.out.take (8 * j + (8 - (t + 1)))) _ _ HY.out rfl HR9.out rfl (by omega) M10 HM10.out ?_; intro A11 cap11 w11 hr11 hb11 hB11))
              go_roundw
              case rel =>
                have h9 := HM9.out
                have h10 := HM10.out
                refine ⟨t, A11, M10, cap11, by omega, by omega, rfl, rfl, ?_, hb11, hB11⟩
                have := hr11.out
                rw [out_take ST _ (by omega), show 8 * j + (8 - (t + 1)) + 1 = 8 * j + (8 - t) by omega] at this
                exact this
              case measure => simp [intOf]
        · have e8 : j = 8 := by omega
          have h6 := HM6.out
          have e32 : M6 = 64 := by omega
          have hr12 := HR6.out
          rw [e8, show 8 * 8 = 64 from rfl, List.take_of_length_le (by rw [out_length]; omega), HSHA.out] at hr12
          have HR12 := Lib.hid hr12
          subst e32
          clear hr12 h6 e8
          go_wp2
          go_ret
          exact ⟨A6, cap6, rfl, HR12.out.mono (by omega), HB2.out.trans ((hbr.mono hsz).trans (hb6.mono (by omega)))⟩
end Go.Proofs.YtfoenafjaaidmaaDoorLn
