/-
  What Parse answers. No condition but that bytes fit.
-/
import Derived.Test.YtfeihdmjcppbaaaDoorP3
namespace Go.Proofs.YtfeihdmjcppbaaaDoor
open Go.RowKit
set_option linter.unusedVariables false
set_option linter.unusedSimpArgs false
set_option maxRecDepth 100000

def lenOf : Value → Nat
  | .slice _ n _ => n
  | _ => 0
/-- What was read lies in new memory. -/
def NewD (B : Nat) (xs : List Dx) : Prop := ∀ x ∈ xs, ∀ s, (s = x.s1 ∨ s = x.s2 ∨ s = x.s3 ∨ s = x.s4) → ∃ g, s.A = some ⟨g, 0, none⟩ ∧ B ≤ g
theorem NewD.snoc {B : Nat} {xs : List Dx} (h : NewD B xs) {x : Dx} (hx : ∀ s, (s = x.s1 ∨ s = x.s2 ∨ s = x.s3 ∨ s = x.s4) → ∃ g, s.A = some ⟨g, 0, none⟩ ∧ B ≤ g) : NewD B (xs ++ [x]) := fun y hy => by
  rcases List.mem_append.1 hy with hy | hy
  · exact h y hy
  · rw [List.mem_singleton.1 hy]; exact hx
def ParseP (w : World) (l : List Nat) (e : Ending) (w' : World) : Prop :=
  ∃ A n c xs, ∃ er : Nat, e = .returned (.tuple #[.slice A n c, .int .i64 (er : Int)]) ∧ parse l = (des xs, er) ∧ PL 27 w.heap.size w' A n c xs ∧ NewD w.heap.size xs ∧ Below w.heap.size w w'
set_option maxHeartbeats 4000000 in
theorem Parse_any (A : Option Addr) (n cap : Nat) (l : List Nat) (w : World) (hb : Bs w A n cap l) (hn : n ≤ 100000) : Calls Tryd.prog 16 #[.slice A n cap] w (ParseP w l) := by
  obtain ⟨d0, hu0, hd0⟩ := uD
  have HB := Lib.hid hb
  clear hb
  go_enter Tryd.func16, Tryd.ntmps16
  go_wp2
  go_loopw [0, 4] (fun a o wr => ∃ Ab nb cb lb Al k cl xs, a = .slice Ab nb cb ∧ o = .slice Al k cl ∧ nb ≤ n ∧ k ≤ 32 ∧ Hid (Below w.heap.size w wr ∧ Bs w Ab nb cb lb ∧ PL 27 w.heap.size wr Al k cl xs ∧ NewD w.heap.size xs ∧ pgo (32 - k) (des xs) lb = parse l)) (fun a _ _ => lenOf a)
  case atStart => exact ⟨A, n, cap, l, none, 0, 0, [], rfl, rfl, Nat.le_refl _, by omega, Below.refl _ _, HB.out, PL.nil _ _ _, fun x h => (by cases h), rfl⟩
  case round =>
    obtain ⟨Ab, nb, cb, lb, Al, k, cl, xs, rfl, rfl, hnb, hk, HS⟩ := hrel
    have hlb := HS.out.2.1.rd.1
    have HLB := Lib.hid hlb
    clear hlb
    by_cases h0 : nb = 0
    · subst h0
      have HE : Hid (parse l = (des xs, 0)) := by
        have := HS.out.2.2.2.2
        have hl0 := HLB.out
        show _ = _
        rw [← this]
        cases 32 - k <;> simp [pgo, hl0]
      go_wp2
      go_ret2
      exact ⟨Al, k, cl, xs, 0, rfl, HE.out, HS.out.2.2.1, HS.out.2.2.2.1, HS.out.1⟩
    · have z0 : (0 : Int) < (nb : Int) := by omega
      by_cases hk32 : k = 32
      · subst hk32
        have HE : Hid (parse l = ([], 11)) := by
          have := HS.out.2.2.2.2
          have hl0 := HLB.out
          show _ = _
          rw [← this]
          simp only [Nat.sub_self, pgo]
          rw [if_neg (by omega)]
        clear h0
        go_wp2
        go_ret2
        exact ⟨none, 0, 0, [], 11, rfl, HE.out, PL.nil _ _ _, fun x h => (by cases h), HS.out.1⟩
      · have e32 : ((k : Int) == 32) = false := beq_eq_false_iff_ne.2 (by omega)
        have HPG : Hid (parse l = match step (des xs) lb with
            | .error e => ([], e)
            | .ok (d, m) => pgo (32 - (k + 1)) (des xs ++ [d]) (lb.drop (16 + m))) := by
          have := HS.out.2.2.2.2
          have hl0 := HLB.out
          show _ = _
          rw [← this]
          obtain ⟨f, hf⟩ : ∃ f, 32 - k = f + 1 := ⟨31 - k, by omega⟩
          rw [hf, pgo, if_neg (by omega), show 32 - (k + 1) = f by omega]
          rcases step (des xs) lb with e | ⟨d, m⟩ <;> rfl
        have HK32 : Hid (k < 32) := by show _ < _; omega
        have HF := Lib.hid (first_any Ab nb cb lb wr (HS.out.2.1.below HS.out.1) (by omega))
        have HN0 := Lib.hid h0
        clear h0 hk32
        go_wp2_with fail
        refine HF.out.mono ?_
        rintro e w1 ⟨kd, A1, m1, c1, er, rfl, her, hok, hb1⟩
        have H1 : Hid (Below w.heap.size w w1 ∧ Bs w1 Ab nb cb lb ∧ PL 27 w.heap.size w1 Al k cl xs) := ⟨HS.out.1.trans (hb1.mono HS.out.1.size), (HS.out.2.1.below HS.out.1).below hb1, HS.out.2.2.1.below hb1⟩
        have HER := Lib.hid her
        have HOK := Lib.hid hok
        clear her hok
        by_cases he0 : er = 0
        · subst he0
          obtain ⟨hkd, hm1, hc1, g1, hA1, hg1, hB1⟩ := HOK.out rfl
          obtain ⟨hg16, hg4, hgn, hst⟩ := step_go (seen := des xs) (b := lb) HER.out.symm
          have HST := Lib.hid hst
          obtain ⟨K, hK⟩ : ∃ K, num (sl lb 0 8) = K := ⟨_, rfl⟩
          obtain ⟨M, hM⟩ : ∃ M, num (sl lb 8 8) = M := ⟨_, rfl⟩
          rw [hK] at hkd hg4
          rw [hM] at hm1 hgn
          obtain rfl : M = m1 := hm1.symm
          obtain rfl : M = c1 := hc1.symm
          subst hkd hA1
          have hMn : 16 + M ≤ nb := by have := HLB.out; omega
          have hsl : (sl lb 16 M).length = M := sl_length hgn
          have hbs1 : Bs w1 (some ⟨g1, 0, none⟩) M M (sl lb 16 M) := ⟨hB1.rd M hsl, sl_fit HS.out.2.1.fit _ _, Nat.le_refl _, by omega, fun e => by cases e⟩
          have HRD := Lib.hid (read_any K (some ⟨g1, 0, none⟩) M M (sl lb 16 M) w1 hg4 hbs1 (by omega))
          have HST2 : Hid (step (des xs) lb = match dec K (sl lb 16 M) with
              | none => .error 12
              | some d => if dup (des xs) d then .error 35 else .ok (d, M)) := by
            have := HST.out
            rw [hK, hM] at this
            exact this
          have HMN := Lib.hid hMn
          have HGE1 : Hid (wr.heap.size ≤ g1 ∧ wr.heap.size ≤ w1.heap.size) := ⟨hg1, hb1.size⟩
          clear hg1 hB1 hg16 hg4 hgn hst hK hM hsl hbs1 hb1 hMn HST HF
          go_wp2_with fail
          refine HRD.out.mono ?_
          rintro e w2 ⟨cs, rfl, hcl, hco, hx, hb2⟩
          have H2 : Hid (Below w.heap.size w w2 ∧ Bs w2 Ab nb cb lb ∧ PL 27 w.heap.size w2 Al k cl xs ∧ w1.heap.size ≤ w2.heap.size) := ⟨H1.out.1.trans (hb2.mono H1.out.1.size), H1.out.2.1.below hb2, H1.out.2.2.below hb2, hb2.size⟩
          have HX := Lib.hid hx
          have HCS := Lib.hid (And.intro hcl hco)
          have hb5 : Below w2.heap.size w2 (w2.alloc (.cells cs.toArray 27)) := (Below.refl _ _).alloc (Nat.le_refl _) _
          have hk5 : Blk (w2.alloc (.cells cs.toArray 27)) w2.heap.size 27 cs := Blk.new _ _ _
          obtain ⟨w5, hw5⟩ : ∃ w5, w2.alloc (.cells cs.toArray 27) = w5 := ⟨_, rfl⟩
          rw [hw5] at hb5 hk5
          have H5 : Hid (Below w.heap.size w w5 ∧ Bs w5 Ab nb cb lb ∧ PL 27 w.heap.size w5 Al k cl xs ∧ Below w2.heap.size w2 w5) := ⟨H2.out.1.trans (hb5.mono H2.out.1.size), H2.out.2.1.below hb5, H2.out.2.2.1.below hb5, hb5⟩
          have HK5 := Lib.hid hk5
          clear hcl hco hx hb2 hb5 hk5 HRD
          rcases hdc : dec K (sl lb 16 M) with _ | d
          · have HE : Hid (parse l = ([], 12)) := by
              show _ = _
              rw [HPG.out, HST2.out, hdc]
            have hsome : (none : Option De).isSome = false := rfl
            rw [hsome]
            clear hdc hsome
            go_wp2_with ((with_reducible refine at_dst none ?_); refine wpList_storeNew (w := w2) (op := ⟨none, _, _, _, _, _⟩) rfl 27 (.tmp 8) (.tmp 29) rfl zeroD cs rfl rfl (by rw [HCS.out.1]; rfl) (by rw [HCS.out.1]; exact iD) HCS.out.2 ?_; rw [hw5])
            go_ret2
            exact ⟨none, 0, 0, [], 12, rfl, HE.out, PL.nil _ _ _, fun x h => (by cases h), H5.out.1⟩
          · have hsome : (some d).isSome = true := rfl
            obtain ⟨x, rfl, hxd, hxo, hxn⟩ := HX.out (by rw [hdc]; rfl)
            have hd2 : d = x.d := by
              have h1 := hdc
              unfold dec at h1
              split at h1
              · injection h1 with h1; rw [hxd, h1]
              · cases h1
            subst hd2
            have HXO := Lib.hid (hxo.below H5.out.2.2.2)
            have HXN : Hid (∀ s, (s = x.s1 ∨ s = x.s2 ∨ s = x.s3 ∨ s = x.s4) → ∃ g, s.A = some ⟨g, 0, none⟩ ∧ w1.heap.size ≤ g) := fun s hs => hxn s hs
            rw [hsome]
            have HDC := Lib.hid hdc
            have HCT := Lib.hid (ContainsF_any x Al k cl xs w5 HXO.out.name H5.out.2.2.1.dl (by omega))
            clear hdc hsome hxd hxo hxn HX
            go_wp2_with (first
              | ((with_reducible refine at_dst none ?_); refine wpList_storeNew (w := w2) (op := ⟨none, _, _, _, _, _⟩) rfl 27 (.tmp 8) (.tmp 29) rfl zeroD x.cells rfl rfl rfl iD x.one ?_; rw [hw5])
              | ((with_reducible refine at_dst (some 34) ?_); refine wpList_loadAt (op := ⟨some 34, _, _, _, _, _⟩) rfl 27 (.tmp 8) rfl ⟨w2.heap.size, 0, none⟩ rfl x.cells d0 HK5.out.at hu0 hd0 iD ?_))
            refine HCT.out.mono ?_
            rintro e w6 ⟨rfl, hb6⟩
            have H6 : Hid (Below w.heap.size w w6 ∧ Bs w6 Ab nb cb lb ∧ PL 27 w.heap.size w6 Al k cl xs ∧ Blk w6 w2.heap.size 27 x.cells ∧ DxOk w6 x) := ⟨H5.out.1.trans (hb6.mono H5.out.1.size), H5.out.2.1.below hb6, H5.out.2.2.1.below hb6, HK5.out.below hb6 HK5.out.lt, HXO.out.below hb6⟩
            clear hb6 HCT
            obtain ⟨dd, hdd⟩ : ∃ dd, dup (des xs) x.d = dd := ⟨_, rfl⟩
            rw [hdd]
            have HST3 : Hid (step (des xs) lb = if dd then .error 35 else .ok (x.d, M)) := by
              show _ = _
              rw [HST2.out, HDC.out, ← hdd]
            clear hdd
            cases dd
            · have hsz6 : w.heap.size ≤ w6.heap.size := H6.out.1.size
              have hbx : Below w6.heap.size w6 (w6.alloc (.cells x.cells.toArray 27)) := (Below.refl _ _).alloc (Nat.le_refl _) _
              have hkx : Blk (w6.alloc (.cells x.cells.toArray 27)) w6.heap.size 27 x.cells := Blk.new _ _ _
              obtain ⟨w7, hw7⟩ : ∃ w7, w6.alloc (.cells x.cells.toArray 27) = w7 := ⟨_, rfl⟩
              rw [hw7] at hbx hkx
              have H7 : Hid (Below w.heap.size w w7 ∧ Bs w7 Ab nb cb lb ∧ PL 27 w.heap.size w7 Al k cl xs ∧ Blk w7 w6.heap.size 27 x.cells ∧ DxOk w7 x) := ⟨H6.out.1.trans (hbx.mono H6.out.1.size), H6.out.2.1.below hbx, H6.out.2.2.1.below hbx, hkx, H6.out.2.2.2.2.below hbx⟩
              have HNW : Hid (∀ s, (s = x.s1 ∨ s = x.s2 ∨ s = x.s3 ∨ s = x.s4) → 0 < s.n → ∀ ad, s.A = some ad → ∀ ad', Al = some ad' → ad'.block ≠ ad.block) := fun s hs hn ad e ad' e' => by
                obtain ⟨g, hg, hge⟩ := HXN.out s hs
                rw [hg] at e
                injection e with e
                subst e
                have := (HS.out.2.2.1.ge ad' e').2
                have h2 := HGE1.out.2
                show ad'.block ≠ g
                omega
              have HAPP : Hid (∀ {ops : Array Oper} {rest : List Oper} {o : Oper} {a : Act} {Q : Exit → Act → World → Prop} (hgd : o.guard = none) (s y : Operand) (ho : o.op = .call { callee := .builtin .append, args := #[s, y], argTypes := #[22, 22] }) (hs : a.eval s = .slice Al k cl) (hy : a.eval y = .slice (some ⟨w6.heap.size, 0, none⟩) 1 1)
                  (hk : ∀ A' c' w', Hid (PL 27 w.heap.size w' A' (k + 1) c' (xs ++ [x])) → Below w.heap.size w7 w' → wpList Tryd.prog ops Q rest (a.put o.dst (.slice A' (k + 1) c')) w'), wpList Tryd.prog ops Q (o :: rest) a w7) :=
                fun hgd s y ho hs hy hk => wpList_appD ltD hgd s y ho H7.out.1.size hs H7.out.2.2.1 hy H7.out.2.2.2.1.at H7.out.2.2.2.2 HNW.out (by have := HK32.out; omega) (k + 1) rfl hk
              have hsl2 := fun W => run_from8 Ab nb cb (16 + M) (by have := HMN.out; omega) HS.out.2.1.le ((16 + M : Nat) : Int) rfl W
              have HBD := Lib.hid (HS.out.2.1.drop (16 + M) (by have := HMN.out; omega))
              have hwr : wrap64 (16 + (M : Int)) = ((16 + M : Nat) : Int) := by
                have := HMN.out
                unfold wrap64
                omega
              obtain ⟨P, hP⟩ : ∃ P, 16 + M = P := ⟨_, rfl⟩
              rw [hP] at hsl2 HBD hwr
              obtain ⟨A9, hA9⟩ : ∃ A9, (if cb = P then Ab else Ab.map (·.add P)) = A9 := ⟨_, rfl⟩
              rw [hA9] at hsl2 HBD
              obtain ⟨n9, hn9⟩ : ∃ n9, nb - P = n9 := ⟨_, rfl⟩
              obtain ⟨c9, hc9⟩ : ∃ c9, cb - P = c9 := ⟨_, rfl⟩
              rw [hn9, hc9] at hsl2 HBD
              have HN9 : Hid (n9 + 16 ≤ nb) := by show _ ≤ _; have := HMN.out; omega
              have HPE : Hid (pgo (32 - (k + 1)) (des (xs ++ [x])) (lb.drop P) = parse l) := by
                show _ = _
                rw [HPG.out, HST3.out, ← hP]
                simp [des]
              clear hsz6 hbx hkx hA9 hn9 hc9 hP
              go_wp2_with (first
                | ((with_reducible refine at_dst (some 38) ?_); refine wpList_loadAt (op := ⟨some 38, _, _, _, _, _⟩) rfl 27 (.tmp 8) rfl ⟨w2.heap.size, 0, none⟩ rfl x.cells d0 H6.out.2.2.2.1.at hu0 hd0 iD ?_)
                | ((with_reducible refine at_dst (some 39) ?_); refine wpList_build1 ltD (o := ⟨some 39, _, _, _, _, _⟩) rfl (.tmp 38) rfl x rfl ?_; rw [hw7])
                | ((with_reducible refine at_dst (some 40) ?_); refine HAPP.out (o := ⟨some 40, _, _, _, _, _⟩) rfl (.tmp 37) (.tmp 39) rfl rfl rfl ?_; intro A5 c5 w8 hpl8 hbe8))
              go_roundw
              case rel =>
                have hbw8 : Below w.heap.size w w8 := H7.out.1.trans hbe8
                refine ⟨A9, n9, c9, lb.drop P, A5, k + 1, c5, xs ++ [x], rfl, rfl, by have := HN9.out; omega, by have := HK32.out; omega, hbw8, HBD.out, hpl8.out, HS.out.2.2.2.1.snoc (fun s hs => ?_), HPE.out⟩
                obtain ⟨g, hg, hge⟩ := HXN.out s hs
                exact ⟨g, hg, by have h1 := HS.out.1.size; have h2 := HGE1.out.2; omega⟩
              case measure =>
                show n9 < nb
                have := HN9.out
                omega
            · have HE : Hid (parse l = ([], 35)) := by
                show _ = _
                rw [HPG.out, HST3.out]
                rfl
              go_wp2
              go_ret2
              exact ⟨none, 0, 0, [], 35, rfl, HE.out, PL.nil _ _ _, fun x h => (by cases h), H6.out.1⟩
        · have HE : Hid (parse l = ([], er)) := by
            show _ = _
            rw [HPG.out, step_err (by rw [← HER.out]; exact he0), HER.out]
          have e0 : ((er : Int) != 0) = true := by simp [he0]
          clear he0 hb1
          go_wp2
          go_ret2
          exact ⟨none, 0, 0, [], er, rfl, HE.out, PL.nil _ _ _, fun x h => (by cases h), H1.out.1⟩
end Go.Proofs.YtfeihdmjcppbaaaDoor
