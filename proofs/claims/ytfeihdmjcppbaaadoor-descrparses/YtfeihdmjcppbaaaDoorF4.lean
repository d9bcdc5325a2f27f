/-
  What the document's Parse answers. No condition but that bytes fit.
-/
import Derived.Test.YtfeihdmjcppbaaaDoorF3
import Derived.Test.YtfeihdmjcppbaaaDoorE3
namespace Go.Proofs.YtfeihdmjcppbaaaDoor
open Go.RowKit
set_option linter.unusedVariables false
set_option linter.unusedSimpArgs false
set_option maxRecDepth 100000

theorem step_10 {seen : List De} {b : List Nat} (h : b.length < 16) : step seen b = .error 10 := by unfold step; rw [if_pos h]
theorem step_33 {seen : List De} {b : List Nat} (h : 16 ≤ b.length) (h2 : 5 ≤ num (sl b 0 8)) : step seen b = .error 33 := by unfold step; rw [if_neg (by omega), if_pos h2]
theorem step_10b {seen : List De} {b : List Nat} (h : 16 ≤ b.length) (h2 : num (sl b 0 8) ≤ 4) (h3 : b.length < 16 + num (sl b 8 8)) : step seen b = .error 10 := by unfold step; rw [if_neg (by omega), if_neg (by omega), if_pos h3]
theorem step_12 {seen : List De} {b : List Nat} (h : 16 ≤ b.length) (h2 : num (sl b 0 8) ≤ 4) (h3 : 16 + num (sl b 8 8) ≤ b.length) (h4 : dec (num (sl b 0 8)) (sl b 16 (num (sl b 8 8))) = none) : step seen b = .error 12 := by unfold step; rw [if_neg (by omega), if_neg (by omega), if_neg (by omega), h4]
theorem step_35 {seen : List De} {b : List Nat} {d : De} (h : 16 ≤ b.length) (h2 : num (sl b 0 8) ≤ 4) (h3 : 16 + num (sl b 8 8) ≤ b.length) (h4 : dec (num (sl b 0 8)) (sl b 16 (num (sl b 8 8))) = some d) (h5 : dup seen d = true) : step seen b = .error 35 := by unfold step; rw [if_neg (by omega), if_neg (by omega), if_neg (by omega), h4]; simp only []; rw [h5]; rfl
theorem step_yes {seen : List De} {b : List Nat} {d : De} (h : 16 ≤ b.length) (h2 : num (sl b 0 8) ≤ 4) (h3 : 16 + num (sl b 8 8) ≤ b.length) (h4 : dec (num (sl b 0 8)) (sl b 16 (num (sl b 8 8))) = some d) (h5 : dup seen d = false) : step seen b = .ok (d, num (sl b 8 8)) := by unfold step; rw [if_neg (by omega), if_neg (by omega), if_neg (by omega), h4]; simp only []; rw [h5]; rfl
theorem pgo_step {k : Nat} {seen : List De} {b : List Nat} (hk : k < 32) (hb : 0 < b.length) : pgo (32 - k) seen b = match step seen b with
    | .error e => ([], e)
    | .ok (d, n) => pgo (32 - (k + 1)) (seen ++ [d]) (b.drop (16 + n)) := by
  obtain ⟨f, hf⟩ : ∃ f, 32 - k = f + 1 := ⟨31 - k, by omega⟩
  rw [hf, pgo, if_neg (by omega), show 32 - (k + 1) = f by omega]
  cases step seen b <;> rfl
theorem sl_drop (l : List Nat) (p o n : Nat) : sl (l.drop p) o n = sl l (p + o) n := by unfold sl; rw [List.drop_drop]
theorem Bs.part {w : World} {A : Option Addr} {n cap : Nat} {l : List Nat} (hb : Bs w A n cap l) (o m : Nat) (h : o + m ≤ n) : Bs w (if cap = o then A else A.map (·.add o)) m (cap - o) (sl l o m) := by
  have hle := hb.le
  have hmx := hb.max
  refine ⟨hb.rd.mid o m cap h hle, sl_fit hb.fit _ _, by omega, by omega, fun e => ?_⟩
  by_cases hce : cap = o
  · omega
  · rw [if_neg hce] at e
    cases A with
    | none => have := hb.nil rfl; omega
    | some a => cases e
theorem OfA.part {A : Option Addr} {cap o : Nat} {x : Dx} (h : OfA (if cap = o then A else A.map (·.add o)) x) : OfA A x := fun s hs ad e => by
  obtain ⟨ad0, h0, h1⟩ := h s hs ad e
  by_cases hce : cap = o
  · rw [if_pos hce] at h0; exact ⟨ad0, h0, h1⟩
  · rw [if_neg hce] at h0
    cases A with
    | none => cases h0
    | some a =>
      simp only [Option.map_some, Option.some.injEq] at h0
      exact ⟨a, rfl, by rw [h1, ← h0, block_add]⟩
theorem PL.formEv {t : TypeId} {B : Nat} {w : World} {A : Option Addr} {n cap : Nat} {xs : List Dx} (h : PL t B w A n cap xs) : ∀ ad, A = some ad → ∃ g, ad = ⟨g, 0, none⟩ := fun ad e => by
  rcases h.row.2 with ⟨hv, _⟩ | ⟨g, cap', cur, hv, _⟩
  · injection hv with h1
    rw [e] at h1; cases h1
  · injection hv with h1
    rw [e] at h1
    exact ⟨g, by injection h1⟩
def RParseP (w : World) (l : List Nat) (e : Ending) (w' : World) : Prop :=
  ∃ A n c xs, ∃ er : Nat, e = .returned (.tuple #[.slice A n c, .int .i64 (er : Int)]) ∧ parse l = (des xs, er) ∧ PL 28 w.heap.size w' A n c xs ∧ Below w.heap.size w w'
set_option maxHeartbeats 8000000 in
theorem RParse_any (A : Option Addr) (n cap : Nat) (l : List Nat) (w : World) (hb : Bs w A n cap l) (hn : n ≤ 100000) : Calls Tryd.prog 18 #[.slice A n cap] w (RParseP w l) := by
  obtain ⟨d1, hu1, hd1⟩ := uR
  have HB := Lib.hid hb
  have hl := hb.rd.1
  have HL := Lib.hid hl
  have hnc := hb.le
  have hcm := hb.max
  have HF := Lib.hid hb.fit
  clear hb hl
  go_enter Tryd.func18, Tryd.ntmps18
  go_wp2
  go_loopw [4, 5] (fun a o wr => ∃ p Al k cl xs, o = .int .i64 ((p : Nat) : Int) ∧ a = .slice Al k cl ∧ p ≤ n ∧ k ≤ 32 ∧ Hid (Below w.heap.size w wr ∧ PL 28 w.heap.size wr Al k cl xs ∧ pgo (32 - k) (des xs) (l.drop p) = parse l)) (fun _ o _ => n - (intOf o).toNat)
  case atStart => exact ⟨0, none, 0, 0, [], rfl, rfl, Nat.zero_le _, by omega, Below.refl _ _, PL.nil _ _ _, rfl⟩
  case round =>
    obtain ⟨p, Al, k, cl, xs, rfl, rfl, hp, hk, HS⟩ := hrel
    have HDL : Hid ((l.drop p).length = n - p) := by show _ = _; rw [List.length_drop, HL.out]
    by_cases hpn : p < n
    · have zpn : (p : Int) < (n : Int) := by omega
      by_cases hk32 : k = 32
      · subst hk32
        have HE : Hid (parse l = ([], 11)) := by
          show _ = _
          have := HS.out.2.2
          rw [← this]
          simp only [Nat.sub_self, pgo]
          rw [if_neg (by rw [HDL.out]; omega)]
        go_wp2
        go_ret2
        exact ⟨none, 0, 0, [], 11, rfl, HE.out, PL.nil _ _ _, HS.out.1⟩
      · have e32 : ((k : Int) == 32) = false := beq_eq_false_iff_ne.2 (by omega)
        have HPG : Hid (parse l = match step (des xs) (l.drop p) with
            | .error e => ([], e)
            | .ok (d, n) => pgo (32 - (k + 1)) (des xs ++ [d]) ((l.drop p).drop (16 + n))) := by
          show _ = _
          rw [← HS.out.2.2]
          exact pgo_step (by omega) (by rw [HDL.out]; omega)
        have HK32 : Hid (k < 32) := by show _ < _; omega
        clear hk32
        by_cases h16 : n - p < 16
        · have z16 : (n : Int) - (p : Int) < 16 := by omega
          have HE : Hid (parse l = ([], 10)) := by show _ = _; rw [HPG.out, step_10 (by rw [HDL.out]; exact h16)]
          clear h16
          go_wp2
          go_ret2
          exact ⟨none, 0, 0, [], 10, rfl, HE.out, PL.nil _ _ _, HS.out.1⟩
        · have z16 : ¬ (n : Int) - (p : Int) < 16 := by omega
          have H16 : Hid (16 ≤ (l.drop p).length) := by show _ ≤ _; rw [HDL.out]; omega
          have hBr := HB.out.below HS.out.1
          have HG1 := Lib.hid (RGet_q A n cap l wr hBr p 8 (p : Int) 8 rfl rfl (by omega) (by omega) (by omega))
          have HG2 := Lib.hid (RGet_q A n cap l wr hBr (p + 8) 8 ((p : Int) + 8) 8 (by omega) rfl (by omega) (by omega) (by omega))
          have hs1 : sl (l.drop p) 0 8 = sl l p 8 := by rw [sl_drop, Nat.add_zero]
          have hs2 : sl (l.drop p) 8 8 = sl l (p + 8) 8 := sl_drop _ _ _ _
          obtain ⟨kk, hkk⟩ : ∃ kk, num (sl l p 8) = kk := ⟨_, rfl⟩
          obtain ⟨M, hM⟩ : ∃ M, num (sl l (p + 8) 8) = M := ⟨_, rfl⟩
          have HKK : Hid (num (sl (l.drop p) 0 8) = kk) := by show _ = _; rw [hs1]; exact hkk
          have HMM : Hid (num (sl (l.drop p) 8 8) = M) := by show _ = _; rw [hs2]; exact hM
          have hr1 := rget_cases (s := sl l p 8)
          have hr2 := rget_cases (s := sl l (p + 8) 8)
          rw [hkk] at hr1
          rw [hM] at hr2
          clear hkk hM hs1 hs2
          by_cases hk4 : kk ≤ 4
          · have hr1' : rget (sl l p 8) = (kk : Int) := hr1.elim id (fun h => by omega)
            rw [hr1'] at HG1
            have z4 : ¬ (4 : Int) < (kk : Int) := by omega
            have HK4 := Lib.hid hk4
            clear hr1 hr1'
            by_cases hMn : M ≤ n - p - 16
            · have hr2' : rget (sl l (p + 8) 8) = (M : Int) := hr2.elim id (fun h => by omega)
              rw [hr2'] at HG2
              have zM : ¬ (n : Int) - (p : Int) - 16 < (M : Int) := by omega
              have HPM : Hid (p + 16 + M ≤ n) := by show _ ≤ _; omega
              have hsl := fun W => run_mid8 A n cap (p + 16) (p + 16 + M) (by omega) (by omega) ((p : Int) + 16) ((p : Int) + 16 + (M : Int)) (by omega) (by omega) W
              rw [show p + 16 + M - (p + 16) = M by omega] at hsl
              have hbp := hBr.part (p + 16) M (by omega)
              have HOP : Hid (∀ x, OfA (if cap = p + 16 then A else A.map (·.add (p + 16))) x → OfA A x) := fun x h => h.part
              obtain ⟨A9, hA9⟩ : ∃ A9, (if cap = p + 16 then A else A.map (·.add (p + 16))) = A9 := ⟨_, rfl⟩
              obtain ⟨c9, hc9⟩ : ∃ c9, cap - (p + 16) = c9 := ⟨_, rfl⟩
              rw [hA9, hc9] at hsl hbp
              rw [hA9] at HOP
              have HRE := Lib.hid (rread_any kk A9 M c9 (sl l (p + 16) M) wr hk4 hbp (by omega))
              have HSB : Hid (sl (l.drop p) 16 (num (sl (l.drop p) 8 8)) = sl l (p + 16) M) := by show _ = _; rw [HMM.out]; exact sl_drop _ _ _ _
              have HM3 : Hid (16 + num (sl (l.drop p) 8 8) ≤ (l.drop p).length) := by show _ ≤ _; rw [HMM.out, HDL.out]; omega
              have HK3 : Hid (num (sl (l.drop p) 0 8) ≤ 4) := by show _ ≤ _; rw [HKK.out]; exact hk4
              clear hr2 hr2' hMn hbp hBr hA9 hc9 hk4
              go_wp2_with fail
              refine HG1.out.mono ?_
              rintro e w1 ⟨rfl, rfl⟩
              go_wp2_with fail
              refine HG2.out.mono ?_
              rintro e w1 ⟨rfl, rfl⟩
              go_wp2_with fail
              refine HRE.out.mono ?_
              rintro e w2 ⟨cs, rfl, hcl, hco, hyes, hb2⟩
              have HCS := Lib.hid (And.intro hcl hco)
              have HYES := Lib.hid hyes
              have HB2 := Lib.hid hb2
              have hb5 : Below w2.heap.size w2 (w2.alloc (.cells cs.toArray 28)) := (Below.refl _ _).alloc (Nat.le_refl _) _
              have hk5 : Blk (w2.alloc (.cells cs.toArray 28)) w2.heap.size 28 cs := Blk.new _ _ _
              obtain ⟨w5, hw5⟩ : ∃ w5, w2.alloc (.cells cs.toArray 28) = w5 := ⟨_, rfl⟩
              rw [hw5] at hb5 hk5
              obtain ⟨g5, hg5⟩ : ∃ g5, w2.heap.size = g5 := ⟨_, rfl⟩
              rw [hg5] at hk5
              have H5 : Hid (Below w.heap.size w w5 ∧ PL 28 w.heap.size w5 Al k cl xs ∧ Blk w5 g5 28 cs ∧ Below w2.heap.size w2 w5) := ⟨below_then (below_then HS.out.1 hb2) hb5, (HS.out.2.1.below hb2).below hb5, hk5, hb5⟩
              clear hcl hco hyes hb2 hb5 hk5 HG1 HG2 HRE
              obtain ⟨ok, hok⟩ : ∃ ok, (dec kk (sl l (p + 16) M)).isSome = ok := ⟨_, rfl⟩
              rw [hok]
              cases ok
              · have HE : Hid (parse l = ([], 12)) := by
                  show _ = _
                  rw [HPG.out, step_12 H16.out HK3.out HM3.out (by rw [HKK.out, HSB.out]; cases hq : dec kk (sl l (p + 16) M) with
                    | none => rfl
                    | some d => rw [hq] at hok; cases hok)]
                clear hok
                go_wp2_with ((with_reducible refine at_dst none ?_); refine wpList_storeNew (w := w2) (op := ⟨none, _, _, _, _, _⟩) rfl 28 (.tmp 9) (.tmp 56) rfl zeroD cs (by rw [← hg5]; rfl) rfl (by rw [HCS.out.1]; rfl) (by rw [HCS.out.1]; exact iR) HCS.out.2 ?_; rw [hw5])
                go_ret2
                exact ⟨none, 0, 0, [], 12, rfl, HE.out, PL.nil _ _ _, H5.out.1⟩
              · obtain ⟨x, hcx, hdx, hxo, hof⟩ := HYES.out hok
                subst hcx
                have HXO := Lib.hid (hxo.below H5.out.2.2.2)
                have HOFX := Lib.hid (HOP.out x hof)
                have HDX := Lib.hid hdx
                have hdec : dec (num (sl (l.drop p) 0 8)) (sl (l.drop p) 16 (num (sl (l.drop p) 8 8))) = some x.d := by rw [HKK.out, HSB.out]; exact hdx
                have HDEC := Lib.hid hdec
                obtain ⟨dd, hdd⟩ : ∃ dd, dup (des xs) x.d = dd := ⟨_, rfl⟩
                have HTW := Lib.hid (rtwice_any x Al k cl xs w5 (hxo.name) H5.out.2.1.dl (PL.formEv H5.out.2.1) (by omega))
                rw [hdd] at HTW
                have HDD := Lib.hid hdd
                clear hok hdx hxo hof hdec hdd HYES
                go_wp2_with (first
                  | ((with_reducible refine at_dst none ?_); refine wpList_storeNew (w := w2) (op := ⟨none, _, _, _, _, _⟩) rfl 28 (.tmp 9) (.tmp 56) rfl zeroD x.cells (by rw [← hg5]; rfl) rfl rfl iR x.one ?_; rw [hw5])
                  | ((with_reducible refine at_dst (some 61) ?_); refine wpList_loadAt (op := ⟨some 61, _, _, _, _, _⟩) rfl 28 (.tmp 9) rfl ⟨g5, 0, none⟩ rfl x.cells d1 H5.out.2.2.1.at hu1 hd1 iR ?_))
                refine HTW.out.mono ?_
                rintro e w6 ⟨rfl, hb6⟩
                have H6 : Hid (Below w.heap.size w w6 ∧ PL 28 w.heap.size w6 Al k cl xs ∧ Blk w6 g5 28 x.cells ∧ DxOk w6 x) := ⟨below_then H5.out.1 hb6, H5.out.2.1.below hb6, H5.out.2.2.1.below hb6 H5.out.2.2.1.lt, HXO.out.below hb6⟩
                clear hb6 HTW
                cases dd
                · have hbx : Below w6.heap.size w6 (w6.alloc (.cells x.cells.toArray 28)) := (Below.refl _ _).alloc (Nat.le_refl _) _
                  have hkx : Blk (w6.alloc (.cells x.cells.toArray 28)) w6.heap.size 28 x.cells := Blk.new _ _ _
                  obtain ⟨w7, hw7⟩ : ∃ w7, w6.alloc (.cells x.cells.toArray 28) = w7 := ⟨_, rfl⟩
                  rw [hw7] at hbx hkx
                  have H7 : Hid (Below w.heap.size w w7 ∧ PL 28 w.heap.size w7 Al k cl xs ∧ At w7 ⟨w6.heap.size, 0, none⟩ x.cells ∧ DxOk w7 x) := ⟨below_then H6.out.1 hbx, H6.out.2.1.below hbx, hkx.at, H6.out.2.2.2.below hbx⟩
                  have HNW : Hid (∀ s, (s = x.s1 ∨ s = x.s2 ∨ s = x.s3 ∨ s = x.s4) → 0 < s.n → ∀ ad, s.A = some ad → ∀ ad', Al = some ad' → ad'.block ≠ ad.block) := fun s hs hsn ad e ad' e' => by
                    obtain ⟨ad0, h0, h1⟩ := HOFX.out s hs ad e
                    have h2 := (HS.out.2.1.ge ad' e').1
                    have h3 := HB.out.rd.lt (by omega) ad0 h0
                    omega
                  have HAPP : Hid (∀ {ops : Array Oper} {rest : List Oper} {o : Oper} {a : Act} {Q : Exit → Act → World → Prop} (hgd : o.guard = none) (s y : Operand) (ho : o.op = .call { callee := .builtin .append, args := #[s, y], argTypes := #[35, 35] }) (hs : a.eval s = .slice Al k cl) (hy : a.eval y = .slice (some ⟨w6.heap.size, 0, none⟩) 1 1)
                      (hk : ∀ A' c' w', Hid (PL 28 w.heap.size w' A' (k + 1) c' (xs ++ [x])) → Below w.heap.size w7 w' → wpList Tryd.prog ops Q rest (a.put o.dst (.slice A' (k + 1) c')) w'), wpList Tryd.prog ops Q (o :: rest) a w7) :=
                    fun hgd s y ho hs hy hk => wpList_appD ltR hgd s y ho H7.out.1.size hs H7.out.2.1 hy H7.out.2.2.1 H7.out.2.2.2 HNW.out (by have := HK32.out; omega) (k + 1) rfl hk
                  have HPE : Hid (pgo (32 - (k + 1)) (des (xs ++ [x])) (l.drop (p + (16 + M))) = parse l) := by
                    show _ = _
                    rw [HPG.out, step_yes H16.out HK3.out HM3.out HDEC.out HDD.out, HMM.out]
                    simp [des]
                  have hpb : p ≤ 100000 := by omega
                  have hmb : M ≤ 100000 := by have := HPM.out; omega
                  clear hbx hkx
                  go_wp2_with (first
                    | ((with_reducible refine at_dst (some 64) ?_); refine wpList_loadAt (op := ⟨some 64, _, _, _, _, _⟩) rfl 28 (.tmp 9) rfl ⟨g5, 0, none⟩ rfl x.cells d1 H6.out.2.2.1.at hu1 hd1 iR ?_)
                    | ((with_reducible refine at_dst (some 65) ?_); refine wpList_build1 ltR (o := ⟨some 65, _, _, _, _, _⟩) rfl (.tmp 64) rfl x rfl ?_; rw [hw7])
                    | ((with_reducible refine at_dst (some 66) ?_); refine HAPP.out (o := ⟨some 66, _, _, _, _, _⟩) rfl (.tmp 63) (.tmp 65) rfl rfl rfl ?_; intro A5 c5 w8 hpl8 hbe8))
                  go_roundw
                  case rel => exact ⟨p + (16 + M), A5, k + 1, c5, xs ++ [x], by go_num, rfl, by have := HPM.out; omega, by have := HK32.out; omega, H7.out.1.trans hbe8, hpl8.out, HPE.out⟩
                  case measure =>
                    have := HPM.out
                    simp [intOf]
                    omega
                · have HE : Hid (parse l = ([], 35)) := by
                    show _ = _
                    rw [HPG.out, step_35 H16.out HK3.out HM3.out HDEC.out HDD.out]
                  go_wp2
                  go_ret2
                  exact ⟨none, 0, 0, [], 35, rfl, HE.out, PL.nil _ _ _, H6.out.1⟩
            · have HE : Hid (parse l = ([], 10)) := by
                show _ = _
                rw [HPG.out, step_10b H16.out (by rw [HKK.out]; exact hk4) (by rw [HMM.out, HDL.out]; omega)]
              rcases hr2 with hr2 | ⟨hr2, _⟩
              · rw [hr2] at HG2
                have zM : (n : Int) - (p : Int) - 16 < (M : Int) := by omega
                clear hMn hr2 hk4 hBr
                go_wp2_with fail
                refine HG1.out.mono ?_
                rintro e w1 ⟨rfl, rfl⟩
                go_wp2_with fail
                refine HG2.out.mono ?_
                rintro e w1 ⟨rfl, rfl⟩
                go_wp2
                go_ret2
                exact ⟨none, 0, 0, [], 10, rfl, HE.out, PL.nil _ _ _, HS.out.1⟩
              · rw [hr2] at HG2
                clear hMn hr2 hk4 hBr
                go_wp2_with fail
                refine HG1.out.mono ?_
                rintro e w1 ⟨rfl, rfl⟩
                go_wp2_with fail
                refine HG2.out.mono ?_
                rintro e w1 ⟨rfl, rfl⟩
                go_wp2
                go_ret2
                exact ⟨none, 0, 0, [], 10, rfl, HE.out, PL.nil _ _ _, HS.out.1⟩
          · have HE : Hid (parse l = ([], 33)) := by
              show _ = _
              rw [HPG.out, step_33 H16.out (by rw [HKK.out]; omega)]
            rcases hr1 with hr1 | ⟨hr1, _⟩
            · rw [hr1] at HG1
              have z4 : (4 : Int) < (kk : Int) := by omega
              clear hr1 hr2 hk4 hBr
              go_wp2_with fail
              refine HG1.out.mono ?_
              rintro e w1 ⟨rfl, rfl⟩
              go_wp2
              go_ret2
              exact ⟨none, 0, 0, [], 33, rfl, HE.out, PL.nil _ _ _, HS.out.1⟩
            · rw [hr1] at HG1
              clear hr1 hr2 hk4 hBr
              go_wp2_with fail
              refine HG1.out.mono ?_
              rintro e w1 ⟨rfl, rfl⟩
              go_wp2
              go_ret2
              exact ⟨none, 0, 0, [], 33, rfl, HE.out, PL.nil _ _ _, HS.out.1⟩
    · have HE : Hid (parse l = (des xs, 0)) := by
        show _ = _
        have := HS.out.2.2
        have h0 : (l.drop p).length = 0 := by rw [HDL.out]; omega
        rw [← this]
        cases 32 - k <;> simp [pgo, List.eq_nil_of_length_eq_zero h0]
      have zge : ¬ (p : Int) < (n : Int) := by omega
      go_wp2
      go_ret2
      exact ⟨Al, k, cl, xs, 0, rfl, HE.out, HS.out.2.1, HS.out.1⟩
end Go.Proofs.YtfeihdmjcppbaaaDoor
