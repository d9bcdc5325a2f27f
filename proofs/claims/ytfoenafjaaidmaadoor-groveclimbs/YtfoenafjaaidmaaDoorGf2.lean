/-
  Of a seed: its shape, where it is refused.
-/
import Derived.Test.YtfoenafjaaidmaaDoorGf1
namespace Go.Proofs.YtfoenafjaaidmaaDoor
open Go.RowKit
set_option linter.unusedVariables false
set_option linter.unusedSimpArgs false
set_option maxRecDepth 100000

set_option maxHeartbeats 4000000 in
theorem shape9_salt (z b : Int) (A : Option Addr) (nA cA : Nat) (Ad : Option Addr) (nd cd : Nat) (D : Nat) (hD : sizeOfAlg z = D) (w : World) (hRg : Rgt nd b D) (h64 : ¬ nA ≤ 64) : Calls Tryd.prog 15 #[.agg #[.int .i64 z, .int .i64 b, .slice A nA cA, .slice Ad nd cd]] w fun e w' => e = .returned (.tuple #[.agg #[.int .i64 (nd : Int), .int .i64 b, .int .i64 (D : Int)], .bool false]) ∧ Below w.heap.size w w' := by
  have HSZ : Hid (∀ w : World, Calls Tryd.prog 16 #[.int .i64 z] w fun e w' => e = .returned (.int .i64 (D : Int)) ∧ w = w') := fun w => by have := RefSize_any z w; rwa [hD] at this
  have HRT : Hid (∀ w : World, Calls Tryd.prog 23 #[.agg #[.int .i64 (nd : Int), .int .i64 b, .int .i64 (D : Int)]] w fun e w' => e = .returned (.bool true) ∧ Below w.heap.size w w') := fun w => by have := RefRight_any (nd : Int) b (D : Int) w; rwa [decide_eq_true hRg] at this
  have z4 : ¬ (nA : Int) ≤ 64 := by omega
  clear hD
  go_enter Tryd.func15, Tryd.ntmps15
  go_wp2
  go_region_held3 (fun w' => w'.cell? ⟨w.heap.size, 3, none⟩ = some (.slice Ad nd cd) ∧ w'.cell? ⟨w.heap.size, 1, none⟩ = some (.int .i64 b) ∧ w'.cell? ⟨w.heap.size, 0, none⟩ = some (.int .i64 z)) (first | (refine ⟨?_, ?_, ?_⟩ <;> go_keep) | assumption) (first | (go_at_call 16; refine (HSZ.out _).mono ?_; rintro e w2 ⟨rfl, rfl⟩))
  all_goals
    have HB1 : Hid (Below w.heap.size w (((w.alloc (.cells #[.int .i64 z, .int .i64 b, .slice A nA cA, .slice Ad nd cd] 24)).alloc (.cells #[.int .i64 0, .int .i64 0, .int .i64 0] 32)).alloc (.cells #[.int .i64 (nd : Int), .int .i64 b, .int .i64 (D : Int)] 32)).drew) := below_drew1 ((((Below.refl _ _).alloc (Nat.le_refl _) _).alloc (by simp) _).alloc (by simp; omega) _)
    have HK0 : Hid (Blk (((w.alloc (.cells #[.int .i64 z, .int .i64 b, .slice A nA cA, .slice Ad nd cd] 24)).alloc (.cells #[.int .i64 0, .int .i64 0, .int .i64 0] 32)).alloc (.cells #[.int .i64 (nd : Int), .int .i64 b, .int .i64 (D : Int)] 32)).drew w.heap.size 24 [.int .i64 z, .int .i64 b, .slice A nA cA, .slice Ad nd cd]) := ((Blk.new w 24 [.int .i64 z, .int .i64 b, .slice A nA cA, .slice Ad nd cd]).alloc _).alloc _
    have HK1 : Hid (Blk (((w.alloc (.cells #[.int .i64 z, .int .i64 b, .slice A nA cA, .slice Ad nd cd] 24)).alloc (.cells #[.int .i64 0, .int .i64 0, .int .i64 0] 32)).alloc (.cells #[.int .i64 (nd : Int), .int .i64 b, .int .i64 (D : Int)] 32)).drew (w.heap.size + 1) 32 [.int .i64 0, .int .i64 0, .int .i64 0]) := Blk.alloc (heap_alloc2_new w _ _) _
    have HK2 : Hid (Blk (((w.alloc (.cells #[.int .i64 z, .int .i64 b, .slice A nA cA, .slice Ad nd cd] 24)).alloc (.cells #[.int .i64 0, .int .i64 0, .int .i64 0] 32)).alloc (.cells #[.int .i64 (nd : Int), .int .i64 b, .int .i64 (D : Int)] 32)).drew (w.heap.size + 1 + 1) 32 [.int .i64 (nd : Int), .int .i64 b, .int .i64 (D : Int)]) := by
      have := Blk.new ((w.alloc (.cells #[.int .i64 z, .int .i64 b, .slice A nA cA, .slice Ad nd cd] 24)).alloc (.cells #[.int .i64 0, .int .i64 0, .int .i64 0] 32)) 32 [.int .i64 (nd : Int), .int .i64 b, .int .i64 (D : Int)]
      rw [World.size_alloc, World.size_alloc] at this
      exact this
    generalize (((w.alloc (.cells #[.int .i64 z, .int .i64 b, .slice A nA cA, .slice Ad nd cd] 24)).alloc (.cells #[.int .i64 0, .int .i64 0, .int .i64 0] 32)).alloc (.cells #[.int .i64 (nd : Int), .int .i64 b, .int .i64 (D : Int)] 32)).drew = W at *
    obtain ⟨G, hG⟩ : ∃ G, w.heap.size + 1 + 1 = G := ⟨_, rfl⟩
    rw [hG] at HK2 ⊢
    have HGG := Lib.hid hG
    clear hG
    obtain ⟨R, hR⟩ : ∃ R, w.heap.size + 1 = R := ⟨_, rfl⟩
    rw [hR] at HK1 ⊢
    have HRR := Lib.hid hR
    clear hR
    have k0 : W.cell? ⟨G, 0, none⟩ = some (.int .i64 (nd : Int)) := HK2.out.cell 0
    have k1 : W.cell? ⟨G, 1, none⟩ = some (.int .i64 b) := HK2.out.cell 1
    have k2 : W.cell? ⟨G, 2, none⟩ = some (.int .i64 (D : Int)) := HK2.out.cell 2
    have k3 : W.cell? ⟨w.heap.size, 2, none⟩ = some (.slice A nA cA) := HK0.out.cell 2
    have HBR : Hid (∀ (w3 : World), Below W.drew.heap.size W.drew w3 → (w3.cell? ⟨G, 0, none⟩ = some (.int .i64 (nd : Int)) ∧ w3.cell? ⟨G, 1, none⟩ = some (.int .i64 b) ∧ w3.cell? ⟨G, 2, none⟩ = some (.int .i64 (D : Int)) ∧ w3.cell? ⟨w.heap.size, 2, none⟩ = some (.slice A nA cA))) := fun w3 hb => by
      have h2 := Blk.below (w := W.drew) HK2.out hb HK2.out.lt
      have h0 := Blk.below (w := W.drew) HK0.out hb HK0.out.lt
      exact ⟨h2.cell 0, h2.cell 1, h2.cell 2, h0.cell 2⟩
    have HBO : Hid (∀ (w3 : World), Below W.drew.heap.size W.drew w3 → Blk w3 R 32 [.int .i64 0, .int .i64 0, .int .i64 0]) := fun w3 hb => Blk.below (w := W.drew) HK1.out hb HK1.out.lt
    have NE1 : Hid (G ≠ R) := by show _ ≠ _; have := HGG.out; have := HRR.out; omega
    have NE2 : Hid (w.heap.size ≠ R) := by show _ ≠ _; have := HRR.out; omega
    go_wp2
    go_region_held3 (fun w' => w'.cell? ⟨G, 0, none⟩ = some (.int .i64 (nd : Int)) ∧ w'.cell? ⟨G, 1, none⟩ = some (.int .i64 b) ∧ w'.cell? ⟨G, 2, none⟩ = some (.int .i64 (D : Int)) ∧ w'.cell? ⟨w.heap.size, 2, none⟩ = some (.slice A nA cA)) (first | exact ⟨keep3 hS3.1 NE1.out, keep3 hS3.2.1 NE1.out, keep3 hS3.2.2.1 NE1.out, keep3 hS3.2.2.2 NE2.out⟩ | assumption | (refine ⟨?_, ?_, ?_, ?_⟩ <;> go_keep)) (first | (go_at_call 23; refine (HRT.out _).mono ?_; rintro e w3 ⟨rfl, hb3⟩; have hS3 := HBR.out w3 hb3; have HO3 := Lib.hid (HBO.out w3 hb3); have HB3 := Lib.hid (below_then (below_drew1 HB1.out) hb3); have q0 : w3.cell? ⟨R, 0, none⟩ = some (.int .i64 0) := HO3.out.cell 0; have q1 : w3.cell? ⟨R, 1, none⟩ = some (.int .i64 0) := HO3.out.cell 1; have q2 : w3.cell? ⟨R, 2, none⟩ = some (.int .i64 0) := HO3.out.cell 2; have f0 : w3.frozen? ⟨R, 0, none⟩ = false := HO3.out.frozen 0; have f1 : w3.frozen? ⟨R, 1, none⟩ = false := HO3.out.frozen 1; have f2 : w3.frozen? ⟨R, 2, none⟩ = false := HO3.out.frozen 2; clear hb3))
    all_goals
      have hRw : w.heap.size ≤ R := by have := HRR.out; omega
      have HBF : Hid (Below w.heap.size w (((w3.setCell ⟨R, 0, none⟩ (.int .i64 (nd : Int))).setCell ⟨R, 1, none⟩ (.int .i64 b)).setCell ⟨R, 2, none⟩ (.int .i64 (D : Int)))) := ((HB3.out.setCell (p := ⟨R, 0, none⟩) hRw _).setCell (p := ⟨R, 1, none⟩) hRw _).setCell (p := ⟨R, 2, none⟩) hRw _
      have hbf : Blk (((w3.setCell ⟨R, 0, none⟩ (.int .i64 (nd : Int))).setCell ⟨R, 1, none⟩ (.int .i64 b)).setCell ⟨R, 2, none⟩ (.int .i64 (D : Int))) R 32 [.int .i64 (nd : Int), .int .i64 b, .int .i64 (D : Int)] := ((HO3.out.set_ 0 _).set_ 1 _).set_ 2 _
      clear q0 q1 q2 f0 f1 f2 hS3
      generalize (((w3.setCell ⟨R, 0, none⟩ (.int .i64 (nd : Int))).setCell ⟨R, 1, none⟩ (.int .i64 b)).setCell ⟨R, 2, none⟩ (.int .i64 (D : Int))) = U at *
      have r0 : U.cell? ⟨R, 0, none⟩ = some (.int .i64 (nd : Int)) := hbf.cell 0
      have r1 : U.cell? ⟨R, 1, none⟩ = some (.int .i64 b) := hbf.cell 1
      have r2 : U.cell? ⟨R, 2, none⟩ = some (.int .i64 (D : Int)) := hbf.cell 2
      clear hbf
      go_wp2
      (try simp only [Exit.inBlock, Exit.then])
      refine bodyPost_ret (v := .tuple #[.agg #[.int .i64 (nd : Int), .int .i64 b, .int .i64 (D : Int)], .bool false]) ?_ rfl ⟨rfl, HBF.out⟩
      rw [results_cell_tmp rfl]
      go_simp
end Go.Proofs.YtfoenafjaaidmaaDoor
