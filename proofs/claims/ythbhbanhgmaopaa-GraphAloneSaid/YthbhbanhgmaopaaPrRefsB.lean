/-
  The document's own Compare, Max (coxswainref7).
-/
import Derived.Test.YthbhbanhgmaopaaPrRefs
import Derived.Test.YthbhbanhgmaopaaRowsIn
namespace Go.Proofs.Ythbhbanhgmaopaa
open Go.ChangeShapes Go.WideShapes Go.ChangeAt Go.RowKit
set_option linter.unusedVariables false
/-- A priority's block. -/
def PrAt (w : World) (X : Nat) (c l d : Int) : Prop := w.heap[X]? = some (.cells #[.int .i64 c, .int .i64 l, .int .i64 d] 39 (0, 0))
theorem PrAt.cells {w : World} {X : Nat} {c l d : Int} (h : PrAt w X c l d) : w.cell? ⟨X, 0, none⟩ = some (.int .i64 c) ∧ w.cell? ⟨X, 1, none⟩ = some (.int .i64 l) ∧ w.cell? ⟨X, 2, none⟩ = some (.int .i64 d) := by
  refine ⟨?_, ?_, ?_⟩ <;> (rw [cell_of_row _ _ _ _ _ _ h]; rfl)
theorem PrAt.frozen {w : World} {X : Nat} {c l d : Int} (h : PrAt w X c l d) (j : Nat) : w.frozen? ⟨X, j, none⟩ = false := frozen_of_row _ _ _ _ _ h
theorem PrAt.below {w w' : World} {X : Nat} {c l d : Int} (h : PrAt w X c l d) (b : Below w.heap.size w w') : PrAt w' X c l d := (b.block X (lt_of_heap h)).trans h
theorem prAt_new (w : World) (c l d : Int) : PrAt (w.alloc (.cells #[.int .i64 c, .int .i64 l, .int .i64 d] 39)) w.heap.size c l d := heap_alloc_new w _
set_option maxHeartbeats 2000000 in
theorem rcmp_any (w : World) (c l d x y z : Int) : Calls Try.prog 37 #[.agg #[.int .i64 c, .int .i64 l, .int .i64 d], .agg #[.int .i64 x, .int .i64 y, .int .i64 z]] w fun e w' => e = .returned (.int .i64 (cmpP ⟨c, l, d⟩ ⟨x, y, z⟩)) ∧ Below w.heap.size w w' := by
  obtain ⟨w1, hw1⟩ : ∃ w1, w1 = (w.alloc (.cells #[.int .i64 c, .int .i64 l, .int .i64 d] 39)).alloc (.cells #[.int .i64 x, .int .i64 y, .int .i64 z] 39) := ⟨_, rfl⟩
  have B1 := hide (show Below w.heap.size w w1 from by rw [hw1]; exact (((Below.refl w.heap.size w).alloc (Nat.le_refl _) _).alloc (by simp) _))
  have P0 := hide (show PrAt w1 w.heap.size c l d from by rw [hw1]; exact (prAt_new w c l d).below ((Below.refl _ _).alloc (Nat.le_refl _) _))
  have P1 := hide (show PrAt w1 (w.heap.size + 1) x y z from by rw [hw1]; have := prAt_new (w.alloc (.cells #[.int .i64 c, .int .i64 l, .int .i64 d] 39)) x y z; simpa using this)
  obtain ⟨a0, a1, a2⟩ := P0.out.cells
  obtain ⟨b0, b1, b2⟩ := P1.out.cells
  have g1 := fun W => rgreater_any W c l d x y z
  have g2 := fun W => rgreater_any W x y z c l d
  obtain ⟨X, hX⟩ : ∃ X, X = w.heap.size := ⟨_, rfl⟩
  obtain ⟨Y, hY⟩ : ∃ Y, Y = w.heap.size + 1 := ⟨_, rfl⟩
  have hY' := hY
  rw [← hX] at P0 a0 a1 a2 hY'
  rw [← hY] at P1 b0 b1 b2
  have HW := hide hw1
  have HX := hide hX
  have HY := hide hY'
  clear hw1 hX hY hY'
  by_cases h1 : gtP ⟨c, l, d⟩ ⟨x, y, z⟩ = true
  · have hc : cmpP ⟨c, l, d⟩ ⟨x, y, z⟩ = 1 := by unfold cmpP; rw [if_pos h1]
    rw [hc]
    rw [h1] at g1
    have G1 := hide g1
    clear g1 g2 h1 hc
    go_enter Try.func37, Try.ntmps37
    go_upto_region 1 with fail
    rw [← HW.out, ← HX.out, HY.out.symm]
    go_wp2_with (go_at_call 44; refine (G1.out _).mono ?_; rintro e w2 ⟨rfl, b2⟩)
    go_ret
    exact ⟨rfl, B1.out.trans (b2.mono B1.out.size)⟩
  · have h1' : gtP ⟨c, l, d⟩ ⟨x, y, z⟩ = false := by simpa using h1
    rw [h1'] at g1
    have G1 := hide g1
    by_cases h2 : gtP ⟨x, y, z⟩ ⟨c, l, d⟩ = true
    · have hc : cmpP ⟨c, l, d⟩ ⟨x, y, z⟩ = -1 := by unfold cmpP; rw [if_neg h1, if_pos h2]
      rw [hc]
      rw [h2] at g2
      have G2 := hide g2
      clear g1 g2 h1 h1' h2 hc
      go_enter Try.func37, Try.ntmps37
      go_upto_region 1 with fail
      rw [← HW.out, ← HX.out, HY.out.symm]
      go_wp2_with (first
        | (go_at_call 44; with_reducible refine (G1.out _).mono ?_; rintro e w2 ⟨rfl, b3⟩; have B2 := hide (B1.out.trans (b3.mono B1.out.size)); obtain ⟨e0, e1, e2⟩ := (P0.out.below b3).cells; obtain ⟨f0, f1, f2⟩ := (P1.out.below b3).cells; clear b3)
        | (go_at_call 44; with_reducible refine (G2.out _).mono ?_; rintro e w3 ⟨rfl, b3⟩; have B3 := hide (B2.out.trans (b3.mono B2.out.size)); clear b3))
      go_ret
      exact ⟨rfl, B3.out⟩
    · have hc : cmpP ⟨c, l, d⟩ ⟨x, y, z⟩ = 0 := by unfold cmpP; rw [if_neg h1, if_neg h2]
      have h2' : gtP ⟨x, y, z⟩ ⟨c, l, d⟩ = false := by simpa using h2
      rw [hc]
      rw [h2'] at g2
      have G2 := hide g2
      clear g1 g2 h1 h1' h2 h2' hc
      go_enter Try.func37, Try.ntmps37
      go_upto_region 1 with fail
      rw [← HW.out, ← HX.out, HY.out.symm]
      go_wp2_with (first
        | (go_at_call 44; with_reducible refine (G1.out _).mono ?_; rintro e w2 ⟨rfl, b3⟩; have B2 := hide (B1.out.trans (b3.mono B1.out.size)); obtain ⟨e0, e1, e2⟩ := (P0.out.below b3).cells; obtain ⟨f0, f1, f2⟩ := (P1.out.below b3).cells; clear b3)
        | (go_at_call 44; with_reducible refine (G2.out _).mono ?_; rintro e w3 ⟨rfl, b3⟩; have B3 := hide (B2.out.trans (b3.mono B2.out.size)); clear b3))
      go_ret
      exact ⟨rfl, B3.out⟩
end Go.Proofs.Ythbhbanhgmaopaa
