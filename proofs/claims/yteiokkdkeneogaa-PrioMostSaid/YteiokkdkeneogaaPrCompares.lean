/-
  The law PrioCompares, over the contracts of the program's prio.
-/
import Derived.Test.YteiokkdkeneogaaPrBoth
namespace Go.Proofs.Yteiokkdkeneogaa
open Go.ChangeShapes Go.WideShapes Go.ChangeAt Go.RowKit
set_option linter.unusedVariables false
set_option maxHeartbeats 8000000 in
theorem walk_prioComparesC (C : PPrio) (w : World) (c l d x y z : Int) (hc : (Lit.int .i64 c).wf = true) (hl : (Lit.int .i64 l).wf = true) (hd : (Lit.int .i64 d).wf = true) (hx : (Lit.int .i64 x).wf = true) (hy : (Lit.int .i64 y).wf = true) (hz : (Lit.int .i64 z).wf = true) :
    Calls Try.prog 3 #[.agg #[.int .i64 c, .int .i64 l, .int .i64 d], .agg #[.int .i64 x, .int .i64 y, .int .i64 z]] w fun e w' => e = .returned (.bool true) ∧ Below w.heap.size w w' := by
  have wa : PrWf ⟨c, l, d⟩ := ⟨hc, hl, hd⟩
  have wb : PrWf ⟨x, y, z⟩ := ⟨hx, hy, hz⟩
  obtain ⟨u, hu⟩ : ∃ u, u = cmpP ⟨c, l, d⟩ ⟨x, y, z⟩ := ⟨_, rfl⟩
  obtain ⟨m, hm⟩ : ∃ m, m = mayP ⟨c, l, d⟩ := ⟨_, rfl⟩
  have k1 := fun W => C.cmp W c l d x y z wa wb
  have k2 := fun W => rcmp_any W c l d x y z
  have k3 := fun W => C.may W c l d wa
  have k4 := fun W => rmay_any W c l d
  rw [← hu] at k1 k2
  rw [← hm] at k3 k4
  have K1 := hide k1
  have K2 := hide k2
  have K3 := hide k3
  have K4 := hide k4
  have g0 : (u == u) = true := by simp
  have g1 : (m == m) = true := by simp
  clear k1 k2 k3 k4 hu hm wa wb hc hl hd hx hy hz
  obtain ⟨w1, hw1⟩ : ∃ w1, w1 = (w.alloc (.cells #[.int .i64 c, .int .i64 l, .int .i64 d] 23)).alloc (.cells #[.int .i64 x, .int .i64 y, .int .i64 z] 23) := ⟨_, rfl⟩
  have B1 := hide (show Below w.heap.size w w1 from by rw [hw1]; exact (((Below.refl w.heap.size w).alloc (Nat.le_refl _) _).alloc (by simp) _))
  have P1 := hide (show PrAt w1 w.heap.size c l d from by rw [hw1]; exact (prAt_new w c l d).below ((Below.refl _ _).alloc (Nat.le_refl _) _))
  have Q1 := hide (show PrAt w1 (w.heap.size + 1) x y z from by rw [hw1]; have := prAt_new (w.alloc (.cells #[.int .i64 c, .int .i64 l, .int .i64 d] 23)) x y z; simpa using this)
  have c1 := And.intro P1.out.cells Q1.out.cells
  obtain ⟨X, hX⟩ : ∃ X, X = w.heap.size := ⟨_, rfl⟩
  obtain ⟨Y, hY⟩ : ∃ Y, Y = w.heap.size + 1 := ⟨_, rfl⟩
  rw [← hY, ← hX] at c1
  rw [← hX] at P1
  rw [← hY] at Q1
  have HX := hide hX
  have HY := hide hY
  have HW := hide hw1
  clear hw1 hX hY
  go_enter Try.func3, Try.ntmps3
  go_upto_region 1 with fail
  rw [← HW.out, ← HY.out, ← HX.out]
  go_region_held3 (fun w' => (w'.cell? ⟨X, 0, none⟩ = some (.int .i64 c) ∧ w'.cell? ⟨X, 1, none⟩ = some (.int .i64 l) ∧ w'.cell? ⟨X, 2, none⟩ = some (.int .i64 d)) ∧ (w'.cell? ⟨Y, 0, none⟩ = some (.int .i64 x) ∧ w'.cell? ⟨Y, 1, none⟩ = some (.int .i64 y) ∧ w'.cell? ⟨Y, 2, none⟩ = some (.int .i64 z))) (first | exact c1 | exact c2 | exact c3 | exact c4 | exact c5 | exact c6) (first
    | (go_at_call 6; refine (K1.out _).mono ?_; rintro e w2 ⟨rfl, b2⟩; have B2 := hide (B1.out.trans (((below_drewN (Below.refl w1.heap.size w1) 1).trans b2).mono B1.out.size)); have P2 := hide (P1.out.below ((below_drewN (Below.refl w1.heap.size w1) 1).trans b2)); have Q2 := hide (Q1.out.below ((below_drewN (Below.refl w1.heap.size w1) 1).trans b2)); have c2 := And.intro P2.out.cells Q2.out.cells; clear b2)
    | (go_at_call 7; refine (K2.out _).mono ?_; rintro e w3 ⟨rfl, b3⟩; have B3 := hide (B2.out.trans (b3.mono B2.out.size)); have P3 := hide (P2.out.below b3); have Q3 := hide (Q2.out.below b3); have c3 := And.intro P3.out.cells Q3.out.cells; clear b3)
    | (go_at_call 8; refine (K3.out _).mono ?_; rintro e w4 ⟨rfl, b4⟩; have B4 := hide (B3.out.trans (b4.mono B3.out.size)); have P4 := hide (P3.out.below b4); have Q4 := hide (Q3.out.below b4); have c4 := And.intro P4.out.cells Q4.out.cells; clear b4)
    | (go_at_call 9; refine (K4.out _).mono ?_; rintro e w5 ⟨rfl, b5⟩; have B5 := hide (B4.out.trans (b5.mono B4.out.size)); have P5 := hide (P4.out.below b5); have Q5 := hide (Q4.out.below b5); have c5 := And.intro P5.out.cells Q5.out.cells; clear b5)
    | (go_at_call 10; refine (pawake7_any C _).mono ?_; rintro e w6 ⟨rfl, b6⟩; have B6 := hide (B5.out.trans (b6.mono B5.out.size)); have c6 := And.intro (P5.out.below b6).cells (Q5.out.below b6).cells; clear b6))
  go_wp2_with fail
  go_ret
  exact ⟨rfl, B6.out⟩
end Go.Proofs.Yteiokkdkeneogaa
