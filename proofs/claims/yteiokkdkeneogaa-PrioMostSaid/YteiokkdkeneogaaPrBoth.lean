/-
  Contracts of the program's prio (PPrio); awake of stage 7; the law PrioCompares.
-/
import Derived.Test.YteiokkdkeneogaaPrSame
import Derived.Deep.RegionLaw
namespace Go.Proofs.Yteiokkdkeneogaa
open Go.ChangeShapes Go.WideShapes Go.ChangeAt Go.RowKit
set_option linter.unusedVariables false
def PrWf (p : Pr) : Prop := (Lit.int .i64 p.c).wf = true ∧ (Lit.int .i64 p.l).wf = true ∧ (Lit.int .i64 p.d).wf = true
structure PPrio : Prop where
  may : ∀ (w : World) (c l d : Int), PrWf ⟨c, l, d⟩ → Calls Try.prog 8 #[.agg #[.int .i64 c, .int .i64 l, .int .i64 d]] w fun e w' => e = .returned (.bool (mayP ⟨c, l, d⟩)) ∧ Below w.heap.size w w'
  cmp : ∀ (w : World) (c l d x y z : Int), PrWf ⟨c, l, d⟩ → PrWf ⟨x, y, z⟩ → Calls Try.prog 6 #[.agg #[.int .i64 c, .int .i64 l, .int .i64 d], .agg #[.int .i64 x, .int .i64 y, .int .i64 z]] w fun e w' => e = .returned (.int .i64 (cmpP ⟨c, l, d⟩ ⟨x, y, z⟩)) ∧ Below w.heap.size w w'
  max : ∀ (w : World) (a : Option Addr) (n c : Nat) (x y z : Int) (ys : List Pr), PrRow w a n ys → n ≤ c → c ≤ maxLen → (a = none → c = 0) → n ≤ 1000000 → PrWf ⟨x, y, z⟩ → (∀ i, i < n → PrWf (ys.getD i prD)) →
    Calls Try.prog 12 #[.agg #[.int .i64 x, .int .i64 y, .int .i64 z], .slice a n c] w fun e w' => e = .returned (.agg #[.int .i64 (maxP ⟨x, y, z⟩ ys).c, .int .i64 (maxP ⟨x, y, z⟩ ys).l, .int .i64 (maxP ⟨x, y, z⟩ ys).d]) ∧ Below w.heap.size w w'
set_option maxHeartbeats 4000000 in
theorem pawake7_any (C : PPrio) (w : World) : Calls Try.prog 10 #[] w fun e w' => e = .returned (.bool true) ∧ Below w.heap.size w w' := by
  have wa : PrWf ⟨2, 0, 0⟩ := by unfold PrWf; decide
  have wb : PrWf ⟨1, 0, 3⟩ := by unfold PrWf; decide
  have w9 : PrWf ⟨9, 0, 0⟩ := by unfold PrWf; decide
  have e1 : cmpP ⟨2, 0, 0⟩ ⟨1, 0, 3⟩ = 1 := by decide
  have e2 : cmpP ⟨1, 0, 3⟩ ⟨2, 0, 0⟩ = -1 := by decide
  have e3 : maxP ⟨1, 0, 3⟩ [⟨2, 0, 0⟩] = ⟨2, 0, 0⟩ := by simp [maxP, gtP]
  have e4 : mayP ⟨1, 0, 3⟩ = true := by decide
  have e5 : mayP ⟨9, 0, 0⟩ = false := by decide
  have CM1 := hide (fun (W : World) => show Calls Try.prog 6 #[.agg #[.int .i64 2, .int .i64 0, .int .i64 0], .agg #[.int .i64 1, .int .i64 0, .int .i64 3]] W fun e w' => e = .returned (.int .i64 1) ∧ Below W.heap.size W w' from by have := C.cmp W 2 0 0 1 0 3 wa wb; rw [e1] at this; exact this)
  have CM2 := hide (fun (W : World) => show Calls Try.prog 6 #[.agg #[.int .i64 1, .int .i64 0, .int .i64 3], .agg #[.int .i64 2, .int .i64 0, .int .i64 0]] W fun e w' => e = .returned (.int .i64 (-1)) ∧ Below W.heap.size W w' from by have := C.cmp W 1 0 3 2 0 0 wb wa; rw [e2] at this; exact this)
  have MX := hide (fun (W : World) => show Calls Try.prog 12 #[.agg #[.int .i64 1, .int .i64 0, .int .i64 3], .slice (some ⟨W.heap.size, 0, none⟩) 1 1] (W.alloc (.cells #[.int .i64 2, .int .i64 0, .int .i64 0] 23)) fun e w' => e = .returned (.agg #[.int .i64 2, .int .i64 0, .int .i64 0]) ∧ Below (W.alloc (.cells #[.int .i64 2, .int .i64 0, .int .i64 0] 23)).heap.size (W.alloc (.cells #[.int .i64 2, .int .i64 0, .int .i64 0] 23)) w' from by
    have := C.max (W.alloc (.cells #[.int .i64 2, .int .i64 0, .int .i64 0] 23)) (some ⟨W.heap.size, 0, none⟩) 1 1 1 0 3 [⟨2, 0, 0⟩] ⟨rfl, fun _ => ⟨_, 0, rfl, fun i hi => by
      obtain rfl : i = 0 := by omega
      have := (prAt_new W 2 0 0).cells
      exact this⟩⟩ (Nat.le_refl _) (by unfold maxLen; omega) (fun e => by cases e) (by omega) wb (fun i hi => by
      obtain rfl : i = 0 := by omega
      exact wa)
    rw [e3] at this; exact this)
  have MY := hide (fun (W : World) => show Calls Try.prog 8 #[.agg #[.int .i64 1, .int .i64 0, .int .i64 3]] W fun e w' => e = .returned (.bool true) ∧ Below W.heap.size W w' from by have := C.may W 1 0 3 wb; rw [e4] at this; exact this)
  have M9 := hide (fun (W : World) => show Calls Try.prog 8 #[.agg #[.int .i64 9, .int .i64 0, .int .i64 0]] W fun e w' => e = .returned (.bool false) ∧ Below W.heap.size W w' from by have := C.may W 9 0 0 w9; rw [e5] at this; exact this)
  have ee : ∀ W, (binOp .eql 23 (.agg #[.int .i64 2, .int .i64 0, .int .i64 0]) (.agg #[.int .i64 2, .int .i64 0, .int .i64 0])).run Try.prog W = .ok (.bool true) W := fun W => by rw [prio_eql]; rfl
  clear e1 e2 e3 e4 e5 wa wb w9
  obtain ⟨w1, hw1⟩ : ∃ w1, w1 = (w.alloc (.cells #[.int .i64 2, .int .i64 0, .int .i64 0] 23)).alloc (.cells #[.int .i64 1, .int .i64 0, .int .i64 3] 23) := ⟨_, rfl⟩
  have B1 := hide (show Below w.heap.size w w1 from by rw [hw1]; exact (((Below.refl w.heap.size w).alloc (Nat.le_refl _) _).alloc (by simp) _))
  have P1 := hide (show PrAt w1 w.heap.size 2 0 0 from by rw [hw1]; exact (prAt_new w 2 0 0).below ((Below.refl _ _).alloc (Nat.le_refl _) _))
  have Q1 := hide (show PrAt w1 (w.heap.size + 1) 1 0 3 from by rw [hw1]; have := prAt_new (w.alloc (.cells #[.int .i64 2, .int .i64 0, .int .i64 0] 23)) 1 0 3; simpa using this)
  have c1 := And.intro P1.out.cells Q1.out.cells
  obtain ⟨X, hX⟩ : ∃ X, X = w.heap.size := ⟨_, rfl⟩
  obtain ⟨Y, hY⟩ : ∃ Y, Y = w.heap.size + 1 := ⟨_, rfl⟩
  rw [← hY, ← hX] at c1
  rw [← hX] at P1
  rw [← hY] at Q1
  have HX := hide hX
  have HY := hide hY
  have HW := hide hw1
  clear hw1 hX hY
  go_enter Try.func10, Try.ntmps10
  go_upto_region 2 with fail
  rw [← HW.out, ← HY.out, ← HX.out]
  go_region_held3 (fun w' => (w'.cell? ⟨X, 0, none⟩ = some (.int .i64 2) ∧ w'.cell? ⟨X, 1, none⟩ = some (.int .i64 0) ∧ w'.cell? ⟨X, 2, none⟩ = some (.int .i64 0)) ∧ (w'.cell? ⟨Y, 0, none⟩ = some (.int .i64 1) ∧ w'.cell? ⟨Y, 1, none⟩ = some (.int .i64 0) ∧ w'.cell? ⟨Y, 2, none⟩ = some (.int .i64 3))) (first | exact c1 | exact c2 | exact c3 | exact c4 | exact c5 | exact c7 | exact c6) (first
    | (go_at_call 6; have t2 := B2.out; refine (CM2.out _).mono ?_; rintro e w3 ⟨rfl, b3⟩; have B3 := hide (B2.out.trans (b3.mono B2.out.size)); have P3 := hide (P2.out.below b3); have Q3 := hide (Q2.out.below b3); have c3 := And.intro P3.out.cells Q3.out.cells; have c7 := And.intro (P3.out.below ((Below.refl w3.heap.size w3).alloc (Nat.le_refl _) (.cells #[.int .i64 2, .int .i64 0, .int .i64 0] 23))).cells (Q3.out.below ((Below.refl w3.heap.size w3).alloc (Nat.le_refl _) (.cells #[.int .i64 2, .int .i64 0, .int .i64 0] 23))).cells; clear b3)
    | (go_at_call 6; refine (CM1.out _).mono ?_; rintro e w2 ⟨rfl, b2⟩; have B2 := hide (B1.out.trans (((below_drewN (Below.refl w1.heap.size w1) 1).trans b2).mono B1.out.size)); have P2 := hide (P1.out.below ((below_drewN (Below.refl w1.heap.size w1) 1).trans b2)); have Q2 := hide (Q1.out.below ((below_drewN (Below.refl w1.heap.size w1) 1).trans b2)); have c2 := And.intro P2.out.cells Q2.out.cells; clear b2)
    | (go_at_call 12; refine (MX.out w3).mono ?_; rintro e w4 ⟨rfl, b4'⟩; have b4 := ((Below.refl w3.heap.size w3).alloc (Nat.le_refl _) (.cells #[.int .i64 2, .int .i64 0, .int .i64 0] 23)).trans (b4'.mono (by simp)); clear b4'; have B4 := hide (B3.out.trans (b4.mono B3.out.size)); have P4 := hide (P3.out.below b4); have Q4 := hide (Q3.out.below b4); have c4 := And.intro P4.out.cells Q4.out.cells; clear b4)
    | (go_at_call 8; have t5 := B5.out; refine (M9.out _).mono ?_; rintro e w6 ⟨rfl, b6⟩; have B6 := hide (B5.out.trans (b6.mono B5.out.size)); have P6 := hide (P5.out.below b6); have Q6 := hide (Q5.out.below b6); have c6 := And.intro P6.out.cells Q6.out.cells; clear b6)
    | (go_at_call 8; refine (MY.out _).mono ?_; rintro e w5 ⟨rfl, b5⟩; have B5 := hide (B4.out.trans (b5.mono B4.out.size)); have P5 := hide (P4.out.below b5); have Q5 := hide (Q4.out.below b5); have c5 := And.intro P5.out.cells Q5.out.cells; clear b5))
  go_wp2_with fail
  go_ret
  exact ⟨rfl, B6.out⟩
end Go.Proofs.Yteiokkdkeneogaa
