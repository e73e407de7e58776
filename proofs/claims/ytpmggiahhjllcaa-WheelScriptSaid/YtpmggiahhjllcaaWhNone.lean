/-
  The walk of WheelNone, over the contracts of the program's calls on no wheel.
-/
import Derived.Test.YtpmggiahhjllcaaWhBoth
import Derived.Lib.SmallJoins
namespace Go.Proofs.Ytpmggiahhjllcaa
open Go.ChangeShapes Go.WideShapes Go.ChangeAt Go.RowKit
set_option linter.unusedVariables false
/-- Calls on no wheel. -/
structure NilWheel : Prop where
  arm : ∀ (w : World) (id a : Int), Calls Try.prog 13 #[.pointer none, .int .i64 id, .int .i64 a] w fun e w' => e = .returned (.int .i64 1) ∧ Below w.heap.size w w'
  can : ∀ (w : World) (id : Int), Calls Try.prog 15 #[.pointer none, .int .i64 id] w fun e w' => e = .returned (.bool false) ∧ Below w.heap.size w w'
  at_ : ∀ (w : World) (id : Int), Calls Try.prog 25 #[.pointer none, .int .i64 id] w fun e w' => e = .returned (.tuple #[.int .i64 0, .bool false]) ∧ Below w.heap.size w w'
  place : ∀ (w : World) (id : Int), Calls Try.prog 24 #[.pointer none, .int .i64 id] w fun e w' => e = .returned (.tuple #[.int .i64 0, .int .i64 0, .bool false]) ∧ Below w.heap.size w w'
  tick : ∀ (w : World), Calls Try.prog 18 #[.pointer none] w fun e w' => (∃ A c, e = .returned (.tuple #[.slice A 0 c, .int .i64 0])) ∧ Below w.heap.size w w'
  len : ∀ (w : World), Calls Try.prog 23 #[.pointer none] w fun e w' => e = .returned (.int .i64 0) ∧ Below w.heap.size w w'
  now : ∀ (w : World), Calls Try.prog 26 #[.pointer none] w fun e w' => e = .returned (.int .i64 0) ∧ Below w.heap.size w w'
section
variable {PW : World → (Nat → Prop) → Nat → Ws → Prop}
theorem act_cells {w : World} {X : Nat} {a b c : Int} {ty : TypeId} (h : w.heap[X]? = some (.cells #[.int .i64 a, .int .i64 b, .int .i64 c] ty (0, 0))) : w.cell? ⟨X, 1, none⟩ = some (.int .i64 b) ∧ w.cell? ⟨X, 2, none⟩ = some (.int .i64 c) := by
  refine ⟨?_, ?_⟩ <;> (rw [cell_of_row _ _ _ _ _ _ h]; rfl)
set_option maxHeartbeats 4000000 in
theorem walk_wheelNoneC (C : PWheel PW) (Z : NilWheel) (w : World) (d i a : Int) (wd : (Lit.int .i64 d).wf = true) (wi : (Lit.int .i64 i).wf = true) (wa : (Lit.int .i64 a).wf = true) :
    Calls Try.prog 6 #[.agg #[.int .i64 d, .int .i64 i, .int .i64 a]] w fun e w' => e = .returned (.bool true) ∧ Below w.heap.size w w' := by
  have B0 := hide ((Below.refl w.heap.size w).alloc (Nat.le_refl _) (.cells #[.int .i64 d, .int .i64 i, .int .i64 a] 33))
  have HX := hide (heap_alloc_new w (.cells #[.int .i64 d, .int .i64 i, .int .i64 a] 33))
  clear wd wi wa
  go_enter Try.func6, Try.ntmps6
  go_upto_region 2 with fail
  obtain ⟨w0, hw0⟩ : ∃ w0, w0 = w.alloc (.cells #[.int .i64 d, .int .i64 i, .int .i64 a] 33) := ⟨_, rfl⟩
  rw [← hw0] at B0 HX ⊢
  clear hw0
  obtain ⟨X, hX⟩ : ∃ X, X = w.heap.size := ⟨_, rfl⟩
  rw [← hX] at HX ⊢
  clear hX
  obtain ⟨x1, x2⟩ := act_cells HX.out
  go_wp2_with fail
  go_at_call 25
  refine (Z.at_ _ _).mono ?_
  rintro e w1 ⟨rfl, b1⟩
  have B1 := hide (B0.out.trans (b1.mono B0.out.size))
  have H1 := hide ((b1.block X (lt_of_heap HX.out)).trans HX.out)
  clear b1 x1 x2
  obtain ⟨x1, x2⟩ := act_cells H1.out
  go_wp2_with fail
  go_at_call 24
  refine (Z.place _ _).mono ?_
  rintro e w2 ⟨rfl, b2⟩
  have B2 := hide (B1.out.trans (b2.mono B1.out.size))
  have H2 := hide ((b2.block X (lt_of_heap H1.out)).trans H1.out)
  clear b2 x1 x2
  go_wp2_with fail
  go_at_call 18
  refine (Z.tick _).mono ?_
  rintro e w3 ⟨⟨A3, c3, rfl⟩, b3⟩
  have B3 := hide (B2.out.trans (b3.mono B2.out.size))
  have H3 := hide ((b3.block X (lt_of_heap H2.out)).trans H2.out)
  clear b3
  obtain ⟨x1, x2⟩ := act_cells H3.out
  go_wp2_with fail
  go_at_call 13
  refine (Z.arm _ _ _).mono ?_
  rintro e w4 ⟨rfl, b4⟩
  have B4 := hide (B3.out.trans (b4.mono B3.out.size))
  have H4 := hide ((b4.block X (lt_of_heap H3.out)).trans H3.out)
  clear b4 x1 x2
  obtain ⟨x1, x2⟩ := act_cells H4.out
  go_wp2_with fail
  go_at_call 15
  refine (Z.can _ _).mono ?_
  rintro e w5 ⟨rfl, b5⟩
  have B5 := hide (B4.out.trans (b5.mono B4.out.size))
  clear b5 x1 x2
  go_wp2_with (first
    | (go_at_call 26; refine (Z.now _).mono ?_; rintro e w6 ⟨rfl, b6⟩; have B6 := hide (B5.out.trans (b6.mono B5.out.size)))
    | (go_at_call 23; refine (Z.len _).mono ?_; rintro e w7 ⟨rfl, b7⟩; have B7 := hide (B6.out.trans (b7.mono B6.out.size)))
    | (go_at_call 9; with_reducible refine (wawake_any C _).mono ?_; rintro e w8 ⟨rfl, b8⟩))
  go_ret
  exact ⟨rfl, B7.out.trans (b8.mono B7.out.size)⟩
end
end Go.Proofs.Ytpmggiahhjllcaa
