/-
  The walk of SlabNone.
-/
import Derived.Test.YtllapjidnngaeaaPsSlab
import Derived.Test.YtllapjidnngaeaaSlAwake
import Derived.Lib.SmallJoins
namespace Go.Proofs.Ytllapjidnngaeaa
open Go.ChangeShapes Go.WideShapes Go.ChangeAt Go.RowKit
set_option linter.unusedVariables false
theorem three_cells {w : World} {X : Nat} {a b c : Value} {ty : TypeId} (h : w.heap[X]? = some (.cells #[a, b, c] ty (0, 0))) : w.cell? ⟨X, 0, none⟩ = some a ∧ w.cell? ⟨X, 1, none⟩ = some b ∧ w.cell? ⟨X, 2, none⟩ = some c := by
  refine ⟨?_, ?_, ?_⟩ <;> (rw [cell_of_row _ _ _ _ _ _ h]; rfl)
set_option maxHeartbeats 2000000 in
theorem walk_slabNone (w : World) (n : Int) (wn : (Lit.int .i64 n).wf = true) (a b c : Int) (wa : (Lit.int .i64 a).wf = true) (wb : (Lit.int .i64 b).wf = true) (wc : (Lit.int .i64 c).wf = true) :
    Calls Try.prog 5 #[.int .i64 n, .agg #[.int .i64 a, .int .i64 b, .int .i64 c]] w fun e w' => e = .returned (.bool true) ∧ Below w.heap.size w w' := by
  have e0 : ∀ w, (binOp .eql 39 (.agg #[.int .i64 0, .int .i64 0, .int .i64 0]) (.agg #[.int .i64 0, .int .i64 0, .int .i64 0])).run Try.prog w = .ok (.bool true) w := fun w => by kernel_rfl
  have b0 := (Below.refl w.heap.size w).alloc (Nat.le_refl _) (.cells #[.int .i64 a, .int .i64 b, .int .i64 c] 39)
  have B0 := hide b0
  have HX := hide (heap_alloc_new w (.cells #[.int .i64 a, .int .i64 b, .int .i64 c] 39))
  clear wn wa wb wc b0
  go_enter Try.func5, Try.ntmps5
  go_upto_region 2 with fail
  generalize w.alloc (.cells #[.int .i64 a, .int .i64 b, .int .i64 c] 39) = w0 at *
  obtain ⟨X, hX⟩ : ∃ X, X = w.heap.size := ⟨_, rfl⟩
  rw [← hX] at HX ⊢
  clear hX
  go_wp2_with fail
  go_at_call 10
  refine (snil_take _ _).mono ?_
  rintro e w1 ⟨rfl, b1⟩
  unfold refV
  have bA := (b1.alloc b1.size (.cells #[.int .i64 0, .int .i64 0, .int .i64 0] 39))
  have B1 := hide bA
  have H1 := hide ((bA.block X (lt_of_heap HX.out)).trans HX.out)
  have S1 := hide bA.size
  have Z1 := hide (heap_alloc_new w1 (.cells #[.int .i64 0, .int .i64 0, .int .i64 0] 39))
  clear b1 bA
  go_upto_region 3 with fail
  generalize w1.alloc (.cells #[.int .i64 0, .int .i64 0, .int .i64 0] 39) = w2 at *
  obtain ⟨x0, x1, x2⟩ := three_cells H1.out
  obtain ⟨z0, z1, z2⟩ := three_cells Z1.out
  -- HERE
  go_wp2_with fail
  go_at_call 16
  refine (snil_give _ _ _ _).mono ?_
  rintro e w3 ⟨rfl, b3⟩
  have B3 := hide b3
  have H3 := hide ((b3.block X (lt_of_heap H1.out)).trans H1.out)
  clear b3 x0 x1 x2
  obtain ⟨x0, x1, x2⟩ := three_cells H3.out
  go_wp2_with fail
  go_at_call 14
  refine (snil_has _ _ _ _).mono ?_
  rintro e w4 ⟨rfl, b4⟩
  go_wp2_with (first
    | (go_at_call 18; with_reducible refine (snil_len _).mono ?_; rintro e w' ⟨rfl, rfl⟩)
    | (go_at_call 6; with_reducible refine (sawake_any pslab _).mono ?_; rintro e w5 ⟨rfl, b5⟩))
  go_ret
  exact ⟨rfl, B0.out.trans ((B1.out.mono B0.out.size).trans ((B3.out.mono (Nat.le_trans B0.out.size S1.out)).trans ((b4.mono (Nat.le_trans (Nat.le_trans B0.out.size S1.out) B3.out.size)).trans (b5.mono (Nat.le_trans (Nat.le_trans (Nat.le_trans B0.out.size S1.out) B3.out.size) b4.size)))))⟩
end Go.Proofs.Ytllapjidnngaeaa
