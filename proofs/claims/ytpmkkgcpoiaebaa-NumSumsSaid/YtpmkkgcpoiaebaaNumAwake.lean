/-
  The contract of 'awake' (coxswainlaw1): true, nothing that was there is changed.
-/
import Derived.Test.YtpmkkgcpoiaebaaNumSumW
namespace Go.Proofs.Ytpmkkgcpoiaebaa
open Go.ChangeShapes Go.WideShapes Go.ChangeAt Go.RowKit
set_option linter.unusedVariables false
theorem awake_any (w : World) : Calls Try.prog 8 #[] w fun e w' => e = .returned (.bool true) ∧ Below w.heap.size w w' := by
  have f1 : (up 7 3 == 3) = true := by decide
  have f2 : (down 7 3 == 2) = true := by decide
  have f3 : (cl (-4) == 0) = true := by decide
  have f4 : (sum [5, 6] == 11) = true := by decide
  have f5 : (mul 1073741824 1073741824 == 1099511627776) = true := by decide
  go_enter Try.func8, Try.ntmps8
  go_wp2_with (first
    | (go_at_call 10; refine (clip_any _ _).mono ?_; rintro e w' ⟨rfl, rfl⟩)
    | (go_at_call 17; refine (up_any _ _ _).mono ?_; rintro e w' ⟨rfl, rfl⟩)
    | (go_at_call 19; refine (down_any _ _ _).mono ?_; rintro e w' ⟨rfl, rfl⟩)
    | (go_at_call 15; refine (mul_any _ _ _).mono ?_; rintro e w' ⟨rfl, rfl⟩)
    | (go_at_call 12; refine (add_any _ 2 2 [5, 6] _ (ints_two _ _ _ _ _) (by omega)).mono ?_; rintro e w' ⟨rfl, rfl⟩))
  go_ret
  exact ⟨rfl, (Below.refl _ _).alloc (Nat.le_refl _) _⟩
end Go.Proofs.Ytpmkkgcpoiaebaa
