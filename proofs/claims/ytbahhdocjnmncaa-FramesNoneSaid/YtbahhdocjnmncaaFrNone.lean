/-
  The walk of FramesNone.
-/
import Derived.Test.YtbahhdocjnmncaaFrAwake
namespace Go.Proofs.Ytbahhdocjnmncaa
open Go.ChangeShapes Go.WideShapes Go.ChangeAt Go.RowKit
set_option linter.unusedVariables false
set_option maxHeartbeats 1000000 in
theorem walk_framesNone (w : World) (i : Int) (wi : (Lit.int .i64 i).wf = true) (off : Int) (wo : (Lit.int .i64 off).wf = true) (n : Int) (wn : (Lit.int .i64 n).wf = true) : Calls Try.prog 6 #[.int .i64 i, .int .i64 off, .int .i64 n] w fun e w' => e = .returned (.bool true) ∧ Below w.heap.size w w' := by
  clear wi wo wn
  go_enter Try.func6, Try.ntmps6
  go_wp2_with (first
    | (go_at_call 13; with_reducible refine (take_nil _).mono ?_; rintro e w' ⟨rfl, rfl⟩)
    | (go_at_call 17; with_reducible refine (read_nil _ _ _ _).mono ?_; rintro e w' ⟨rfl, rfl⟩)
    | (go_at_call 15; with_reducible refine (give_nil _ _).mono ?_; rintro e w' ⟨rfl, rfl⟩)
    | (go_at_call 22; with_reducible refine (write_nil _ _ _ _ _ _).mono ?_; rintro e w' ⟨rfl, rfl⟩)
    | (go_at_call 25; with_reducible refine (free_nil _).mono ?_; rintro e w' ⟨rfl, rfl⟩)
    | (go_at_call 27; with_reducible refine (has_nil _ _).mono ?_; rintro e w' ⟨rfl, rfl⟩)
    | (go_at_call 9; with_reducible refine (awake_any _).mono ?_; rintro e w' ⟨rfl, hb⟩))
  go_ret
  exact ⟨rfl, hb⟩
end Go.Proofs.Ytbahhdocjnmncaa
