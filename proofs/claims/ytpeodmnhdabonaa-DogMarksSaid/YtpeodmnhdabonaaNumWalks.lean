/-
  Contracts of package num's functions: for every input, what each returns, the world left as it was.
-/
import Derived.Test.YtpeodmnhdabonaaKit
import Derived.Test.YtpeodmnhdabonaaNumPlain
namespace Go.Proofs.Ytpeodmnhdabonaa
open Go.ChangeShapes Go.WideShapes Go.ChangeAt Go.RowKit
set_option linter.unusedVariables false
theorem clip_any (x : Int) (w : World) : Calls Try.prog 20 #[.int .i64 x] w fun e w' => e = .returned (.int .i64 (cl x)) ∧ w = w' := by
  by_cases h : x < 0
  · go_enter Try.func20, Try.ntmps20
    go_wp2
    go_ret
    exact ⟨ret_int (cl_neg x h).symm, rfl⟩
  · by_cases h2 : 1099511627776 < x
    · go_enter Try.func20, Try.ntmps20
      go_wp2
      go_ret
      exact ⟨ret_int (cl_big x h2).symm, rfl⟩
    · go_enter Try.func20, Try.ntmps20
      go_wp2
      go_ret
      exact ⟨ret_int (cl_in x (by omega) (by omega)).symm, rfl⟩

theorem rclip_any (x : Int) (w : World) : Calls Try.prog 21 #[.int .i64 x] w fun e w' => e = .returned (.int .i64 (cl x)) ∧ w = w' := by
  by_cases h : x < 0
  · go_enter Try.func21, Try.ntmps21
    go_wp2
    go_ret
    exact ⟨ret_int (cl_neg x h).symm, rfl⟩
  · by_cases h2 : 1099511627776 < x
    · go_enter Try.func21, Try.ntmps21
      go_wp2
      go_ret
      exact ⟨ret_int (cl_big x h2).symm, rfl⟩
    · go_enter Try.func21, Try.ntmps21
      go_wp2
      go_ret
      exact ⟨ret_int (cl_in x (by omega) (by omega)).symm, rfl⟩

end Go.Proofs.Ytpeodmnhdabonaa
