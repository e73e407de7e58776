/-
  Low (coxswainlaw0) for bounds up to 2^40, by integers; small numbers are well.
-/
import Derived.Test.YtjcfdpicdmidaaaDoorKit
namespace Go.Proofs.YtjcfdpicdmidaaaDoor
open Go.ChangeShapes Go.WideShapes Go.ChangeAt Go.RowKit
set_option linter.unusedVariables false
theorem errnum_any (w : World) (x : Int) : Calls Tryd.prog 12 #[.int .i64 x] w fun e w' => e = .returned (.int .i64 x) ∧ w = w' := by
  go_enter Tryd.func12, Tryd.ntmps12
  go_wp2_with fail
  go_ret
  exact ⟨rfl, rfl⟩
theorem wf_i {x : Int} (h0 : -4000000000000 ≤ x) (h : x ≤ 4000000000000) : (Lit.int .i64 x).wf = true := by
  simp [Lit.wf, IntKind.min, IntKind.max, IntKind.bits, IntKind.signed]; omega
end Go.Proofs.YtjcfdpicdmidaaaDoor
