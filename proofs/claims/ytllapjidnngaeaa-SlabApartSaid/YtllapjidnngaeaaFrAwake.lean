/-
  The contract of 'awake' (coxswainlaw4), and the walk of FramesNone.
-/
import Derived.Test.YtllapjidnngaeaaFrNew
namespace Go.Proofs.Ytllapjidnngaeaa
open Go.ChangeShapes Go.WideShapes Go.ChangeAt Go.RowKit
set_option linter.unusedVariables false
end Go.Proofs.Ytllapjidnngaeaa
