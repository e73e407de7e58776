/-
  The contract of 'awake' (coxswainlaw4), and the walk of FramesNone.
-/
import Derived.Test.YtipepklobpnbpaaFrNew
namespace Go.Proofs.Ytipepklobpnbpaa
open Go.ChangeShapes Go.WideShapes Go.ChangeAt Go.RowKit
set_option linter.unusedVariables false
end Go.Proofs.Ytipepklobpnbpaa
