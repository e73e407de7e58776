/-
  The law VfsErrors over the program's paths, named for its frame.
-/
import Derived.Test.YtndfnglcichngaaGreatDoorVpHavePb
import Derived.Test.YtndfnglcichngaaGreatDoorVfErrorsPb
namespace Go.Proofs.YtndfnglcichngaaGreatDoor
open Go.ChangeShapes Go.WideShapes Go.ChangeAt Go.RowKit
set_option linter.unusedVariables false
theorem walk_vfsErrors (w : World) (a : Option Addr) (n c : Nat) (zs : List Va) (hin : Came 5 vaV VaWf w a n c zs) (x : Va) (hx : VaWf w x) : Calls Tryz.prog 4 #[.slice a n c, .agg (vaV x).toArray] w fun e w' => e = .returned (.bool true) ∧ Below w.heap.size w w' := walk_vfsErrorsC pvfs w a n c zs hin x hx
end Go.Proofs.YtndfnglcichngaaGreatDoor
