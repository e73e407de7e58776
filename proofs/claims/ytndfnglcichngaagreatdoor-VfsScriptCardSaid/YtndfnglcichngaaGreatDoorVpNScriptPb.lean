/-
  The law VfsScript over the program's paths, named for its frame.
-/
import Derived.Test.YtndfnglcichngaaGreatDoorVpHavePb
import Derived.Test.YtndfnglcichngaaGreatDoorVfScriptPb
namespace Go.Proofs.YtndfnglcichngaaGreatDoor
open Go.ChangeShapes Go.WideShapes Go.ChangeAt Go.RowKit
set_option linter.unusedVariables false
theorem walk_vfsScript (w : World) (a : Option Addr) (n c : Nat) (zs : List Va) (hin : Came 5 vaV VaWf w a n c zs) : Calls Tryz.prog 3 #[.slice a n c] w fun e w' => e = .returned (.bool true) ∧ Below w.heap.size w w' := walk_vfsScriptC pvfs w a n c zs hin
end Go.Proofs.YtndfnglcichngaaGreatDoor
