/-
  The law VfsDeep over the program's paths, named for its frame.
-/
import Derived.Test.YtndfnglcichngaaGreatDoorVpHavePb
import Derived.Test.YtndfnglcichngaaGreatDoorPa53
namespace Go.Proofs.YtndfnglcichngaaGreatDoor
open Go.ChangeShapes Go.WideShapes Go.ChangeAt Go.RowKit
set_option linter.unusedVariables false
theorem walk_vfsDeep (w : World) (k : Int) (wk : (Lit.int .i64 k).wf = true) (b : Bool) : Calls Tryz.prog 8 #[.int .i64 k, .bool b] w fun e w' => e = .returned (.bool true) ∧ Below w.heap.size w w' := walk_vfsDeepC pvfs w k b
end Go.Proofs.YtndfnglcichngaaGreatDoor
