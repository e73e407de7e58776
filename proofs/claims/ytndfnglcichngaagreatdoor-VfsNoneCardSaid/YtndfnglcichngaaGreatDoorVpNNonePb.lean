/-
  The law VfsNone over the program's paths, named for its frame.
-/
import Derived.Test.YtndfnglcichngaaGreatDoorVpHavePb
import Derived.Test.YtndfnglcichngaaGreatDoorPa33
namespace Go.Proofs.YtndfnglcichngaaGreatDoor
open Go.ChangeShapes Go.WideShapes Go.ChangeAt Go.RowKit
set_option linter.unusedVariables false
theorem walk_vfsNone (w : World) (s : ByteArray) (hs : s.size ≤ maxLen) (k : Int) (wk : (Lit.int .i64 k).wf = true) : Calls Tryz.prog 7 #[.string s, .int .i64 k] w fun e w' => e = .returned (.bool true) ∧ Below w.heap.size w w' := by
  have := walk_vfsNoneC pvfs nilVfs w s.data.toList k
  rwa [bt_data] at this
end Go.Proofs.YtndfnglcichngaaGreatDoor
