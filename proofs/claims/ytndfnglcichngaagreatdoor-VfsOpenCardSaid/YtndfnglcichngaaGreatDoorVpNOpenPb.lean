/-
  The law VfsOpen over the program's paths, named for its frame.
-/
import Derived.Test.YtndfnglcichngaaGreatDoorVpHavePb
import Derived.Test.YtndfnglcichngaaGreatDoorPa33
namespace Go.Proofs.YtndfnglcichngaaGreatDoor
open Go.ChangeShapes Go.WideShapes Go.ChangeAt Go.RowKit
set_option linter.unusedVariables false
theorem walk_vfsOpen (w : World) (ba : Option Addr) (bn bc : Nat) (bs : List Int) (hb : CameIn .u8 w ba bn bc bs) (k : Int) (wk : (Lit.int .i64 k).wf = true) : Calls Tryz.prog 6 #[.slice ba bn bc, .int .i64 k] w fun e w' => e = .returned (.bool true) ∧ Below w.heap.size w w' := walk_vfsOpenC pvfs w ba bn bc bs hb k
end Go.Proofs.YtndfnglcichngaaGreatDoor
