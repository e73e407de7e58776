/-
  The law VfsRenamed over the program's paths, named for its frame.
-/
import Derived.Test.YtndfnglcichngaaGreatDoorVpHavePb
import Derived.Test.YtndfnglcichngaaGreatDoorVfRenWPb
namespace Go.Proofs.YtndfnglcichngaaGreatDoor
open Go.ChangeShapes Go.WideShapes Go.ChangeAt Go.RowKit
set_option linter.unusedVariables false
theorem walk_vfsRenamed (w : World) (s : ByteArray) (hs : s.size ≤ maxLen) (t : ByteArray) (ht : t.size ≤ maxLen) (ba : Option Addr) (bn bc : Nat) (bs : List Int) (hb : CameIn .u8 w ba bn bc bs) : Calls Tryz.prog 9 #[.string s, .string t, .slice ba bn bc] w fun e w' => e = .returned (.bool true) ∧ Below w.heap.size w w' := by
  have := walk_vfsRenamedC pvfs pnameOk w s.data.toList t.data.toList ba bn bc bs hb
  rwa [bt_data, bt_data] at this
end Go.Proofs.YtndfnglcichngaaGreatDoor
