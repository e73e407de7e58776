/-
  The law VfsLinked over the program's paths, named for its frame.
-/
import Derived.Test.YtndfnglcichngaaGreatDoorVpHavePb
import Derived.Test.YtndfnglcichngaaGreatDoorPa33
namespace Go.Proofs.YtndfnglcichngaaGreatDoor
open Go.ChangeShapes Go.WideShapes Go.ChangeAt Go.RowKit
set_option linter.unusedVariables false
theorem walk_vfsLinked (w : World) (a : Option Addr) (n c : Nat) (zs : List Va) (hin : Came 5 vaV VaWf w a n c zs) (s : ByteArray) (hs : s.size ≤ maxLen) (t : ByteArray) (ht : t.size ≤ maxLen) (ba : Option Addr) (bn bc : Nat) (bs : List Int) (hb : CameIn .u8 w ba bn bc bs) : Calls Tryz.prog 5 #[.slice a n c, .string s, .string t, .slice ba bn bc] w fun e w' => e = .returned (.bool true) ∧ Below w.heap.size w w' := by
  have := walk_vfsLinkedC pvfs w a n c zs hin s.data.toList t.data.toList (by have h := bt_size s.data.toList; rw [bt_data] at h; omega) (by have h := bt_size t.data.toList; rw [bt_data] at h; omega) ba bn bc bs hb
  rwa [bt_data, bt_data] at this
end Go.Proofs.YtndfnglcichngaaGreatDoor
