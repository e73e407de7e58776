/-
  The three laws of stage 19 over the program's path, named for the frames.
-/
import Derived.Test.YtjcfdpicdmidaaaDoorPtBack
import Derived.Test.YtjcfdpicdmidaaaDoorPyPath
namespace Go.Proofs.YtjcfdpicdmidaaaDoor
open Go.ChangeShapes Go.WideShapes Go.ChangeAt Go.RowKit
set_option linter.unusedVariables false
theorem walk_pathSplits (w : World) (s : ByteArray) (hs : s.size ≤ maxLen) : Calls Tryd.prog 3 #[.string s] w fun e w' => e = .returned (.bool true) ∧ Below w.heap.size w w' := by
  have := walk_pathSplitsC ppath w s.data.toList (by have h := bt_size s.data.toList; rw [bt_data] at h; omega)
  rwa [bt_data] at this
theorem walk_pathBack (w : World) (s : ByteArray) (hs : s.size ≤ maxLen) : Calls Tryd.prog 5 #[.string s] w fun e w' => e = .returned (.bool true) ∧ Below w.heap.size w w' := by
  have := walk_pathBackC ppath w s.data.toList (by have h := bt_size s.data.toList; rw [bt_data] at h; omega)
  rwa [bt_data] at this
theorem walk_pathJoins (w : World) (a : Option Addr) (n c : Nat) (ps : List Txt) (hin : Came 1 txVals TxWf w a n c ps) : Calls Tryd.prog 4 #[.slice a n c] w fun e w' => e = .returned (.bool true) ∧ Below w.heap.size w w' := walk_pathJoinsC ppath w a n c ps hin
end Go.Proofs.YtjcfdpicdmidaaaDoor
