/-
  The law InodeNone over the program's table, named for its frame.
-/
import Derived.Test.YtpghnhcjgjgglaaPa25
import Derived.Test.YtpghnhcjgjgglaaIdNonePb
namespace Go.Proofs.Ytpghnhcjgjgglaa
open Go.ChangeShapes Go.WideShapes Go.ChangeAt Go.RowKit
set_option linter.unusedVariables false
theorem walk_inodeNone (w : World) (x : Ac) (hx : AcWf w x) : Calls Try.prog 6 #[.agg (acV x).toArray] w fun e w' => e = .returned (.bool true) ∧ Below w.heap.size w w' := walk_inodeNoneC newStore pinode nilInode w x hx
end Go.Proofs.Ytpghnhcjgjgglaa
