/-
  The law InodeNames over the program's table, named for its frame.
-/
import Derived.Test.YtpghnhcjgjgglaaPa25
import Derived.Test.YtpghnhcjgjgglaaIdNamesPb
namespace Go.Proofs.Ytpghnhcjgjgglaa
open Go.ChangeShapes Go.WideShapes Go.ChangeAt Go.RowKit
set_option linter.unusedVariables false
theorem walk_inodeNames (w : World) (a : Option Addr) (n c : Nat) (zs : List Txt) (hin : Came 1 txVals TxWf w a n c zs) (gone : Int) (wg : (Lit.int .i64 gone).wf = true) : Calls Try.prog 5 #[.slice a n c, .int .i64 gone] w fun e w' => e = .returned (.bool true) ∧ Below w.heap.size w w' := walk_inodeNamesC newStore pinode w a n c zs hin gone wg
end Go.Proofs.Ytpghnhcjgjgglaa
