/-
  The law InodeLinks over the program's table, named for its frame.
-/
import Derived.Test.YtpghnhcjgjgglaaPa25
import Derived.Test.YtpghnhcjgjgglaaIdLinksPb
namespace Go.Proofs.Ytpghnhcjgjgglaa
open Go.ChangeShapes Go.WideShapes Go.ChangeAt Go.RowKit
set_option linter.unusedVariables false
theorem walk_inodeLinks (w : World) (a : Option Addr) (n c : Nat) (zs : List Ac) (hin : Came 5 acV AcWf w a n c zs) : Calls Try.prog 4 #[.slice a n c] w fun e w' => e = .returned (.bool true) ∧ Below w.heap.size w w' := walk_inodeLinksC newStore pinode w a n c zs hin
end Go.Proofs.Ytpghnhcjgjgglaa
