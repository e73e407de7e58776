/-
  The law StorePieces over the program's store, named for its frame.
-/
import Derived.Test.YtipepklobpnbpaaSpHave
import Derived.Test.YtipepklobpnbpaaSoPieces
namespace Go.Proofs.Ytipepklobpnbpaa
open Go.ChangeShapes Go.WideShapes Go.ChangeAt Go.RowKit
set_option linter.unusedVariables false
theorem walk_storePieces (w : World) (a : Option Addr) (n c : Nat) (xs : List Int) (hx : CameIn .u8 w a n c xs) (cut : Int) (wc : (Lit.int .i64 cut).wf = true) (of_ : Int) (wo : (Lit.int .i64 of_).wf = true) :
    Calls Try.prog 7 #[.slice a n c, .int .i64 cut, .int .i64 of_] w fun e w' => e = .returned (.bool true) ∧ Below w.heap.size w w' := walk_storePiecesC pstore w a n c xs hx cut wc of_ wo
end Go.Proofs.Ytipepklobpnbpaa
