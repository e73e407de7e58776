/-
  The law StoreScript over the program's store, named for its frame.
-/
import Derived.Test.YtipepklobpnbpaaSpHave
import Derived.Test.YtipepklobpnbpaaSoScript
namespace Go.Proofs.Ytipepklobpnbpaa
open Go.ChangeShapes Go.WideShapes Go.ChangeAt Go.RowKit
set_option linter.unusedVariables false
theorem walk_storeScript (w : World) (x : Int) (wx : (Lit.int .i64 x).wf = true) (a : Option Addr) (n c : Nat) (zs : List (List FV)) (hin : CameMix AK w a n c zs) : Calls Try.prog 3 #[.int .i64 x, .slice a n c] w fun e w' => e = .returned (.bool true) ∧ Below w.heap.size w w' := walk_storeScriptC pstore w x wx a n c zs hin
end Go.Proofs.Ytipepklobpnbpaa
