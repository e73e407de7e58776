/-
  The law StoreFrames over the program's store, named for its frame.
-/
import Derived.Test.YtipepklobpnbpaaSpHave
import Derived.Test.YtipepklobpnbpaaSoFrames
namespace Go.Proofs.Ytipepklobpnbpaa
open Go.ChangeShapes Go.WideShapes Go.ChangeAt Go.RowKit
set_option linter.unusedVariables false
theorem walk_storeFrames (w : World) (a : Option Addr) (n c : Nat) (zs : List (List FV)) (hin : CameMix AK w a n c zs) : Calls Try.prog 5 #[.slice a n c] w fun e w' => e = .returned (.bool true) ∧ Below w.heap.size w w' := walk_storeFramesC pstore w a n c zs hin
end Go.Proofs.Ytipepklobpnbpaa
