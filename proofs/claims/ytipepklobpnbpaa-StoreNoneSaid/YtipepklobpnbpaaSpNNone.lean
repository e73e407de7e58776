/-
  The law StoreNone over the program's store, named for its frame.
-/
import Derived.Test.YtipepklobpnbpaaSpHave
import Derived.Test.YtipepklobpnbpaaSoNone
namespace Go.Proofs.Ytipepklobpnbpaa
open Go.ChangeShapes Go.WideShapes Go.ChangeAt Go.RowKit
set_option linter.unusedVariables false
theorem walk_storeNone (w : World) (id : Int) (_ : (Lit.int .i64 id).wf = true) (off : Int) (_ : (Lit.int .i64 off).wf = true) (n : Int) (_ : (Lit.int .i64 n).wf = true) : Calls Try.prog 6 #[.int .i64 id, .int .i64 off, .int .i64 n] w fun e w' => e = .returned (.bool true) ∧ Below w.heap.size w w' := walk_storeNoneC pstore nilStore w id off n
end Go.Proofs.Ytipepklobpnbpaa
