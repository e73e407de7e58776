/-
  The law StoreTwo over the program's store, named for its frame.
-/
import Derived.Test.YtipepklobpnbpaaSpHave
import Derived.Test.YtipepklobpnbpaaSoTwo
namespace Go.Proofs.Ytipepklobpnbpaa
open Go.ChangeShapes Go.WideShapes Go.ChangeAt Go.RowKit
set_option linter.unusedVariables false
theorem walk_storeTwo (w : World) (at_ : Int) (wt : (Lit.int .i64 at_).wf = true) (a : Option Addr) (n c : Nat) (xs : List Int) (hx : CameIn .u8 w a n c xs) (gap : Int) (wg : (Lit.int .i64 gap).wf = true) (b : Option Addr) (m d : Nat) (ys : List Int) (hy : CameIn .u8 w b m d ys) :
    Calls Try.prog 8 #[.int .i64 at_, .slice a n c, .int .i64 gap, .slice b m d] w fun e w' => e = .returned (.bool true) ∧ Below w.heap.size w w' := walk_storeTwoC pstore w at_ wt a n c xs hx gap wg b m d ys hy
end Go.Proofs.Ytipepklobpnbpaa
