/-
  The law StoreKeeps over the program's store, named for its frame.
-/
import Derived.Test.YtipepklobpnbpaaSpHave
import Derived.Test.YtipepklobpnbpaaSoKeeps
namespace Go.Proofs.Ytipepklobpnbpaa
open Go.ChangeShapes Go.WideShapes Go.ChangeAt Go.RowKit
set_option linter.unusedVariables false
theorem walk_storeKeeps (w : World) (a : Option Addr) (n c : Nat) (zs : List (List FV)) (hin : CameMix AK w a n c zs) (off : Int) (wo : (Lit.int .i64 off).wf = true) (b : Option Addr) (m d : Nat) (ys : List Int) (hy : CameIn .u8 w b m d ys) :
    Calls Try.prog 4 #[.slice a n c, .int .i64 off, .slice b m d] w fun e w' => e = .returned (.bool true) ∧ Below w.heap.size w w' := walk_storeKeepsC pstore w a n c zs hin off wo b m d ys hy
end Go.Proofs.Ytipepklobpnbpaa
