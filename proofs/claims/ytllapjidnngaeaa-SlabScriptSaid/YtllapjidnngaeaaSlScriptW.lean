/-
  The walk of SlabScript, at the program's slab.
-/
import Derived.Test.YtllapjidnngaeaaSlScript
import Derived.Test.YtllapjidnngaeaaPsSlab
namespace Go.Proofs.Ytllapjidnngaeaa
open Go.ChangeShapes Go.WideShapes Go.ChangeAt Go.RowKit
set_option linter.unusedVariables false
theorem walk_slabScript (w : World) (a : Option Addr) (n c : Nat) (zs : List (List GV)) (hin : CameGen SK w a n c zs) : Calls Try.prog 3 #[.slice a n c] w fun e w' => e = .returned (.bool true) ∧ Below w.heap.size w w' :=
  walk_slabScriptC pslab w a n c zs hin
end Go.Proofs.Ytllapjidnngaeaa
