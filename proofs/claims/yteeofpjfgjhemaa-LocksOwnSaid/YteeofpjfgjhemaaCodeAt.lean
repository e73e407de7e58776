/-
  A region of a function's code, found by its number: so that its walk is a theorem of its own.
-/
import Derived.Test.YteeofpjfgjhemaaKit
namespace Go.Proofs.Yteeofpjfgjhemaa
open Go.ChangeShapes Go.WideShapes Go.ChangeAt Go.RowKit
set_option linter.unusedVariables false
def regionAt (n : Nat) : Code → Option Code
  | .region k ops d => if k == n then some (.region k ops d) else none
  | .loop c => regionAt n c
  | .seq a b => match regionAt n a with
    | some c => some c
    | none => regionAt n b
  | .block _ c => regionAt n c
  | .scope c => regionAt n c
  | .cond _ a b => match regionAt n a with
    | some c => some c
    | none => regionAt n b
  | _ => none
end Go.Proofs.Yteeofpjfgjhemaa
