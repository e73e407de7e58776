/-
  Contracts of the program's prio (PPrio); awake of stage 7; the law PrioCompares.
-/
import Derived.Test.YthbhbanhgmaopaaPrSame
import Derived.Deep.RegionLaw
namespace Go.Proofs.Ythbhbanhgmaopaa
open Go.ChangeShapes Go.WideShapes Go.ChangeAt Go.RowKit
set_option linter.unusedVariables false
def PrWf (p : Pr) : Prop := (Lit.int .i64 p.c).wf = true ∧ (Lit.int .i64 p.l).wf = true ∧ (Lit.int .i64 p.d).wf = true
end Go.Proofs.Ythbhbanhgmaopaa
