/-
  Contracts of the program's prio (PPrio); awake of stage 7; the law PrioCompares.
-/
import Derived.Test.YtccokhalcdljiaaPrSame
import Derived.Deep.RegionLaw
namespace Go.Proofs.Ytccokhalcdljiaa
open Go.ChangeShapes Go.WideShapes Go.ChangeAt Go.RowKit
set_option linter.unusedVariables false
def PrWf (p : Pr) : Prop := (Lit.int .i64 p.c).wf = true ∧ (Lit.int .i64 p.l).wf = true ∧ (Lit.int .i64 p.d).wf = true
/-- What the queue's laws ask of the program's prio. -/
structure PPrio2 : Prop where
  may : ∀ (w : World) (c l d : Int), PrWf ⟨c, l, d⟩ → Calls Try.prog 24 #[.agg #[.int .i64 c, .int .i64 l, .int .i64 d]] w fun e w' => e = .returned (.bool (mayP ⟨c, l, d⟩)) ∧ Below w.heap.size w w'
  cmp : ∀ (w : World) (c l d x y z : Int), PrWf ⟨c, l, d⟩ → PrWf ⟨x, y, z⟩ → Calls Try.prog 25 #[.agg #[.int .i64 c, .int .i64 l, .int .i64 d], .agg #[.int .i64 x, .int .i64 y, .int .i64 z]] w fun e w' => e = .returned (.int .i64 (cmpP ⟨c, l, d⟩ ⟨x, y, z⟩)) ∧ Below w.heap.size w w'
end Go.Proofs.Ytccokhalcdljiaa
