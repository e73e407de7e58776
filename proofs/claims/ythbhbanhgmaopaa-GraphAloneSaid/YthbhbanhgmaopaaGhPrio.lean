/-
  Priorities as elements: what comes in, compared.
-/
import Derived.Test.YthbhbanhgmaopaaCame
import Derived.Test.YthbhbanhgmaopaaPrBoth
namespace Go.Proofs.Ythbhbanhgmaopaa
open Go.ChangeShapes Go.WideShapes Go.ChangeAt Go.RowKit
set_option linter.unusedVariables false
def prVals (p : Pr) : List Value := [.int .i64 p.c, .int .i64 p.l, .int .i64 p.d]
def PrFit (_ : World) (p : Pr) : Prop := (Lit.int .i64 p.c).wf = true ∧ (Lit.int .i64 p.l).wf = true ∧ (Lit.int .i64 p.d).wf = true
section
variable {H : Type} {enc : TypeId × Value → H} {w : World} {base : Nat} {spare : Nat → Bool} {held : Bool}
theorem pr_open (m : Nat) (cs : List Value) (x : DataW H × List MemPlace) (hl : cs.length = 3) (h : DataW.trod enc Try.prog w base spare held m 39 cs = some x) : ∃ o, cs = prVals o ∧ PrFit w o := by
  obtain ⟨c, e0, w0⟩ := field_int Try.underlying39 h 0 0 3 rfl Try.underlying3 (by kernel_rfl)
  obtain ⟨l, e1, w1⟩ := field_int Try.underlying39 h 1 1 3 rfl Try.underlying3 (by kernel_rfl)
  obtain ⟨d, e2, w2⟩ := field_int Try.underlying39 h 2 2 3 rfl Try.underlying3 (by kernel_rfl)
  refine ⟨⟨c, l, d⟩, ?_, w0, w1, w2⟩
  match cs, hl with
  | [v0, v1, v2], _ =>
    simp at e0 e1 e2
    simp [prVals, e0, e1, e2]
end
theorem prq_neq (w : World) (x y : Pr) : (binOp .neq 39 (.agg (prVals x).toArray) (.agg (prVals y).toArray)).run Try.prog w = .ok (.bool (!eqP x y)) w := prio_neq w x.c x.l x.d y.c y.l y.d
theorem prq_refl (x : Pr) : eqP x x = true := eqP_refl x
end Go.Proofs.Ythbhbanhgmaopaa
