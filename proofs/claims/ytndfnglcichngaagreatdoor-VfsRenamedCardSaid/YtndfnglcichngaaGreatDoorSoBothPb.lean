/-
  Contracts of the program's store (PStore), its memory left open; awake of stage 20.
-/
import Derived.Deep.DeepCutAuto
import Derived.Deep.CutBlock
import Derived.Deep.RegionLaw
import Derived.Lib.SmallJoins
import Derived.Test.YtndfnglcichngaaGreatDoorPa03
import Derived.Test.YtndfnglcichngaaGreatDoorPa02
import Derived.Test.YtndfnglcichngaaGreatDoorPa00
import Derived.Test.YtndfnglcichngaaGreatDoorPa04
namespace Go.Proofs.YtndfnglcichngaaGreatDoor
open Go.ChangeShapes Go.WideShapes Go.ChangeAt Go.RowKit
set_option linter.unusedVariables false
/-- What Read answers: a row of its own. -/
def ReadIs (s : So) (id off n : Int) (w : World) (e : Ending) (w' : World) : Prop :=
  ∃ v, e = .returned (.tuple #[v, .int .i64 (rdE s id off n : Nat)]) ∧ w'.ownsRow w.heap.size 5 1 v (rdB s id off n).length ((rdB s id off n).map (Value.int .u8)) ∧ Below w.heap.size w w'
theorem wf_k {x : Nat} (h : x ≤ 4000000) : (Lit.int .i64 (x : Int)).wf = true := wf_i (by omega) (by omega)
section
variable {PS : Nat → Rel So}
theorem ints_ab (w : World) (n : Nat) (hn : n = w.heap.size) (t : TypeId) (fr : Nat × Nat) : Ints .u8 (w.alloc (.cells #[.int .u8 97, .int .u8 98] t fr)) (some ⟨n, 0, none⟩) 2 [97, 98] := by
  subst hn
  refine ⟨rfl, fun _ => ⟨_, _, rfl, fun j hj => ?_⟩⟩
  rw [World.cell?_alloc_mark w _ t fr (0 + j)]
  match j, hj with
  | 0, _ => rfl
  | 1, _ => rfl
theorem ints_000ab (w : World) (n : Nat) (hn : n = w.heap.size) (t : TypeId) : Ints .u8 (w.alloc (.cells #[.int .u8 0, .int .u8 0, .int .u8 0, .int .u8 97, .int .u8 98] t)) (some ⟨n, 0, none⟩) 5 [0, 0, 0, 97, 98] := by
  subst hn
  refine ⟨rfl, fun _ => ⟨_, _, rfl, fun j hj => ?_⟩⟩
  match j, hj with
  | 0, _ => simp
  | 1, _ => simp
  | 2, _ => simp
  | 3, _ => simp
  | 4, _ => simp
theorem conv_ab (W : World) : (convert 30 30 (.slice (some ⟨W.heap.size, 0, none⟩) 2 2)).run Tryz.prog (W.alloc (.cells #[.int .u8 97, .int .u8 98] 5)) = .ok (.slice (some ⟨W.heap.size, 0, none⟩) 2 2) (W.alloc (.cells #[.int .u8 97, .int .u8 98] 5 (2, 3))) :=
  Joins.run_convert_bytes_const_at W _ _ _ 2 2 _ rfl Tryz.underlying30 Tryz.underlying5
attribute [local go_sem] conv_ab
end
end Go.Proofs.YtndfnglcichngaaGreatDoor
