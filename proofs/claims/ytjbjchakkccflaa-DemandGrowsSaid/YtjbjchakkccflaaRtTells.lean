/-
  The walks of RtaTells and RtaExact, over the contracts of the program's rta.
-/
import Derived.Test.YtjbjchakkccflaaRtBoth
import Derived.Test.YtjbjchakkccflaaNumSumW
namespace Go.Proofs.Ytjbjchakkccflaa
open Go.ChangeShapes Go.WideShapes Go.ChangeAt Go.RowKit
set_option linter.unusedVariables false
theorem ints_three (q : IntKind) (w : World) (x y z : Int) (t : TypeId) (n : Nat) (hn : n = w.heap.size) : Ints q (w.alloc (.cells #[.int q x, .int q y, .int q z] t)) (some ⟨n, 0, none⟩) 3 [x, y, z] := by
  rw [hn]
  refine ⟨rfl, fun _ => ⟨w.heap.size, 0, rfl, fun j hj => ?_⟩⟩
  rw [Nat.zero_add, cell_of_row _ _ _ _ _ _ (heap_alloc_new w _)]
  have h : j = 0 ∨ j = 1 ∨ j = 2 := by omega
  rcases h with rfl | rfl | rfl <;> rfl
end Go.Proofs.Ytjbjchakkccflaa
