/-
  The program's Sum, New; what is told of no table; rank by its blocks.
-/
import Derived.Test.YteeofpjfgjhemaaRkLeast
import Derived.Test.YteeofpjfgjhemaaRkMay
import Derived.Test.YteeofpjfgjhemaaNumSumW
namespace Go.Proofs.Yteeofpjfgjhemaa
open Go.ChangeShapes Go.WideShapes Go.ChangeAt Go.RowKit Go.Shelf
set_option linter.unusedVariables false
set_option linter.unusedSimpArgs false
attribute [local go_sem] Oper.semAt_some
/-- A block of cells is told of by its own word alone. -/
theorem cells_own {β : Type} (B : Nat) (t : TypeId) (f : β → Array Value) : Own (fun s W => W.heap[B]? = some (.cells (f s) t (0, 0))) := fun s X Y row hs hg hrow => by
  obtain ⟨_, _, _, _, hb⟩ := hg
  exact (hb B (lt_of_heap hs) (fun e' => by obtain ⟨o, ho, hc⟩ := hrow B e'.symm; rw [hs] at ho; cases ho; cases hc)).trans hs
def sumG (s : Int) (m : Mu) : Int := cl (cl s + cl m.l)
theorem sumMu_fold (r : Int) (ms : List Mu) : ∀ s, ms.foldl (sumS r) s = (ms.filter (reachB r)).foldl sumG s := by
  induction ms with
  | nil => intro s; rfl
  | cons m ms ih =>
    intro s
    rw [List.foldl_cons, List.filter_cons, ih]
    by_cases h : r ≤ m.r
    · rw [if_pos (by simpa [reachB] using h), List.foldl_cons]
      congr 1
      unfold sumS
      rw [if_pos h]; rfl
    · rw [if_neg (by simpa [reachB] using h)]
      congr 1
      unfold sumS
      rw [if_neg h]
def sumF (r : Int) (pre : List (Yes (reachB r))) : Int := (pre.map (·.1)).foldl sumG 0
theorem sumF_snoc (r : Int) (pre : List (Yes (reachB r))) (x : Yes (reachB r)) : sumF r (pre ++ [x]) = sumG (sumF r pre) x.1 := by simp [sumF]
end Go.Proofs.Yteeofpjfgjhemaa
