/-
  The document's own Acyclic (coxswainref11).
-/
import Derived.Test.YteeofpjfgjhemaaGhChain
namespace Go.Proofs.Yteeofpjfgjhemaa
open Go.ChangeShapes Go.WideShapes Go.ChangeAt Go.RowKit
set_option linter.unusedVariables false
/-- Does nobody wait for itself, of the first m? -/
def acyG (ws os : List Int) (n : Int) (m : Nat) : Bool := (List.range m).all fun i => decide ((i : Int) ∉ chainG ws os n i)
theorem acyG_no {ws os : List Int} {n : Int} {m i : Nat} (hi : i < m) (h : (i : Int) ∈ chainG ws os n i) : acyG ws os n m = false := by
  unfold acyG
  rw [List.all_eq_false]
  exact ⟨i, List.mem_range.2 hi, by simpa using h⟩
theorem acyG_yes {ws os : List Int} {n : Int} {m : Nat} (h : ∀ i : Nat, i < m → (i : Int) ∉ chainG ws os n i) : acyG ws os n m = true := by
  unfold acyG
  rw [List.all_eq_true]
  intro i hi
  exact decide_eq_true (h i (List.mem_range.1 hi))
theorem own_intsI {w : World} {B : Nat} {a : Option Addr} {n c : Nat} {l : List Int} (h : w.ownsRow B 3 1 (.slice a n c) n (l.map (Value.int .i64))) (hl : l.length = n) : Ints .i64 w a n l := by
  refine ⟨hl, fun hn => ?_⟩
  rcases h.2 with ⟨_, h0⟩ | ⟨g, cap, cur, e, _⟩
  · omega
  · injection e with e1 _ e2
    subst e1 e2
    refine ⟨g, 0, rfl, fun j hj => ?_⟩
    rw [Nat.zero_add, h.cellAt j (by omega), List.getElem?_map, List.getElem?_eq_getElem (by omega)]
    simp [List.getD, show j < l.length by omega]
theorem chainF_few (ws os : List Int) (n : Nat) : ∀ (f : Nat) (l : List Int) (k : Int), (chainF ws os n f l k).length ≤ l.length + f := by
  intro f
  induction f with
  | zero => intro l k; simp [chainF]
  | succ f ih =>
    intro l k
    show (if k < 0 ∨ k ∈ l then l else _).length ≤ _
    split
    · omega
    · have := ih (l ++ [k]) (onG ws os n k)
      simp at this
      omega
theorem chainG_few (ws os : List Int) (n : Nat) (i : Int) : (chainG ws os n i).length ≤ n + 1 := by
  have := chainF_few ws os n ((n : Int).toNat + 1) [] (onG ws os n i)
  simpa [chainG] using this
end Go.Proofs.Yteeofpjfgjhemaa
