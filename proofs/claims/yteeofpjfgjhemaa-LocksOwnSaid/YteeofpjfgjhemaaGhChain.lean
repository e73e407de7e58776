/-
  The document's own Chain (coxswainref11).
-/
import Derived.Test.YteeofpjfgjhemaaGhPlain
import Derived.Test.YteeofpjfgjhemaaSame
import Derived.Test.YteeofpjfgjhemaaTouch
namespace Go.Proofs.Yteeofpjfgjhemaa
open Go.ChangeShapes Go.WideShapes Go.ChangeAt Go.RowKit
set_option linter.unusedVariables false
/-- Along the chain from k on, l being told already. -/
def chainF (ws os : List Int) (n : Int) : Nat → List Int → Int → List Int
  | 0, l, _ => l
  | f + 1, l, k => if k < 0 ∨ k ∈ l then l else chainF ws os n f (l ++ [k]) (onG ws os n k)
def chainG (ws os : List Int) (n i : Int) : List Int := chainF ws os n (n.toNat + 1) [] (onG ws os n i)
theorem few_below : ∀ (n : Nat) (l : List Int), l.Nodup → (∀ x ∈ l, 0 ≤ x ∧ x < (n : Int)) → l.length ≤ n := by
  intro n
  induction n with
  | zero =>
    intro l _ h
    cases l with
    | nil => simp
    | cons x l => have := h x (List.mem_cons_self ..); omega
  | succ n ih =>
    intro l hd h
    have h1 := ih (l.erase (n : Int)) (hd.erase _) (fun x hx => by
      have h2 := (hd.mem_erase_iff).1 hx
      have h3 := h x h2.2
      have h4 : x ≠ (n : Int) := h2.1
      omega)
    by_cases hm : (n : Int) ∈ l
    · rw [List.length_erase_of_mem hm] at h1
      omega
    · rw [List.erase_of_not_mem hm] at h1
      omega
theorem own_sliceI {w : World} {B : Nat} {e : TypeId} {z n : Nat} {v : Value} {xs : List Value} (h : w.ownsRow B e z v n xs) : ∃ a c, v = .slice a n c := by
  rcases h.2 with ⟨rfl, rfl⟩ | ⟨g, cap, cur, rfl, _⟩
  · exact ⟨none, 0, rfl⟩
  · exact ⟨_, _, rfl⟩
end Go.Proofs.Yteeofpjfgjhemaa
