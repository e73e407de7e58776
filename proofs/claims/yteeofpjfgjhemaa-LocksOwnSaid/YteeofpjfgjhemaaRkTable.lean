/-
  The landed rank by its blocks (PTable), for stage 12.
-/
import Derived.Test.YteeofpjfgjhemaaRkNew
import Derived.Test.YteeofpjfgjhemaaLkBoth
namespace Go.Proofs.Yteeofpjfgjhemaa
open Go.ChangeShapes Go.WideShapes Go.ChangeAt Go.RowKit
set_option linter.unusedVariables false
theorem ptable : PTable Tab where
  keep := by intro V Q w w' T ms h t d; exact h.keep t d
  lt := by intro Q w T ms h; exact h.lt
  newGood := fun w a n c ms ha _ _ _ hnil hn hg => (pnew_any w a n c ms ha hnil hn).mono (by
    rintro e w' (⟨_, T, Q, he, ht, hb, hq⟩ | ⟨h, _⟩)
    · exact ⟨T, Q, he, ht, hb, hq⟩
    · rw [hg] at h; cases h)
  newBad := fun w a n c ms ha _ _ _ hnil hn hg => (pnew_any w a n c ms ha hnil hn).mono (by
    rintro e w' (⟨h, _⟩ | ⟨_, he, hb⟩)
    · rw [hg] at h; cases h
    · exact ⟨he, hb⟩)
  rank := by intro Q w T ms h m _; exact (prank_any h m).mono (by rintro e w' ⟨he, rfl⟩; exact ⟨he, Below.refl _ _⟩)
end Go.Proofs.Yteeofpjfgjhemaa
