/-
  Who waits for whom: plain words; the document's own On, in (coxswainref11) (stage 11).
-/
import Derived.Test.YteeofpjfgjhemaaKit
import Derived.Deep.RegionHeld3
import Derived.Deep.QuietTactic
import Derived.BigQuiet
namespace Go.Proofs.Yteeofpjfgjhemaa
open Go.ChangeShapes Go.WideShapes Go.ChangeAt Go.RowKit
set_option linter.unusedVariables false
/-- For whom i waits. -/
def onG (ws os : List Int) (n i : Int) : Int :=
  if i < 0 ∨ n ≤ i ∨ (ws.length : Int) ≤ i then -1
  else if ws.getD i.toNat 0 < 0 ∨ (os.length : Int) ≤ ws.getD i.toNat 0 then -1
  else if os.getD (ws.getD i.toNat 0).toNat 0 < 0 ∨ n ≤ os.getD (ws.getD i.toNat 0).toNat 0 then -1
  else os.getD (ws.getD i.toNat 0).toNat 0
theorem onG_lt {ws os : List Int} {n i : Int} (h : 0 ≤ onG ws os n i) : onG ws os n i < n := by
  unfold onG at *
  split at h
  · omega
  · split at h
    · omega
    · split at h
      · omega
      · rename_i h1 h2 h3
        rw [if_neg h1, if_neg h2, if_neg h3]
        omega
theorem onG_none {ws os : List Int} {n i : Int} (h : ¬ 0 ≤ onG ws os n i) : onG ws os n i = -1 := by
  unfold onG at *
  split
  · rfl
  · split
    · rfl
    · split
      · rfl
      · rename_i h1 h2 h3
        rw [if_neg h1, if_neg h2, if_neg h3] at h
        omega
theorem Ints.cell {q : IntKind} {w : World} {a : Option Addr} {n : Nat} {xs : List Int} (h : Ints q w a n xs) {k : Nat} (hk : k < n) : ∃ b off, a = some ⟨b, off, none⟩ ∧ w.cell? ⟨b, off + k, none⟩ = some (.int q (xs.getD k 0)) := by
  obtain ⟨b, off, e, hc⟩ := h.2 (by omega)
  exact ⟨b, off, e, hc k hk⟩
end Go.Proofs.Yteeofpjfgjhemaa
