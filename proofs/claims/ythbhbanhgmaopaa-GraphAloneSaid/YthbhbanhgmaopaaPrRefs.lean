/-
  The document's own May, greater, Compare (coxswainref7).
-/
import Derived.Test.YthbhbanhgmaopaaPrPlain
import Derived.Deep.QuietTactic
import Derived.BigQuiet
import Derived.Deep.DeepCutAuto
import Derived.Deep.CutBlock
import Derived.Deep.RegionHeld3
namespace Go.Proofs.Ythbhbanhgmaopaa
open Go.ChangeShapes Go.WideShapes Go.ChangeAt Go.RowKit
set_option linter.unusedVariables false
set_option maxHeartbeats 2000000 in
theorem rgreater_any (w : World) (c l d x y z : Int) : Calls Try.prog 44 #[.agg #[.int .i64 c, .int .i64 l, .int .i64 d], .agg #[.int .i64 x, .int .i64 y, .int .i64 z]] w fun e w' => e = .returned (.bool (gtP ⟨c, l, d⟩ ⟨x, y, z⟩)) ∧ Below w.heap.size w w' := by
  have B := hide (((Below.refl w.heap.size w).alloc (Nat.le_refl _) (.cells #[.int .i64 c, .int .i64 l, .int .i64 d] 39)).alloc (by simp) (.cells #[.int .i64 x, .int .i64 y, .int .i64 z] 39))
  by_cases e : c = x
  · subst e
    have e' : (c != c) = false := by simp
    by_cases e1 : c = 1
    · subst e1
      go_enter Try.func44, Try.ntmps44
      go_wp2_with fail
      go_ret
      exact ⟨ret_bool (by rw [Bool.eq_iff_iff]; simp [gtP]), B.out⟩
    · have e1' : (c == 1) = false := by simpa using e1
      have hg : gtP ⟨c, l, d⟩ ⟨c, y, z⟩ = decide (y < l) := by unfold gtP; rw [if_neg (by simp), if_neg e1]
      rw [hg]
      clear e1
      go_enter Try.func44, Try.ntmps44
      go_wp2_with fail
      go_ret
      exact ⟨rfl, B.out⟩
  · have e' : (c != x) = true := by simpa using e
    have hg : gtP ⟨c, l, d⟩ ⟨x, y, z⟩ = decide (x < c) := by unfold gtP; rw [if_pos e]
    rw [hg]
    clear e
    go_enter Try.func44, Try.ntmps44
    go_wp2_with fail
    go_ret
    exact ⟨rfl, B.out⟩
end Go.Proofs.Ythbhbanhgmaopaa
