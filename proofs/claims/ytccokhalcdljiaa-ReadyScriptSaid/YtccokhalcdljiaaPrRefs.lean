/-
  The document's own May, greater, Compare (coxswainref7).
-/
import Derived.Test.YtccokhalcdljiaaPrPlain
import Derived.Deep.QuietTactic
import Derived.BigQuiet
import Derived.Deep.DeepCutAuto
import Derived.Deep.CutBlock
import Derived.Deep.RegionHeld3
namespace Go.Proofs.Ytccokhalcdljiaa
open Go.ChangeShapes Go.WideShapes Go.ChangeAt Go.RowKit
set_option linter.unusedVariables false
set_option maxHeartbeats 2000000 in
theorem rmay_any (w : World) (c l d : Int) : Calls Try.prog 29 #[.agg #[.int .i64 c, .int .i64 l, .int .i64 d]] w fun e w' => e = .returned (.bool (mayP ⟨c, l, d⟩)) ∧ Below w.heap.size w w' := by
  have B := hide ((Below.refl w.heap.size w).alloc (Nat.le_refl _) (.cells #[.int .i64 c, .int .i64 l, .int .i64 d] 31))
  by_cases c0 : c = 0
  · subst c0
    by_cases l0 : 0 ≤ l
    · by_cases l1 : l ≤ 15
      · go_enter Try.func29, Try.ntmps29
        go_wp2_with fail
        go_ret
        exact ⟨ret_bool (by rw [Bool.eq_iff_iff]; first | (simp [mayP]; done) | (simp [mayP]; omega)), B.out⟩
      · go_enter Try.func29, Try.ntmps29
        go_wp2_with fail
        go_ret
        exact ⟨ret_bool (by rw [Bool.eq_iff_iff]; first | (simp [mayP]; done) | (simp [mayP]; omega)), B.out⟩
    · go_enter Try.func29, Try.ntmps29
      go_wp2_with fail
      go_ret
      exact ⟨ret_bool (by rw [Bool.eq_iff_iff]; first | (simp [mayP]; done) | (simp [mayP]; omega)), B.out⟩
  by_cases c1 : c = 1
  · subst c1
    clear c0
    by_cases l0 : l = 0
    · subst l0
      by_cases d0 : 0 ≤ d
      · go_enter Try.func29, Try.ntmps29
        go_wp2_with fail
        go_ret
        exact ⟨ret_bool (by rw [Bool.eq_iff_iff]; first | (simp [mayP]; done) | (simp [mayP]; omega)), B.out⟩
      · go_enter Try.func29, Try.ntmps29
        go_wp2_with fail
        go_ret
        exact ⟨ret_bool (by rw [Bool.eq_iff_iff]; first | (simp [mayP]; done) | (simp [mayP]; omega)), B.out⟩
    · have l0' : (l == 0) = false := by simpa using l0
      go_enter Try.func29, Try.ntmps29
      go_wp2_with fail
      go_ret
      exact ⟨ret_bool (by rw [Bool.eq_iff_iff]; first | (simp [mayP]; done) | (simp [mayP]; omega)), B.out⟩
  have c0' : (c == 0) = false := by simpa using c0
  have c1' : (c == 1) = false := by simpa using c1
  by_cases c2 : c = 2
  · subst c2
    clear c0 c1 c0' c1'
    by_cases l0 : 0 ≤ l
    · by_cases l1 : l ≤ 63
      · go_enter Try.func29, Try.ntmps29
        go_wp2_with fail
        go_ret
        exact ⟨ret_bool (by rw [Bool.eq_iff_iff]; first | (simp [mayP]; done) | (simp [mayP]; omega)), B.out⟩
      · go_enter Try.func29, Try.ntmps29
        go_wp2_with fail
        go_ret
        exact ⟨ret_bool (by rw [Bool.eq_iff_iff]; first | (simp [mayP]; done) | (simp [mayP]; omega)), B.out⟩
    · go_enter Try.func29, Try.ntmps29
      go_wp2_with fail
      go_ret
      exact ⟨ret_bool (by rw [Bool.eq_iff_iff]; first | (simp [mayP]; done) | (simp [mayP]; omega)), B.out⟩
  · have c2' : (c == 2) = false := by simpa using c2
    have hm : mayP ⟨c, l, d⟩ = false := by unfold mayP; rw [if_neg c0, if_neg c1, if_neg c2]
    rw [hm]
    clear c0 c1 c2
    go_enter Try.func29, Try.ntmps29
    go_wp2_with fail
    go_ret
    exact ⟨rfl, B.out⟩
set_option maxHeartbeats 2000000 in
theorem rgreater_any (w : World) (c l d x y z : Int) : Calls Try.prog 39 #[.agg #[.int .i64 c, .int .i64 l, .int .i64 d], .agg #[.int .i64 x, .int .i64 y, .int .i64 z]] w fun e w' => e = .returned (.bool (gtP ⟨c, l, d⟩ ⟨x, y, z⟩)) ∧ Below w.heap.size w w' := by
  have B := hide (((Below.refl w.heap.size w).alloc (Nat.le_refl _) (.cells #[.int .i64 c, .int .i64 l, .int .i64 d] 31)).alloc (by simp) (.cells #[.int .i64 x, .int .i64 y, .int .i64 z] 31))
  by_cases e : c = x
  · subst e
    have e' : (c != c) = false := by simp
    by_cases e1 : c = 1
    · subst e1
      go_enter Try.func39, Try.ntmps39
      go_wp2_with fail
      go_ret
      exact ⟨ret_bool (by rw [Bool.eq_iff_iff]; simp [gtP]), B.out⟩
    · have e1' : (c == 1) = false := by simpa using e1
      have hg : gtP ⟨c, l, d⟩ ⟨c, y, z⟩ = decide (y < l) := by unfold gtP; rw [if_neg (by simp), if_neg e1]
      rw [hg]
      clear e1
      go_enter Try.func39, Try.ntmps39
      go_wp2_with fail
      go_ret
      exact ⟨rfl, B.out⟩
  · have e' : (c != x) = true := by simpa using e
    have hg : gtP ⟨c, l, d⟩ ⟨x, y, z⟩ = decide (x < c) := by unfold gtP; rw [if_pos e]
    rw [hg]
    clear e
    go_enter Try.func39, Try.ntmps39
    go_wp2_with fail
    go_ret
    exact ⟨rfl, B.out⟩
end Go.Proofs.Ytccokhalcdljiaa
