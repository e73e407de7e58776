/-
  The program's prio: within, May.
-/
import Derived.Test.YteiokkdkeneogaaPpCmp
namespace Go.Proofs.Yteiokkdkeneogaa
open Go.ChangeShapes Go.WideShapes Go.ChangeAt Go.RowKit
set_option linter.unusedVariables false
theorem pwithin_any (w : World) (x h : Int) : Calls Try.prog 17 #[.int .i64 x, .int .i64 h] w fun e w' => e = .returned (.bool (decide (0 ≤ x ∧ x ≤ h))) ∧ w = w' := by
  by_cases l0 : 0 ≤ x
  · go_enter Try.func17, Try.ntmps17
    go_wp2_with fail
    go_ret
    exact ⟨ret_bool (by rw [Bool.eq_iff_iff]; simp; omega), rfl⟩
  · go_enter Try.func17, Try.ntmps17
    go_wp2_with fail
    go_ret
    exact ⟨ret_bool (by rw [Bool.eq_iff_iff]; simp; omega), rfl⟩
set_option maxHeartbeats 4000000 in
theorem pmay_any (w : World) (c l d : Int) : Calls Try.prog 8 #[.agg #[.int .i64 c, .int .i64 l, .int .i64 d]] w fun e w' => e = .returned (.bool (mayP ⟨c, l, d⟩)) ∧ Below w.heap.size w w' := by
  have B := hide ((Below.refl w.heap.size w).alloc (Nat.le_refl _) (.cells #[.int .i64 c, .int .i64 l, .int .i64 d] 23))
  by_cases c0 : c = 0
  · subst c0
    obtain ⟨b, hb⟩ : ∃ b, b = decide (0 ≤ l ∧ l ≤ 15) := ⟨_, rfl⟩
    have K := hide (show ∀ W, Calls Try.prog 17 #[.int .i64 l, .int .i64 15] W fun e w' => e = .returned (.bool b) ∧ W = w' from fun W => by rw [hb]; exact pwithin_any W l 15)
    have hm : mayP ⟨0, l, d⟩ = (b && decide (d = 0)) := by
      rw [hb, Bool.eq_iff_iff]; simp [mayP]; omega
    rw [hm]
    clear hm hb
    cases b with
    | true =>
      go_enter Try.func8, Try.ntmps8
      go_wp2_with (go_at_call 17; refine (K.out _).mono ?_; rintro e w' ⟨rfl, rfl⟩)
      go_ret
      exact ⟨ret_bool (by rw [Bool.eq_iff_iff]; simp), B.out⟩
    | false =>
      go_enter Try.func8, Try.ntmps8
      go_wp2_with (go_at_call 17; refine (K.out _).mono ?_; rintro e w' ⟨rfl, rfl⟩)
      go_ret
      exact ⟨ret_bool (by simp), B.out⟩
  by_cases c1 : c = 1
  · subst c1
    clear c0
    obtain ⟨b, hb⟩ : ∃ b, b = decide (0 ≤ d ∧ d ≤ 1099511627776) := ⟨_, rfl⟩
    have K := hide (show ∀ W, Calls Try.prog 17 #[.int .i64 d, .int .i64 1099511627776] W fun e w' => e = .returned (.bool b) ∧ W = w' from fun W => by rw [hb]; exact pwithin_any W d 1099511627776)
    have hm : mayP ⟨1, l, d⟩ = (decide (l = 0) && b) := by
      rw [hb, Bool.eq_iff_iff]; simp [mayP]
    rw [hm]
    clear hm hb
    by_cases l0 : l = 0
    · subst l0
      go_enter Try.func8, Try.ntmps8
      go_wp2_with (go_at_call 17; refine (K.out _).mono ?_; rintro e w' ⟨rfl, rfl⟩)
      go_ret
      exact ⟨ret_bool (by simp), B.out⟩
    · have l0' : (l == 0) = false := by simpa using l0
      go_enter Try.func8, Try.ntmps8
      go_wp2_with (go_at_call 17; refine (K.out _).mono ?_; rintro e w' ⟨rfl, rfl⟩)
      go_ret
      exact ⟨ret_bool (by simp [l0]), B.out⟩
  have c0' : (c == 0) = false := by simpa using c0
  have c1' : (c == 1) = false := by simpa using c1
  by_cases c2 : c = 2
  · subst c2
    clear c0 c1 c0' c1'
    obtain ⟨b, hb⟩ : ∃ b, b = decide (0 ≤ l ∧ l ≤ 63) := ⟨_, rfl⟩
    have K := hide (show ∀ W, Calls Try.prog 17 #[.int .i64 l, .int .i64 63] W fun e w' => e = .returned (.bool b) ∧ W = w' from fun W => by rw [hb]; exact pwithin_any W l 63)
    have hm : mayP ⟨2, l, d⟩ = (b && decide (d = 0)) := by
      rw [hb, Bool.eq_iff_iff]; simp [mayP]; omega
    rw [hm]
    clear hm hb
    cases b with
    | true =>
      go_enter Try.func8, Try.ntmps8
      go_wp2_with (go_at_call 17; refine (K.out _).mono ?_; rintro e w' ⟨rfl, rfl⟩)
      go_ret
      exact ⟨ret_bool (by rw [Bool.eq_iff_iff]; simp), B.out⟩
    | false =>
      go_enter Try.func8, Try.ntmps8
      go_wp2_with (go_at_call 17; refine (K.out _).mono ?_; rintro e w' ⟨rfl, rfl⟩)
      go_ret
      exact ⟨ret_bool (by simp), B.out⟩
  · have c2' : (c == 2) = false := by simpa using c2
    have hm : mayP ⟨c, l, d⟩ = false := by unfold mayP; rw [if_neg c0, if_neg c1, if_neg c2]
    rw [hm]
    clear c0 c1 c2
    go_enter Try.func8, Try.ntmps8
    go_wp2_with fail
    go_ret
    exact ⟨rfl, B.out⟩
end Go.Proofs.Yteiokkdkeneogaa
