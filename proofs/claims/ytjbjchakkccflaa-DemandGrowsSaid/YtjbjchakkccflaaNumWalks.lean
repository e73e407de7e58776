/-
  Contracts of package num's functions: for every input, what each returns, the world left as it was.
-/
import Derived.Test.YtjbjchakkccflaaKit
import Derived.Test.YtjbjchakkccflaaNumPlain
namespace Go.Proofs.Ytjbjchakkccflaa
open Go.ChangeShapes Go.WideShapes Go.ChangeAt Go.RowKit
set_option linter.unusedVariables false
theorem clip_any (x : Int) (w : World) : Calls Try.prog 13 #[.int .i64 x] w fun e w' => e = .returned (.int .i64 (cl x)) ∧ w = w' := by
  by_cases h : x < 0
  · go_enter Try.func13, Try.ntmps13
    go_wp2
    go_ret
    exact ⟨ret_int (cl_neg x h).symm, rfl⟩
  · by_cases h2 : 1099511627776 < x
    · go_enter Try.func13, Try.ntmps13
      go_wp2
      go_ret
      exact ⟨ret_int (cl_big x h2).symm, rfl⟩
    · go_enter Try.func13, Try.ntmps13
      go_wp2
      go_ret
      exact ⟨ret_int (cl_in x (by omega) (by omega)).symm, rfl⟩

theorem divisor_any (x : Int) (w : World) : Calls Try.prog 31 #[.int .i64 x] w fun e w' => e = .returned (.int .i64 (dv x)) ∧ w = w' := by
  by_cases h : x < 1
  · go_enter Try.func31, Try.ntmps31
    go_wp2
    go_ret
    exact ⟨ret_int (dv_small x h).symm, rfl⟩
  · go_enter Try.func31, Try.ntmps31
    go_wp2_with (go_at_call 13; refine (clip_any _ _).mono ?_; rintro e w' ⟨rfl, rfl⟩)
    go_ret
    exact ⟨ret_int (dv_else x (by omega)).symm, rfl⟩

theorem mul_any (a b : Int) (w : World) : Calls Try.prog 21 #[.int .i64 a, .int .i64 b] w fun e w' => e = .returned (.int .i64 (mul a b)) ∧ w = w' := by
  have a0 := cl_lo a
  have a1 := cl_hi a
  have b0 := cl_lo b
  have b1 := cl_hi b
  by_cases h : 0 < cl a
  · by_cases k : 1099511627776 / cl a < cl b
    · go_enter Try.func21, Try.ntmps21
      go_wp2_with (go_at_call 13; refine (clip_any _ _).mono ?_; rintro e w' ⟨rfl, rfl⟩)
      go_ret
      exact ⟨ret_int (mul_over a b h k).symm, rfl⟩
    · obtain ⟨m0, m1⟩ := mul_fits a b h k
      go_enter Try.func21, Try.ntmps21
      go_wp2_with (go_at_call 13; refine (clip_any _ _).mono ?_; rintro e w' ⟨rfl, rfl⟩)
      go_ret
      exact ⟨ret_int (mul_within a b m1).symm, rfl⟩
  · have z : cl a = 0 := by omega
    have Z := mul_zero_left a b z
    have m0 : 0 ≤ cl a * cl b := by rw [z, Int.zero_mul]; omega
    have m1 : cl a * cl b ≤ 0 := by rw [z, Int.zero_mul]; omega
    have HZ := hide Z
    clear Z z
    go_enter Try.func21, Try.ntmps21
    go_wp2_with (go_at_call 13; refine (clip_any _ _).mono ?_; rintro e w' ⟨rfl, rfl⟩)
    go_ret
    exact ⟨ret_int (by have : mul a b = 0 := HZ; omega), rfl⟩

theorem up_any (a b : Int) (w : World) : Calls Try.prog 30 #[.int .i64 a, .int .i64 b] w fun e w' => e = .returned (.int .i64 (up a b)) ∧ w = w' := by
  have a0 := cl_lo a
  have a1 := cl_hi a
  have b0 := dv_lo b
  have b1 := dv_hi b
  go_enter Try.func30, Try.ntmps30
  go_wp2_with (first | (go_at_call 13; refine (clip_any _ _).mono ?_; rintro e w' ⟨rfl, rfl⟩) | (go_at_call 31; refine (divisor_any _ _).mono ?_; rintro e w' ⟨rfl, rfl⟩))
  go_ret
  exact ⟨rfl, rfl⟩

theorem down_any (a b : Int) (w : World) : Calls Try.prog 27 #[.int .i64 a, .int .i64 b] w fun e w' => e = .returned (.int .i64 (down a b)) ∧ w = w' := by
  have a0 := cl_lo a
  have a1 := cl_hi a
  have b0 := dv_lo b
  have b1 := dv_hi b
  go_enter Try.func27, Try.ntmps27
  go_wp2_with (first | (go_at_call 13; refine (clip_any _ _).mono ?_; rintro e w' ⟨rfl, rfl⟩) | (go_at_call 31; refine (divisor_any _ _).mono ?_; rintro e w' ⟨rfl, rfl⟩))
  go_ret
  exact ⟨rfl, rfl⟩
end Go.Proofs.Ytjbjchakkccflaa
