/-
  The walk of the law NumWhole.
-/
import Derived.Test.YtpmkkgcpoiaebaaNumAwake
import Derived.Deep.RegionHeld3
namespace Go.Proofs.Ytpmkkgcpoiaebaa
open Go.ChangeShapes Go.WideShapes Go.ChangeAt Go.RowKit
set_option linter.unusedVariables false
theorem low_eq (x n : Int) (h0 : 1 ≤ n) (h1 : n ≤ 9223372036854775807) : wrap64 ((IntKind.u64.wrap x).tmod n) = low x n := by
  have e : IntKind.u64.wrap x = x % 18446744073709551616 := by simp [IntKind.wrap, IntKind.bits, IntKind.signed]
  rw [e, Int.tmod_eq_emod_of_nonneg (Int.emod_nonneg _ (by decide))]
  have a := low_lo x n h0
  have b := low_hi x n h0
  have l : x % 18446744073709551616 % n = low x n := rfl
  rw [l]
  unfold wrap64
  omega
theorem low_any (x n : Int) (h0 : 1 ≤ n) (h1 : n ≤ 9223372036854775807) (w : World) :
    Calls Try.prog 21 #[.int .i64 x, .int .i64 n] w fun e w' => e = .returned (.int .i64 (low x n)) ∧ w = w' := by
  go_enter Try.func21, Try.ntmps21
  go_wp2_with fail
  go_ret
  exact ⟨ret_int (low_eq x n h0 h1), rfl⟩

set_option maxHeartbeats 800000 in
theorem walk_numWhole (a : Int) (wa : (Lit.int .i64 a).wf = true) (b : Int) (wb : (Lit.int .i64 b).wf = true) (w : World) :
    Calls Try.prog 6 #[.int .i64 a, .int .i64 b] w fun e w' => e = .returned (.bool true) ∧ Below w.heap.size w w' := by
  clear wa wb
  have a0 := low_lo a 1073741824 (by omega)
  have a1 := low_hi a 1073741824 (by omega)
  have b0 := low_lo b 1048576 (by omega)
  have b1 := low_hi b 1048576 (by omega)
  obtain ⟨f1, f2, f3, f4, f5, f6, f7, f8, f9, g0, g1, g2⟩ := whole_facts (low a 1073741824) (1 + low b 1048576) a0 a1 (by omega) (by omega)
  have e0 := Int.emod_nonneg (low a 1073741824) (show 1 + low b 1048576 ≠ 0 by omega)
  have e1 := Int.emod_lt_of_pos (low a 1073741824) (show 0 < 1 + low b 1048576 by omega)
  have x1 : IntKind.i64.wrap (down (low a 1073741824) (1 + low b 1048576) * (1 + low b 1048576)) = down (low a 1073741824) (1 + low b 1048576) * (1 + low b 1048576) := IntWalk.i64_in _ (by omega)
  have x2 : IntKind.i64.wrap (low a 1073741824 - down (low a 1073741824) (1 + low b 1048576) * (1 + low b 1048576)) = low a 1073741824 - down (low a 1073741824) (1 + low b 1048576) * (1 + low b 1048576) := IntWalk.i64_in _ (by omega)
  have x3 : IntKind.i64.wrap (up (low a 1073741824) (1 + low b 1048576) * (1 + low b 1048576)) = up (low a 1073741824) (1 + low b 1048576) * (1 + low b 1048576) := IntWalk.i64_in _ (by omega)
  have x4 : IntKind.i64.wrap (up (low a 1073741824) (1 + low b 1048576) * (1 + low b 1048576) - low a 1073741824) = up (low a 1073741824) (1 + low b 1048576) * (1 + low b 1048576) - low a 1073741824 := IntWalk.i64_in _ (by omega)
  have x5 : IntKind.i64.wrap (mul (down (low a 1073741824) (1 + low b 1048576)) (1 + low b 1048576) + low a 1073741824 % (1 + low b 1048576)) = mul (down (low a 1073741824) (1 + low b 1048576)) (1 + low b 1048576) + low a 1073741824 % (1 + low b 1048576) := IntWalk.i64_in _ (by omega)
  have x6 : IntKind.i64.wrap (low a 1073741824 + (1 + low b 1048576)) = low a 1073741824 + (1 + low b 1048576) := IntWalk.i64_in _ (by omega)
  have x7 : IntKind.i64.wrap (1099511627776 + low a 1073741824) = 1099511627776 + low a 1073741824 := IntWalk.i64_in _ (by omega)
  have x8 : (low a 1073741824).tmod (1 + low b 1048576) = low a 1073741824 % (1 + low b 1048576) := Int.tmod_eq_emod_of_nonneg a0
  have x9 : ¬ 1 + low b 1048576 = 0 := by omega
  have h1 : (1 + low b 1048576 == 0) = false := by simpa using x9
  go_enter Try.func6, Try.ntmps6
  go_wp2_with (first
      | (go_at_call 17; refine (up_any _ _ _).mono ?_; rintro e w' ⟨rfl, rfl⟩)
      | (go_at_call 21; refine (low_any _ _ (by omega) (by omega) _).mono ?_; rintro e w' ⟨rfl, rfl⟩)
      | (go_at_call 19; refine (down_any _ _ _).mono ?_; rintro e w' ⟨rfl, rfl⟩))
  go_region_held3 (fun _ => True) (exact trivial) (first
      | (go_at_call 10; refine (clip_any _ _).mono ?_; rintro e w' ⟨rfl, rfl⟩)
      | (go_at_call 15; refine (mul_any _ _ _).mono ?_; rintro e w' ⟨rfl, rfl⟩)
      | (go_at_call 12; with_reducible refine (add_any _ 2 2 [_, _] _ (ints_two_at _ _ _ _ _ _ (by simp)).drew (by omega)).mono ?_; rintro e w' ⟨rfl, rfl⟩)
      | (go_at_call 8; refine (awake_any _).mono ?_; rintro e w' ⟨rfl, hb⟩))
  go_wp2
  go_ret
  exact ⟨rfl, below_one_drew hb⟩
end Go.Proofs.Ytpmkkgcpoiaebaa
