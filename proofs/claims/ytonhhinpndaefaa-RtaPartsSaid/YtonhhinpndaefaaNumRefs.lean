/-
  Contracts of the document's own answers on numbers (chapter 1).
-/
import Derived.Test.YtonhhinpndaefaaNumWalks
import Derived.WalkLawsBesides
namespace Go.Proofs.Ytonhhinpndaefaa
open Go.ChangeShapes Go.WideShapes Go.ChangeAt Go.RowKit
set_option linter.unusedVariables false
theorem radd_any (a b : Int) (w : World) : Calls Try.prog 15 #[.int .i64 a, .int .i64 b] w fun e w' => e = .returned (.int .i64 (cl (cl a + cl b))) ∧ w = w' := by
  have a0 := cl_lo a
  have a1 := cl_hi a
  have b0 := cl_lo b
  have b1 := cl_hi b
  go_enter Try.func15, Try.ntmps15
  go_wp2_with (go_at_call 19; refine (rclip_any _ _).mono ?_; rintro e w' ⟨rfl, rfl⟩)
  go_ret
  exact ⟨rfl, rfl⟩

theorem rdown_any (a b : Int) (w : World) : Calls Try.prog 28 #[.int .i64 a, .int .i64 b] w fun e w' => e = .returned (.int .i64 (down a b)) ∧ w = w' := by
  have a0 := cl_lo a
  have a1 := cl_hi a
  have b0 := cl_lo b
  have b1 := cl_hi b
  by_cases h : cl b < 1
  · go_enter Try.func28, Try.ntmps28
    go_wp2_with (go_at_call 19; refine (rclip_any _ _).mono ?_; rintro e w' ⟨rfl, rfl⟩)
    go_ret
    exact ⟨ret_int (by unfold down; rw [dv_of_cl b h]; simp), rfl⟩
  · go_enter Try.func28, Try.ntmps28
    go_wp2_with (go_at_call 19; refine (rclip_any _ _).mono ?_; rintro e w' ⟨rfl, rfl⟩)
    go_ret
    exact ⟨ret_int (by unfold down; rw [dv_of_cl' b (by omega)]), rfl⟩

theorem i64_and1 (n : Int) : bits .and .i64 n 1 = n % 2 := by
  have h1 : (BitVec.ofInt 64 1).toNat = 2 ^ 1 - 1 := by decide
  have key : (BitVec.ofInt 64 n &&& BitVec.ofInt 64 1).toNat = (n % ((2 ^ 64 : Nat) : Int)).toNat % 2 ^ 1 := by
    rw [BitVec.toNat_and, BitVec.toNat_ofInt, h1, Nat.and_two_pow_sub_one_eq_mod]
  show IntKind.i64.wrap ((BitVec.ofInt 64 n &&& BitVec.ofInt 64 1).toNat : Nat) = n % 2
  rw [key, IntKind.wrap_i64]
  omega

theorem rmul_any (a b : Int) (w : World) : Calls Try.prog 24 #[.int .i64 a, .int .i64 b] w fun e w' => e = .returned (.int .i64 (mul a b)) ∧ w = w' := by
  have a0 := cl_lo a
  have a1 := cl_hi a
  have b0 := cl_lo b
  have b1 := cl_hi b
  go_enter Try.func24, Try.ntmps24
  go_wp2_with (go_at_call 19; refine (rclip_any _ _).mono ?_; rintro e w' ⟨rfl, rfl⟩)
  go_loop [5, 6] (fun n i => ∃ j : Nat, j ≤ 41 ∧ i = .int .i64 ((j : Int) - 1) ∧ n = .int .i64 (rm (cl a) (cl b) j)) (fun _ i => (intOf i + 1).toNat)
  case atStart => exact ⟨41, by omega, rfl, ret_val (rm_start (cl a) (cl b) b0 b1).symm⟩
  case round =>
    obtain ⟨j, hj, rfl, rfl⟩ := hrel
    cases j with
    | zero =>
      go_wp2_with fail
      go_ret
      exact ⟨ret_int (rm_end a b), rfl⟩
    | succ m =>
      have n0 := rm_lo (cl a) (cl b) (m + 1)
      have n1 := rm_hi (cl a) (cl b) (m + 1)
      rw [show (((m + 1 : Nat) : Int) - 1) = (m : Int) from by omega]
      have bit := i64_and1 (cl b / 2 ^ m)
      by_cases hb : cl b / 2 ^ m % 2 = 1
      · have hd : (bits BinOp.and IntKind.i64 (cl b / 2 ^ m) 1 == 1) = true := by rw [bit, hb]; rfl
        have hn := hide (rm_one (cl a) (cl b) m a0 b0 hb)
        clear hb bit
        go_wp2_with (first | (go_at_call 19; refine (rclip_any _ _).mono ?_; rintro e w' ⟨rfl, rfl⟩) | (go_at_call 15; refine (radd_any _ _ _).mono ?_; rintro e w' ⟨rfl, rfl⟩))
        go_round
        case rel => exact ⟨m, by omega, rfl, ret_val hn⟩
        case measure => simp [intOf]
      · have hd : (bits BinOp.and IntKind.i64 (cl b / 2 ^ m) 1 == 1) = false := by rw [bit]; simpa using hb
        have hn := hide (rm_zero (cl a) (cl b) m a0 b0 (by omega))
        clear hb bit
        go_wp2_with (first | (go_at_call 19; refine (rclip_any _ _).mono ?_; rintro e w' ⟨rfl, rfl⟩) | (go_at_call 15; refine (radd_any _ _ _).mono ?_; rintro e w' ⟨rfl, rfl⟩))
        go_round
        case rel => exact ⟨m, by omega, rfl, ret_val hn⟩
        case measure => simp [intOf]

theorem rup_any (a b : Int) (w : World) : Calls Try.prog 25 #[.int .i64 a, .int .i64 b] w fun e w' => e = .returned (.int .i64 (up a b)) ∧ w = w' := by
  have d0 := down_lo a b
  have d1 := down_hi a b
  by_cases h : 1 ≤ cl b
  · have HV := hide (dv_of_cl' b (by omega))
    have HD := hide (mul_down a b)
    by_cases k : mul (down a b) (cl b) < cl a
    · go_enter Try.func25, Try.ntmps25
      go_wp2_with (first | (go_at_call 19; refine (rclip_any _ _).mono ?_; rintro e w' ⟨rfl, rfl⟩) | (go_at_call 28; refine (rdown_any _ _ _).mono ?_; rintro e w' ⟨rfl, rfl⟩) | (go_at_call 24; refine (rmul_any _ _ _).mono ?_; rintro e w' ⟨rfl, rfl⟩))
      go_ret
      exact ⟨ret_int (up_more a b (by rw [← HD.out, HV.out]; exact k)).symm, rfl⟩
    · go_enter Try.func25, Try.ntmps25
      go_wp2_with (first | (go_at_call 19; refine (rclip_any _ _).mono ?_; rintro e w' ⟨rfl, rfl⟩) | (go_at_call 28; refine (rdown_any _ _ _).mono ?_; rintro e w' ⟨rfl, rfl⟩) | (go_at_call 24; refine (rmul_any _ _ _).mono ?_; rintro e w' ⟨rfl, rfl⟩))
      go_ret
      exact ⟨ret_int (up_same a b (by rw [← HD.out, HV.out]; omega)).symm, rfl⟩
  · have HV := hide (dv_of_cl b (by omega))
    have HD := hide (mul_down a b)
    by_cases k : mul (down a b) 1 < cl a
    · go_enter Try.func25, Try.ntmps25
      go_wp2_with (first | (go_at_call 19; refine (rclip_any _ _).mono ?_; rintro e w' ⟨rfl, rfl⟩) | (go_at_call 28; refine (rdown_any _ _ _).mono ?_; rintro e w' ⟨rfl, rfl⟩) | (go_at_call 24; refine (rmul_any _ _ _).mono ?_; rintro e w' ⟨rfl, rfl⟩))
      go_ret
      exact ⟨ret_int (up_more a b (by rw [← HD.out, HV.out]; exact k)).symm, rfl⟩
    · go_enter Try.func25, Try.ntmps25
      go_wp2_with (first | (go_at_call 19; refine (rclip_any _ _).mono ?_; rintro e w' ⟨rfl, rfl⟩) | (go_at_call 28; refine (rdown_any _ _ _).mono ?_; rintro e w' ⟨rfl, rfl⟩) | (go_at_call 24; refine (rmul_any _ _ _).mono ?_; rintro e w' ⟨rfl, rfl⟩))
      go_ret
      exact ⟨ret_int (up_same a b (by rw [← HD.out, HV.out]; omega)).symm, rfl⟩
end Go.Proofs.Ytonhhinpndaefaa
