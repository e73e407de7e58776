/-
  The contract of Low (coxswainlaw0): some number below n.
-/
import Derived.Test.YtipepklobpnbpaaTouch
namespace Go.Proofs.Ytipepklobpnbpaa
open Go.ChangeShapes Go.WideShapes Go.ChangeAt Go.RowKit
set_option linter.unusedVariables false
theorem low_wrapN (x : Int) (n : Nat) (hn : 0 < n) (hb : n ≤ 1000000) : ∃ r : Nat, r < n ∧ wrap64 ((IntKind.u64.wrap x).tmod (n : Int)) = r := by
  have h : IntKind.u64.wrap x = x % 18446744073709551616 := by simp [IntKind.wrap, IntKind.bits, IntKind.signed]
  rw [h, Int.tmod_eq_emod_of_nonneg (by omega)]
  have h0 : 0 ≤ (x % 18446744073709551616) % (n : Int) := Int.emod_nonneg _ (by omega)
  have h1 : (x % 18446744073709551616) % (n : Int) < n := Int.emod_lt_of_pos _ (by omega)
  generalize (x % 18446744073709551616) % (n : Int) = y at *
  obtain ⟨r, rfl⟩ := Int.eq_ofNat_of_zero_le h0
  refine ⟨r, by omega, ?_⟩
  unfold wrap64
  omega
theorem low_any (x : Int) (n : Nat) (w : World) (hn : 0 < n) (hb : n ≤ 1000000) :
    Calls Try.prog 11 #[.int .i64 x, .int .i64 (n : Int)] w fun e w' => (∃ r : Nat, r < n ∧ e = .returned (.int .i64 (r : Int))) ∧ w = w' := by
  obtain ⟨r, hr, he⟩ := low_wrapN x n hn hb
  have HE := hide he
  have n0 : ¬ ((n : Int) = 0) := by omega
  have n1 : (0 : Int) ≤ (n : Int) := by omega
  have n2 : (n : Int) ≤ 1000000 := by omega
  have hu : IntKind.u64.wrap (n : Int) = (n : Int) := by simp [IntKind.wrap, IntKind.bits, IntKind.signed]; omega
  clear he
  go_enter Try.func11, Try.ntmps11
  go_wp2_with fail
  go_ret
  exact ⟨⟨r, hr, ret_int HE.out⟩, rfl⟩
end Go.Proofs.Ytipepklobpnbpaa
