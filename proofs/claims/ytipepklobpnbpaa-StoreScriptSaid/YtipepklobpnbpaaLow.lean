/-
  Low (coxswainlaw0) for bounds up to 2^40, by integers; small numbers are well.
-/
import Derived.Test.YtipepklobpnbpaaKit
namespace Go.Proofs.Ytipepklobpnbpaa
open Go.ChangeShapes Go.WideShapes Go.ChangeAt Go.RowKit
set_option linter.unusedVariables false
theorem low_i (x z : Int) (w : World) (h0 : 0 < z) (hb : z ≤ 1099511627776) :
    Calls Try.prog 11 #[.int .i64 x, .int .i64 z] w fun e w' => (∃ r : Int, (0 ≤ r ∧ r < z) ∧ e = .returned (.int .i64 r)) ∧ w = w' := by
  obtain ⟨r, hr, he⟩ : ∃ r : Int, (0 ≤ r ∧ r < z) ∧ wrap64 ((IntKind.u64.wrap x).tmod z) = r := by
    have h : IntKind.u64.wrap x = x % 18446744073709551616 := by simp [IntKind.wrap, IntKind.bits, IntKind.signed]
    rw [h, Int.tmod_eq_emod_of_nonneg (by omega)]
    have h1 : 0 ≤ (x % 18446744073709551616) % z := Int.emod_nonneg _ (by omega)
    have h2 : (x % 18446744073709551616) % z < z := Int.emod_lt_of_pos _ (by omega)
    generalize (x % 18446744073709551616) % z = y at *
    exact ⟨y, ⟨h1, h2⟩, by unfold wrap64; omega⟩
  have HE := hide he
  have HR := hide hr
  have n0 : ¬ (z = 0) := by omega
  have n1 : (0 : Int) ≤ z := by omega
  have hu : IntKind.u64.wrap z = z := by simp [IntKind.wrap, IntKind.bits, IntKind.signed]; omega
  clear he hr
  go_enter Try.func11, Try.ntmps11
  go_wp2_with fail
  go_ret
  exact ⟨⟨r, HR.out, ret_int HE.out⟩, rfl⟩
theorem errnum_any (w : World) (x : Int) : Calls Try.prog 15 #[.int .i64 x] w fun e w' => e = .returned (.int .i64 x) ∧ w = w' := by
  go_enter Try.func15, Try.ntmps15
  go_wp2_with fail
  go_ret
  exact ⟨rfl, rfl⟩
theorem wf_i {x : Int} (h0 : -4000000000000 ≤ x) (h : x ≤ 4000000000000) : (Lit.int .i64 x).wf = true := by
  simp [Lit.wf, IntKind.min, IntKind.max, IntKind.bits, IntKind.signed]; omega
end Go.Proofs.Ytipepklobpnbpaa
