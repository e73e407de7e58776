/-
  What is held, as it is told: SameHelds (coxswainlaw0).
-/
import Derived.Test.YteeofpjfgjhemaaGRow
import Derived.Laws.StructEq
import Derived.Deep.QuietTactic
import Derived.BigQuiet
namespace Go.Proofs.Yteeofpjfgjhemaa
open Go.ChangeShapes Go.WideShapes Go.ChangeAt Go.RowKit
set_option linter.unusedVariables false
/-- A mutex that is held, for how many ticks. -/
structure Hv where
  m : Int
  k : Int
def hvVals (x : Hv) : List Value := [.int .i64 x.m, .int .i64 x.k]
theorem hvVals_len (x : Hv) : (hvVals x).length = 2 := rfl
theorem held_neq (w : World) (x : Hv) : (binOp .neq 44 (.agg #[.int .i64 x.m, .int .i64 x.k]) (.agg #[.int .i64 x.m, .int .i64 x.k])).run Try.prog w = .ok (.bool false) w := by
  rw [run_neq_struct, run_equalIn_agg w 9999 _ _ _ (by kernel_rfl) (by kernel_rfl)]
  simp only [Program.fieldsOf, Try.underlying44]
  simp [Op.eqFields, go_sem, Try.underlying3]
set_option maxHeartbeats 2000000 in
theorem same_helds (a b : Option Addr) (n c d : Nat) (xs : List Hv) (w : World) (ha : Reads 2 hvVals w a n xs) (hb : Reads 2 hvVals w b n xs) (hn : n ≤ 1000000) :
    Calls Try.prog 22 #[.slice a n c, .slice b n d] w fun e w' => e = .returned (.bool true) ∧ Below w.heap.size w w' := by
  have e0 : ((n : Int) == (n : Int)) = true := by simp
  have e1 : ((n : Int) != (n : Int)) = false := by simp
  have HA := hide ha
  have HB := hide hb
  clear ha hb
  have n63 : (n : Int) ≤ 9223372036854775807 := by omega
  go_enter Try.func22, Try.ntmps22
  go_wp2_with fail
  go_loopw [5] (fun i wr => ∃ k : Nat, k ≤ n ∧ i = .int .i64 k ∧ ∃ m, wr = w.drewN m) (fun i _ => n - (intOf i).toNat)
  case atStart => exact ⟨0, Nat.zero_le _, rfl, 0, rfl⟩
  case round =>
    obtain ⟨k, hk, rfl, m, rfl⟩ := hrel
    by_cases hlt : k < n
    · have k0 : (0 : Int) ≤ (k : Int) := by omega
      have k1 : (k : Int) < (n : Int) := by omega
      obtain ⟨x, b1, o1, hx, rfl, hc⟩ := HA.out.at_ hlt
      obtain ⟨y, b2, o2, hy, rfl, hd⟩ := HB.out.at_ hlt
      rw [hx] at hy
      injection hy with hy
      subst hy
      have c0 : w.cell? ⟨b1, o1 + k * 2, none⟩ = some (.int .i64 x.m) := hc 0 _ rfl
      have c1 : w.cell? ⟨b1, o1 + k * 2 + 1, none⟩ = some (.int .i64 x.k) := hc 1 _ rfl
      have d0 : w.cell? ⟨b2, o2 + k * 2, none⟩ = some (.int .i64 x.m) := hd 0 _ rfl
      have d1 : w.cell? ⟨b2, o2 + k * 2 + 1, none⟩ = some (.int .i64 x.k) := hd 1 _ rfl
      have NE := fun W => held_neq W x
      clear hx hc hd
      go_wp2_with fail
      go_quiet (fail)
      go_wp2_with fail
      go_roundw
      case rel => exact ⟨k + 1, by omega, by go_num, _, rfl⟩
      case measure => simp [intOf]; omega
    · go_wp2_with fail
      go_ret
      exact ⟨rfl, below_drewN (Below.refl _ _) _⟩
end Go.Proofs.Yteeofpjfgjhemaa
