/-
  Two lists of priorities that are the same; what was lent is as it was.
-/
import Derived.Test.YtccokhalcdljiaaPrLend
namespace Go.Proofs.Ytccokhalcdljiaa
open Go.ChangeShapes Go.WideShapes Go.ChangeAt Go.RowKit
set_option linter.unusedVariables false
theorem prio_same (w : World) (x y z : Int) : (binOp .neq 31 (.agg #[.int .i64 x, .int .i64 y, .int .i64 z]) (.agg #[.int .i64 x, .int .i64 y, .int .i64 z])).run Try.prog w = .ok (.bool false) w := by
  rw [prio_neq]; simp
theorem PrRow.at_ {w : World} {a : Option Addr} {n : Nat} {ys : List Pr} (h : PrRow w a n ys) {i : Nat} (hi : i < n) : ∃ b off, a = some ⟨b, off, none⟩ ∧ w.cell? ⟨b, off + i * 3, none⟩ = some (.int .i64 (ys.getD i prD).c) ∧ w.cell? ⟨b, off + i * 3 + 1, none⟩ = some (.int .i64 (ys.getD i prD).l) ∧ w.cell? ⟨b, off + i * 3 + 2, none⟩ = some (.int .i64 (ys.getD i prD).d) := by
  obtain ⟨b, off, e, hc⟩ := h.2 (by omega)
  exact ⟨b, off, e, hc i hi⟩
end Go.Proofs.Ytccokhalcdljiaa
