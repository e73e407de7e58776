/-
  The four laws of stage 9 over the contracts of the program's prog, named for the frames.
-/
import Derived.Test.YthgoifmmnebkeaaPgBare
import Derived.Test.YthgoifmmnebkeaaPgFirst
import Derived.Test.YthgoifmmnebkeaaPgFixP
namespace Go.Proofs.Ythgoifmmnebkeaa
open Go.ChangeShapes Go.WideShapes Go.ChangeAt Go.RowKit
set_option linter.unusedVariables false

theorem walk_progMay (w : World) (o : Step) (ho : StWf w o) : Calls Try.prog 3 #[.agg (stVals o).toArray] w fun e w' => e = .returned (.bool true) ∧ Below w.heap.size w w' := walk_progMayC pprog w o ho
theorem walk_progBare (w : World) (o : Step) (ho : StWf w o) (A : Int) (hA : (Lit.int .i64 A).wf = true) (S : ByteArray) (hS : S.size ≤ maxLen) : Calls Try.prog 5 #[.agg (stVals o).toArray, .int .i64 A, .string S] w fun e w' => e = .returned (.bool true) ∧ Below w.heap.size w w' := walk_progBareC pprog w o ho A hA S hS
theorem walk_progFix (w : World) (a : Option Addr) (n c : Nat) (xs : List Step) (hin : Came 9 stVals StWf w a n c xs) : Calls Try.prog 4 #[.slice a n c] w fun e w' => e = .returned (.bool true) ∧ Below w.heap.size w w' := walk_progFixC pprog w a n c xs hin
theorem walk_progFirst (w : World) (a : Option Addr) (n c : Nat) (xs : List Step) (hin : Came 9 stVals StWf w a n c xs) (b : Option Addr) (p d : Nat) (ys : List Step) (hin2 : Came 9 stVals StWf w b p d ys) : Calls Try.prog 6 #[.slice a n c, .slice b p d] w fun e w' => e = .returned (.bool true) ∧ Below w.heap.size w w' := walk_progFirstC pprog w a n c xs hin b p d ys hin2
end Go.Proofs.Ythgoifmmnebkeaa
