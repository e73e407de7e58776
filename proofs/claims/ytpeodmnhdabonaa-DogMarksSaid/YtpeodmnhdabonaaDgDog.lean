/-
  The four laws of stage 15 over the program's dog, named for the frames.
-/
import Derived.Test.YtpeodmnhdabonaaDgExact
import Derived.Test.YtpeodmnhdabonaaDgMarks
import Derived.Test.YtpeodmnhdabonaaDgScript
import Derived.Test.YtpeodmnhdabonaaDgMem
namespace Go.Proofs.Ytpeodmnhdabonaa
open Go.ChangeShapes Go.WideShapes Go.ChangeAt Go.RowKit
set_option linter.unusedVariables false
theorem dgHave : ∃ PD : Rel Dg, PDog PD ∧ NilDog := ⟨Pdg, pdog, nilDog⟩
theorem walk_dogScript (w : World) (g : Int) (wg : (Lit.int .i64 g).wf = true) (a : Option Addr) (n c : Nat) (zs : List ActD) (hin : Came 2 acdVals AcdWf w a n c zs) : Calls Try.prog 3 #[.int .i64 g, .slice a n c] w fun e w' => e = .returned (.bool true) ∧ Below w.heap.size w w' := by
  obtain ⟨PD, C, Z⟩ := dgHave
  exact walk_dogScriptC C w g wg a n c zs hin
theorem walk_dogExact (w : World) (xw : Int) (_ : (Lit.int .i64 xw).wf = true) (a : Option Addr) (n c : Nat) (zs : List Bool) (hin : Came 1 boVals BoWf w a n c zs) : Calls Try.prog 4 #[.int .i64 xw, .slice a n c] w fun e w' => e = .returned (.bool true) ∧ Below w.heap.size w w' := by
  obtain ⟨PD, C, Z⟩ := dgHave
  exact walk_dogExactC C w xw a n c zs hin
theorem walk_dogNone (w : World) (now : Int) (_ : (Lit.int .i64 now).wf = true) : Calls Try.prog 5 #[.int .i64 now] w fun e w' => e = .returned (.bool true) ∧ Below w.heap.size w w' := by
  obtain ⟨PD, C, Z⟩ := dgHave
  exact walk_dogNoneC C Z w now
theorem walk_dogMarks (w : World) (xw : Int) (_ : (Lit.int .i64 xw).wf = true) (a : Option Addr) (n c : Nat) (zs : List Int) (hin : CameIn .i64 w a n c zs) : Calls Try.prog 6 #[.int .i64 xw, .slice a n c] w fun e w' => e = .returned (.bool true) ∧ Below w.heap.size w w' := by
  obtain ⟨PD, C, Z⟩ := dgHave
  exact walk_dogMarksC C w xw a n c zs hin
end Go.Proofs.Ytpeodmnhdabonaa
