/-
  The five laws of stage 14 over the program's line, named for the frames.
-/
import Derived.Test.YtmelbhilafjpcaaLnOnce
import Derived.Test.YtmelbhilafjpcaaLnGaps
import Derived.Test.YtmelbhilafjpcaaLnScript
import Derived.Test.YtmelbhilafjpcaaLnShift
import Derived.Test.YtmelbhilafjpcaaLnMem
namespace Go.Proofs.Ytmelbhilafjpcaa
open Go.ChangeShapes Go.WideShapes Go.ChangeAt Go.RowKit
set_option linter.unusedVariables false
theorem lnHave : ∃ PL : Rel Ls, PLine PL ∧ NilLine := ⟨Pln, pline, nilLine⟩
theorem walk_lineScript (w : World) (g : Int) (wg : (Lit.int .i64 g).wf = true) (a : Option Addr) (n c : Nat) (zs : List (List Int)) (hin : CameRows 2 w a n c zs) : Calls Try.prog 3 #[.int .i64 g, .slice a n c] w fun e w' => e = .returned (.bool true) ∧ Below w.heap.size w w' := by
  obtain ⟨PL, C, Z⟩ := lnHave
  exact walk_lineScriptC C w g wg a n c zs hin
theorem walk_lineGaps (w : World) (xg : Int) (_ : (Lit.int .i64 xg).wf = true) (a : Option Addr) (n c : Nat) (zs : List Bool) (hin : Came 1 boVals BoWf w a n c zs) (xs : Int) (_ : (Lit.int .i64 xs).wf = true) :
    Calls Try.prog 4 #[.int .i64 xg, .slice a n c, .int .i64 xs] w fun e w' => e = .returned (.bool true) ∧ Below w.heap.size w w' := by
  obtain ⟨PL, C, Z⟩ := lnHave
  exact walk_lineGapsC C w xg a n c zs hin xs
theorem walk_lineNone (w : World) (now : Int) (_ : (Lit.int .i64 now).wf = true) : Calls Try.prog 5 #[.int .i64 now] w fun e w' => e = .returned (.bool true) ∧ Below w.heap.size w w' := by
  obtain ⟨PL, C, Z⟩ := lnHave
  exact walk_lineNoneC C Z w now
theorem walk_lineOnce (w : World) (xg : Int) (_ : (Lit.int .i64 xg).wf = true) (xn : Int) (_ : (Lit.int .i64 xn).wf = true) (xl : Int) (_ : (Lit.int .i64 xl).wf = true) : Calls Try.prog 6 #[.int .i64 xg, .int .i64 xn, .int .i64 xl] w fun e w' => e = .returned (.bool true) ∧ Below w.heap.size w w' := by
  obtain ⟨PL, C, Z⟩ := lnHave
  exact walk_lineOnceC C w xg xn xl
theorem walk_lineShift (w : World) (xg : Int) (_ : (Lit.int .i64 xg).wf = true) (a : Option Addr) (n c : Nat) (zs : List Bool) (hin : Came 1 boVals BoWf w a n c zs) (a2 : Option Addr) (n2 c2 : Nat) (zs2 : List Bool) (hin2 : Came 1 boVals BoWf w a2 n2 c2 zs2) (xb : Int) (_ : (Lit.int .i64 xb).wf = true) :
    Calls Try.prog 7 #[.int .i64 xg, .slice a n c, .slice a2 n2 c2, .int .i64 xb] w fun e w' => e = .returned (.bool true) ∧ Below w.heap.size w w' := by
  obtain ⟨PL, C, Z⟩ := lnHave
  exact walk_lineShiftC C w xg a n c zs hin a2 n2 c2 zs2 hin2 xb
end Go.Proofs.Ytmelbhilafjpcaa
