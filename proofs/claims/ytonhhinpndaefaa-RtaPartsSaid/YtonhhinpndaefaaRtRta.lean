/-
  The five laws of stage 16 over the contracts of the program's rta, named for the frames.
-/
import Derived.Test.YtonhhinpndaefaaRtLeast
import Derived.Test.YtonhhinpndaefaaRtParts
import Derived.Test.YtonhhinpndaefaaRtMem
namespace Go.Proofs.Ytonhhinpndaefaa
open Go.ChangeShapes Go.WideShapes Go.ChangeAt Go.RowKit
set_option linter.unusedVariables false
theorem prta : PRta := prta_any
theorem walk_rtaTells (w : World) (own : Int) (ho : (Lit.int .i64 own).wf = true) (block : Int) (hb : (Lit.int .i64 block).wf = true) (pa : Option Addr) (n cn : Nat) (ps : List Pt) (hin : Came 2 ptVals PtFit w pa n cn ps) (most : Int) (hm : (Lit.int .i64 most).wf = true) (span : Int) (hs : (Lit.int .i64 span).wf = true) :
    Calls Try.prog 3 #[.int .i64 own, .int .i64 block, .slice pa n cn, .int .i64 most, .int .i64 span] w fun e w' => e = .returned (.bool true) ∧ Below w.heap.size w w' := walk_rtaTellsC prta w own ho block hb pa n cn ps hin most hm span hs
theorem walk_rtaExact (w : World) (own : Int) (ho : (Lit.int .i64 own).wf = true) (block : Int) (hb : (Lit.int .i64 block).wf = true) (pa : Option Addr) (n cn : Nat) (ps : List Pt) (hin : Came 2 ptVals PtFit w pa n cn ps) (most : Int) (hm : (Lit.int .i64 most).wf = true) :
    Calls Try.prog 7 #[.int .i64 own, .int .i64 block, .slice pa n cn, .int .i64 most] w fun e w' => e = .returned (.bool true) ∧ Below w.heap.size w w' := walk_rtaExactC prta w own ho block hb pa n cn ps hin most hm
theorem walk_rtaLeast (w : World) (own : Int) (ho : (Lit.int .i64 own).wf = true) (block : Int) (hb : (Lit.int .i64 block).wf = true) (pa : Option Addr) (n cn : Nat) (ps : List Pt) (hin : Came 2 ptVals PtFit w pa n cn ps) (most : Int) (hm : (Lit.int .i64 most).wf = true) :
    Calls Try.prog 4 #[.int .i64 own, .int .i64 block, .slice pa n cn, .int .i64 most] w fun e w' => e = .returned (.bool true) ∧ Below w.heap.size w w' := walk_rtaLeastC prta w own ho block hb pa n cn ps hin most hm
theorem walk_rtaRises (w : World) (own : Int) (ho : (Lit.int .i64 own).wf = true) (block : Int) (hb : (Lit.int .i64 block).wf = true) (pa : Option Addr) (n cn : Nat) (ps : List Pt) (hin : Came 2 ptVals PtFit w pa n cn ps) (mp mc : Int) (hp : (Lit.int .i64 mp).wf = true) (hc : (Lit.int .i64 mc).wf = true) (by_ : Int) (hy : (Lit.int .i64 by_).wf = true) :
    Calls Try.prog 5 #[.int .i64 own, .int .i64 block, .slice pa n cn, .agg #[.int .i64 mp, .int .i64 mc], .int .i64 by_] w fun e w' => e = .returned (.bool true) ∧ Below w.heap.size w w' := walk_rtaRisesC prta w own ho block hb pa n cn ps hin mp mc hp hc by_ hy
theorem walk_rtaParts (w : World) (pa : Option Addr) (n cn : Nat) (ya : List Pt) (hin : Came 2 ptVals PtFit w pa n cn ya) (pb : Option Addr) (m cm : Nat) (yb : List Pt) (hin2 : Came 2 ptVals PtFit w pb m cm yb) (span : Int) (hs : (Lit.int .i64 span).wf = true) (mp mc : Int) (hp : (Lit.int .i64 mp).wf = true) (hc : (Lit.int .i64 mc).wf = true) :
    Calls Try.prog 6 #[.slice pa n cn, .slice pb m cm, .int .i64 span, .agg #[.int .i64 mp, .int .i64 mc]] w fun e w' => e = .returned (.bool true) ∧ Below w.heap.size w w' := walk_rtaPartsC prta w pa n cn ya hin pb m cm yb hin2 span hs mp mc hp hc
end Go.Proofs.Ytonhhinpndaefaa
