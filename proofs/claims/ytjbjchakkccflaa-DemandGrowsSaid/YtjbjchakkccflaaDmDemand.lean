/-
  The four laws of stage 17 over the contracts of the program's demand, named for the frames.
-/
import Derived.Test.YtjbjchakkccflaaDmJobs
import Derived.Test.YtjbjchakkccflaaDmLess
import Derived.Test.YtjbjchakkccflaaDmAloneW
import Derived.Test.YtjbjchakkccflaaDmMem
namespace Go.Proofs.Ytjbjchakkccflaa
open Go.ChangeShapes Go.WideShapes Go.ChangeAt Go.RowKit
set_option linter.unusedVariables false
theorem pdemand : PDemand := pdemand_any
theorem walk_demandJobs (w : World) (span : Int) (hs : (Lit.int .i64 span).wf = true) (pa : Option Addr) (n cn : Nat) (es : List Er) (hin : Came 3 erVals ErFit w pa n cn es) :
    Calls Try.prog 3 #[.int .i64 span, .slice pa n cn] w fun e w' => e = .returned (.bool true) ∧ Below w.heap.size w w' := walk_demandJobsC pdemand w span hs pa n cn es hin
theorem walk_demandLess (w : World) (block : Int) (hb : (Lit.int .i64 block).wf = true) (pa : Option Addr) (n cn : Nat) (ps : List Pt) (hin : Came 2 ptVals PtFit w pa n cn ps) (pb : Option Addr) (m cm : Nat) (es : List Er) (hin2 : Came 3 erVals ErFit w pb m cm es) (less : Int) (hl : (Lit.int .i64 less).wf = true) :
    Calls Try.prog 4 #[.int .i64 block, .slice pa n cn, .slice pb m cm, .int .i64 less] w fun e w' => e = .returned (.bool true) ∧ Below w.heap.size w w' := walk_demandLessC pdemand w block hb pa n cn ps hin pb m cm es hin2 less hl
theorem walk_demandAlone (w : World) (block : Int) (hb : (Lit.int .i64 block).wf = true) (period : Int) (hp : (Lit.int .i64 period).wf = true) (deadline : Int) (hd : (Lit.int .i64 deadline).wf = true) (cost : Int) (hc : (Lit.int .i64 cost).wf = true) :
    Calls Try.prog 5 #[.int .i64 block, .int .i64 period, .int .i64 deadline, .int .i64 cost] w fun e w' => e = .returned (.bool true) ∧ Below w.heap.size w w' := walk_demandAloneC pdemand w block hb period hp deadline hd cost hc
theorem walk_demandGrows (w : World) (a : Int) (ha : (Lit.int .i64 a).wf = true) (b : Int) (hb : (Lit.int .i64 b).wf = true) (pa : Option Addr) (n cn : Nat) (es : List Er) (hin : Came 3 erVals ErFit w pa n cn es) :
    Calls Try.prog 6 #[.int .i64 a, .int .i64 b, .slice pa n cn] w fun e w' => e = .returned (.bool true) ∧ Below w.heap.size w w' := walk_demandGrowsC pdemand w a ha b hb pa n cn es hin
end Go.Proofs.Ytjbjchakkccflaa
