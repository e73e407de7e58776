/-
  The program's prio meets its contracts; the three laws of stage 7, named for the frames.
-/
import Derived.Test.YteiokkdkeneogaaPpMax
import Derived.Test.YteiokkdkeneogaaPrMost
namespace Go.Proofs.Yteiokkdkeneogaa
open Go.ChangeShapes Go.WideShapes Go.ChangeAt Go.RowKit
set_option linter.unusedVariables false
theorem walk_prioCompares (w : World) (c l d : Int) (hc : (Lit.int .i64 c).wf = true) (hl : (Lit.int .i64 l).wf = true) (hd : (Lit.int .i64 d).wf = true) (x y z : Int) (hx : (Lit.int .i64 x).wf = true) (hy : (Lit.int .i64 y).wf = true) (hz : (Lit.int .i64 z).wf = true) :
    Calls Try.prog 3 #[.agg #[.int .i64 c, .int .i64 l, .int .i64 d], .agg #[.int .i64 x, .int .i64 y, .int .i64 z]] w fun e w' => e = .returned (.bool true) ∧ Below w.heap.size w w' :=
  walk_prioComparesC pprio w c l d x y z hc hl hd hx hy hz
theorem walk_prioOrder (w : World) (c l d : Int) (hc : (Lit.int .i64 c).wf = true) (hl : (Lit.int .i64 l).wf = true) (hd : (Lit.int .i64 d).wf = true) (x y z : Int) (hx : (Lit.int .i64 x).wf = true) (hy : (Lit.int .i64 y).wf = true) (hz : (Lit.int .i64 z).wf = true) (p q r : Int) (hp : (Lit.int .i64 p).wf = true) (hq : (Lit.int .i64 q).wf = true) (hr : (Lit.int .i64 r).wf = true) :
    Calls Try.prog 5 #[.agg #[.int .i64 c, .int .i64 l, .int .i64 d], .agg #[.int .i64 x, .int .i64 y, .int .i64 z], .agg #[.int .i64 p, .int .i64 q, .int .i64 r]] w fun e w' => e = .returned (.bool true) ∧ Below w.heap.size w w' :=
  walk_prioOrderC pprio w c l d x y z p q r hc hl hd hx hy hz hp hq hr
theorem walk_prioMost (w : World) (c l d : Int) (hc : (Lit.int .i64 c).wf = true) (hl : (Lit.int .i64 l).wf = true) (hd : (Lit.int .i64 d).wf = true) (a : Option Addr) (n cap : Nat) (zs : List (List Int)) (hin : CameRowsN 3 w a n cap zs) :
    Calls Try.prog 4 #[.agg #[.int .i64 c, .int .i64 l, .int .i64 d], .slice a n cap] w fun e w' => e = .returned (.bool true) ∧ Below w.heap.size w w' :=
  walk_prioMostC pprio w c l d hc hl hd a n cap zs hin
end Go.Proofs.Yteiokkdkeneogaa
