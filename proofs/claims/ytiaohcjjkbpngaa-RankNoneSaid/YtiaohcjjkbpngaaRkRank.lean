/-
  The three laws of stage 10 over the program's rank, named for the frames.
-/
import Derived.Test.YtiaohcjjkbpngaaRkTells
import Derived.Test.YtiaohcjjkbpngaaRkNew
import Derived.Test.YtiaohcjjkbpngaaRkRises
namespace Go.Proofs.Ytiaohcjjkbpngaa
open Go.ChangeShapes Go.WideShapes Go.ChangeAt Go.RowKit
set_option linter.unusedVariables false
theorem walk_rankTells (w : World) (a : Option Addr) (n c : Nat) (ms : List Mu) (hin : Came 2 muVals MuWf w a n c ms) (b : Option Addr) (p d : Nat) (hs : List Int) (hin2 : CameIn .i64 w b p d hs) (m : Int) (hm : (Lit.int .i64 m).wf = true) (r : Int) (hr : (Lit.int .i64 r).wf = true) :
    Calls Try.prog 3 #[.slice a n c, .slice b p d, .int .i64 m, .int .i64 r] w fun e w' => e = .returned (.bool true) ∧ Below w.heap.size w w' := walk_rankTellsC prank w a n c ms hin b p d hs hin2 m hm r hr
theorem walk_rankRises (w : World) (a : Option Addr) (n c : Nat) (ms : List Mu) (hin : Came 2 muVals MuWf w a n c ms) (b : Option Addr) (p d : Nat) (hs : List Int) (hin2 : CameIn .i64 w b p d hs) (m : Int) (hm : (Lit.int .i64 m).wf = true) (r : Int) (hr : (Lit.int .i64 r).wf = true) :
    Calls Try.prog 4 #[.slice a n c, .slice b p d, .int .i64 m, .int .i64 r] w fun e w' => e = .returned (.bool true) ∧ Below w.heap.size w w' := walk_rankRisesC prank w a n c ms hin b p d hs hin2 m hm r hr
theorem walk_rankNone (w : World) (b : Option Addr) (p d : Nat) (hs : List Int) (hin : CameIn .i64 w b p d hs) (m : Int) (_ : (Lit.int .i64 m).wf = true) :
    Calls Try.prog 5 #[.slice b p d, .int .i64 m] w fun e w' => e = .returned (.bool true) ∧ Below w.heap.size w w' := walk_rankNoneC prank nilRank w b p d hs hin m
end Go.Proofs.Ytiaohcjjkbpngaa
