/-
  The five laws of stage 11 over the contracts of the program's graph and prio, named for the frames.
-/
import Derived.Test.YthbhbanhgmaopaaGhFixed
import Derived.Test.YthbhbanhgmaopaaGnEff
namespace Go.Proofs.Ythbhbanhgmaopaa
open Go.ChangeShapes Go.WideShapes Go.ChangeAt Go.RowKit
set_option linter.unusedVariables false
theorem pgraph : PGraph := pgraphL
theorem pcmpG : PCmp := ⟨fun w c l d x y z _ _ => pcmp_any w c l d x y z⟩
theorem walk_graphTells (w : World) (a : Option Addr) (p ca : Nat) (ws : List Int) (hin : CameIn .i64 w a p ca ws) (b : Option Addr) (q cb : Nat) (os : List Int) (hin2 : CameIn .i64 w b q cb os) (n : Int) (hn : (Lit.int .i64 n).wf = true) (i : Int) (hi : (Lit.int .i64 i).wf = true) :
    Calls Try.prog 3 #[.slice a p ca, .slice b q cb, .int .i64 n, .int .i64 i] w fun e w' => e = .returned (.bool true) ∧ Below w.heap.size w w' := walk_graphTellsC pgraph w a p ca ws hin b q cb os hin2 n hn i hi
theorem walk_graphCounts (w : World) (pa : Option Addr) (n cn : Nat) (ps : List Pr) (hin : Came 3 prVals PrFit w pa n cn ps) (a : Option Addr) (p ca : Nat) (ws : List Int) (hin1 : CameIn .i64 w a p ca ws) (b : Option Addr) (q cb : Nat) (os : List Int) (hin2 : CameIn .i64 w b q cb os) :
    Calls Try.prog 4 #[.slice pa n cn, .slice a p ca, .slice b q cb] w fun e w' => e = .returned (.bool true) ∧ Below w.heap.size w w' := walk_graphCountsC pgraph w pa n cn ps hin a p ca ws hin1 b q cb os hin2
theorem walk_graphFixed (w : World) (pa : Option Addr) (n cn : Nat) (ps : List Pr) (hin : Came 3 prVals PrFit w pa n cn ps) (a : Option Addr) (p ca : Nat) (ws : List Int) (hin1 : CameIn .i64 w a p ca ws) (b : Option Addr) (q cb : Nat) (os : List Int) (hin2 : CameIn .i64 w b q cb os) :
    Calls Try.prog 5 #[.slice pa n cn, .slice a p ca, .slice b q cb] w fun e w' => e = .returned (.bool true) ∧ Below w.heap.size w w' := walk_graphFixedC pgraph pcmpG w pa n cn ps hin a p ca ws hin1 b q cb os hin2
theorem walk_graphMore (w : World) (pa : Option Addr) (n cn : Nat) (ps : List Pr) (hin : Came 3 prVals PrFit w pa n cn ps) (a : Option Addr) (p ca : Nat) (ws : List Int) (hin1 : CameIn .i64 w a p ca ws) (b : Option Addr) (q cb : Nat) (os : List Int) (hin2 : CameIn .i64 w b q cb os) (who : Int) (hw : (Lit.int .i64 who).wf = true) (m : Int) (hm : (Lit.int .i64 m).wf = true) :
    Calls Try.prog 6 #[.slice pa n cn, .slice a p ca, .slice b q cb, .int .i64 who, .int .i64 m] w fun e w' => e = .returned (.bool true) ∧ Below w.heap.size w w' := walk_graphMoreC pgraph pcmpG w pa n cn ps hin a p ca ws hin1 b q cb os hin2 who hw m hm
theorem walk_graphAlone (w : World) (pa : Option Addr) (n cn : Nat) (ps : List Pr) (hin : Came 3 prVals PrFit w pa n cn ps) (a : Option Addr) (p ca : Nat) (ws : List Int) (hin1 : CameIn .i64 w a p ca ws) (b : Option Addr) (q cb : Nat) (os : List Int) (hin2 : CameIn .i64 w b q cb os) (free : Bool) :
    Calls Try.prog 7 #[.slice pa n cn, .slice a p ca, .slice b q cb, .bool free] w fun e w' => e = .returned (.bool true) ∧ Below w.heap.size w w' := walk_graphAloneC pgraph w pa n cn ps hin a p ca ws hin1 b q cb os hin2 free
end Go.Proofs.Ythbhbanhgmaopaa
