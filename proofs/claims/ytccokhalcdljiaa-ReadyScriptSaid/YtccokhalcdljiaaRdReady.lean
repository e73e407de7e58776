/-
  The four laws of stage 8 over the program's ready, named for the frames.
-/
import Derived.Test.YtccokhalcdljiaaRyB
import Derived.Test.YtccokhalcdljiaaRdScript
import Derived.Test.YtccokhalcdljiaaRdTurned
import Derived.Test.YtccokhalcdljiaaRdFirst
import Derived.Test.YtccokhalcdljiaaRdNone
import Derived.Test.YtccokhalcdljiaaCame
import Derived.Test.YtccokhalcdljiaaPpAll8
namespace Go.Proofs.Ytccokhalcdljiaa
open Go.ChangeShapes Go.WideShapes Go.ChangeAt Go.RowKit
set_option linter.unusedVariables false
structure Ac5 where
  o : Int
  i : Int
  c : Int
  l : Int
  d : Int
def ac5Vals (z : Ac5) : List Value := [.int .i64 z.o, .int .i64 z.i, .int .i64 z.c, .int .i64 z.l, .int .i64 z.d]
def Ac5Any (_ : World) (_ : Ac5) : Prop := True
section
variable {H : Type} {enc : TypeId × Value → H} {w : World} {base : Nat} {spare : Nat → Bool} {held : Bool}
theorem ac5_open (m : Nat) (cs : List Value) (x : DataW H × List MemPlace) (hl : cs.length = 5) (h : DataW.trod enc Try.prog w base spare held m 33 cs = some x) : ∃ z, cs = ac5Vals z ∧ Ac5Any w z := by
  obtain ⟨o, e0, _⟩ := field_int Try.underlying33 h 0 0 3 rfl Try.underlying3 (by kernel_rfl)
  obtain ⟨i, e1, _⟩ := field_int Try.underlying33 h 1 1 3 rfl Try.underlying3 (by kernel_rfl)
  obtain ⟨n, y, h4⟩ := trod_field Try.underlying33 h 2 2 3 31 rfl (by kernel_rfl)
  obtain ⟨c, e2, _⟩ := field_int Try.underlying31 h4 0 0 3 rfl Try.underlying3 (by kernel_rfl)
  obtain ⟨l, e3, _⟩ := field_int Try.underlying31 h4 1 1 3 rfl Try.underlying3 (by kernel_rfl)
  obtain ⟨d, e4, _⟩ := field_int Try.underlying31 h4 2 2 3 rfl Try.underlying3 (by kernel_rfl)
  refine ⟨⟨o, i, c, l, d⟩, ?_, trivial⟩
  match cs, hl with
  | [v0, v1, v2, v3, v4], _ =>
    simp at e0 e1 e2 e3 e4
    simp [ac5Vals, e0, e1, e2, e3, e4]
end
theorem walk_readyNone (w : World) (z : Ac5) (_ : Ac5Any w z) : Calls Try.prog 5 #[.agg (ac5Vals z).toArray] w fun e w' => e = .returned (.bool true) ∧ Below w.heap.size w w' := walk_readyNoneC pready nilReady w z.o z.i z.c z.l z.d
theorem walk_readyFirst (w : World) (a : Option Addr) (n c : Nat) (zs : List (List Int)) (hin : CameRows 3 w a n c zs) : Calls Try.prog 4 #[.slice a n c] w fun e w' => e = .returned (.bool true) ∧ Below w.heap.size w w' := walk_readyFirstC pready pprio2 w a n c zs hin
theorem walk_readyTurned (w : World) (a : Option Addr) (n c : Nat) (zs : List (List Int)) (hin : CameRows 3 w a n c zs) (who : Int) (ww : (Lit.int .i64 who).wf = true) (pc pl pd : Int) (hc : (Lit.int .i64 pc).wf = true) (hl : (Lit.int .i64 pl).wf = true) (hd : (Lit.int .i64 pd).wf = true) :
    Calls Try.prog 6 #[.slice a n c, .int .i64 who, .agg #[.int .i64 pc, .int .i64 pl, .int .i64 pd]] w fun e w' => e = .returned (.bool true) ∧ Below w.heap.size w w' := walk_readyTurnedC pready pprio2 w a n c zs hin who ww pc pl pd hc hl hd
theorem walk_readyScript (w : World) (a : Option Addr) (n c : Nat) (zs : List (List GV)) (hin : CameGen RK w a n c zs) : Calls Try.prog 3 #[.slice a n c] w fun e w' => e = .returned (.bool true) ∧ Below w.heap.size w w' := walk_readyScriptC pready w a n c zs hin
end Go.Proofs.Ytccokhalcdljiaa
