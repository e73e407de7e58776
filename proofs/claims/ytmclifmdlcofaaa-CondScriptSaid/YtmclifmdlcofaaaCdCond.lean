/-
  The five laws of stage 13 over the program's conditions, named for the frames.
-/
import Derived.Test.YtmclifmdlcofaaaCdNone
import Derived.Test.YtmclifmdlcofaaaCdOrder
import Derived.Test.YtmclifmdlcofaaaCdCancel
import Derived.Test.YtmclifmdlcofaaaCdScript
import Derived.Test.YtmclifmdlcofaaaCnSig
namespace Go.Proofs.Ytmclifmdlcofaaa
open Go.ChangeShapes Go.WideShapes Go.ChangeAt Go.RowKit
set_option linter.unusedVariables false
theorem cdHave : ∃ PC : Rel Cs, PConds PC ∧ NilConds := ⟨PCn, pconds, nilConds⟩
theorem walk_condScript (w : World) (n0 : Int) (wn : (Lit.int .i64 n0).wf = true) (a : Option Addr) (n c : Nat) (zs : List (List Int)) (hin : CameRows 3 w a n c zs) (ks : List Int) (hk : ks.length = 16) :
    Calls Try.prog 3 #[.int .i64 n0, .slice a n c, .agg (keyVals ks)] w fun e w' => e = .returned (.bool true) ∧ Below w.heap.size w w' := by
  obtain ⟨PC, C, Z⟩ := cdHave
  exact walk_condScriptC C w n0 wn a n c zs hin ks hk
theorem walk_condOrder (w : World) (a : Int) (wa : (Lit.int .u16 a).wf = true) (ks : List Int) (hk : ks.length = 16) : Calls Try.prog 4 #[.int .u16 a, .agg (keyVals ks)] w fun e w' => e = .returned (.bool true) ∧ Below w.heap.size w w' := by
  obtain ⟨PC, C, Z⟩ := cdHave
  obtain ⟨a, rfl, ha⟩ := u16_nat wa
  exact walk_condOrderC C w a ha ks hk
theorem walk_condNil (w : World) (xa : Int) (_ : (Lit.int .i64 xa).wf = true) (xb : Int) (_ : (Lit.int .i64 xb).wf = true) : Calls Try.prog 5 #[.int .i64 xa, .int .i64 xb] w fun e w' => e = .returned (.bool true) ∧ Below w.heap.size w w' := by
  obtain ⟨PC, C, Z⟩ := cdHave
  exact walk_condNilC C w xa xb
theorem walk_condNone (w : World) (d t i : Int) (_ : (Lit.int .i64 d).wf = true) (_ : (Lit.int .i64 t).wf = true) (_ : (Lit.int .i64 i).wf = true) :
    Calls Try.prog 6 #[.agg #[.int .i64 d, .int .i64 t, .int .i64 i]] w fun e w' => e = .returned (.bool true) ∧ Below w.heap.size w w' := by
  obtain ⟨PC, C, Z⟩ := cdHave
  exact walk_condNoneC C Z w d t i
theorem walk_condCancel (w : World) (a : Int) (wa : (Lit.int .u16 a).wf = true) (b : Int) (wb : (Lit.int .u16 b).wf = true) (g : Int) (wg : (Lit.int .u16 g).wf = true) (ks : List Int) (hk : ks.length = 16) :
    Calls Try.prog 7 #[.int .u16 a, .int .u16 b, .int .u16 g, .agg (keyVals ks)] w fun e w' => e = .returned (.bool true) ∧ Below w.heap.size w w' := by
  obtain ⟨PC, C, Z⟩ := cdHave
  obtain ⟨a, rfl, ha⟩ := u16_nat wa
  obtain ⟨b, rfl, hb⟩ := u16_nat wb
  obtain ⟨g, rfl, hg⟩ := u16_nat wg
  exact walk_condCancelC C w a ha b hb g hg ks hk
end Go.Proofs.Ytmclifmdlcofaaa
