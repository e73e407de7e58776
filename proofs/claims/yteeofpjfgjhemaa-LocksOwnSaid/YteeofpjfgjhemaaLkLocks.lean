/-
  The five laws of stage 12 over the program's rank, graph and locks, named for the frames.
-/
import Derived.Test.YteeofpjfgjhemaaLkSafe
import Derived.Test.YteeofpjfgjhemaaLkWoken
import Derived.Test.YteeofpjfgjhemaaLkOwn
import Derived.Test.YteeofpjfgjhemaaLkTicks
import Derived.Test.YteeofpjfgjhemaaPkE
import Derived.Test.YteeofpjfgjhemaaGnK
namespace Go.Proofs.Yteeofpjfgjhemaa
open Go.ChangeShapes Go.WideShapes Go.ChangeAt Go.RowKit
set_option linter.unusedVariables false
theorem lkHave : ∃ (PT : World → (Nat → Prop) → Nat → List Mu → Prop) (PK : World → (Nat → Prop) → (Nat → Prop) → Nat → Nat → Lks → Prop), PTable PT ∧ PLocks PT PK ∧ NilLocks ∧ PAcyc := ⟨Tab, PKl, ptable, plocks, nilLocks, ⟨fun w a p ca ws b q cb os n h1 h2 _ h4 => pacyc_any w a p ca ws b q cb os n h1 h2 h4⟩⟩
theorem walk_locksSafe (w : World) (a : Option Addr) (n c : Nat) (ms : List Mu) (hin : Came 2 muVals MuWf w a n c ms) (b : Option Addr) (p d : Nat) (xs : List ActK) (hin2 : Came 4 actVals ActWf w b p d xs) :
    Calls Try.prog 3 #[.slice a n c, .slice b p d] w fun e w' => e = .returned (.bool true) ∧ Below w.heap.size w w' := by
  obtain ⟨PT, PK, h1, h2, h3, h4⟩ := lkHave
  exact walk_locksSafeC h1 h2 h4 w a n c ms hin b p d xs hin2
theorem walk_locksWoken (w : World) (a : Option Addr) (n c : Nat) (xs : List Int) (hin : CameIn .i64 w a n c xs) (lv : Bool) :
    Calls Try.prog 4 #[.slice a n c, .bool lv] w fun e w' => e = .returned (.bool true) ∧ Below w.heap.size w w' := by
  obtain ⟨PT, PK, h1, h2, h3, h4⟩ := lkHave
  exact walk_locksWokenC h1 h2 w a n c xs hin lv
theorem walk_locksTicks (w : World) (xa : Int) (_ : (Lit.int .i64 xa).wf = true) (xb : Int) (_ : (Lit.int .i64 xb).wf = true) (xc : Int) (_ : (Lit.int .i64 xc).wf = true) :
    Calls Try.prog 5 #[.int .i64 xa, .int .i64 xb, .int .i64 xc] w fun e w' => e = .returned (.bool true) ∧ Below w.heap.size w w' := by
  obtain ⟨PT, PK, h1, h2, h3, h4⟩ := lkHave
  exact walk_locksTicksC h1 h2 w xa xb xc
theorem walk_locksNone (w : World) (d t m n : Int) (_ : (Lit.int .i64 d).wf = true) (_ : (Lit.int .i64 t).wf = true) (_ : (Lit.int .i64 m).wf = true) (_ : (Lit.int .i64 n).wf = true) :
    Calls Try.prog 6 #[.agg #[.int .i64 d, .int .i64 t, .int .i64 m, .int .i64 n]] w fun e w' => e = .returned (.bool true) ∧ Below w.heap.size w w' := by
  obtain ⟨PT, PK, h1, h2, h3, h4⟩ := lkHave
  exact walk_locksNoneC h1 h2 h3 w d t m n
theorem walk_locksOwn (w : World) (a : Option Addr) (n c : Nat) (xs : List Int) (hin : CameIn .i64 w a n c xs) (b : Option Addr) (p d : Nat) (ys : List Int) (hin2 : CameIn .i64 w b p d ys) :
    Calls Try.prog 7 #[.slice a n c, .slice b p d] w fun e w' => e = .returned (.bool true) ∧ Below w.heap.size w w' := by
  obtain ⟨PT, PK, h1, h2, h3, h4⟩ := lkHave
  exact walk_locksOwnC h1 h2 w a n c xs hin b p d ys hin2
end Go.Proofs.Yteeofpjfgjhemaa
