/-
  Contracts of the program's rank (PRank, NilRank), its memory left open; awake of stage 10; the law RankNone.
-/
import Derived.Test.YteeofpjfgjhemaaRkRefs
namespace Go.Proofs.Yteeofpjfgjhemaa
open Go.ChangeShapes Go.WideShapes Go.ChangeAt Go.RowKit
set_option linter.unusedVariables false
/-- A list of numbers that is handed in. -/
structure NumsIn (w : World) (b : Option Addr) (p d : Nat) (hs : List Int) : Prop where
  ints : Ints .i64 w b p hs
  le : p ≤ d
  max : d ≤ maxLen
  nil : b = none → d = 0
  few : p ≤ 30
  wf : ∀ h ∈ hs, (Lit.int .i64 h).wf = true
theorem NumsIn.below {w w' : World} {b : Option Addr} {p d : Nat} {hs : List Int} (h : NumsIn w b p d hs) (bw : Below w.heap.size w w') : NumsIn w' b p d hs := ⟨h.ints.below bw, h.le, h.max, h.nil, h.few, h.wf⟩
def three : List Mu := [⟨1, 5⟩, ⟨2, 7⟩, ⟨2, 9⟩]
theorem built_m1 : Try.prog.built 49 [(0, .int .i64 1), (1, .int .i64 5)] = some #[.int .i64 1, .int .i64 5] := by kernel_rfl
theorem built_m2 : Try.prog.built 49 [(0, .int .i64 2), (1, .int .i64 7)] = some #[.int .i64 2, .int .i64 7] := by kernel_rfl
theorem built_m3 : Try.prog.built 49 [(0, .int .i64 2), (1, .int .i64 9)] = some #[.int .i64 2, .int .i64 9] := by kernel_rfl
attribute [local go_sem] built_m1 built_m2 built_m3
section
variable {PT : World → Nat → List Mu → Prop}
theorem nums_one (w : World) (x : Int) (hx : (Lit.int .i64 x).wf = true) (n : Nat) (hn : n = w.heap.size) : NumsIn (w.alloc (.cells #[.int .i64 x] 3)) (some ⟨n, 0, none⟩) 1 1 [x] :=
  ⟨ints_cell1 _ _ _ _ _ hn, Nat.le_refl _, by unfold maxLen; omega, (fun e => by cases e), by omega, fun h hh => by rw [List.mem_singleton] at hh; rw [hh]; exact hx⟩
end
end Go.Proofs.Yteeofpjfgjhemaa
