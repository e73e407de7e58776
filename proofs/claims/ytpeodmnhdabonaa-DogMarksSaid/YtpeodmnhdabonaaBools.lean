/-
  A slice of bools that comes in.
-/
import Derived.Test.YtpeodmnhdabonaaCame
namespace Go.Proofs.Ytpeodmnhdabonaa
open Go.ChangeShapes Go.WideShapes Go.ChangeAt Go.RowKit
set_option linter.unusedVariables false
def boVals (b : Bool) : List Value := [.bool b]
def BoWf (_ : World) (_ : Bool) : Prop := True
theorem boVals_len (b : Bool) : (boVals b).length = 1 := rfl
section
variable {H : Type} {enc : TypeId × Value → H} {w : World} {base : Nat} {spare : Nat → Bool} {held : Bool}
theorem bool_open (m : Nat) (cs : List Value) (x : DataW H × List MemPlace) (hl : cs.length = 1) (h : DataW.trod enc Try.prog w base spare held m 4 cs = some x) : ∃ z, cs = boVals z ∧ BoWf w z := by
  obtain ⟨z, hz, _⟩ := DataW.trod_bool Try.underlying4 h
  exact ⟨z, hz, trivial⟩
end
/-- A slice of n bools that reads as 'zs'. -/
def Bools (w : World) (a : Option Addr) (n : Nat) (zs : List Bool) : Prop := zs.length = n ∧ (0 < n → ∃ b off, a = some ⟨b, off, none⟩ ∧ ∀ k, k < n → w.cell? ⟨b, off + k, none⟩ = some (.bool (zs.getD k false)))
theorem Came.bools {w : World} {a : Option Addr} {n c : Nat} {zs : List Bool} (h : Came 1 boVals BoWf w a n c zs) : Bools w a n zs := by
  obtain ⟨h1, _, _, _, _, h6⟩ := h
  refine ⟨h1, fun hn => ?_⟩
  obtain ⟨b, off, e, _, hc⟩ := h6 hn
  refine ⟨b, off, e, fun k hk => ?_⟩
  have := hc k (zs[k]'(by omega)) (List.getElem?_eq_getElem (by omega)) 0 (.bool (zs[k]'(by omega))) rfl
  rw [Nat.mul_one, Nat.add_zero] at this
  rw [this]
  simp [List.getD, h1, hk]
theorem Bools.below {w w' : World} {a : Option Addr} {n : Nat} {zs : List Bool} (h : Bools w a n zs) (b : Below w.heap.size w w') : Bools w' a n zs := by
  refine ⟨h.1, fun hn => ?_⟩
  obtain ⟨g, off, e, hc⟩ := h.2 hn
  exact ⟨g, off, e, fun k hk => (b.cell (lt_of_cell? (hc k hk))).trans (hc k hk)⟩
end Go.Proofs.Ytpeodmnhdabonaa
