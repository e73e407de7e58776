/-
  Parts: slices of them that come in; the document's own, turned; what it answers of them (coxswainref16).
-/
import Derived.Test.YtjbjchakkccflaaRtPlain
import Derived.Test.YtjbjchakkccflaaNumRefs
import Derived.Test.YtjbjchakkccflaaGRow
import Derived.Test.YtjbjchakkccflaaLow
import Derived.Test.YtjbjchakkccflaaTouch
import Derived.Deep.RegionHeld3
import Derived.Deep.QuietTactic
import Derived.BigQuiet
import Derived.Deep.DeepCutAuto
import Derived.Deep.CutBlock
import Derived.Deep.RegionLaw
namespace Go.Proofs.Ytjbjchakkccflaa
open Go.ChangeShapes Go.WideShapes Go.ChangeAt Go.RowKit
set_option linter.unusedVariables false
def ptVals (p : Pt) : List Value := [.int .i64 p.per, .int .i64 p.cost]
def PtFit (_ : World) (p : Pt) : Prop := (Lit.int .i64 p.per).wf = true ∧ (Lit.int .i64 p.cost).wf = true
theorem ptVals_len (p : Pt) : (ptVals p).length = 2 := rfl
theorem ptVals_cell (p : Pt) : ∀ v ∈ ptVals p, v.oneCell' = true := by
  intro v hv
  simp [ptVals] at hv
  rcases hv with rfl | rfl <;> rfl
section
variable {H : Type} {enc : TypeId × Value → H} {w : World} {base : Nat} {spare : Nat → Bool} {held : Bool}
theorem pt_open (m : Nat) (cs : List Value) (x : DataW H × List MemPlace) (hl : cs.length = 2) (h : DataW.trod enc Try.prog w base spare held m 35 cs = some x) : ∃ o, cs = ptVals o ∧ PtFit w o := by
  obtain ⟨c, e0, w0⟩ := field_int Try.underlying35 h 0 0 3 rfl Try.underlying3 (by kernel_rfl)
  obtain ⟨l, e1, w1⟩ := field_int Try.underlying35 h 1 1 3 rfl Try.underlying3 (by kernel_rfl)
  refine ⟨⟨c, l⟩, ?_, w0, w1⟩
  match cs, hl with
  | [v0, v1], _ =>
    simp at e0 e1
    simp [ptVals, e0, e1]
end
def ptD : Pt := ⟨0, 0⟩
theorem reads_pt {w : World} {a : Option Addr} {n : Nat} {xs : List Pt} (h : Reads 2 ptVals w a n xs) {i : Nat} (hi : i < n) : ∃ b off, a = some ⟨b, off, none⟩ ∧ w.cell? ⟨b, off + i * 2, none⟩ = some (.int .i64 (xs.getD i ptD).per) ∧ w.cell? ⟨b, off + i * 2 + 1, none⟩ = some (.int .i64 (xs.getD i ptD).cost) := by
  obtain ⟨x, b, off, hx, rfl, hc⟩ := h.at_ hi
  have e : xs.getD i ptD = x := by rw [List.getD_eq_getElem?_getD, hx]; rfl
  rw [e]
  exact ⟨b, off, rfl, hc 0 _ rfl, hc 1 _ rfl⟩
theorem take_pt {xs : List Pt} {i : Nat} (h : i < xs.length) : xs.take (i + 1) = xs.take i ++ [xs.getD i ptD] := by
  rw [List.take_succ_eq_append_getElem h]
  simp [List.getD, h]
end Go.Proofs.Ytjbjchakkccflaa
