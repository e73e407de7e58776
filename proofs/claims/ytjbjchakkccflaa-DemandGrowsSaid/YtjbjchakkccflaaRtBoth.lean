/-
  Contracts of the program's response times (PRta); awake of stage 16.
-/
import Derived.Test.YtjbjchakkccflaaRtRef
namespace Go.Proofs.Ytjbjchakkccflaa
open Go.ChangeShapes Go.WideShapes Go.ChangeAt Go.RowKit
set_option linter.unusedVariables false
/-- The program's rta. -/
structure PRta : Prop where
  work : ∀ (w : World) (span : Int) (a : Option Addr) (n c : Nat) (ps : List Pt), Reads 2 ptVals w a n ps → (∀ x ∈ ps, PtFit w x) → n ≤ 100 → (Lit.int .i64 span).wf = true →
    Calls Try.prog 24 #[.int .i64 span, .slice a n c] w fun e w' => e = .returned (.int .i64 (workP span ps)) ∧ Below w.heap.size w w'
  resp : ∀ (w : World) (own block : Int) (a : Option Addr) (n c : Nat) (ps : List Pt) (most : Int), Reads 2 ptVals w a n ps → (∀ x ∈ ps, PtFit w x) → n ≤ 100 → (Lit.int .i64 own).wf = true → (Lit.int .i64 block).wf = true → (Lit.int .i64 most).wf = true →
    Calls Try.prog 19 #[.int .i64 own, .int .i64 block, .slice a n c, .int .i64 most] w fun e w' => ∃ v, e = .returned v ∧ RespIs own block ps most v ∧ Below w.heap.size w w'
theorem reads_block {α : Type} {z : Nat} {vals : α → List Value} (hv : ∀ x, (vals x).length = z) {w : World} {B : Nat} {xs : List α} {t : TypeId} {fr : Nat × Nat} (h : w.heap[B]? = some (.cells (xs.flatMap vals).toArray t fr)) : Reads z vals w (some ⟨B, 0, none⟩) xs.length xs := by
  refine ⟨rfl, fun _ => ⟨B, 0, rfl, fun i x hx j u hu => ?_⟩⟩
  have hj : j < z := by rw [← hv x]; exact (List.getElem?_eq_some_iff.1 hu).1
  rw [cell_of_row _ _ _ _ _ _ h, List.getElem?_toArray, Nat.zero_add, flat_at hv hx hj]
  exact hu
def awA : List Pt := [⟨10, 2⟩, ⟨15, 4⟩]
theorem aw13 : IsResp 3 2 awA 100 13 true := by
  refine .inl ⟨rfl, by omega, by decide, by omega, by decide, fun s h1 h2 => ?_⟩
  have h : s = 1 ∨ s = 2 ∨ s = 3 ∨ s = 4 ∨ s = 5 ∨ s = 6 ∨ s = 7 ∨ s = 8 ∨ s = 9 ∨ s = 10 ∨ s = 11 ∨ s = 12 := by omega
  rcases h with rfl | rfl | rfl | rfl | rfl | rfl | rfl | rfl | rfl | rfl | rfl | rfl <;> decide
theorem RespIs.get {own block : Int} {ps : List Pt} {most : Int} {v : Value} (h : RespIs own block ps most v) {r : Int} {ok : Bool} (h' : IsResp own block ps most r ok) : v = .tuple #[.int .i64 r, .bool ok] := by
  obtain ⟨r', ok', rfl, hr⟩ := h
  obtain ⟨e1, e2⟩ := hr.same h'
  rw [e1, e2]
end Go.Proofs.Ytjbjchakkccflaa
