/-
  The document's own Max (coxswainref7).
-/
import Derived.Test.YthbhbanhgmaopaaPrRefsB
namespace Go.Proofs.Ythbhbanhgmaopaa
open Go.ChangeShapes Go.WideShapes Go.ChangeAt Go.RowKit
set_option linter.unusedVariables false
def prD : Pr := ⟨0, 0, 0⟩
/-- A slice of n priorities that reads as zs. -/
def PrRow (w : World) (a : Option Addr) (n : Nat) (zs : List Pr) : Prop :=
  zs.length = n ∧ (0 < n → ∃ b off, a = some ⟨b, off, none⟩ ∧ ∀ i, i < n → w.cell? ⟨b, off + i * 3, none⟩ = some (.int .i64 (zs.getD i prD).c) ∧ w.cell? ⟨b, off + i * 3 + 1, none⟩ = some (.int .i64 (zs.getD i prD).l) ∧ w.cell? ⟨b, off + i * 3 + 2, none⟩ = some (.int .i64 (zs.getD i prD).d))
theorem PrRow.below {w w' : World} {a : Option Addr} {n : Nat} {zs : List Pr} (h : PrRow w a n zs) (b : Below w.heap.size w w') : PrRow w' a n zs := by
  refine ⟨h.1, fun hn => ?_⟩
  obtain ⟨g, off, e, hc⟩ := h.2 hn
  refine ⟨g, off, e, fun i hi => ?_⟩
  obtain ⟨h0, h1, h2⟩ := hc i hi
  have hg : g < w.heap.size := lt_of_cell? h0
  exact ⟨(b.cell (p := ⟨g, _, none⟩) hg).trans h0, (b.cell (p := ⟨g, _, none⟩) hg).trans h1, (b.cell (p := ⟨g, _, none⟩) hg).trans h2⟩
theorem PrRow.of_came {w : World} {a : Option Addr} {n c : Nat} {zs : List (List Int)} (h : CameRows 3 w a n c zs) : ∃ ps, PrRow w a n ps ∧ n ≤ c ∧ c ≤ maxLen ∧ ∀ i, i < n → (Lit.int .i64 (ps.getD i prD).c).wf = true ∧ (Lit.int .i64 (ps.getD i prD).l).wf = true ∧ (Lit.int .i64 (ps.getD i prD).d).wf = true := by
  obtain ⟨h1, h2, h3, h4, h5⟩ := h
  have hget : ∀ i, i < n → (zs.map (fun z => (⟨z.getD 0 0, z.getD 1 0, z.getD 2 0⟩ : Pr))).getD i prD = ⟨(zs.getD i []).getD 0 0, (zs.getD i []).getD 1 0, (zs.getD i []).getD 2 0⟩ := fun i hi => by
    simp [List.getD, List.getElem?_map, List.getElem?_eq_getElem (show i < zs.length by omega)]
  refine ⟨zs.map (fun z => ⟨z.getD 0 0, z.getD 1 0, z.getD 2 0⟩), ⟨by simpa using h1, fun hn => ?_⟩, h2, h3, fun i hi => ?_⟩
  · obtain ⟨b, off, e, hb, hc⟩ := h5 hn
    refine ⟨b, off, e, fun i hi => ?_⟩
    rw [hget i hi]
    exact ⟨by have := hc i 0 hi (by omega); simpa using this, by have := hc i 1 hi (by omega); rw [← Nat.add_assoc] at this; exact this, by have := hc i 2 hi (by omega); rw [← Nat.add_assoc] at this; exact this⟩
  · rw [hget i hi]
    obtain ⟨_, hw⟩ := h4 i hi
    exact ⟨hw 0 (by omega), hw 1 (by omega), hw 2 (by omega)⟩
theorem PrAt.set {w : World} {X : Nat} {c l d : Int} (h : PrAt w X c l d) (x y z : Int) : PrAt (((w.setCell ⟨X, 0, none⟩ (.int .i64 x)).setCell ⟨X, 1, none⟩ (.int .i64 y)).setCell ⟨X, 2, none⟩ (.int .i64 z)) X x y z := by
  have h1 : (w.setCell ⟨X, 0, none⟩ (.int .i64 x)).heap[X]? = some (.cells #[.int .i64 x, .int .i64 l, .int .i64 d] 39 (0, 0)) := by rw [heap_setCell_same _ _ _ _ _ _ h]; rfl
  have h2 : ((w.setCell ⟨X, 0, none⟩ (.int .i64 x)).setCell ⟨X, 1, none⟩ (.int .i64 y)).heap[X]? = some (.cells #[.int .i64 x, .int .i64 y, .int .i64 d] 39 (0, 0)) := by rw [heap_setCell_same _ _ _ _ _ _ h1]; rfl
  unfold PrAt
  rw [heap_setCell_same _ _ _ _ _ _ h2]; rfl
theorem maxP_snoc (x : Pr) (ys : List Pr) (y : Pr) : maxP x (ys ++ [y]) = if gtP y (maxP x ys) = true then y else maxP x ys := by unfold maxP; rw [List.foldl_append]; rfl
end Go.Proofs.Ythbhbanhgmaopaa
