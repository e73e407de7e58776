/-
  Contracts of what the statements share: a slice of integers lent out with marked room behind it; whether it is as it was.
-/
import Derived.Test.YteeofpjfgjhemaaSame
import Derived.Deep.QuietTactic
import Derived.BigQuiet
namespace Go.Proofs.Yteeofpjfgjhemaa
open Go.ChangeShapes Go.WideShapes Go.ChangeAt Go.RowKit
set_option linter.unusedVariables false
/-- Block g is a row of cells: n integers, k marks, and what is left of three. -/
def Room (w : World) (g : Nat) (e : TypeId) (n k : Nat) (vs : List Value) (mark : Value) : Prop :=
  ∃ cur : Array Value, w.heap[g]? = some (.cells cur e (0, 0)) ∧ cur.size = n + 3 ∧ cur.toList.take (n + k) = vs ++ List.replicate k mark
theorem room_cell {w : World} {g : Nat} {e : TypeId} {n k : Nat} {vs : List Value} {mark : Value} (h : Room w g e n k vs mark) (hk : k < 3) :
    (∃ u, w.cell? ⟨g, n + k, none⟩ = some u) ∧ w.frozen? ⟨g, n + k, none⟩ = false := by
  obtain ⟨cur, hh, hs, ht⟩ := h
  refine ⟨⟨cur[n + k], ?_⟩, frozen_of_row w g _ cur e hh⟩
  rw [cell_of_row w g (n + k) cur e (0, 0) hh]
  exact Array.getElem?_eq_getElem (by omega)
theorem room_set {w : World} {g : Nat} {e : TypeId} {n k : Nat} {vs : List Value} {mark : Value} (h : Room w g e n k vs mark) (hl : vs.length = n) (hk : k < 3) :
    Room (w.setCell ⟨g, n + k, none⟩ mark) g e n (k + 1) vs mark := by
  obtain ⟨cur, hh, hs, ht⟩ := h
  refine ⟨cur.setIfInBounds (n + k) mark, heap_setCell_same w g (n + k) cur e mark hh, by simpa using hs, ?_⟩
  rw [Array.toList_setIfInBounds, ← Nat.add_assoc, List.take_succ_eq_append_getElem (by simp; omega), List.take_set_of_le (by omega), ht]
  simp [List.replicate_succ', List.append_assoc]
theorem room_start {w : World} {B g n m : Nat} {e : TypeId} {xs : List Int} {q : IntKind} {mark : Value} (h : w.ownsRow B e 1 (.slice (some ⟨g, 0, none⟩) (0 + n) (n + 3)) m ([] ++ xs.map (Value.int q))) (hl : xs.length = n) :
    Room w g e n 0 (xs.map (Value.int q)) mark := by
  rcases h.2 with ⟨h, _⟩ | ⟨g', cap', cur, h, _, hg, _, _, hcs, ht⟩
  · cases h
  · simp only [Value.slice.injEq, Option.some.injEq, Addr.mk.injEq, and_true] at h
    obtain ⟨rfl, h1, h2⟩ := h
    refine ⟨cur, hg, by omega, ?_⟩
    have : m = n := by have := h.1; simp at this; omega
    subst this
    simpa using ht
theorem room_mark {w : World} {g : Nat} {e : TypeId} {n k : Nat} {vs : List Value} {mark : Value} (h : Room w g e n 3 vs mark) (hl : vs.length = n) (hk : k < 3) : w.cell? ⟨g, n + k, none⟩ = some mark := by
  obtain ⟨cur, hh, hs, ht⟩ := h
  rw [cell_of_row w g (n + k) cur e (0, 0) hh]
  have h1 : cur.toList.take (n + 3) = cur.toList := List.take_of_length_le (by simp; omega)
  rw [h1] at ht
  have : cur[n + k]? = (cur.toList)[n + k]? := by simp
  rw [this, ht, List.getElem?_append_right (by omega), hl, List.getElem?_replicate]
  simp; omega
theorem room_ints {w : World} {g : Nat} {e : TypeId} {n : Nat} {xs : List Int} {q : IntKind} {mark : Value} (h : Room w g e n 3 (xs.map (Value.int q)) mark) (hl : xs.length = n) : Ints q w (some ⟨g, 0, none⟩) n xs := by
  obtain ⟨cur, hh, hs, ht⟩ := h
  refine ⟨hl, fun _ => ⟨g, 0, rfl, fun j hj => ?_⟩⟩
  rw [cell_of_row w g (0 + j) cur e (0, 0) hh]
  have h1 : cur.toList.take (n + 3) = cur.toList := List.take_of_length_le (by simp; omega)
  rw [h1] at ht
  have : cur[0 + j]? = (cur.toList)[j]? := by simp
  rw [this, ht, List.getElem?_append_left (by simpa [hl] using hj), List.getElem?_map, List.getElem?_eq_getElem (by omega)]
  simp [List.getD, hl, hj]
theorem room_keep {w w' : World} {g : Nat} {e : TypeId} {n k : Nat} {vs : List Value} {mark : Value} (h : Room w g e n k vs mark) (hw : w'.heap[g]? = w.heap[g]?) : Room w' g e n k vs mark := by
  obtain ⟨cur, hh, rest⟩ := h
  exact ⟨cur, hw.trans hh, rest⟩
theorem room_lt {w : World} {g : Nat} {e : TypeId} {n k : Nat} {vs : List Value} {mark : Value} (h : Room w g e n k vs mark) : g < w.heap.size := by
  obtain ⟨cur, hh, _⟩ := h
  exact (Array.getElem?_eq_some_iff.1 hh).1
theorem room_below {w w' : World} {g : Nat} {e : TypeId} {n k : Nat} {vs : List Value} {mark : Value} (h : Room w g e n k vs mark) (hb : Below w.heap.size w w') : Room w' g e n k vs mark :=
  room_keep h (hb.block g (room_lt h))

end Go.Proofs.Yteeofpjfgjhemaa
