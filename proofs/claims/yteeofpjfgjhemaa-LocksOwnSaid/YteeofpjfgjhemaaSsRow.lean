/-
  A row of integers of one's own, read as a function of the place; two of its numbers change places (for slices.SortStableFunc).
-/
import Derived.Test.YteeofpjfgjhemaaTouch
import Derived.Deep.RegionHeld3
import Derived.Deep.QuietTactic
import Derived.BigQuiet
import Derived.BigRegion
import Derived.Deep.Cut
namespace Go.Proofs.Yteeofpjfgjhemaa
open Go.ChangeShapes Go.WideShapes Go.ChangeAt Go.RowKit
set_option linter.unusedVariables false
def rowF (n : Nat) (F : Nat → Int) : List Value := (List.range n).map fun k => Value.int .i64 (F k)
/-- The row in block g holds F's first n numbers. -/
def RowF (w : World) (g n : Nat) (F : Nat → Int) : Prop := w.heap[g]? = some (.cells (rowF n F).toArray 3 (0, 0))
def putF (F : Nat → Int) (i : Nat) (x : Int) : Nat → Int := fun k => if k = i then x else F k
def swF (F : Nat → Int) (i j : Nat) : Nat → Int := putF (putF F i (F j)) j (F i)
def swR (F : Nat → Int) (a b c : Nat) : Nat → Int := fun k => if a ≤ k ∧ k < a + c then F (k - a + b) else if b ≤ k ∧ k < b + c then F (k - b + a) else F k
theorem rowF_length (n : Nat) (F : Nat → Int) : (rowF n F).length = n := by simp [rowF]
theorem rowF_at {n k : Nat} {F : Nat → Int} (h : k < n) : (rowF n F)[k]? = some (.int .i64 (F k)) := by simp [rowF, h]
theorem rowF_put {n i : Nat} {F : Nat → Int} (x : Int) : (rowF n F).set i (.int .i64 x) = rowF n (putF F i x) := by
  apply List.ext_getElem?
  intro k
  by_cases hk : k < n
  · rw [List.getElem?_set, rowF_length]
    unfold putF
    by_cases e : i = k
    · subst e; rw [if_pos rfl, if_pos hk, rowF_at hk, if_pos rfl]
    · rw [if_neg e, rowF_at hk, rowF_at hk, if_neg (fun e' => e e'.symm)]
  · rw [List.getElem?_eq_none (by simp [rowF_length]; omega), List.getElem?_eq_none (by rw [rowF_length]; omega)]
theorem RowF.lt {w : World} {g n : Nat} {F : Nat → Int} (h : RowF w g n F) : g < w.heap.size := lt_of_heap h
theorem RowF.cell {w : World} {g n : Nat} {F : Nat → Int} (h : RowF w g n F) {k : Nat} (hk : k < n) : w.cell? ⟨g, k, none⟩ = some (.int .i64 (F k)) := by
  rw [cell_of_row _ _ _ _ _ _ h, List.getElem?_toArray, rowF_at hk]
theorem RowF.frozen {w : World} {g n : Nat} {F : Nat → Int} (h : RowF w g n F) (k : Nat) : w.frozen? ⟨g, k, none⟩ = false := frozen_of_row _ _ _ _ _ h
theorem RowF.keep {w w' : World} {g n : Nat} {F : Nat → Int} (h : RowF w g n F) (e : w'.heap[g]? = w.heap[g]?) : RowF w' g n F := by unfold RowF; rw [e]; exact h
theorem RowF.below {w w' : World} {g n : Nat} {F : Nat → Int} (h : RowF w g n F) (b : Below w.heap.size w w') : RowF w' g n F := h.keep (b.block g h.lt)
theorem RowF.drew {w : World} {g n : Nat} {F : Nat → Int} (h : RowF w g n F) : RowF w.drew g n F := h
theorem RowF.set {w : World} {g n : Nat} {F : Nat → Int} (h : RowF w g n F) (i : Nat) (x : Int) : RowF (w.setCell ⟨g, i, none⟩ (.int .i64 x)) g n (putF F i x) := by
  unfold RowF
  rw [heap_setCell_same _ _ _ _ _ _ h]
  simp [rowF_put]
theorem RowF.swap {w : World} {g n : Nat} {F : Nat → Int} (h : RowF w g n F) (i j : Nat) : RowF ((w.setCell ⟨g, i, none⟩ (.int .i64 (F j))).setCell ⟨g, j, none⟩ (.int .i64 (F i))) g n (swF F i j) := (h.set i (F j)).set j (F i)
theorem rowF_ext {n : Nat} {F G : Nat → Int} (h : ∀ k, k < n → F k = G k) : rowF n F = rowF n G := by
  unfold rowF
  apply List.map_congr_left
  intro k hk
  rw [h k (List.mem_range.1 hk)]
theorem RowF.ext {w : World} {g n : Nat} {F G : Nat → Int} (h : RowF w g n F) (e : ∀ k, k < n → F k = G k) : RowF w g n G := by unfold RowF; rw [← rowF_ext e]; exact h
theorem swF_at (F : Nat → Int) (i j k : Nat) : swF F i j k = if k = j then F i else if k = i then F j else F k := rfl
theorem swR_zero (F : Nat → Int) (a b k : Nat) : swR F a b 0 k = F k := by
  unfold swR
  rw [if_neg (by omega), if_neg (by omega)]
theorem swR_succ (F : Nat → Int) (a b c : Nat) (h : a + c < b) (k : Nat) : swF (swR F a b c) (a + c) (b + c) k = swR F a b (c + 1) k := by
  rw [swF_at]
  unfold swR
  by_cases h1 : k = b + c
  · rw [if_pos h1, if_neg (by omega), if_neg (by omega), if_neg (by omega), if_pos (by omega)]
    congr 1; omega
  · rw [if_neg h1]
    by_cases h2 : k = a + c
    · rw [if_pos h2, if_neg (by omega), if_neg (by omega), if_pos (by omega)]
      congr 1; omega
    · rw [if_neg h2]
      by_cases h3 : a ≤ k ∧ k < a + c
      · rw [if_pos h3, if_pos (by omega)]
      · rw [if_neg h3, if_neg (show ¬(a ≤ k ∧ k < a + (c + 1)) by omega)]
        by_cases h4 : b ≤ k ∧ k < b + c
        · rw [if_pos h4, if_pos (by omega)]
        · rw [if_neg h4, if_neg (by omega)]
/-- What lies in the row's block turned; new blocks. -/
theorem touch_swap {S : Nat → Prop} {w w' : World} {g : Nat} (h : Touch S w w') (hg : S g) (i j : Nat) (x y : Value) : Touch S w ((w'.setCell ⟨g, i, none⟩ x).setCell ⟨g, j, none⟩ y) := (h.setCell (p := ⟨g, i, none⟩) hg x).setCell (p := ⟨g, j, none⟩) hg y
end Go.Proofs.Yteeofpjfgjhemaa
