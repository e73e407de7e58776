/-
  slices.Sort over a row of integers of one's own.
-/
import Derived.Test.YteeofpjfgjhemaaPkShelf
import Derived.Test.YteeofpjfgjhemaaTouch
import Derived.Lib.SliceRun
namespace Go.Proofs.Yteeofpjfgjhemaa
open Go.ChangeShapes Go.WideShapes Go.ChangeAt Go.RowKit
set_option linter.unusedVariables false
def sortI (zs : List Int) : List Int := zs.mergeSort fun x y => decide (x ≤ y)
theorem heap_putI {w : World} {g n : Nat} {os : Array Obj} {cur : Array Value} {e : TypeId} {fr : Nat × Nat} (d : Array Int) (hb : w.heap[g]? = some (.cells cur e fr)) :
    (Go.Sort.grow (Go.Sort.putRow (Value.int .i64) (Go.Sort.ahead w n) g 0 d) os).heap[g]? = some (.cells (Go.Sort.putCells (Value.int .i64) 0 d cur) e fr) := by
  have hg : g < w.heap.size := (Array.getElem?_eq_some_iff.1 hb).1
  rw [Go.Sort.heap_grow_old _ _ (by simpa using hg)]
  simp [Go.Sort.putRow, Go.Sort.mapBlock, Go.Sort.ahead, Array.getElem?_modify, hb, Go.Sort.onCells]
theorem touch_putI {w : World} {g n : Nat} {os : Array Obj} (d : Array Int) : Touch (fun i => i = g) w (Go.Sort.grow (Go.Sort.putRow (Value.int .i64) (Go.Sort.ahead w n) g 0 d) os) := by
  refine ⟨rfl, rfl, rfl, by simp, fun k hk hne => ?_⟩
  rw [Go.Sort.heap_grow_old _ _ (by simpa using hk)]
  have : g ≠ k := fun e => hne e.symm
  simp [Go.Sort.putRow, Go.Sort.mapBlock, Go.Sort.ahead, Array.getElem?_modify, this]
theorem take_putI (cur : Array Value) (ts : List Int) (m : Nat) (hm : m ≤ ts.length) (h : ts.length ≤ cur.size) : (Go.Sort.putCells (Value.int .i64) 0 ts.toArray cur).toList.take m = (ts.take m).map (Value.int .i64) := by
  apply List.ext_getElem?
  intro j
  by_cases hj : j < m
  · rw [List.getElem?_take_of_lt hj, Array.getElem?_toList]
    simp [Go.Sort.putCells, hj, show j < cur.size by omega, show j < ts.length by omega]
  · rw [List.getElem?_take_eq_none (by omega), List.getElem?_eq_none (by simp; omega)]
theorem holds_own {w : World} {B g c : Nat} {zs : List Int} (h : w.ownsRow B 3 1 (.slice (some ⟨g, 0, none⟩) zs.length c) zs.length (zs.map (Value.int .i64))) : Go.Sort.Holds (Value.int .i64) w g 0 zs.toArray := by
  obtain ⟨_, hh⟩ := _root_.id h
  rcases hh with ⟨hn0, _⟩ | ⟨g', cap, cur, e1, e2, e3, e4, e5, e6, e7⟩
  · cases hn0
  injection e1 with e1 _ ec
  injection e1 with e1
  injection e1 with e1
  subst e1 ec
  intro j hj
  have hj' : j < zs.length := by simpa using hj
  rw [Nat.zero_add]
  refine ⟨?_, frozen_of_row _ _ _ _ _ e3⟩
  rw [h.cellAt j (by simpa using hj'), List.getElem?_map, List.getElem?_eq_getElem hj', getElem!_pos _ j hj]; simp
theorem isort_any (w : World) (v : Value) (B : Nat) (zs : List Int) (h : w.ownsRow B 3 1 v zs.length (zs.map (Value.int .i64))) (hn : zs.length ≤ 1000000) :
    Calls Try.prog 43 #[v] w fun e w' => e = .returned (.tuple #[]) ∧ w'.ownsRow B 3 1 v zs.length ((sortI zs).map (Value.int .i64)) ∧ Touch (fun i => v.ownBlock = some i) w w' := by
  have hl : (sortI zs).length = zs.length := List.length_mergeSort _
  obtain ⟨_, hh⟩ := _root_.id h
  rcases hh with ⟨rfl, h0⟩ | ⟨g, c, cur, rfl, e2, e3, e4, e5, e6, e7⟩
  · have hz : zs = [] := List.eq_nil_of_length_eq_zero h0
    subst hz
    have hcon := Go.Proofs.Any.slices_Sort_int_none Try.sortInts none 0 w
    change Calls Try.prog 43 _ _ _ at hcon
    exact hcon.mono fun e w' ⟨he, hw⟩ => ⟨he, by rw [hw, show sortI [] = [] from by simp [sortI]]; exact World.ownsRow_nil _ _ _ _, by rw [hw]; exact Touch.refl _ _⟩
  · have hcon := Go.Proofs.Any.slices_Sort_int Try.sortInts g 0 c zs w (holds_own h) (lt_of_heap e3) (by omega)
    change Calls Try.prog 43 _ _ _ at hcon
    refine hcon.mono fun e w' ⟨he, n, os, hw⟩ => ⟨he, ?_⟩
    subst hw
    refine ⟨⟨by simpa using hl, .inr ⟨g, c, _, rfl, e2, heap_putI _ e3, e4, e5, by simp [Go.Sort.putCells, e6], ?_⟩⟩, ((touch_putI _).mono (fun i e => by rw [e]; rfl))⟩
    have := take_putI cur (sortI zs) zs.length (by omega) (by omega)
    rw [Nat.mul_one]
    rw [show (zs.mergeSort fun x y => decide (x ≤ y)) = sortI zs from rfl, this, List.take_of_length_le (by omega)]
theorem sortI_eq {zs ts : List Int} (p : zs.Perm ts) (h : ts.Pairwise (fun a b => a < b)) : sortI zs = ts := by
  have h1 := List.pairwise_mergeSort (le := fun x y : Int => decide (x ≤ y)) (fun a b c h1 h2 => by simp at *; omega) (fun a b => by simp; omega) zs
  exact List.Perm.eq_of_pairwise (le := fun a b : Int => a ≤ b) (fun a b _ _ h1 h2 => by omega) (h1.imp (fun h => by simpa using h)) (h.imp (fun h => by omega)) ((List.mergeSort_perm zs _).trans p)
end Go.Proofs.Yteeofpjfgjhemaa
