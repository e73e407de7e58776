/-
  The program's wheel's spread.
-/
import Derived.Test.YtpmggiahhjllcaaPwFire
import Derived.Deep.QuietTactic
import Derived.BigQuiet
namespace Go.Proofs.Ytpmggiahhjllcaa
open Go.ChangeShapes Go.WideShapes Go.ChangeAt Go.RowKit
set_option linter.unusedVariables false
/-- Those that are due, of a row. -/
def dueL (n : Nat) (K : List Tm) : List Tm := K.filter (fun x => x.due == n)
/-- Those that go to place j. -/
def toL (n j : Nat) (K : List Tm) : List Tm := K.filter (fun x => !(x.due == n) && (pk n x.due == j))
theorem dueL_hit {n : Nat} {K : List Tm} {x : Tm} (h : x.due = n) : dueL n (K ++ [x]) = dueL n K ++ [x] := by unfold dueL; rw [List.filter_append]; simp [h]
theorem dueL_miss {n : Nat} {K : List Tm} {x : Tm} (h : x.due ≠ n) : dueL n (K ++ [x]) = dueL n K := by unfold dueL; rw [List.filter_append]; simp [h]
theorem toL_hit {n j : Nat} {K : List Tm} {x : Tm} (h : x.due = n) : toL n j (K ++ [x]) = toL n j K := by unfold toL; rw [List.filter_append]; simp [h]
theorem toL_miss {n j : Nat} {K : List Tm} {x : Tm} (h : x.due ≠ n) : toL n j (K ++ [x]) = if j = pk n x.due then toL n j K ++ [x] else toL n j K := by
  unfold toL; rw [List.filter_append]
  by_cases e : j = pk n x.due
  · rw [if_pos e]; simp [h, e]
  · rw [if_neg e, List.filter_cons_of_neg (by simp; intro _ e2; exact e e2.symm)]; simp
/-- The wheel, part of a row spread. -/
structure Spread (w wr : World) (U : Nat → Prop) (S n m : Nat) (f : Int → Option Nat) (L : Nat → List Tm) (mv : Value) (K : List Tm) (dv : Value) (Uk : Nat → Prop) (Tk : Nat → Value) : Prop where
  rw_ : Rw wr Uk S n m f (fun j => L j ++ toL n j K) mv Tk
  own : wr.ownsRow w.heap.size 3 1 dv (dueL n K).length (idsV (dueL n K))
  dis : ∀ g, dv.ownBlock = some g → ¬ Uk g
  tch : Touch U w wr
  grow : ∀ i, Uk i → U i ∨ w.heap.size ≤ i
theorem Spread.below {w wr w' : World} {U : Nat → Prop} {S n m : Nat} {f : Int → Option Nat} {L : Nat → List Tm} {mv : Value} {K : List Tm} {dv : Value} {Uk : Nat → Prop} {Tk : Nat → Value} (h : Spread w wr U S n m f L mv K dv Uk Tk) (b : Below wr.heap.size wr w') : Spread w w' U S n m f L mv K dv Uk Tk :=
  ⟨h.rw_.below b, (Touch.of_below (S := fun _ => False) b).own h.own (fun _ _ e => e), h.dis, h.tch.trans (Touch.of_below (S := fun _ => False) b) (fun _ e => e.elim), h.grow⟩
theorem Spread.hit {w wr w' : World} {U : Nat → Prop} {S n m : Nat} {f : Int → Option Nat} {L : Nat → List Tm} {mv : Value} {K : List Tm} {dv : Value} {Uk : Nat → Prop} {Tk : Nat → Value} (h : Spread w wr U S n m f L mv K dv Uk Tk) {x : Tm} (hd : x.due = n) {v' : Value} (o : Obj)
    (ho : w'.ownsRow w.heap.size 3 1 v' ((dueL n K).length + 1) (idsV (dueL n K) ++ [.int .i64 (x.id : Int)])) (hg : (wr.alloc o).grownBy w' dv.ownBlock) (ht : v'.ownBlock = dv.ownBlock ∨ v'.ownBlock = some (wr.alloc o).heap.size) :
    Spread w w' U S n m f L mv (K ++ [x]) v' Uk Tk := by
  have t : Touch (fun i => dv.ownBlock = some i) wr w' := ((Touch.refl _ wr).alloc o).trans (Touch.of_grown (S := fun i => dv.ownBlock = some i) hg (fun g e => e)) (fun i e => .inl e)
  have hs : (wr.alloc o).heap.size = wr.heap.size + 1 := by simp
  refine ⟨?_, ?_, fun g hg2 => ?_, h.tch.trans t (fun i e => .inr (h.own.lt i e).1), h.grow⟩
  · have : (fun j => L j ++ toL n j (K ++ [x])) = fun j => L j ++ toL n j K := by funext j; rw [toL_hit hd]
    rw [this]
    exact h.rw_.keep t (fun i hi e => h.dis i e hi)
  · rw [dueL_hit hd, List.length_append]
    have : idsV (dueL n K ++ [x]) = idsV (dueL n K) ++ [.int .i64 (x.id : Int)] := by simp [idsV]
    rw [this]; exact ho
  · rcases ht with e | e
    · rw [e] at hg2; exact h.dis g hg2
    · rw [e] at hg2
      have : (wr.alloc o).heap.size = g := Option.some.inj hg2
      intro hu
      have := h.rw_.lt g hu
      omega
theorem Spread.miss {w wr w' : World} {U : Nat → Prop} {S n m : Nat} {f : Int → Option Nat} {L : Nat → List Tm} {mv : Value} {K : List Tm} {dv : Value} {Uk : Nat → Prop} {Tk : Nat → Value} (h : Spread w wr U S n m f L mv K dv Uk Tk) {x : Tm} (hd : x.due ≠ n) {U' : Nat → Prop} {T' : Nat → Value}
    (hr : Rw w' U' S n m f (updV (fun j => L j ++ toL n j K) (pk n x.due) ((L (pk n x.due) ++ toL n (pk n x.due) K) ++ [x])) mv T') (ht : Touch Uk wr w') (hu : ∀ i, U' i → Uk i ∨ wr.heap.size ≤ i) : Spread w w' U S n m f L mv (K ++ [x]) dv U' T' := by
  refine ⟨?_, ?_, fun g hg e => ?_, h.tch.trans ht h.grow, fun i hi => ?_⟩
  · have : (fun j => L j ++ toL n j (K ++ [x])) = updV (fun j => L j ++ toL n j K) (pk n x.due) ((L (pk n x.due) ++ toL n (pk n x.due) K) ++ [x]) := by
      funext j
      rw [toL_miss hd]
      by_cases e : j = pk n x.due
      · subst e; rw [updV_same, if_pos rfl, List.append_assoc]
      · rw [updV_other _ _ e, if_neg e]
    rw [this]; exact hr
  · rw [dueL_miss hd]
    exact ht.own h.own h.dis
  · rcases hu g e with e | e
    · exact h.dis g hg e
    · have := (h.own.lt g hg).2; omega
  · rcases hu i hi with e | e
    · exact h.grow i e
    · have := h.tch.size; exact .inr (by omega)
end Go.Proofs.Ytpmggiahhjllcaa
