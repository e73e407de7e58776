/-
  Plain facts for WheelMoves: rings fall along the way; what is moved is counted.
-/
import Derived.Test.YtpmggiahhjllcaaWhOnce
namespace Go.Proofs.Ytpmggiahhjllcaa
open Go.ChangeShapes Go.WideShapes Go.ChangeAt Go.RowKit
set_option linter.unusedVariables false
theorem dig1 (n : Nat) : dig n 1 = n / 64 % 64 := rfl
theorem dig2 (n : Nat) : dig n 2 = n / 4096 % 64 := by show n / 64 / 64 % 64 = _; omega
theorem dig3 (n : Nat) : dig n 3 = n / 262144 % 64 := by show n / 64 / 64 / 64 % 64 = _; omega
theorem ring_le2 {m a : Nat} (h : dig m 3 = dig a 3) : ring m a ≤ 2 := by
  unfold ring
  rw [if_neg (by simpa using h)]
  split
  · omega
  · split <;> omega
theorem ring_le1 {m a : Nat} (h : dig m 3 = dig a 3) (h2 : dig m 2 = dig a 2) : ring m a ≤ 1 := by
  unfold ring
  rw [if_neg (by simpa using h), if_neg (by simpa using h2)]
  split <;> omega
theorem ring_le0 {m a : Nat} (h : dig m 3 = dig a 3) (h2 : dig m 2 = dig a 2) (h1 : dig m 1 = dig a 1) : ring m a ≤ 0 := by
  unfold ring
  rw [if_neg (by simpa using h), if_neg (by simpa using h2), if_neg (by simpa using h1)]
  exact Nat.le_refl _
theorem ring_3 {n a : Nat} (h : dig n 3 ≠ dig a 3) : ring n a = 3 := by unfold ring; rw [if_pos h]
theorem ring_2 {n a : Nat} (h3 : dig n 3 = dig a 3) (h : dig n 2 ≠ dig a 2) : ring n a = 2 := by unfold ring; rw [if_neg (by simpa using h3), if_pos h]
theorem ring_1 {n a : Nat} (h3 : dig n 3 = dig a 3) (h2 : dig n 2 = dig a 2) (h : dig n 1 ≠ dig a 1) : ring n a = 1 := by unfold ring; rw [if_neg (by simpa using h3), if_neg (by simpa using h2), if_pos h]
/-- Nearer to its moment a timer stands in no higher ring. -/
theorem ring_falls {n m a : Nat} (h1 : n ≤ m) (h2 : m ≤ a) (h3 : a < 16777216) : ring m a ≤ ring n a := by
  by_cases c3 : dig n 3 = dig a 3
  · have d3 : dig m 3 = dig a 3 := by rw [dig3, dig3] at *; omega
    by_cases c2 : dig n 2 = dig a 2
    · have d2 : dig m 2 = dig a 2 := by rw [dig3, dig3] at c3; rw [dig2, dig2] at *; omega
      by_cases c1 : dig n 1 = dig a 1
      · have d1 : dig m 1 = dig a 1 := by rw [dig3, dig3] at c3; rw [dig2, dig2] at c2; rw [dig1, dig1] at *; omega
        exact Nat.le_trans (ring_le0 d3 d2 d1) (Nat.zero_le _)
      · rw [ring_1 c3 c2 c1]; exact ring_le1 d3 d2
    · rw [ring_2 c3 c2]; exact ring_le2 d3
  · rw [ring_3 c3]; exact ring_le m a
/-- All rings together. -/
def sumR (n : Nat) (l : List Tm) : Nat := (l.map fun x => ring n x.due).sum
theorem sumR_cons (n : Nat) (x : Tm) (l : List Tm) : sumR n (x :: l) = ring n x.due + sumR n l := by unfold sumR; simp
theorem sumR_append (n : Nat) (l r : List Tm) : sumR n (l ++ r) = sumR n l + sumR n r := by unfold sumR; simp
theorem sumR_le (n : Nat) (l : List Tm) : sumR n l ≤ 3 * l.length := by
  induction l with
  | nil => exact Nat.le_refl 0
  | cons x l ih => rw [sumR_cons, List.length_cons]; have := ring_le n x.due; omega
/-- What a tick moves it takes off the sum. -/
theorem sumR_tick {n : Nat} {l : List Tm} (h : ∀ x ∈ l, n < x.due ∧ x.due < 16777216) :
    sumR (n + 1) (l.filter (fun x => !(x.due == n + 1))) + (l.filter (fun x => !(x.due == n + 1))).countP (fun x => ring n x.due != ring (n + 1) x.due) ≤ sumR n l := by
  induction l with
  | nil => exact Nat.le_refl 0
  | cons x l ih =>
    have ih := ih (fun y hy => h y (List.mem_cons_of_mem _ hy))
    obtain ⟨h1, h2⟩ := h x List.mem_cons_self
    rw [sumR_cons]
    by_cases e : x.due = n + 1
    · rw [List.filter_cons_of_neg (by simp [e])]
      omega
    · have hf := ring_falls (n := n) (m := n + 1) (a := x.due) (by omega) (by omega) h2
      rw [List.filter_cons_of_pos (by simpa using e), sumR_cons]
      by_cases e2 : ring n x.due = ring (n + 1) x.due
      · rw [List.countP_cons_of_neg (by simp [e2])]
        omega
      · rw [List.countP_cons_of_pos (by simp [e2])]
        omega
/-- Those with a number below i of which the ring has turned. -/
def turned (n : Nat) (l : List Tm) (i : Nat) : Nat := l.countP (fun x => decide (x.id < i) && (ring n x.due != ring (n + 1) x.due))
theorem turned_zero (n : Nat) (l : List Tm) : turned n l 0 = 0 := by
  unfold turned
  rw [List.countP_eq_zero]
  intro x hx
  simp
theorem turned_all {n : Nat} {l : List Tm} {i : Nat} (h : ∀ x ∈ l, x.id < i) : turned n l i = l.countP (fun x => ring n x.due != ring (n + 1) x.due) := by
  unfold turned
  refine List.countP_congr fun x hx => ?_
  have := h x hx
  simp [this]
theorem turned_miss {n : Nat} {l : List Tm} {i : Nat} (h : ∀ x ∈ l, x.id ≠ i) : turned n l (i + 1) = turned n l i := by
  unfold turned
  refine List.countP_congr fun x hx => ?_
  have h1 := h x hx
  have : (x.id < i + 1) ↔ (x.id < i) := by omega
  simp [this]
theorem turned_hit {n : Nat} {l : List Tm} {x : Tm} (hu : l.Pairwise (fun a b => a.id < b.id)) (hx : x ∈ l) : turned n l (x.id + 1) = turned n l x.id + if ring n x.due = ring (n + 1) x.due then 0 else 1 := by
  induction l with
  | nil => cases hx
  | cons y l ih =>
    obtain ⟨h1, h2⟩ := List.pairwise_cons.mp hu
    have hc : ∀ i, turned n (y :: l) i = turned n l i + if (decide (y.id < i) && (ring n y.due != ring (n + 1) y.due)) = true then 1 else 0 := fun i => by
      unfold turned
      rw [List.countP_cons]
    rw [hc, hc]
    rcases List.mem_cons.mp hx with rfl | hm
    · rw [turned_miss (l := l) (i := x.id) (fun z hz => by have := h1 z hz; omega)]
      by_cases e : ring n x.due = ring (n + 1) x.due
      · simp [e]
      · simp [e]
    · have hy := h1 x hm
      rw [ih h2 hm]
      have a1 : y.id < x.id + 1 := by omega
      simp only [a1, hy, decide_true]
      omega
end Go.Proofs.Ytpmggiahhjllcaa
