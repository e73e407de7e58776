/-
  Plain facts of graphs: chains are closed, what counts is the greatest, more edges make no less.
-/
import Derived.Test.YthbhbanhgmaopaaGhAlone
import Derived.Test.YthbhbanhgmaopaaGhClosed
namespace Go.Proofs.Ythbhbanhgmaopaa
open Go.ChangeShapes Go.WideShapes Go.ChangeAt Go.RowKit
set_option linter.unusedVariables false
/-- Is a at least b? -/
def geP (a b : Pr) : Prop := 0 ≤ cmpP a b
theorem geP_refl (a : Pr) : geP a a := by unfold geP; rw [cmpP_self]; exact Int.le_refl _
theorem geP_trans {a b c : Pr} (h1 : geP a b) (h2 : geP b c) : geP a c := (cmpP_trans (a := a) (b := b) (c := c) h1 h2).1
theorem best_ge (ws os : List Int) (ps : List Pr) (i : Nat) : ∀ k, geP (bestG ws os ps i k) (ps.getD i prD) ∧ (∀ j, j < k → (i : Int) ∈ chainG ws os ps.length j → geP (bestG ws os ps i k) (ps.getD j prD)) ∧
    (bestG ws os ps i k = ps.getD i prD ∨ ∃ j, j < k ∧ (i : Int) ∈ chainG ws os ps.length j ∧ bestG ws os ps i k = ps.getD j prD) := by
  intro k
  induction k with
  | zero => exact ⟨geP_refl _, fun j hj => absurd hj (by omega), .inl rfl⟩
  | succ k ih =>
    obtain ⟨h1, h2, h3⟩ := ih
    by_cases hc : (i : Int) ∈ chainG ws os ps.length k ∧ 0 < cmpP (ps.getD k prD) (bestG ws os ps i k)
    · have e : bestG ws os ps i (k + 1) = ps.getD k prD := by
        show (if (i : Int) ∈ chainG ws os ps.length k ∧ 0 < cmpP (ps.getD k prD) (bestG ws os ps i k) then _ else _) = _
        rw [if_pos hc]
      rw [e]
      have hg : geP (ps.getD k prD) (bestG ws os ps i k) := by unfold geP; omega
      refine ⟨geP_trans hg h1, fun j hj hm => ?_, .inr ⟨k, by omega, hc.1, rfl⟩⟩
      by_cases ej : j = k
      · rw [ej]; exact geP_refl _
      · exact geP_trans hg (h2 j (by omega) hm)
    · have e : bestG ws os ps i (k + 1) = bestG ws os ps i k := by
        show (if (i : Int) ∈ chainG ws os ps.length k ∧ 0 < cmpP (ps.getD k prD) (bestG ws os ps i k) then _ else _) = _
        rw [if_neg hc]
      rw [e]
      refine ⟨h1, fun j hj hm => ?_, h3.imp id (fun ⟨j, a, b, c⟩ => ⟨j, by omega, b, c⟩)⟩
      by_cases ej : j = k
      · subst ej
        have : ¬ 0 < cmpP (ps.getD j prD) (bestG ws os ps i j) := fun h => hc ⟨hm, h⟩
        unfold geP
        rw [cmpP_swap (ps.getD j prD) (bestG ws os ps i j)]
        omega
      · exact h2 j (by omega) hm
/-- Whom i waits for counts no less. -/
theorem best_next {ws os : List Int} {ps : List Pr} {i k : Nat} (hi : i < ps.length) (hk : onG ws os ps.length i = (k : Int)) : geP (bestG ws os ps k ps.length) (bestG ws os ps i ps.length) := by
  have h0 : 0 ≤ onG ws os ps.length (i : Int) := by omega
  obtain ⟨_, _, h3⟩ := best_ge ws os ps i ps.length
  obtain ⟨_, g2, _⟩ := best_ge ws os ps k ps.length
  rcases h3 with e | ⟨j, hj, hm, e⟩
  · rw [e]
    refine g2 i hi ?_
    rw [← hk]
    exact chainG_first h0
  · rw [e]
    refine g2 j hj ?_
    rw [← hk]
    exact chainG_closed hm h0
theorem onG_set {ws os : List Int} {n : Int} {who : Nat} {m x : Int} (hx : x ≠ (who : Int)) : onG (ws.set who m) os n x = onG ws os n x := by
  have e : x < 0 ∨ (ws.set who m).getD x.toNat 0 = ws.getD x.toNat 0 := by
    by_cases h : x < 0
    · exact .inl h
    · refine .inr ?_
      rw [List.getD_eq_getElem?_getD, List.getD_eq_getElem?_getD, List.getElem?_set_ne (by omega)]
  unfold onG
  rw [List.length_set]
  rcases e with e | e
  · rw [if_pos (.inl e), if_pos (.inl e)]
  · rw [e]
theorem chain_more {ws os : List Int} {n who : Nat} {m : Int} (hw : onG ws os n (who : Int) < 0) {j : Int} : ∀ x ∈ chainG ws os n j, x ∈ chainG (ws.set who m) os n j := by
  refine chainG_in (P := fun x => x ∈ chainG (ws.set who m) os n j) ?_ ?_
  · intro h
    have hj : j ≠ (who : Int) := fun e => by rw [e] at h; omega
    rw [← onG_set (m := m) hj] at h ⊢
    exact chainG_first h
  · intro x hx h
    have hj : x ≠ (who : Int) := fun e => by rw [e] at h; omega
    rw [← onG_set (m := m) hj] at h ⊢
    exact chainG_closed hx h
theorem best_more {ws os : List Int} {ps : List Pr} {who : Nat} {m : Int} (hw : onG ws os ps.length (who : Int) < 0) (i : Nat) : geP (bestG (ws.set who m) os ps i ps.length) (bestG ws os ps i ps.length) := by
  obtain ⟨_, _, h3⟩ := best_ge ws os ps i ps.length
  obtain ⟨g1, g2, _⟩ := best_ge (ws.set who m) os ps i ps.length
  rcases h3 with e | ⟨j, hj, hm, e⟩
  · rw [e]; exact g1
  · rw [e]; exact g2 j hj (chain_more hw _ hm)
theorem best_fit {ws os : List Int} {ps : List Pr} {P : Pr → Prop} (h : ∀ x ∈ ps, P x) {i : Nat} (hi : i < ps.length) : P (bestG ws os ps i ps.length) := by
  have hm : ∀ j, j < ps.length → P (ps.getD j prD) := fun j hj => by
    rw [List.getD_eq_getElem?_getD, List.getElem?_eq_getElem hj]
    exact h _ (List.getElem_mem hj)
  obtain ⟨_, _, h3⟩ := best_ge ws os ps i ps.length
  rcases h3 with e | ⟨j, hj, _, e⟩
  · rw [e]; exact hm i hi
  · rw [e]; exact hm j hj
end Go.Proofs.Ythbhbanhgmaopaa
