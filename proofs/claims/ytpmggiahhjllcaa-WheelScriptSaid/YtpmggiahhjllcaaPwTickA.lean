/-
  What a tick does to places: plain facts.
-/
import Derived.Test.YtpmggiahhjllcaaPwSpread2
namespace Go.Proofs.Ytpmggiahhjllcaa
open Go.ChangeShapes Go.WideShapes Go.ChangeAt Go.RowKit
set_option linter.unusedVariables false
theorem dig0 (n : Nat) : dig n 0 = n % 64 := rfl
theorem dig1 (n : Nat) : dig n 1 = n / 64 % 64 := rfl
theorem dig2 (n : Nat) : dig n 2 = n / 4096 % 64 := by rw [dig_eq]
theorem dig3 (n : Nat) : dig n 3 = n / 262144 % 64 := by rw [dig_eq]
/-- The ring, by quotients. -/
theorem ring_cases {n d : Nat} (hn : n < 16777216) (hd : d < 16777216) (h : n ≠ d) :
    (ring n d = 3 ∧ n / 262144 ≠ d / 262144 ∧ slot n d = d / 262144 % 64) ∨ (ring n d = 2 ∧ n / 262144 = d / 262144 ∧ n / 4096 ≠ d / 4096 ∧ slot n d = d / 4096 % 64) ∨
    (ring n d = 1 ∧ n / 4096 = d / 4096 ∧ n / 64 ≠ d / 64 ∧ slot n d = d / 64 % 64) ∨ (ring n d = 0 ∧ n / 64 = d / 64 ∧ slot n d = d % 64) := by
  by_cases h3 : dig n 3 = dig d 3
  · by_cases h2 : dig n 2 = dig d 2
    · by_cases h1 : dig n 1 = dig d 1
      · have hr : ring n d = 0 := by unfold ring; rw [if_neg (by simpa using h3), if_neg (by simpa using h2), if_neg (by simpa using h1)]
        refine .inr (.inr (.inr ⟨hr, ?_, by unfold slot; rw [hr, dig0]⟩))
        rw [dig3, dig3] at h3; rw [dig2, dig2] at h2; rw [dig1, dig1] at h1; omega
      · have hr : ring n d = 1 := by unfold ring; rw [if_neg (by simpa using h3), if_neg (by simpa using h2), if_pos h1]
        refine .inr (.inr (.inl ⟨hr, ?_, ?_, by unfold slot; rw [hr, dig1]⟩))
        · rw [dig3, dig3] at h3; rw [dig2, dig2] at h2; omega
        · rw [dig1, dig1] at h1; omega
    · have hr : ring n d = 2 := by unfold ring; rw [if_neg (by simpa using h3), if_pos h2]
      refine .inr (.inl ⟨hr, ?_, ?_, by unfold slot; rw [hr, dig2]⟩)
      · rw [dig3, dig3] at h3; omega
      · rw [dig2, dig2] at h2; omega
  · have hr : ring n d = 3 := by unfold ring; rw [if_pos h3]
    refine .inl ⟨hr, ?_, by unfold slot; rw [hr, dig3]⟩
    rw [dig3, dig3] at h3; omega
/-- A timer that stands elsewhere than in the slot that the next moment comes to stays. -/
theorem tick_stays {n d : Nat} (hn : n + 1 < 16777216) (h1 : n < d) (hd : d < 16777216) (h : pk n d ≠ pk n (n + 1)) : d ≠ n + 1 ∧ pk (n + 1) d = pk n d ∧ ring (n + 1) d = ring n d := by
  have hne : d ≠ n + 1 := fun e => h (by rw [e])
  have hs := slot_le n d
  have hs2 := slot_le n (n + 1)
  have hs3 := slot_le (n + 1) d
  refine ⟨hne, ?_⟩
  unfold pk at h ⊢
  rcases ring_cases (show n < 16777216 by omega) hd (by omega) with ⟨a1, a2, a3⟩ | ⟨a1, a2, a3, a4⟩ | ⟨a1, a2, a3, a4⟩ | ⟨a1, a2, a3⟩ <;>
  rcases ring_cases (show n < 16777216 by omega) hn (by omega) with ⟨b1, b2, b3⟩ | ⟨b1, b2, b3, b4⟩ | ⟨b1, b2, b3, b4⟩ | ⟨b1, b2, b3⟩ <;>
  rcases ring_cases hn hd (fun e => hne e.symm) with ⟨c1, c2, c3⟩ | ⟨c1, c2, c3, c4⟩ | ⟨c1, c2, c3, c4⟩ | ⟨c1, c2, c3⟩ <;>
  omega
/-- One that stands there goes off, or is moved to a lower ring. -/
theorem tick_moves {n d : Nat} (hn : n + 1 < 16777216) (h1 : n < d) (hd : d < 16777216) (h : pk n d = pk n (n + 1)) (hne : d ≠ n + 1) : ring n d = ring n (n + 1) ∧ ring (n + 1) d < ring n (n + 1) := by
  have hs := slot_le n d
  have hs2 := slot_le n (n + 1)
  have hs3 := slot_le (n + 1) d
  unfold pk at h
  rcases ring_cases (show n < 16777216 by omega) hd (by omega) with ⟨a1, a2, a3⟩ | ⟨a1, a2, a3, a4⟩ | ⟨a1, a2, a3, a4⟩ | ⟨a1, a2, a3⟩ <;>
  rcases ring_cases (show n < 16777216 by omega) hn (by omega) with ⟨b1, b2, b3⟩ | ⟨b1, b2, b3, b4⟩ | ⟨b1, b2, b3, b4⟩ | ⟨b1, b2, b3⟩ <;>
  rcases ring_cases hn hd (fun e => hne e.symm) with ⟨c1, c2, c3⟩ | ⟨c1, c2, c3, c4⟩ | ⟨c1, c2, c3, c4⟩ | ⟨c1, c2, c3⟩ <;>
  omega
end Go.Proofs.Ytpmggiahhjllcaa
