/-
  Plain facts of chains: they are closed; what holds along them.
-/
import Derived.Test.YteeofpjfgjhemaaGhAcyc
namespace Go.Proofs.Yteeofpjfgjhemaa
open Go.ChangeShapes Go.WideShapes Go.ChangeAt Go.RowKit
set_option linter.unusedVariables false
theorem chainF_sub (ws os : List Int) (n : Int) : ∀ (f : Nat) (l : List Int) (k : Int), ∀ x ∈ l, x ∈ chainF ws os n f l k := by
  intro f
  induction f with
  | zero => intro l k x hx; exact hx
  | succ f ih =>
    intro l k x hx
    show x ∈ (if k < 0 ∨ k ∈ l then l else chainF ws os n f (l ++ [k]) (onG ws os n k))
    split
    · exact hx
    · exact ih _ _ x (List.mem_append.mpr (.inl hx))
theorem chainF_closed (ws os : List Int) (n : Nat) : ∀ (f : Nat) (l : List Int) (k : Int), l.Nodup → (∀ x ∈ l, 0 ≤ x ∧ x < (n : Int)) → l.length + f = n + 1 → (0 ≤ k → k < (n : Int)) →
    (∀ x ∈ l, 0 ≤ onG ws os n x → onG ws os n x ∈ l ∨ onG ws os n x = k) → ∀ x ∈ chainF ws os n f l k, 0 ≤ onG ws os n x → onG ws os n x ∈ chainF ws os n f l k := by
  intro f
  induction f with
  | zero =>
    intro l k nd hl hf hk hc
    have := few_below n l nd hl
    omega
  | succ f ih =>
    intro l k nd hl hf hk hc x hx h0
    by_cases h : k < 0 ∨ k ∈ l
    · have e : chainF ws os n (f + 1) l k = l := by
        show (if k < 0 ∨ k ∈ l then l else _) = l
        rw [if_pos h]
      rw [e] at hx ⊢
      rcases hc x hx h0 with h1 | h1
      · exact h1
      · rcases h with h | h
        · omega
        · rw [h1]; exact h
    · have e : chainF ws os n (f + 1) l k = chainF ws os n f (l ++ [k]) (onG ws os n k) := by
        show (if k < 0 ∨ k ∈ l then l else _) = _
        rw [if_neg h]
      rw [e] at hx ⊢
      have hk0 : 0 ≤ k := by omega
      refine ih (l ++ [k]) (onG ws os n k) ?_ ?_ ?_ (fun h => onG_lt h) ?_ x hx h0
      · rw [List.nodup_append]
        exact ⟨nd, by simp, fun a ha b hb e2 => by rw [List.mem_singleton] at hb; exact h (.inr (by rw [← hb, ← e2]; exact ha))⟩
      · intro y hy
        rcases List.mem_append.mp hy with hy | hy
        · exact hl y hy
        · rw [List.mem_singleton] at hy; rw [hy]; exact ⟨hk0, hk hk0⟩
      · simp; omega
      · intro y hy hy0
        rcases List.mem_append.mp hy with hy | hy
        · rcases hc y hy hy0 with h1 | h1
          · exact .inl (List.mem_append.mpr (.inl h1))
          · exact .inl (List.mem_append.mpr (.inr (by rw [h1]; simp)))
        · rw [List.mem_singleton] at hy; rw [hy]; exact .inr rfl
theorem chainG_closed {ws os : List Int} {n : Nat} {j x : Int} (hx : x ∈ chainG ws os n j) (h0 : 0 ≤ onG ws os n x) : onG ws os n x ∈ chainG ws os n j := by
  have e : ((n : Int)).toNat + 1 = n + 1 := by omega
  unfold chainG at *
  rw [e] at *
  exact chainF_closed ws os n (n + 1) [] (onG ws os n j) List.nodup_nil (fun x hx => by cases hx) (by simp) (fun h => onG_lt h) (fun x hx => by cases hx) x hx h0
theorem chainG_first {ws os : List Int} {n : Int} {j : Int} (h0 : 0 ≤ onG ws os n j) : onG ws os n j ∈ chainG ws os n j := by
  unfold chainG
  show onG ws os n j ∈ (if onG ws os n j < 0 ∨ onG ws os n j ∈ ([] : List Int) then [] else chainF ws os n n.toNat ([] ++ [onG ws os n j]) (onG ws os n (onG ws os n j)))
  rw [if_neg (by rintro (h | h); omega; cases h)]
  exact chainF_sub _ _ _ _ _ _ _ (by simp)
/-- Whatever holds along: a set that holds the first and is closed holds the chain. -/
theorem chainG_in {ws os : List Int} {n : Int} {j : Int} {P : Int → Prop} (h1 : 0 ≤ onG ws os n j → P (onG ws os n j)) (h2 : ∀ x, P x → 0 ≤ onG ws os n x → P (onG ws os n x)) : ∀ x ∈ chainG ws os n j, P x := by
  have key : ∀ (f : Nat) (l : List Int) (k : Int), (∀ x ∈ l, P x) → (0 ≤ k → P k) → ∀ x ∈ chainF ws os n f l k, P x := by
    intro f
    induction f with
    | zero => intro l k hl hk x hx; exact hl x hx
    | succ f ih =>
      intro l k hl hk x hx
      by_cases h : k < 0 ∨ k ∈ l
      · have e : chainF ws os n (f + 1) l k = l := by
          show (if k < 0 ∨ k ∈ l then l else _) = l
          rw [if_pos h]
        rw [e] at hx
        exact hl x hx
      · have e : chainF ws os n (f + 1) l k = chainF ws os n f (l ++ [k]) (onG ws os n k) := by
          show (if k < 0 ∨ k ∈ l then l else _) = _
          rw [if_neg h]
        rw [e] at hx
        refine ih (l ++ [k]) (onG ws os n k) ?_ (h2 k (hk (by omega))) x hx
        intro y hy
        rcases List.mem_append.mp hy with hy | hy
        · exact hl y hy
        · rw [List.mem_singleton] at hy; rw [hy]; exact hk (by omega)
  exact key _ _ _ (fun x hx => by cases hx) h1
end Go.Proofs.Yteeofpjfgjhemaa
