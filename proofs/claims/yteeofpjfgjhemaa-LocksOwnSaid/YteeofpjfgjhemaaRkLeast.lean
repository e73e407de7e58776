/-
  The program's Least.
-/
import Derived.Test.YteeofpjfgjhemaaRkSeq
namespace Go.Proofs.Yteeofpjfgjhemaa
open Go.ChangeShapes Go.WideShapes Go.ChangeAt Go.RowKit Go.Shelf
set_option linter.unusedVariables false
set_option linter.unusedSimpArgs false
attribute [local go_sem] Oper.semAt_some
/-- The least of ranks, 0 for none. -/
def leastG (f : Int → Int) (s u : Int) : Int := if s = 0 ∨ f u < s then f u else s
theorem leastG_fold {ms : List Mu} (h : ∀ u, isMu ms.length u = true → 1 ≤ (muAt ms u).r) (us : List Int) : ∀ s : Int, 0 ≤ s →
    us.foldl (leastS ms) (s, decide (0 < s)) = ((us.filter (isMu ms.length)).foldl (leastG fun u => (muAt ms u).r) s, decide (0 < (us.filter (isMu ms.length)).foldl (leastG fun u => (muAt ms u).r) s)) := by
  induction us with
  | nil => intro s hs; rfl
  | cons u us ih =>
    intro s hs
    rw [List.foldl_cons, List.filter_cons]
    by_cases hu : isMu ms.length u = true
    · have h1 : 1 ≤ (muAt ms u).r := h u hu
      rw [if_pos hu, List.foldl_cons]
      have e : leastS ms (s, decide (0 < s)) u = (leastG (fun u => (muAt ms u).r) s u, decide (0 < leastG (fun u => (muAt ms u).r) s u)) := by
        unfold leastS leastG
        by_cases c : s = 0 ∨ (muAt ms u).r < s
        · rw [if_pos (show s = 0 ∨ (fun u => (muAt ms u).r) u < s from c), if_pos (by
            simp only [hu, Bool.true_and, Bool.or_eq_true, Bool.not_eq_true', decide_eq_false_iff_not, decide_eq_true_eq]
            rcases c with c | c
            · left; omega
            · right; exact c)]
          rw [decide_eq_true (show 0 < (muAt ms u).r by omega)]
        · rw [if_neg (show ¬ (s = 0 ∨ (fun u => (muAt ms u).r) u < s) from c), if_neg (by
            simp only [hu, Bool.true_and, Bool.or_eq_true, Bool.not_eq_true', decide_eq_false_iff_not, decide_eq_true_eq]
            omega)]
      rw [e]
      exact ih _ (by unfold leastG; split <;> (try dsimp only) <;> omega)
    · rw [if_neg hu]
      have e : leastS ms (s, decide (0 < s)) u = (s, decide (0 < s)) := by
        unfold leastS
        rw [if_neg (by simp [hu])]
      rw [e]
      exact ih s hs
theorem leastMu_fold {ms : List Mu} (h : ∀ u, isMu ms.length u = true → 1 ≤ (muAt ms u).r) (us : List Int) : leastMu ms us = ((us.filter (isMu ms.length)).foldl (leastG fun u => (muAt ms u).r) 0, decide (0 < (us.filter (isMu ms.length)).foldl (leastG fun u => (muAt ms u).r) 0)) := by
  have := leastG_fold h us 0 (by omega)
  simpa [leastMu] using this
def leastF (ms : List Mu) (pre : List (Yes (isMu ms.length))) : Int := (pre.map (·.1)).foldl (leastG fun u => (muAt ms u).r) 0
theorem leastF_snoc (ms : List Mu) (pre : List (Yes (isMu ms.length))) (x : Yes (isMu ms.length)) : leastF ms (pre ++ [x]) = leastG (fun u => (muAt ms u).r) (leastF ms pre) x.1 := by simp [leastF]
theorem tab_ranks {Q : Nat → Prop} {w : World} {T : Nat} {ms : List Mu} (h : Tab w Q T ms) : ∀ u, isMu ms.length u = true → 1 ≤ (muAt ms u).r := by
  intro u hu
  obtain ⟨k, rfl, hk⟩ := isMu_iff.1 hu
  rw [muAt_nat (List.getElem?_eq_getElem hk)]
  exact (h.ok (List.getElem?_eq_getElem hk)).1
/-- A table, or none. -/
def TabQ (w : World) (Q : Nat → Prop) (t : Option Addr) (ms : List Mu) : Prop := (∃ T, t = some ⟨T, 0, none⟩ ∧ Tab w Q T ms) ∨ (t = none ∧ ms = [] ∧ ∀ i, Q i → i < w.heap.size)
theorem TabQ.keep {V Q : Nat → Prop} {w w' : World} {t : Option Addr} {ms : List Mu} (h : TabQ w Q t ms) (b : Touch V w w') (d : ∀ i, Q i → ¬ V i) : TabQ w' Q t ms := by
  rcases h with ⟨T, rfl, h⟩ | ⟨rfl, rfl, h⟩
  · exact .inl ⟨T, rfl, h.keep b d⟩
  · exact .inr ⟨rfl, rfl, fun i hi => Nat.lt_of_lt_of_le (h i hi) b.size⟩
theorem TabQ.below {Q : Nat → Prop} {w w' : World} {t : Option Addr} {ms : List Mu} (h : TabQ w Q t ms) (b : Below w.heap.size w w') : TabQ w' Q t ms := h.keep (Touch.of_below (S := fun _ => False) b) (fun _ _ e => e)
theorem TabQ.lt {Q : Nat → Prop} {w : World} {t : Option Addr} {ms : List Mu} (h : TabQ w Q t ms) : ∀ i, Q i → i < w.heap.size := by
  rcases h with ⟨T, rfl, h⟩ | ⟨rfl, rfl, h⟩
  · exact h.lt
  · exact h
theorem TabQ.len {Q : Nat → Prop} {w : World} {t : Option Addr} {ms : List Mu} (h : TabQ w Q t ms) : ms.length ≤ 6 := by
  rcases h with ⟨T, rfl, h⟩ | ⟨rfl, rfl, h⟩
  · exact h.len
  · exact Nat.zero_le _
theorem TabQ.has {Q : Nat → Prop} {w : World} {t : Option Addr} {ms : List Mu} (h : TabQ w Q t ms) (m : Int) : Calls Try.prog 33 #[.pointer t, .int .i64 m] w fun e w' => e = .returned (.bool (isMu ms.length m)) ∧ w = w' := by
  rcases h with ⟨T, rfl, h⟩ | ⟨rfl, rfl, h⟩
  · exact phas_any h m
  · exact (phas_nil w m).mono (by rintro e w' ⟨h1, h2⟩; exact ⟨by rw [h1]; exact ret_bool (by simp [isMu]), h2⟩)
theorem TabQ.ranks {Q : Nat → Prop} {w : World} {t : Option Addr} {ms : List Mu} (h : TabQ w Q t ms) : ∀ u, isMu ms.length u = true → 1 ≤ (muAt ms u).r := by
  rcases h with ⟨T, rfl, h⟩ | ⟨rfl, rfl, h⟩
  · exact tab_ranks h
  · intro u hu; simp [isMu] at hu; omega
theorem TabQ.at_ {Q : Nat → Prop} {w : World} {t : Option Addr} {ms : List Mu} (h : TabQ w Q t ms) {k : Nat} (hk : k < ms.length) : ∃ T, t = some ⟨T, 0, none⟩ ∧ Tab w Q T ms := by
  rcases h with ⟨T, rfl, h⟩ | ⟨rfl, rfl, h⟩
  · exact ⟨T, rfl, h⟩
  · exact absurd hk (Nat.not_lt_zero _)
end Go.Proofs.Yteeofpjfgjhemaa
