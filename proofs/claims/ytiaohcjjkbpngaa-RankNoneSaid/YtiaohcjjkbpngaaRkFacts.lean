/-
  Plain facts of ranks: less held, greater ranks, what is used.
-/
import Derived.Test.YtiaohcjjkbpngaaRkBoth
namespace Go.Proofs.Ytiaohcjjkbpngaa
open Go.ChangeShapes Go.WideShapes Go.ChangeAt Go.RowKit
set_option linter.unusedVariables false
theorem mayMu_less {ms : List Mu} {hs : List Int} {m : Int} (k : Nat) (h : mayMu ms hs m = 0) : mayMu ms (hs.take k) m = 0 := by
  unfold mayMu at *
  by_cases h1 : isMu ms.length m = false
  · rw [if_pos h1] at h; cases h
  · rw [if_neg h1] at h ⊢
    by_cases h2 : hs.any (inWay ms m) = true
    · rw [if_pos h2] at h; cases h
    · rw [if_neg]
      intro h3
      apply h2
      rw [List.any_eq_true] at h3 ⊢
      obtain ⟨y, hy, hp⟩ := h3
      exact ⟨y, List.mem_of_mem_take hy, hp⟩
/-- The sum of the limits of ranks from r on, of the first k. -/
def plainS (ms : List Mu) (r : Int) : Nat → Int
  | 0 => 0
  | k + 1 => plainS ms r k + (if r ≤ (muAt ms (k : Int)).r then (muAt ms (k : Int)).l else 0)
/-- The sum of the limits of those that are used, of the first k. -/
def usedS (ms : List Mu) (hs : List Int) : Nat → Int
  | 0 => 0
  | k + 1 => usedS ms hs k + (if (k : Int) ∈ hs then (muAt ms (k : Int)).l else 0)
theorem good_at {ms : List Mu} (h : goodMu ms = true) {k : Nat} (hk : k < ms.length) : 1 ≤ (muAt ms (k : Int)).l ∧ (muAt ms (k : Int)).l ≤ 1000 := by
  unfold goodMu at h
  simp only [Bool.and_eq_true, List.all_eq_true] at h
  have hx : ms[k]? = some ms[k] := List.getElem?_eq_getElem hk
  rw [muAt_nat hx]
  have := h.1 ms[k] (List.getElem_mem hk)
  unfold okMu at this
  rw [decide_eq_true_eq] at this
  omega
theorem good_len {ms : List Mu} (h : goodMu ms = true) : ms.length ≤ 6 := by
  unfold goodMu at h
  simp only [Bool.and_eq_true, decide_eq_true_eq] at h
  exact h.2
theorem plainS_bounds {ms : List Mu} (h : goodMu ms = true) (r : Int) : ∀ k, k ≤ ms.length → 0 ≤ plainS ms r k ∧ plainS ms r k ≤ 1000 * (k : Int) := by
  intro k
  induction k with
  | zero => intro _; simp [plainS]
  | succ k ih =>
    intro hk
    have := ih (by omega)
    have := good_at h (show k < ms.length by omega)
    show 0 ≤ plainS ms r k + _ ∧ plainS ms r k + _ ≤ _
    split <;> omega
theorem usedS_bounds {ms : List Mu} (h : goodMu ms = true) (hs : List Int) : ∀ k, k ≤ ms.length → 0 ≤ usedS ms hs k ∧ usedS ms hs k ≤ 1000 * (k : Int) := by
  intro k
  induction k with
  | zero => intro _; simp [usedS]
  | succ k ih =>
    intro hk
    have := ih (by omega)
    have := good_at h (show k < ms.length by omega)
    show 0 ≤ usedS ms hs k + _ ∧ usedS ms hs k + _ ≤ _
    split <;> omega
theorem sumMu_take {ms : List Mu} (h : goodMu ms = true) (r : Int) : ∀ k, k ≤ ms.length → (ms.take k).foldl (sumS r) 0 = plainS ms r k := by
  intro k
  induction k with
  | zero => intro _; rfl
  | succ k ih =>
    intro hk
    have hx : ms[k]? = some (ms[k]'(by omega)) := List.getElem?_eq_getElem _
    have b := plainS_bounds h r k (by omega)
    have c := good_at h (show k < ms.length by omega)
    have l6 := good_len h
    rw [List.take_succ_eq_append_getElem (by omega), List.foldl_append, ih (by omega)]
    show sumS r (plainS ms r k) _ = plainS ms r k + _
    rw [muAt_nat hx] at c ⊢
    unfold sumS
    split
    · rw [cl_in (plainS ms r k) (by omega) (by omega), cl_in (ms[k]'(by omega)).l (by omega) (by omega), cl_in _ (by omega) (by omega)]
    · omega
theorem sumMu_plain {ms : List Mu} (h : goodMu ms = true) (r : Int) : sumMu ms r = plainS ms r ms.length := by
  have := sumMu_take h r ms.length (Nat.le_refl _)
  rw [List.take_of_length_le (Nat.le_refl _)] at this
  exact this
theorem plainS_mono {ms : List Mu} (h : goodMu ms = true) {r r' : Int} (hr : r ≤ r') : ∀ k, k ≤ ms.length → plainS ms r' k ≤ plainS ms r k := by
  intro k
  induction k with
  | zero => intro _; simp [plainS]
  | succ k ih =>
    intro hk
    have := ih (by omega)
    have := good_at h (show k < ms.length by omega)
    show plainS ms r' k + _ ≤ plainS ms r k + _
    split <;> split <;> omega
theorem sumMu_mono {ms : List Mu} (h : goodMu ms = true) (r : Int) : ¬ sumMu ms r < sumMu ms (r + 1) := by
  rw [sumMu_plain h, sumMu_plain h]
  have := plainS_mono h (show r ≤ r + 1 by omega) ms.length (Nat.le_refl _)
  omega
theorem least_fold (ms : List Mu) : ∀ (us : List Int) (s : Int × Bool), (s.2 = true → (us.foldl (leastS ms) s).2 = true ∧ (us.foldl (leastS ms) s).1 ≤ s.1) ∧ (∀ u ∈ us, isMu ms.length u = true → (us.foldl (leastS ms) s).2 = true ∧ (us.foldl (leastS ms) s).1 ≤ (muAt ms u).r) := by
  intro us
  induction us with
  | nil => intro s; exact ⟨fun h => ⟨h, Int.le_refl _⟩, fun u hu => by cases hu⟩
  | cons v us ih =>
    intro s
    obtain ⟨i1, i2⟩ := ih (leastS ms s v)
    have hs : s.2 = true → (leastS ms s v).2 = true ∧ (leastS ms s v).1 ≤ s.1 := by
      intro h
      unfold leastS
      split
      · rename_i hc
        rw [h] at hc
        simp at hc
        exact ⟨rfl, by show (muAt ms v).r ≤ s.1; omega⟩
      · exact ⟨h, Int.le_refl _⟩
    have hv : isMu ms.length v = true → (leastS ms s v).2 = true ∧ (leastS ms s v).1 ≤ (muAt ms v).r := by
      intro h
      unfold leastS
      split
      · exact ⟨rfl, Int.le_refl _⟩
      · rename_i hc
        rw [h] at hc
        simp at hc
        exact ⟨hc.1, hc.2⟩
    refine ⟨fun h => ?_, fun u hu hm => ?_⟩
    · obtain ⟨h1, h2⟩ := hs h
      obtain ⟨h3, h4⟩ := i1 h1
      exact ⟨h3, Int.le_trans h4 h2⟩
    · rcases List.mem_cons.1 hu with rfl | hu
      · obtain ⟨h1, h2⟩ := hv hm
        obtain ⟨h3, h4⟩ := i1 h1
        exact ⟨h3, Int.le_trans h4 h2⟩
      · exact i2 u hu hm
theorem good_rank {ms : List Mu} (h : goodMu ms = true) {k : Nat} (hk : k < ms.length) : 1 ≤ (muAt ms (k : Int)).r ∧ (muAt ms (k : Int)).r ≤ 100 := by
  unfold goodMu at h
  simp only [Bool.and_eq_true, List.all_eq_true] at h
  have hx : ms[k]? = some ms[k] := List.getElem?_eq_getElem hk
  rw [muAt_nat hx]
  have := h.1 ms[k] (List.getElem_mem hk)
  unfold okMu at this
  rw [decide_eq_true_eq] at this
  omega
theorem least_bounds {ms : List Mu} (h : goodMu ms = true) : ∀ (us : List Int) (s : Int × Bool), 0 ≤ s.1 ∧ s.1 ≤ 100 → 0 ≤ (us.foldl (leastS ms) s).1 ∧ (us.foldl (leastS ms) s).1 ≤ 100 := by
  intro us
  induction us with
  | nil => intro s hs; exact hs
  | cons u us ih =>
    intro s hs
    refine ih _ ?_
    unfold leastS
    split
    · rename_i hc
      simp at hc
      obtain ⟨k, rfl, hk⟩ := isMu_iff.1 hc.1
      have := good_rank h hk
      show 0 ≤ (muAt ms (k : Int)).r ∧ (muAt ms (k : Int)).r ≤ 100
      omega
    · exact hs
theorem used_none {ms : List Mu} {hs : List Int} (h : (leastMu ms hs).2 = false) : ∀ k, k ≤ ms.length → usedS ms hs k = 0 := by
  intro k
  induction k with
  | zero => intro _; rfl
  | succ k ih =>
    intro hk
    show usedS ms hs k + _ = 0
    rw [ih (by omega), if_neg]
    · rfl
    · intro hm
      have := (least_fold ms hs (0, false)).2 _ hm (isMu_iff.2 ⟨k, rfl, by omega⟩)
      unfold leastMu at h
      rw [h] at this
      cases this.1
theorem used_le {ms : List Mu} {hs : List Int} (hg : goodMu ms = true) : ∀ k, k ≤ ms.length → usedS ms hs k ≤ plainS ms (leastMu ms hs).1 k := by
  intro k
  induction k with
  | zero => intro _; simp [usedS, plainS]
  | succ k ih =>
    intro hk
    have h1 := ih (by omega)
    have h2 := good_at hg (show k < ms.length by omega)
    show usedS ms hs k + _ ≤ plainS ms (leastMu ms hs).1 k + _
    by_cases hm : (k : Int) ∈ hs
    · have h3 : (leastMu ms hs).1 ≤ (muAt ms (k : Int)).r := ((least_fold ms hs (0, false)).2 _ hm (isMu_iff.2 ⟨k, rfl, by omega⟩)).2
      rw [if_pos hm, if_pos h3]
      omega
    · rw [if_neg hm]
      split <;> omega
theorem used_sum {ms : List Mu} {hs : List Int} (hg : goodMu ms = true) : usedS ms hs ms.length ≤ sumMu ms (leastMu ms hs).1 := by
  rw [sumMu_plain hg]; exact used_le hg _ (Nat.le_refl _)
theorem Ints.front {q : IntKind} {w : World} {a : Option Addr} {n : Nat} {xs : List Int} (h : Ints q w a n xs) {k : Nat} (hk : k ≤ n) : Ints q w a k (xs.take k) := by
  refine ⟨by rw [List.length_take, h.1]; omega, fun hn => ?_⟩
  obtain ⟨b, off, e, hc⟩ := h.2 (by omega)
  refine ⟨b, off, e, fun j hj => ?_⟩
  rw [hc j (by omega)]
  simp [List.getD, hj]
theorem NumsIn.front {w : World} {b : Option Addr} {p d : Nat} {hs : List Int} (h : NumsIn w b p d hs) {k : Nat} (hk : k ≤ p) : NumsIn w b k d (hs.take k) :=
  ⟨h.ints.front hk, Nat.le_trans hk h.le, h.max, h.nil, Nat.le_trans hk h.few, fun x hx => h.wf x (List.mem_of_mem_take hx)⟩
end Go.Proofs.Ytiaohcjjkbpngaa
