/-
  Plain facts on lists of cut frames: the first free piece, the place of a new frame, how many pieces are taken.
-/
import Derived.Test.YtllapjidnngaeaaSrNew
namespace Go.Proofs.Ytllapjidnngaeaa
open Go.ChangeShapes Go.WideShapes Go.ChangeAt Go.RowKit
set_option linter.unusedVariables false
/-- The least number below n with p, or none. -/
theorem least_or (n : Nat) (p : Nat → Bool) : (∃ k, k < n ∧ p k = true ∧ ∀ j, j < k → p j = false) ∨ ∀ k, k < n → p k = false := by
  induction n with
  | zero => exact .inr fun k hk => absurd hk (by omega)
  | succ n ih =>
    rcases ih with ⟨k, h1, h2, h3⟩ | h
    · exact .inl ⟨k, by omega, h2, h3⟩
    · cases hn : p n with
      | true => exact .inl ⟨n, by omega, hn, h⟩
      | false =>
        refine .inr fun k hk => ?_
        by_cases e : k = n
        · rw [e]; exact hn
        · exact h k (by omega)
/-- The first free piece of class c, or none. -/
theorem find_free (l : List Cu) (c : Nat) : (∃ i k, ∃ (hi : i < l.length), k < 64 / c ∧ l[i].c = c ∧ l[i].tk k = false ∧ (∀ j, j < k → l[i].tk j = true) ∧ ∀ j (hj : j < i), Full (l[j]'(by omega)) c (64 / c)) ∨ ∀ j (hj : j < l.length), Full l[j] c (64 / c) := by
  have full_or : ∀ u : Cu, Full u c (64 / c) ∨ (u.c = c ∧ ∃ k, k < 64 / c ∧ u.tk k = false ∧ ∀ j, j < k → u.tk j = true) := fun u => by
    by_cases hc : u.c = c
    · rcases least_or (64 / c) (fun k => !u.tk k) with ⟨k, h1, h2, h3⟩ | h
      · exact .inr ⟨hc, k, h1, by simpa using h2, fun j hj => by simpa using h3 j hj⟩
      · exact .inl (.inr fun j hj => by simpa using h j hj)
    · exact .inl (.inl hc)
  have : ∀ n, n ≤ l.length → (∃ i k, ∃ (hi : i < l.length), k < 64 / c ∧ l[i].c = c ∧ l[i].tk k = false ∧ (∀ j, j < k → l[i].tk j = true) ∧ ∀ j (hj : j < i), Full (l[j]'(by omega)) c (64 / c)) ∨ ∀ j (hj : j < l.length), j < n → Full l[j] c (64 / c) := fun n => by
    induction n with
    | zero => exact fun _ => .inr fun j hj h => absurd h (by omega)
    | succ n ih =>
      intro hn
      rcases ih (by omega) with h | h
      · exact .inl h
      · rcases full_or (l[n]'(by omega)) with hf | ⟨hc, k, h1, h2, h3⟩
        · refine .inr fun j hj hjn => ?_
          by_cases e : j = n
          · subst e; exact hf
          · exact h j hj (by omega)
        · exact .inl ⟨n, k, by omega, h1, hc, h2, h3, fun j hj => h j (by omega) hj⟩
  rcases this l.length (Nat.le_refl _) with h | h
  · exact .inl h
  · exact .inr fun j hj => h j hj hj
/-- Where a new frame belongs. -/
theorem find_place {l : List Cu} (h : Cuts l) (x : Nat) (hx : ∀ u ∈ l, u.f ≠ x) : ∃ p, p ≤ l.length ∧ (∀ j (hj : j < p) (hl : j < l.length), l[j].f < x) ∧ ∀ j (hj : j < l.length), p ≤ j → x < l[j].f := by
  have hup := h.up
  rw [List.pairwise_iff_getElem] at hup
  rcases least_or l.length (fun j => if hj : j < l.length then decide (x < l[j].f) else false) with ⟨p, h1, h2, h3⟩ | h
  · refine ⟨p, by omega, fun j hj hl => ?_, fun j hj hpj => ?_⟩
    · have := h3 j hj
      rw [dif_pos hl] at this
      have h4 := hx l[j] (List.getElem_mem hl)
      have h5 := of_decide_eq_false this
      omega
    · rw [dif_pos h1] at h2
      have h4 := of_decide_eq_true h2
      by_cases e : p = j
      · subst e; exact h4
      · have := hup p j h1 hj (by omega)
        omega
  · refine ⟨l.length, Nat.le_refl _, fun j hj hl => ?_, fun j hj hpj => absurd hj (by omega)⟩
    have := h j hl
    rw [dif_pos hl] at this
    have h4 := hx l[j] (List.getElem_mem hl)
    have h5 := of_decide_eq_false this
    omega
/-- Where a piece is, or that it is nowhere. -/
theorem place_cases (l : List Cu) (fr sl sz : Int) : (∃ p, ∃ (hp : p < l.length), hit l[p] fr sl sz = true ∧ place l fr sl sz = (p : Int)) ∨ ((∀ k (hk : k < l.length), hit l[k] fr sl sz = false) ∧ place l fr sl sz = -1) := by
  rcases least_or l.length (fun j => if hj : j < l.length then hit l[j] fr sl sz else false) with ⟨p, h1, h2, h3⟩ | h
  · rw [dif_pos h1] at h2
    refine .inl ⟨p, h1, h2, place_some h1 h2 (fun k hk => ?_)⟩
    have := h3 k hk
    rw [dif_pos (show k < l.length by omega)] at this
    exact this
  · have hn : ∀ k (hk : k < l.length), hit l[k] fr sl sz = false := fun k hk => by
      have := h k hk
      rw [dif_pos hk] at this
      exact this
    exact .inr ⟨hn, place_none hn⟩
/-- What a hit says. -/
theorem hit_true {u : Cu} {fr sl sz : Int} (h : hit u fr sl sz = true) : ∃ q : Nat, fr = (u.f : Int) ∧ sz = (u.c : Int) ∧ sl = (q : Int) ∧ q < 64 / u.c ∧ u.tk q = true := by
  unfold hit at h
  rw [Bool.and_eq_true] at h
  obtain ⟨h1, h2⟩ := h
  obtain ⟨e1, e2, e3, e4⟩ := of_decide_eq_true h1
  obtain ⟨q, rfl⟩ := Int.eq_ofNat_of_zero_le e3
  exact ⟨q, e1.symm, e2.symm, rfl, by omega, by simpa using h2⟩
theorem cnt_put (tk : Nat → Bool) (q k : Nat) (v : Bool) (hq : q < k) (ht : tk q = !v) : cnt (upd tk q v) k + (if v then 0 else 1) = cnt tk k + (if v then 1 else 0) := by
  induction k with
  | zero => omega
  | succ k ih =>
    rw [cnt_succ, cnt_succ]
    by_cases e : q = k
    · subst e
      have hs : ∀ n, n ≤ q → cnt (upd tk q v) n = cnt tk n := fun n => by
        induction n with
        | zero => intro _; rfl
        | succ n ihn => intro hn; rw [cnt_succ, cnt_succ, ihn (by omega), upd_other _ _ (by omega)]
      rw [hs q (Nat.le_refl _), upd_same, ht]
      cases v <;> simp
    · have := ih (by omega)
      rw [upd_other _ _ (show k ≠ q by omega)]
      cases v <;> simp at this ⊢ <;> omega
theorem pieces_cons (u : Cu) (l : List Cu) : pieces (u :: l) = cnt u.tk 4 + pieces l := by unfold pieces; simp
theorem pieces_append (a b : List Cu) : pieces (a ++ b) = pieces a + pieces b := by unfold pieces; rw [List.map_append, List.sum_append]
theorem pieces_set {l : List Cu} {p : Nat} (hp : p < l.length) (u : Cu) : pieces (l.set p u) + cnt l[p].tk 4 = pieces l + cnt u.tk 4 := by
  induction l generalizing p with
  | nil => cases hp
  | cons x l ih =>
    cases p with
    | zero => simp only [List.set_cons_zero, pieces_cons, List.getElem_cons_zero]; omega
    | succ p =>
      have := ih (p := p) (by simpa using hp)
      simp only [List.set_cons_succ, pieces_cons, List.getElem_cons_succ]
      omega
theorem pieces_strike {l : List Cu} {p : Nat} (hp : p < l.length) : pieces (strike l p) + cnt l[p].tk 4 = pieces l := by
  have e : l = l.take p ++ l[p] :: l.drop (p + 1) := by rw [List.getElem_cons_drop, List.take_append_drop]
  have := congrArg pieces e
  rw [pieces_append, pieces_cons] at this
  unfold strike
  rw [pieces_append]
  omega
theorem pieces_comeIn (l : List Cu) (p x c : Nat) : pieces (comeIn l p (fresh1 x c)) = pieces l + 1 := by
  unfold comeIn
  have e : l = l.take p ++ l.drop p := (List.take_append_drop p l).symm
  have := congrArg pieces e
  rw [pieces_append] at this
  rw [pieces_append, pieces_cons]
  have h1 : cnt (fresh1 x c).tk 4 = 1 := rfl
  omega
end Go.Proofs.Ytllapjidnngaeaa
