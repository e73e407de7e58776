/-
  Plain words for the heap: items (ID, Key) in a list, who is due first, a heap of the first n, sifting up and down, where each ID stands.
-/
import Derived.Test.YtccokhalcdljiaaKit
namespace Go.Proofs.Ytccokhalcdljiaa.Hp
set_option linter.unusedVariables false
/-- Is a due ahead of b? -/
def due (a b : Int × Int) : Bool := decide (a.2 < b.2) || (decide (a.2 = b.2) && decide (a.1 < b.1))
theorem due_iff (a b : Int × Int) : due a b = true ↔ a.2 < b.2 ∨ (a.2 = b.2 ∧ a.1 < b.1) := by unfold due; simp
theorem due_not (a b : Int × Int) : due a b = false ↔ ¬ (a.2 < b.2 ∨ (a.2 = b.2 ∧ a.1 < b.1)) := by rw [← due_iff]; simp
theorem due_asymm {a b : Int × Int} (h : due a b = true) : due b a = false := by rw [due_iff] at h; rw [due_not]; omega
theorem due_irrefl (a : Int × Int) : due a a = false := by rw [due_not]; omega
theorem due_le_trans {a b c : Int × Int} (h1 : due b a = false) (h2 : due c b = false) : due c a = false := by rw [due_not] at *; omega
theorem due_trans {a b c : Int × Int} (h1 : due a b = true) (h2 : due b c = true) : due a c = true := by rw [due_iff] at *; omega
theorem due_lt_le {a b c : Int × Int} (h1 : due a b = true) (h2 : due c b = false) : due c a = false := due_le_trans (due_asymm h1) h2
theorem due_total {a b : Int × Int} (h1 : due a b = false) (h2 : due b a = false) : a = b := by
  rw [due_not] at *
  obtain ⟨x, y⟩ := a
  obtain ⟨u, v⟩ := b
  simp only at *
  have : x = u := by omega
  have : y = v := by omega
  simp [*]
def it (l : List (Int × Int)) (k : Nat) : Int × Int := l.getD k (0, 0)
def swp (l : List (Int × Int)) (i j : Nat) : List (Int × Int) := (l.set i (it l j)).set j (it l i)
theorem it_get {l : List (Int × Int)} {k : Nat} (h : k < l.length) : it l k = l[k] := by unfold it; simp [List.getD, h]
theorem length_swp (l : List (Int × Int)) (i j : Nat) : (swp l i j).length = l.length := by simp [swp]
theorem it_set (l : List (Int × Int)) (i k : Nat) (x : Int × Int) (h : i < l.length) : it (l.set i x) k = if k = i then x else it l k := by
  unfold it
  simp only [List.getD_eq_getElem?_getD, List.getElem?_set]
  by_cases e : i = k
  · subst e; simp [h]
  · rw [if_neg e, if_neg (fun e' => e e'.symm)]
theorem it_swp (l : List (Int × Int)) (i j k : Nat) (hi : i < l.length) (hj : j < l.length) : it (swp l i j) k = if k = j then it l i else if k = i then it l j else it l k := by
  unfold swp
  rw [it_set _ _ _ _ (by simpa using hj), it_set _ _ _ _ hi]
theorem swp_perm (l : List (Int × Int)) (i j : Nat) (hi : i < l.length) (hj : j < l.length) : (swp l i j).Perm l := by
  have h := Array.swap_perm (xs := l.toArray) (i := i) (j := j) (by simpa using hi) (by simpa using hj)
  have e : (l.toArray.swap i j (by simpa using hi) (by simpa using hj)).toList = swp l i j := by
    unfold swp
    rw [it_get hi, it_get hj]
    simp [Array.swap]
  have h2 := h.toList
  rw [e] at h2
  simpa using h2
/-- The first n are a heap. -/
def HeapN (l : List (Int × Int)) (n : Nat) : Prop := ∀ c, 0 < c → c < n → due (it l c) (it l ((c - 1) / 2)) = false
/-- .. but for j, who may be due ahead of who stands above it. -/
def UpInv (l : List (Int × Int)) (n j : Nat) : Prop :=
  (∀ c, 0 < c → c < n → c ≠ j → due (it l c) (it l ((c - 1) / 2)) = false) ∧ (∀ c, 0 < c → c < n → (c - 1) / 2 = j → 0 < j → due (it l c) (it l ((j - 1) / 2)) = false)
/-- .. but for i, ahead of whom those below it may be due (and, at i0, who may itself be due ahead of who stands above it). -/
def DownInv (l : List (Int × Int)) (n i i0 : Nat) : Prop :=
  (∀ c, 0 < c → c < n → (c - 1) / 2 ≠ i → (c = i → i ≠ i0) → due (it l c) (it l ((c - 1) / 2)) = false) ∧ (∀ c, 0 < c → c < n → (c - 1) / 2 = i → 0 < i → due (it l c) (it l ((i - 1) / 2)) = false) ∧ i0 ≤ i
theorem up_done {l : List (Int × Int)} {n j : Nat} (h : UpInv l n j) (hj : j = 0 ∨ due (it l j) (it l ((j - 1) / 2)) = false) : HeapN l n := by
  intro c h0 hn
  by_cases e : c = j
  · subst e
    rcases hj with hj | hj
    · omega
    · exact hj
  · exact h.1 c h0 hn e
theorem up_step {l : List (Int × Int)} {n j : Nat} (h : UpInv l n j) (hj : j < n) (hn : n ≤ l.length) (h0 : 0 < j) (hd : due (it l j) (it l ((j - 1) / 2)) = true) :
    UpInv (swp l ((j - 1) / 2) j) n ((j - 1) / 2) := by
  obtain ⟨h1, h2⟩ := h
  have hs := fun k => it_swp l ((j - 1) / 2) j k (by omega) (by omega)
  generalize hi : (j - 1) / 2 = i at *
  have hij : i < j := by omega
  refine ⟨fun c c0 cn ci => ?_, fun c c0 cn cp i0 => ?_⟩
  · rw [hs, hs]
    by_cases e1 : c = j
    · subst e1
      rw [if_pos rfl, hi, if_neg (by omega), if_pos rfl]
      exact due_asymm hd
    · rw [if_neg e1, if_neg ci]
      by_cases e2 : (c - 1) / 2 = j
      · rw [if_pos e2]
        exact h2 c c0 cn e2 (by omega)
      · rw [if_neg e2]
        by_cases e3 : (c - 1) / 2 = i
        · rw [if_pos e3]
          have := h1 c c0 cn e1
          rw [e3] at this
          exact due_lt_le hd this
        · rw [if_neg e3]; exact h1 c c0 cn e1
  · rw [hs, hs]
    rw [if_neg (show (i - 1) / 2 ≠ j by omega), if_neg (show (i - 1) / 2 ≠ i by omega)]
    have hq := h1 i i0 (by omega) (by omega)
    by_cases e1 : c = j
    · rw [if_pos e1]; exact hq
    · rw [if_neg e1, if_neg (show c ≠ i by omega)]
      have := h1 c c0 cn e1
      rw [cp] at this
      exact due_le_trans hq this
theorem down_step {l : List (Int × Int)} {n i i0 m : Nat} (h : DownInv l n i i0) (hn : n ≤ l.length) (hm0 : 0 < m) (hm : m < n) (hp : (m - 1) / 2 = i) (hd : due (it l m) (it l i) = true)
    (hl : ∀ c, 0 < c → c < n → (c - 1) / 2 = i → due (it l c) (it l m) = false) : DownInv (swp l i m) n m i0 := by
  obtain ⟨h1, h2, h3⟩ := h
  have hs := fun k => it_swp l i m k (by omega) (by omega)
  refine ⟨fun c c0 cn cp _ => ?_, fun c c0 cn cp _ => ?_, by omega⟩
  · rw [hs, hs]
    by_cases e1 : c = m
    · subst e1
      rw [if_pos rfl, hp, if_neg (by omega), if_pos rfl]
      exact due_asymm hd
    · rw [if_neg e1, if_neg cp]
      by_cases e2 : c = i
      · subst e2
        rw [if_pos rfl, if_neg (by omega)]
        exact h2 m hm0 hm hp c0
      · rw [if_neg e2]
        by_cases e3 : (c - 1) / 2 = i
        · rw [if_pos e3]; exact hl c c0 cn e3
        · rw [if_neg e3]; exact h1 c c0 cn e3 (fun e => absurd e e2)
  · rw [hs, hs, hp]
    rw [if_neg (show c ≠ m by omega), if_neg (show c ≠ i by omega), if_neg (show i ≠ m by omega), if_pos rfl]
    have := h1 c c0 cn (by omega) (fun e => by omega)
    rw [cp] at this; exact this
theorem down_done {l : List (Int × Int)} {n i i0 : Nat} (h : DownInv l n i i0) (hi : i ≠ i0) (hl : ∀ c, 0 < c → c < n → (c - 1) / 2 = i → due (it l c) (it l i) = false) : HeapN l n := by
  intro c c0 cn
  by_cases e : (c - 1) / 2 = i
  · rw [e]; exact hl c c0 cn e
  · exact h.1 c c0 cn e (fun _ => hi)
theorem down_same {l : List (Int × Int)} {n i : Nat} (h : DownInv l n i i) (hl : ∀ c, 0 < c → c < n → (c - 1) / 2 = i → due (it l c) (it l i) = false) : UpInv l n i := by
  refine ⟨fun c c0 cn ci => ?_, h.2.1⟩
  by_cases e : (c - 1) / 2 = i
  · rw [e]; exact hl c c0 cn e
  · exact h.1 c c0 cn e (fun e' => absurd e' ci)
theorem it_append_left (l : List (Int × Int)) (x : Int × Int) (k : Nat) (h : k < l.length) : it (l ++ [x]) k = it l k := by
  unfold it; simp [List.getD_eq_getElem?_getD, List.getElem?_append_left h]
theorem it_append_last (l : List (Int × Int)) (x : Int × Int) : it (l ++ [x]) l.length = x := by unfold it; simp [List.getD_eq_getElem?_getD]
theorem it_dropLast (l : List (Int × Int)) (k : Nat) (h : k + 1 < l.length) : it l.dropLast k = it l k := by
  unfold it; simp only [List.getD_eq_getElem?_getD, List.getElem?_dropLast, if_pos (show k < l.length - 1 by omega)]
theorem heapN_eq {l l' : List (Int × Int)} {n : Nat} (h : HeapN l n) (e : ∀ k, k < n → it l' k = it l k) : HeapN l' n := fun c c0 cn => by
  rw [e c cn, e _ (by omega)]; exact h c c0 cn
theorem push_up {l : List (Int × Int)} (h : HeapN l l.length) (x : Int × Int) : UpInv (l ++ [x]) (l.length + 1) l.length := by
  refine ⟨fun c c0 cn e => ?_, fun c c0 cn cp _ => by omega⟩
  rw [it_append_left l x c (by omega), it_append_left l x _ (by omega)]
  exact h c c0 (by omega)
theorem cut_down {l : List (Int × Int)} {n i : Nat} (h : HeapN l (n + 1)) (hl : l.length = n + 1) (hi : i < n) : DownInv (swp l i n) n i i := by
  have hs := fun k => it_swp l i n k (by omega) (by omega)
  refine ⟨fun c c0 cn cp ci => ?_, fun c c0 cn cp i0 => ?_, Nat.le_refl _⟩
  · have e : c ≠ i := fun e => ci e rfl
    rw [hs, hs, if_neg (by omega), if_neg e, if_neg (by omega), if_neg cp]
    exact h c c0 (by omega)
  · rw [hs, hs, if_neg (by omega), if_neg (by omega), if_neg (by omega), if_neg (by omega)]
    have h1 := h c c0 (by omega)
    rw [cp] at h1
    exact due_le_trans (h i i0 (by omega)) h1
theorem key_down {l : List (Int × Int)} {n i : Nat} (h : HeapN l n) (hl : n ≤ l.length) (hi : i < n) (x : Int × Int) : DownInv (l.set i x) n i i := by
  have hs := fun k => it_set l i k x (by omega)
  refine ⟨fun c c0 cn cp ci => ?_, fun c c0 cn cp i0 => ?_, Nat.le_refl _⟩
  · have e : c ≠ i := fun e => ci e rfl
    rw [hs, hs, if_neg e, if_neg cp]
    exact h c c0 cn
  · rw [hs, hs, if_neg (by omega), if_neg (by omega)]
    have h1 := h c c0 cn
    rw [cp] at h1
    exact due_le_trans (h i i0 hi) h1
/-- Who stands first is due first. -/
theorem heap_first {l : List (Int × Int)} {n : Nat} (h : HeapN l n) : ∀ k, k < n → due (it l k) (it l 0) = false
  | 0, _ => due_irrefl _
  | k + 1, hk => due_le_trans (heap_first h ((k + 1 - 1) / 2) (by omega)) (h (k + 1) (by omega) hk)
termination_by k => k
decreasing_by omega
/-- Where each ID stands. -/
def Synced (f : Int → Option Nat) (l : List (Int × Int)) : Prop :=
  (∀ k, k < l.length → f (it l k).1 = some k) ∧ ∀ id k, f id = some k → k < l.length ∧ (it l k).1 = id
def upd (f : Int → Option Nat) (id : Int) (k : Nat) : Int → Option Nat := fun x => if x = id then some k else f x
def del (f : Int → Option Nat) (id : Int) : Int → Option Nat := fun x => if x = id then none else f x
theorem synced_swap {f : Int → Option Nat} {l : List (Int × Int)} (h : Synced f l) {i j : Nat} (hi : i < l.length) (hj : j < l.length) : Synced (upd (upd f (it l j).1 i) (it l i).1 j) (swp l i j) := by
  have hs := fun k => it_swp l i j k hi hj
  obtain ⟨h1, h2⟩ := h
  have inj : ∀ a b, a < l.length → b < l.length → (it l a).1 = (it l b).1 → a = b := fun a b ha hb e => by
    have := h1 a ha
    rw [e, h1 b hb] at this
    injection this with this; exact this.symm
  refine ⟨fun k hk => ?_, fun id k hk => ?_⟩
  · rw [length_swp] at hk
    rw [hs]
    unfold upd
    by_cases e1 : k = j
    · subst e1; rw [if_pos rfl, if_pos rfl]
    · rw [if_neg e1]
      by_cases e2 : k = i
      · subst e2
        rw [if_pos rfl, if_pos rfl]
        rw [if_neg (fun e => e1 (inj _ _ hj hi e).symm)]
      · rw [if_neg e2, if_neg (fun e => e2 (inj _ _ hk hi e)), if_neg (fun e => e1 (inj _ _ hk hj e))]
        exact h1 k hk
  · rw [length_swp, hs]
    unfold upd at hk
    by_cases e1 : id = (it l i).1
    · rw [if_pos e1] at hk
      injection hk with hk
      subst hk
      rw [if_pos rfl]; exact ⟨hj, e1.symm⟩
    · rw [if_neg e1] at hk
      by_cases e2 : id = (it l j).1
      · rw [if_pos e2] at hk
        injection hk with hk
        subst hk
        rw [if_neg (fun e => e1 (by rw [e2, ← e])), if_pos rfl]; exact ⟨hi, e2.symm⟩
      · rw [if_neg e2] at hk
        obtain ⟨a, b⟩ := h2 id k hk
        rw [if_neg (fun e => e2 (by rw [← b, e])), if_neg (fun e => e1 (by rw [← b, e]))]
        exact ⟨a, b⟩
theorem synced_push {f : Int → Option Nat} {l : List (Int × Int)} (h : Synced f l) (x : Int × Int) (hx : f x.1 = none) : Synced (upd f x.1 l.length) (l ++ [x]) := by
  obtain ⟨h1, h2⟩ := h
  refine ⟨fun k hk => ?_, fun id k hk => ?_⟩
  · rw [List.length_append, List.length_singleton] at hk
    unfold upd
    by_cases e : k = l.length
    · subst e; rw [it_append_last, if_pos rfl]
    · rw [it_append_left l x k (by omega)]
      have := h1 k (by omega)
      rw [if_neg (fun e' => by rw [e', hx] at this; cases this)]
      exact this
  · rw [List.length_append, List.length_singleton]
    unfold upd at hk
    by_cases e : id = x.1
    · rw [if_pos e] at hk
      injection hk with hk
      subst hk
      rw [it_append_last]; exact ⟨by omega, e.symm⟩
    · rw [if_neg e] at hk
      obtain ⟨a, b⟩ := h2 id k hk
      rw [it_append_left l x k a]; exact ⟨by omega, b⟩
theorem synced_pop {f : Int → Option Nat} {l : List (Int × Int)} (h : Synced f l) (hl : 0 < l.length) : Synced (del f (it l (l.length - 1)).1) l.dropLast := by
  obtain ⟨h1, h2⟩ := h
  refine ⟨fun k hk => ?_, fun id k hk => ?_⟩
  · rw [List.length_dropLast] at hk
    rw [it_dropLast l k (by omega)]
    unfold del
    have := h1 k (by omega)
    rw [if_neg (fun e => by rw [e, h1 _ (by omega)] at this; injection this; omega)]
    exact this
  · unfold del at hk
    by_cases e : id = (it l (l.length - 1)).1
    · rw [if_pos e] at hk; cases hk
    · rw [if_neg e] at hk
      obtain ⟨a, b⟩ := h2 id k hk
      have hk1 : k ≠ l.length - 1 := fun e' => e (by rw [← b, e'])
      rw [List.length_dropLast, it_dropLast l k (by omega)]
      exact ⟨by omega, b⟩
theorem synced_key {f : Int → Option Nat} {l : List (Int × Int)} (h : Synced f l) {i : Nat} (hi : i < l.length) (key : Int) : Synced f (l.set i ((it l i).1, key)) := by
  obtain ⟨h1, h2⟩ := h
  have hs : ∀ k, (it (l.set i ((it l i).1, key)) k).1 = (it l k).1 := fun k => by
    rw [it_set _ _ _ _ hi]
    by_cases e : k = i
    · subst e; rw [if_pos rfl]
    · rw [if_neg e]
  refine ⟨fun k hk => ?_, fun id k hk => ?_⟩
  · rw [hs]; exact h1 k (by simpa using hk)
  · rw [hs]
    obtain ⟨a, b⟩ := h2 id k hk
    exact ⟨by simpa using a, b⟩
end Go.Proofs.Ytccokhalcdljiaa.Hp
