/-
  The program's slab in memory: by the frames' numbers, how each is cut.
-/
import Derived.Test.YtllapjidnngaeaaSlFacts
namespace Go.Proofs.Ytllapjidnngaeaa
open Go.ChangeShapes Go.WideShapes Go.ChangeAt Go.RowKit
set_option linter.unusedVariables false
/-- A frame that is not cut. -/
def bare (i : Nat) : Cu := ⟨i, 0, fun _ => false⟩
/-- How frame i is cut. -/
def ent (l : List Cu) (i : Nat) : Cu := (l.find? (fun u => u.f == i)).getD (bare i)
/-- Its cells. -/
def cellsE (u : Cu) : List Value := [.int .i64 (u.c : Int), .bool (u.tk 0), .bool (u.tk 1), .bool (u.tk 2), .bool (u.tk 3)]
def tabN (T : Nat → Cu) (n : Nat) : List Value := (List.range n).flatMap fun i => cellsE (T i)
theorem tabN_succ (T : Nat → Cu) (n : Nat) : tabN T (n + 1) = tabN T n ++ cellsE (T n) := by unfold tabN; simp [List.range_succ]
theorem tabN_length (T : Nat → Cu) (n : Nat) : (tabN T n).length = n * 5 := by
  induction n with
  | zero => rfl
  | succ n ih => rw [tabN_succ, List.length_append, ih]; show n * 5 + 5 = _; omega
theorem tabN_at {T : Nat → Cu} {n i : Nat} (j : Nat) (h : i < n) (hj : j < 5) : (tabN T n)[i * 5 + j]? = (cellsE (T i))[j]? := by
  induction n with
  | zero => cases h
  | succ n ih =>
    rw [tabN_succ]
    have hl := tabN_length T n
    by_cases e : i < n
    · rw [List.getElem?_append_left (by omega)]; exact ih e
    · obtain rfl : i = n := by omega
      rw [List.getElem?_append_right (by omega), hl]
      congr 1; omega
theorem tabN_one (T : Nat → Cu) (n : Nat) : ∀ v ∈ tabN T n, v.oneCell' = true := by
  induction n with
  | zero => intro v hv; cases hv
  | succ n ih =>
    intro v hv
    rw [tabN_succ, List.mem_append] at hv
    rcases hv with hv | hv
    · exact ih v hv
    · simp [cellsE] at hv
      rcases hv with rfl | rfl | rfl | rfl | rfl <;> rfl
theorem tabN_ext {T T' : Nat → Cu} {n : Nat} (h : ∀ i, i < n → T i = T' i) : tabN T n = tabN T' n := by
  induction n with
  | zero => rfl
  | succ n ih => rw [tabN_succ, tabN_succ, ih (fun i hi => h i (by omega)), h n (by omega)]
theorem cellsE_set (u : Cu) (k : Nat) (v : Bool) (h : k < 4) : (cellsE u).set (1 + k) (.bool v) = cellsE (u.put k v) := by
  match k, h with
  | 0, _ => rfl
  | 1, _ => rfl
  | 2, _ => rfl
  | 3, _ => rfl
theorem cellsE_tk (u : Cu) (k : Nat) (h : k < 4) : (cellsE u)[1 + k]? = some (.bool (u.tk k)) := by
  match k, h with
  | 0, _ => rfl
  | 1, _ => rfl
  | 2, _ => rfl
  | 3, _ => rfl
theorem tabN_set {T : Nat → Cu} {n i k : Nat} (h : i < n) (hk : k < 4) (v : Bool) : (tabN T n).set (i * 5 + (1 + k)) (.bool v) = tabN (upd T i ((T i).put k v)) n := by
  induction n with
  | zero => cases h
  | succ n ih =>
    have hl := tabN_length T n
    rw [tabN_succ, tabN_succ]
    by_cases e : i < n
    · rw [List.set_append_left _ _ (by omega), ih e, upd_other _ _ (by omega)]
    · obtain rfl : i = n := by omega
      rw [List.set_append_right _ _ (by omega), hl, upd_same, ← cellsE_set _ _ _ hk, tabN_ext (T' := upd T i ((T i).put k v)) (fun j hj => (upd_other _ _ (by omega)).symm)]
      congr 2; omega
theorem tabN_splice {T : Nat → Cu} {n i : Nat} (h : i < n) (u : Cu) : splice (tabN T n) (i * 5) (cellsE u) = tabN (upd T i u) n := by
  have hl := tabN_length T n
  have hl2 := tabN_length (upd T i u) n
  have hc : (cellsE u).length = 5 := rfl
  refine List.ext_getElem? fun q => ?_
  rw [getElem?_splice _ _ _ (by omega)]
  by_cases hq : q < n * 5
  · have e : q = q / 5 * 5 + q % 5 := by omega
    have e1 : q / 5 < n := by omega
    have e2 : q % 5 < 5 := Nat.mod_lt _ (by omega)
    split
    · rename_i h3
      have e3 : q / 5 = i := by omega
      rw [e, tabN_at _ e1 e2, e3, upd_same]
      congr 1; omega
    · rename_i h3
      rw [e, tabN_at _ e1 e2, tabN_at _ e1 e2, upd_other _ _ (by omega)]
  · rw [if_neg (by omega), List.getElem?_eq_none (by omega), List.getElem?_eq_none (by omega)]
theorem ent_mem {l : List Cu} (hc : Cuts l) {u : Cu} (hu : u ∈ l) : ent l u.f = u := by
  unfold ent
  cases h : l.find? (fun v => v.f == u.f) with
  | none =>
    have := List.find?_eq_none.mp h u hu
    simp at this
  | some v =>
    have h1 := List.find?_some h
    have h2 := List.mem_of_find?_eq_some h
    show v = u
    exact same_frame hc h2 hu (by simpa using h1)
theorem ent_out {l : List Cu} {i : Nat} (h : ∀ u ∈ l, u.f ≠ i) : ent l i = bare i := by
  unfold ent
  rw [List.find?_eq_none.mpr (fun u hu => by simpa using h u hu)]
  rfl
theorem ent_cases {l : List Cu} (hc : Cuts l) (i : Nat) : (∃ u ∈ l, u.f = i ∧ ent l i = u) ∨ ((∀ u ∈ l, u.f ≠ i) ∧ ent l i = bare i) := by
  by_cases h : ∃ u ∈ l, u.f = i
  · obtain ⟨u, hu, rfl⟩ := h
    exact .inl ⟨u, hu, rfl, ent_mem hc hu⟩
  · have h' : ∀ u ∈ l, u.f ≠ i := fun u hu e => h ⟨u, hu, e⟩
    exact .inr ⟨h', ent_out h'⟩
/-- A list in which one frame alone is another. -/
theorem ent_upd {l l' : List Cu} (hc : Cuts l) (hc' : Cuts l') {f : Nat} {u : Cu} (he : ent l' f = u) (h : ∀ v, v.f ≠ f → (v ∈ l' ↔ v ∈ l)) (i : Nat) : ent l' i = upd (ent l) f u i := by
  by_cases e : i = f
  · subst e; rw [upd_same]; exact he
  · rw [upd_other _ _ e]
    rcases ent_cases hc i with ⟨v, hv, h1, h2⟩ | ⟨h1, h2⟩
    · rw [h2, ← h1]
      exact ent_mem hc' ((h v (by rw [h1]; exact e)).mpr hv)
    · rw [h2]
      refine ent_out fun v hv e2 => h1 v ((h v (by rw [e2]; exact e)).mp hv) e2
/-- The slab's cells ahead of its table. -/
def headS (H : Nat) : List Value := [.func (.func 25) #[.pointer (some ⟨H, 0, none⟩)] #[], .func (.func 26) #[.pointer (some ⟨H, 0, none⟩)] #[]]
def cellsS (H : Nat) (T : Nat → Cu) : List Value := headS H ++ tabN T 64
theorem cellsS_length (H : Nat) (T : Nat → Cu) : (cellsS H T).length = 322 := by unfold cellsS; rw [List.length_append, tabN_length]; rfl
theorem cellsS_at {H : Nat} {T : Nat → Cu} {i : Nat} (j : Nat) (h : i < 64) (hj : j < 5) : (cellsS H T)[2 + i * 5 + j]? = (cellsE (T i))[j]? := by
  unfold cellsS
  rw [List.getElem?_append_right (by show 2 ≤ 2 + i * 5 + j; omega)]
  have : 2 + i * 5 + j - (headS H).length = i * 5 + j := by show 2 + i * 5 + j - 2 = _; omega
  rw [this]
  exact tabN_at j h hj
theorem cellsS_set {H : Nat} {T : Nat → Cu} {i k : Nat} (h : i < 64) (hk : k < 4) (v : Bool) : (cellsS H T).set (2 + i * 5 + 1 + k) (.bool v) = cellsS H (upd T i ((T i).put k v)) := by
  unfold cellsS
  rw [List.set_append_right _ _ (by show 2 ≤ 2 + i * 5 + 1 + k; omega)]
  have : 2 + i * 5 + 1 + k - (headS H).length = i * 5 + (1 + k) := by show 2 + i * 5 + 1 + k - 2 = _; omega
  rw [this, tabN_set h hk]
theorem cellsS_splice {H : Nat} {T : Nat → Cu} {i : Nat} (h : i < 64) (u : Cu) : splice (cellsS H T) (2 + i * 5) (cellsE u) = cellsS H (upd T i u) := by
  have hl := cellsS_length H T
  have hl2 := cellsS_length H (upd T i u)
  have hc : (cellsE u).length = 5 := rfl
  refine List.ext_getElem? fun q => ?_
  rw [getElem?_splice _ _ _ (by omega)]
  unfold cellsS
  rw [← tabN_splice h]
  by_cases h2 : q < 2
  · rw [if_neg (by omega), List.getElem?_append_left (by show q < 2; exact h2), List.getElem?_append_left (by show q < 2; exact h2)]
  · have hq : (headS H).length ≤ q := by show 2 ≤ q; omega
    have e2 : (headS H).length = 2 := rfl
    rw [List.getElem?_append_right hq, List.getElem?_append_right hq, getElem?_splice _ _ _ (by rw [tabN_length]; omega), e2]
    by_cases h3 : 2 + i * 5 ≤ q ∧ q < 2 + i * 5 + (cellsE u).length
    · rw [if_pos h3, if_pos (by omega)]
      congr 1; omega
    · rw [if_neg h3, if_neg (by omega)]
theorem cellsS_ext {H : Nat} {T T' : Nat → Cu} (h : ∀ i, T i = T' i) : cellsS H T = cellsS H T' := by
  unfold cellsS; rw [tabN_ext (fun i _ => h i)]
/-- A table, in memory at S. -/
def RowS (w : World) (S H : Nat) (T : Nat → Cu) : Prop := w.heap[S]? = some (.cells (cellsS H T).toArray 73 (0, 0))
theorem RowS.take {w : World} {S H : Nat} {T : Nat → Cu} (h : RowS w S H T) : w.cell? ⟨S, 0, none⟩ = some (.func (.func 25) #[.pointer (some ⟨H, 0, none⟩)] #[]) := by
  rw [cell_of_row _ _ _ _ _ _ h, List.getElem?_toArray]; rfl
theorem RowS.give {w : World} {S H : Nat} {T : Nat → Cu} (h : RowS w S H T) : w.cell? ⟨S, 1, none⟩ = some (.func (.func 26) #[.pointer (some ⟨H, 0, none⟩)] #[]) := by
  rw [cell_of_row _ _ _ _ _ _ h, List.getElem?_toArray]; rfl
theorem RowS.cut {w : World} {S H : Nat} {T : Nat → Cu} (h : RowS w S H T) {i : Nat} (j : Nat) (hi : i < 64) (hj : j < 5) : w.cell? ⟨S, 2 + i * 5 + j, none⟩ = (cellsE (T i))[j]? := by
  rw [cell_of_row _ _ _ _ _ _ h, List.getElem?_toArray, cellsS_at j hi hj]
theorem RowS.frozen {w : World} {S H : Nat} {T : Nat → Cu} (h : RowS w S H T) (q : Nat) : w.frozen? ⟨S, q, none⟩ = false := frozen_of_row _ _ _ _ _ h
theorem RowS.ext {w : World} {S H : Nat} {T T' : Nat → Cu} (h : RowS w S H T) (e : ∀ i, T' i = T i) : RowS w S H T' := by
  unfold RowS; rw [cellsS_ext e]; exact h
theorem RowS.put {w : World} {S H : Nat} {T : Nat → Cu} (h : RowS w S H T) {i k : Nat} (hi : i < 64) (hk : k < 4) (v : Bool) : RowS (w.setCell ⟨S, 2 + i * 5 + 1 + k, none⟩ (.bool v)) S H (upd T i ((T i).put k v)) := by
  unfold RowS
  rw [heap_setCell_same _ _ _ _ _ _ h, ← cellsS_set hi hk]
  simp
/-- The program's slab at S over frames at H, in blocks of U. -/
structure PsS (w : World) (U : Nat → Prop) (S H : Nat) (l : List Cu) (s : St) : Prop where
  mem : RowS w S H (ent l)
  fr : ∃ A Q, Fr w H A Q s ∧ (∀ i, U i ↔ i = S ∨ Blk H A Q i) ∧ ¬ Blk H A Q S
  cuts : Cuts l
  out : ∀ u ∈ l, ∀ j, 64 / u.c ≤ j → u.tk j = false
theorem RowS.keep {w w' : World} {S H : Nat} {T : Nat → Cu} (h : RowS w S H T) (e : w'.heap[S]? = w.heap[S]?) : RowS w' S H T := by unfold RowS; rw [e]; exact h
theorem PsS.keep {V U : Nat → Prop} {w w' : World} {S H : Nat} {l : List Cu} {s : St} (h : PsS w U S H l s) (t : Touch V w w') (d : ∀ i, U i → ¬ V i) : PsS w' U S H l s := by
  obtain ⟨A, Q, f, hU, hn⟩ := h.fr
  exact ⟨h.mem.keep (t.block S (lt_of_heap h.mem) (d S ((hU S).mpr (.inl rfl)))), ⟨A, Q, f.touch t (fun i hi => d i ((hU i).mpr (.inr hi))), hU, hn⟩, h.cuts, h.out⟩
theorem PsS.below {U : Nat → Prop} {w w' : World} {S H : Nat} {l : List Cu} {s : St} (h : PsS w U S H l s) (t : Below w.heap.size w w') : PsS w' U S H l s := h.keep (V := fun _ => False) (Touch.of_below t) (fun _ _ e => e)
theorem PsS.lt {U : Nat → Prop} {w : World} {S H : Nat} {l : List Cu} {s : St} (h : PsS w U S H l s) : ∀ i, U i → i < w.heap.size := by
  obtain ⟨A, Q, f, hU, hn⟩ := h.fr
  intro i hi
  rcases (hU i).mp hi with rfl | rfl | rfl | rfl
  · exact lt_of_heap h.mem
  · exact f.ltH
  · exact f.ltA
  · exact f.ltQ
theorem PsS.good {U : Nat → Prop} {w : World} {S H : Nat} {l : List Cu} {s : St} (h : PsS w U S H l s) : Good s := by obtain ⟨A, Q, f, hU, hn⟩ := h.fr; exact f.good
end Go.Proofs.Ytllapjidnngaeaa
