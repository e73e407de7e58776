/-
  slices.BinarySearch, Insert, Delete and Clone over rows of integers of one's own, by the library's contracts.
-/
import Derived.Test.YtpeodmnhdabonaaIlShelf
import Derived.Test.YtpeodmnhdabonaaTouch
import Derived.Lib.SliceRun
namespace Go.Proofs.Ytpeodmnhdabonaa
open Go.ChangeShapes Go.WideShapes Go.ChangeAt Go.RowKit
set_option linter.unusedVariables false
/-- Cells written one behind the other. -/
def putV (cur : Array Value) (o : Nat) : List Value → Array Value
  | [] => cur
  | v :: r => putV (cur.setIfInBounds o v) (o + 1) r
theorem size_putV (vs : List Value) : ∀ (cur : Array Value) (o : Nat), (putV cur o vs).size = cur.size := by
  induction vs with
  | nil => intro cur o; rfl
  | cons v r ih => intro cur o; rw [putV, ih]; simp
theorem get_putV (vs : List Value) : ∀ (cur : Array Value) (o j : Nat), o + vs.length ≤ cur.size → (putV cur o vs)[j]? = if o ≤ j ∧ j < o + vs.length then vs[j - o]? else cur[j]? := by
  induction vs with
  | nil => intro cur o j h; rw [if_neg (by simp only [List.length_nil]; omega)]; rfl
  | cons v r ih =>
    intro cur o j h
    simp only [List.length_cons] at h ⊢
    rw [putV, ih _ _ _ (by simp; omega)]
    by_cases h1 : o = j
    · subst h1
      rw [if_neg (by omega), if_pos (by omega), Nat.sub_self, Array.getElem?_setIfInBounds_self_of_lt (by omega)]
      rfl
    · by_cases h2 : o + 1 ≤ j ∧ j < o + 1 + r.length
      · rw [if_pos h2, if_pos (by omega), show j - o = (j - (o + 1)) + 1 from by omega]
        rfl
      · rw [if_neg h2, if_neg (by omega), Array.getElem?_setIfInBounds_ne h1]
theorem heap_setCells (vs : List Value) : ∀ (w : World) (g o : Nat) (cur : Array Value) (e : TypeId), w.heap[g]? = some (.cells cur e (0, 0)) → (w.setCells g o vs).heap[g]? = some (.cells (putV cur o vs) e (0, 0)) := by
  induction vs with
  | nil => intro w g o cur e h; exact h
  | cons v r ih => intro w g o cur e h; exact ih _ g (o + 1) _ e (heap_setCell_same w g o cur e v h)
theorem Touch.setCells {S : Nat → Prop} {g : Nat} (hg : S g) (vs : List Value) : ∀ {w w' : World} (o : Nat), Touch S w w' → Touch S w (w'.setCells g o vs) := by
  induction vs with
  | nil => intro w w' o h; exact h
  | cons v r ih => intro w w' o h; exact ih (o + 1) (h.setCell (p := ⟨g, o, none⟩) hg v)
theorem touch_row {g n c : Nat} {w w' : World} (h : Touch (fun i => i = g) w w') : Touch (fun i => (Value.slice (some ⟨g, 0, none⟩) n c).ownBlock = some i) w w' := h.mono fun i e => by rw [e]; rfl
theorem ints_at (l : List Int) (j : Nat) (v : Value) (h : (l.map (Value.int .i64))[j]? = some v) : ∃ x, l[j]? = some x ∧ v = .int .i64 x := by
  rw [List.getElem?_map] at h
  cases hl : l[j]? with
  | none => rw [hl] at h; cases h
  | some x => rw [hl] at h; injection h with h; exact ⟨x, rfl, h.symm⟩
theorem row_cells {w : World} {B g c n : Nat} {xs : List Value} (h : w.ownsRow B 3 1 (.slice (some ⟨g, 0, none⟩) n c) n xs) : ∃ cur, w.heap[g]? = some (.cells cur 3 (0, 0)) ∧ n ≤ c ∧ c ≤ maxLen ∧ cur.size = c ∧ cur.toList.take n = xs := by
  obtain ⟨_, hh⟩ := h
  rcases hh with ⟨hn0, _⟩ | ⟨g', cap, cur, e1, e2, e3, e4, e5, e6, e7⟩
  · cases hn0
  injection e1 with e1 _ ec
  injection e1 with e1
  injection e1 with e1
  subst e1 ec
  exact ⟨cur, e3, e4, e5, by omega, by simpa using e7⟩
/-- A list with one put in between. -/
def insAt (l : List Int) (p : Nat) (t : Int) : List Int := l.take p ++ t :: l.drop p
theorem insAt_len (l : List Int) (p : Nat) (t : Int) (h : p ≤ l.length) : (insAt l p t).length = l.length + 1 := by unfold insAt; simp; omega
theorem insAt_get (l : List Int) (p : Nat) (t : Int) (h : p ≤ l.length) (j : Nat) : (insAt l p t)[j]? = if j < p then l[j]? else if j = p then some t else l[j - 1]? := by
  unfold insAt
  by_cases h1 : j < p
  · rw [if_pos h1, List.getElem?_append_left (by simp; omega), List.getElem?_take_of_lt h1]
  · rw [if_neg h1, List.getElem?_append_right (by simp; omega)]
    have e : (l.take p).length = p := by simp; omega
    rw [e]
    by_cases h2 : j = p
    · subst h2; simp
    · rw [if_neg h2, show j - p = (j - p - 1) + 1 from by omega, List.getElem?_cons_succ, List.getElem?_drop]
      congr 1; omega
theorem own_of_cells {w : World} {g n c : Nat} {cur : Array Value} {xs : List Int} (h : w.heap[g]? = some (.cells cur 3 (0, 0))) (hn : xs.length = n) (hc : n ≤ c) (hm : c ≤ maxLen) (hs : cur.size = c) (hg : ∀ j, j < n → cur[j]? = (xs[j]?).map (Value.int .i64)) :
    w.ownsRow 0 3 1 (.slice (some ⟨g, 0, none⟩) n c) n (xs.map (Value.int .i64)) := by
  refine ⟨by simp [hn], .inr ⟨g, c, cur, rfl, Nat.zero_le _, h, hc, hm, by omega, ?_⟩⟩
  rw [Nat.mul_one]
  apply List.ext_getElem?
  intro j
  by_cases hj : j < n
  · rw [List.getElem?_take_of_lt hj, Array.getElem?_toList, hg j hj, List.getElem?_map]
  · rw [List.getElem?_take_eq_none (by omega), List.getElem?_eq_none (by simp; omega)]
theorem cur_get {cur : Array Value} {n : Nat} {l : List Int} (h : cur.toList.take n = l.map (Value.int .i64)) {j : Nat} (hj : j < n) : cur[j]? = (l[j]?).map (Value.int .i64) := by
  have := congrArg (fun x : List Value => x[j]?) h
  simp only [List.getElem?_take_of_lt hj, Array.getElem?_toList, List.getElem?_map] at this
  exact this
/-- slices.Clone. -/
theorem clone_any {w : World} {B : Nat} {v : Value} {l : List Int} (ho : w.ownsRow B 3 1 v l.length (l.map (Value.int .i64))) (hn : l.length ≤ 1000000) :
    Calls Try.prog 23 #[v] w fun e w' => ∃ u, e = .returned u ∧ w'.ownsRow w.heap.size 3 1 u l.length (l.map (Value.int .i64)) ∧ Below w.heap.size w w' := by
  obtain ⟨_, hh⟩ := _root_.id ho
  rcases hh with ⟨rfl, h0⟩ | ⟨g, c, cur, rfl, e2, e3, e4, e5, e6, e7⟩
  · have hz : l = [] := List.eq_nil_of_length_eq_zero h0
    subst hz
    have hcon := Go.Proofs.Any.slices_Clone_int_nil Try.cloneI 0 0 w
    change Calls Try.prog 23 _ _ _ at hcon
    exact hcon.mono fun e w' ⟨he, hw⟩ => ⟨_, he, World.ownsRow_nil _ _ _ _, by rw [hw]; exact Below.refl _ _⟩
  · have hcon := Go.Proofs.Any.slices_Clone_int Try.cloneI g 0 l.length c l w (Nat.le_refl _) (by omega)
      (fun j hj => by rw [Nat.zero_add, ho.cellAt j (by simpa using hj), List.getElem?_map, List.getElem?_eq_getElem hj]; simp [List.getD, hj])
    change Calls Try.prog 23 _ _ _ at hcon
    refine hcon.mono fun e w' ⟨u, he, hw, _, hb⟩ => ⟨u, he, ?_, hb⟩
    rw [List.take_length] at hw
    exact hw
/-- What an Insert leaves. -/
def Inserted (w w' : World) (v : Value) (l : List Int) (p : Nat) (t : Int) (u : Value) : Prop :=
  w'.ownsRow 0 3 1 u (l.length + 1) ((insAt l p t).map (Value.int .i64)) ∧ Touch (fun i => v.ownBlock = some i) w w' ∧ (u.ownBlock = v.ownBlock ∨ u.ownBlock = some w.heap.size) ∧ u.ownBlock ≠ none
theorem oneI (l : List Int) : ∀ v ∈ l.map (Value.int .i64), v.oneCell' = true := by
  intro v hv
  obtain ⟨x, _, rfl⟩ := List.mem_map.1 hv
  rfl
end Go.Proofs.Ytpeodmnhdabonaa
