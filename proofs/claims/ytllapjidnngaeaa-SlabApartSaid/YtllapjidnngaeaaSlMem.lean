/-
  Cut frames (stage 5), as a list; the document's own slab in memory (coxswainref5).
-/
import Derived.Test.YtllapjidnngaeaaRfMem
namespace Go.Proofs.Ytllapjidnngaeaa
open Go.ChangeShapes Go.WideShapes Go.ChangeAt Go.RowKit
set_option linter.unusedVariables false
/-- A frame that is cut: its number, its class, which pieces are taken. -/
structure Cu where
  f : Nat
  c : Nat
  tk : Nat → Bool
/-- Its cells. -/
def cellsCu (u : Cu) : List Value := [.int .i64 (u.f : Int), .int .i64 (u.c : Int), .bool (u.tk 0), .bool (u.tk 1), .bool (u.tk 2), .bool (u.tk 3)]
def cellsCus (l : List Cu) : List Value := l.flatMap cellsCu
theorem cellsCus_nil : cellsCus [] = [] := rfl
theorem cellsCus_cons (u : Cu) (l : List Cu) : cellsCus (u :: l) = cellsCu u ++ cellsCus l := by unfold cellsCus; simp
theorem cellsCus_append (a b : List Cu) : cellsCus (a ++ b) = cellsCus a ++ cellsCus b := by unfold cellsCus; simp
theorem cellsCus_one (u : Cu) : cellsCus [u] = cellsCu u := by unfold cellsCus; simp
theorem cellsCus_length (l : List Cu) : (cellsCus l).length = l.length * 6 := by
  induction l with
  | nil => rfl
  | cons u l ih => rw [cellsCus_cons, List.length_append, ih, List.length_cons]; show 6 + _ = _; omega
theorem cellsCus_cell (l : List Cu) : ∀ u ∈ cellsCus l, u.oneCell' = true := by
  induction l with
  | nil => intro u hu; cases hu
  | cons x l ih =>
    intro u hu
    rw [cellsCus_cons, List.mem_append] at hu
    rcases hu with hu | hu
    · simp [cellsCu] at hu
      rcases hu with rfl | rfl | rfl | rfl | rfl | rfl <;> rfl
    · exact ih u hu
/-- Cell j of cut i. -/
theorem cellsCus_at {l : List Cu} {i : Nat} (j : Nat) (h : i < l.length) (hj : j < 6) : (cellsCus l)[i * 6 + j]? = (cellsCu l[i])[j]? := by
  induction l generalizing i with
  | nil => cases h
  | cons x l ih =>
    rw [cellsCus_cons]
    cases i with
    | zero =>
      rw [Nat.zero_mul, Nat.zero_add, List.getElem?_append_left (by show j < 6; exact hj)]
      rfl
    | succ i =>
      rw [List.getElem?_append_right (by show 6 ≤ (i + 1) * 6 + j; omega)]
      have : (i + 1) * 6 + j - (cellsCu x).length = i * 6 + j := by show (i + 1) * 6 + j - 6 = _; omega
      rw [this, ih (by simpa using h)]
      rfl
theorem cellsCu_tk (u : Cu) (k : Nat) (h : k < 4) : (cellsCu u)[2 + k]? = some (.bool (u.tk k)) := by
  match k, h with
  | 0, _ => rfl
  | 1, _ => rfl
  | 2, _ => rfl
  | 3, _ => rfl
/-- A piece is turned. -/
def Cu.put (u : Cu) (k : Nat) (v : Bool) : Cu := ⟨u.f, u.c, upd u.tk k v⟩
theorem cellsCu_set (u : Cu) (k : Nat) (v : Bool) (h : k < 4) : (cellsCu u).set (2 + k) (.bool v) = cellsCu (u.put k v) := by
  match k, h with
  | 0, _ => rfl
  | 1, _ => rfl
  | 2, _ => rfl
  | 3, _ => rfl
theorem cellsCus_set {l : List Cu} {i k : Nat} (h : i < l.length) (hk : k < 4) (v : Bool) : (cellsCus l).set (i * 6 + (2 + k)) (.bool v) = cellsCus (l.set i (l[i].put k v)) := by
  induction l generalizing i with
  | nil => cases h
  | cons x l ih =>
    cases i with
    | zero =>
      simp only [List.set_cons_zero, List.getElem_cons_zero]
      rw [cellsCus_cons, cellsCus_cons, ← cellsCu_set x k v hk, List.set_append_left _ _ (by show 0 * 6 + (2 + k) < 6; omega)]
      simp
    | succ i =>
      have ih := ih (i := i) (by simpa using h)
      simp only [List.set_cons_succ, List.getElem_cons_succ]
      rw [cellsCus_cons, cellsCus_cons, ← ih, List.set_append_right _ _ (by show 6 ≤ (i + 1) * 6 + (2 + k); omega)]
      congr 2
      show (i + 1) * 6 + (2 + k) - 6 = _
      omega
theorem cellsCus_take (l : List Cu) (p : Nat) : cellsCus (l.take p) = (cellsCus l).take (p * 6) := by
  induction l generalizing p with
  | nil => simp [cellsCus]
  | cons x l ih =>
    cases p with
    | zero => simp [cellsCus]
    | succ p =>
      rw [List.take_succ_cons, cellsCus_cons, cellsCus_cons, ih, List.take_append]
      have e1 : (p + 1) * 6 - (cellsCu x).length = p * 6 := by show (p + 1) * 6 - 6 = _; omega
      rw [e1, List.take_of_length_le (l := cellsCu x) (by show 6 ≤ (p + 1) * 6; omega)]
theorem cellsCus_drop (l : List Cu) (p : Nat) : cellsCus (l.drop p) = (cellsCus l).drop (p * 6) := by
  induction l generalizing p with
  | nil => simp [cellsCus]
  | cons x l ih =>
    cases p with
    | zero => simp
    | succ p =>
      rw [List.drop_succ_cons, cellsCus_cons, ih, List.drop_append]
      have e1 : (p + 1) * 6 - (cellsCu x).length = p * 6 := by show (p + 1) * 6 - 6 = _; omega
      have e2 : (cellsCu x).drop ((p + 1) * 6) = [] := List.drop_eq_nil_of_le (by show 6 ≤ (p + 1) * 6; omega)
      rw [e1, e2, List.nil_append]
/-- The class of a size. -/
def cls (n : Int) : Nat := if n < 1 ∨ 64 < n then 0 else if n ≤ 16 then 16 else if n ≤ 32 then 32 else 64
/-- What a list of cut frames is. -/
structure Cuts (l : List Cu) : Prop where
  cl : ∀ u ∈ l, u.c = 16 ∨ u.c = 32 ∨ u.c = 64
  up : l.Pairwise (fun a b => a.f < b.f)
  few : l.length ≤ 64
  fs : ∀ u ∈ l, u.f < 64
/-- Whether this piece of a cut frame is taken. -/
def hit (u : Cu) (fr sl sz : Int) : Bool := decide ((u.f : Int) = fr ∧ (u.c : Int) = sz ∧ 0 ≤ sl ∧ sl < ((64 / u.c : Nat) : Int)) && u.tk sl.toNat
/-- The document's slab at block S: its frames' pointer, its row. -/
structure Sr (w : World) (S R : Nat) (l : List Cu) : Prop where
  mem : ∃ a c, w.heap[S]? = some (.cells #[.pointer (some ⟨R, 0, none⟩), .slice a l.length c] 36 (0, 0)) ∧ w.ownsRow 0 78 6 (.slice a l.length c) l.length (cellsCus l) ∧ (∀ g, (Value.slice a l.length c).ownBlock = some g → g ≠ S)
  cuts : Cuts l
theorem Sr.s0 {w : World} {S R : Nat} {l : List Cu} (h : Sr w S R l) : w.cell? ⟨S, 0, none⟩ = some (.pointer (some ⟨R, 0, none⟩)) := by
  obtain ⟨a, c, e, _⟩ := h.mem
  rw [cell_of_row _ _ _ _ _ _ e]; rfl
theorem Sr.lt {w : World} {S R : Nat} {l : List Cu} (h : Sr w S R l) : S < w.heap.size := by obtain ⟨a, c, e, _⟩ := h.mem; exact lt_of_heap e
/-- The row of the cuts, cell by cell. -/
theorem Sr.row {w : World} {S R : Nat} {l : List Cu} (h : Sr w S R l) : ∃ a c, w.cell? ⟨S, 1, none⟩ = some (.slice a l.length c) ∧ (∀ i (hi : i < l.length), ∃ g, a = some ⟨g, 0, none⟩ ∧ w.cell? ⟨g, i * 6, none⟩ = some (.int .i64 (l[i].f : Int)) ∧ w.cell? ⟨g, i * 6 + 1, none⟩ = some (.int .i64 (l[i].c : Int)) ∧ ∀ k, k < 4 → w.cell? ⟨g, i * 6 + 2 + k, none⟩ = some (.bool (l[i].tk k))) := by
  obtain ⟨a, c, e, ho, _⟩ := h.mem
  refine ⟨a, c, by rw [cell_of_row _ _ _ _ _ _ e]; rfl, fun i hi => ?_⟩
  obtain ⟨g, rfl⟩ : ∃ g, a = some ⟨g, 0, none⟩ := by
    rcases ho.2 with ⟨e, h0⟩ | ⟨g, cap, cur, e, _⟩
    · omega
    · injection e with e _ _; exact ⟨g, e⟩
  have hc := fun j (hj : j < 6) => (ho.cellAt (i * 6 + j) (by omega)).trans (cellsCus_at j hi hj)
  refine ⟨g, rfl, by simpa [cellsCu] using hc 0 (by omega), by simpa [cellsCu] using hc 1 (by omega), fun k hk => ?_⟩
  have := hc (2 + k) (by omega)
  rw [cellsCu_tk _ _ hk, ← Nat.add_assoc] at this
  exact this
end Go.Proofs.Ytllapjidnngaeaa
