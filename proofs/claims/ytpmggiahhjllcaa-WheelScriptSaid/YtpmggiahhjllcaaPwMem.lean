/-
  The program's wheel in memory: now, the map of moments, 256 rows.
-/
import Derived.Test.YtpmggiahhjllcaaPwMaps
namespace Go.Proofs.Ytpmggiahhjllcaa
open Go.ChangeShapes Go.WideShapes Go.ChangeAt Go.RowKit
set_option linter.unusedVariables false
def updV {α : Type} (T : Nat → α) (i : Nat) (v : α) : Nat → α := fun j => if j = i then v else T j
theorem updV_same {α : Type} (T : Nat → α) (i : Nat) (v : α) : updV T i v i = v := if_pos rfl
theorem updV_other {α : Type} (T : Nat → α) {i j : Nat} (v : α) (h : j ≠ i) : updV T i v j = T j := if_neg h
def rowsV (T : Nat → Value) (n : Nat) : List Value := (List.range n).map T
theorem rowsV_length (T : Nat → Value) (n : Nat) : (rowsV T n).length = n := by simp [rowsV]
theorem rowsV_at {T : Nat → Value} {n i : Nat} (h : i < n) : (rowsV T n)[i]? = some (T i) := by simp [rowsV, h]
theorem rowsV_set {T : Nat → Value} {n i : Nat} (h : i < n) (v : Value) : (rowsV T n).set i v = rowsV (updV T i v) n := by
  apply List.ext_getElem?
  intro j
  by_cases hj : j < n
  · rw [rowsV_at hj]
    by_cases e : j = i
    · subst e; rw [updV_same, List.getElem?_set_self (by rw [rowsV_length]; exact hj)]
    · rw [updV_other _ _ e, List.getElem?_set_ne (Ne.symm e), rowsV_at hj]
  · rw [List.getElem?_eq_none (by rw [List.length_set, rowsV_length]; omega), List.getElem?_eq_none (by rw [rowsV_length]; omega)]
/-- The wheel's cells. -/
def cellsPw (n : Nat) (mv : Value) (T : Nat → Value) : List Value := .int .i64 (n : Int) :: mv :: rowsV T 256
theorem cellsPw_length (n : Nat) (mv : Value) (T : Nat → Value) : (cellsPw n mv T).length = 258 := by simp [cellsPw, rowsV_length]
theorem cellsPw_at {n : Nat} {mv : Value} {T : Nat → Value} {i : Nat} (h : i < 256) : (cellsPw n mv T)[2 + i]? = some (T i) := by
  rw [show 2 + i = i + 1 + 1 by omega]
  exact rowsV_at h
theorem cellsPw_set {n : Nat} {mv : Value} {T : Nat → Value} {i : Nat} (h : i < 256) (v : Value) : (cellsPw n mv T).set (2 + i) v = cellsPw n mv (updV T i v) := by
  rw [show 2 + i = i + 1 + 1 by omega]
  show _ :: _ :: (rowsV T 256).set i v = _
  rw [rowsV_set h]; rfl
/-- A row of timers' numbers. -/
def idsV (l : List Tm) : List Value := l.map (fun x => Value.int .i64 (x.id : Int))
theorem idsV_length (l : List Tm) : (idsV l).length = l.length := by simp [idsV]
/-- The block of the wheel. -/
def RowW (w : World) (S n : Nat) (mv : Value) (T : Nat → Value) : Prop := w.heap[S]? = some (.cells (cellsPw n mv T).toArray 58 (0, 0))
theorem RowW.now {w : World} {S n : Nat} {mv : Value} {T : Nat → Value} (h : RowW w S n mv T) : w.cell? ⟨S, 0, none⟩ = some (.int .i64 (n : Int)) := by rw [cell_of_row _ _ _ _ _ _ h, List.getElem?_toArray]; rfl
theorem RowW.map {w : World} {S n : Nat} {mv : Value} {T : Nat → Value} (h : RowW w S n mv T) : w.cell? ⟨S, 1, none⟩ = some mv := by rw [cell_of_row _ _ _ _ _ _ h, List.getElem?_toArray]; rfl
theorem RowW.slot {w : World} {S n : Nat} {mv : Value} {T : Nat → Value} (h : RowW w S n mv T) {i : Nat} (hi : i < 256) : w.cell? ⟨S, 2 + i, none⟩ = some (T i) := by rw [cell_of_row _ _ _ _ _ _ h, List.getElem?_toArray, cellsPw_at hi]
theorem RowW.frozen {w : World} {S n : Nat} {mv : Value} {T : Nat → Value} (h : RowW w S n mv T) (q : Nat) : w.frozen? ⟨S, q, none⟩ = false := frozen_of_row _ _ _ _ _ h
theorem RowW.keep {w w' : World} {S n : Nat} {mv : Value} {T : Nat → Value} (h : RowW w S n mv T) (e : w'.heap[S]? = w.heap[S]?) : RowW w' S n mv T := by unfold RowW; rw [e]; exact h
theorem RowW.setNow {w : World} {S n : Nat} {mv : Value} {T : Nat → Value} (h : RowW w S n mv T) (m : Nat) : RowW (w.setCell ⟨S, 0, none⟩ (.int .i64 (m : Int))) S m mv T := by
  unfold RowW
  rw [heap_setCell_same _ _ _ _ _ _ h]
  simp [cellsPw]
theorem RowW.setMap {w : World} {S n : Nat} {mv : Value} {T : Nat → Value} (h : RowW w S n mv T) (v : Value) : RowW (w.setCell ⟨S, 1, none⟩ v) S n v T := by
  unfold RowW
  rw [heap_setCell_same _ _ _ _ _ _ h]
  simp [cellsPw]
theorem RowW.setSlot {w : World} {S n : Nat} {mv : Value} {T : Nat → Value} (h : RowW w S n mv T) {i : Nat} (hi : i < 256) (v : Value) : RowW (w.setCell ⟨S, 2 + i, none⟩ v) S n mv (updV T i v) := by
  unfold RowW
  rw [heap_setCell_same _ _ _ _ _ _ h, ← cellsPw_set hi]
  simp
/-- What the wheel holds: the present moment, the moments by numbers (m of them), the timers by places; its blocks are among U. -/
structure Rw (w : World) (U : Nat → Prop) (S n m : Nat) (f : Int → Option Nat) (L : Nat → List Tm) (mv : Value) (T : Nat → Value) : Prop where
  row : RowW w S n mv T
  map : MapIs w mv m f
  own : ∀ k, k < 256 → w.ownsRow 0 3 1 (T k) (L k).length (idsV (L k))
  dis : ∀ k j g, k < 256 → j < 256 → (T k).ownBlock = some g → (T j).ownBlock = some g → k = j
  uS : U S
  uM : ∀ M, mv = .map (some M) → U M
  uT : ∀ k g, k < 256 → (T k).ownBlock = some g → U g
  lt : ∀ i, U i → i < w.heap.size
theorem own_obj {w : World} {B : Nat} {e : TypeId} {z n : Nat} {v : Value} {xs : List Value} (h : w.ownsRow B e z v n xs) {g : Nat} (hg : v.ownBlock = some g) : ∃ cur, w.heap[g]? = some (.cells cur e (0, 0)) := by
  rcases h.2 with ⟨rfl, _⟩ | ⟨g', cap, cur, rfl, _, e3, _⟩
  · cases hg
  · have : g' = g := Option.some.inj hg
    subst this
    exact ⟨cur, e3⟩
theorem Rw.neSM {w : World} {U : Nat → Prop} {S n m : Nat} {f : Int → Option Nat} {L : Nat → List Tm} {mv : Value} {T : Nat → Value} (h : Rw w U S n m f L mv T) {M : Nat} (e : mv = .map (some M)) : M ≠ S := by
  rcases h.map with ⟨e2, _⟩ | ⟨M', e2, h2⟩
  · rw [e] at e2; cases e2
  · rw [e] at e2; injection e2 with e2; injection e2 with e2; subst e2
    obtain ⟨es, clock, hb⟩ := h2.obj
    rintro rfl
    have hr := h.row
    unfold RowW at hr
    rw [hr] at hb; cases hb
theorem Rw.neTS {w : World} {U : Nat → Prop} {S n m : Nat} {f : Int → Option Nat} {L : Nat → List Tm} {mv : Value} {T : Nat → Value} (h : Rw w U S n m f L mv T) {k g : Nat} (hk : k < 256) (hg : (T k).ownBlock = some g) : g ≠ S := by
  obtain ⟨cur, hb⟩ := own_obj (h.own k hk) hg
  rintro rfl
  have hr := h.row
  unfold RowW at hr
  rw [hr] at hb; injection hb with hb; injection hb with _ hb; revert hb; decide
theorem Rw.neTM {w : World} {U : Nat → Prop} {S n m : Nat} {f : Int → Option Nat} {L : Nat → List Tm} {mv : Value} {T : Nat → Value} (h : Rw w U S n m f L mv T) {k g M : Nat} (hk : k < 256) (hg : (T k).ownBlock = some g) (e : mv = .map (some M)) : g ≠ M := by
  obtain ⟨cur, hb⟩ := own_obj (h.own k hk) hg
  rcases h.map with ⟨e2, _⟩ | ⟨M', e2, h2⟩
  · rw [e] at e2; cases e2
  · rw [e] at e2; injection e2 with e2; injection e2 with e2; subst e2
    obtain ⟨es, clock, hb2⟩ := h2.obj
    rintro rfl
    rw [hb] at hb2; cases hb2
theorem Rw.keep {V U : Nat → Prop} {w w' : World} {S n m : Nat} {f : Int → Option Nat} {L : Nat → List Tm} {mv : Value} {T : Nat → Value} (h : Rw w U S n m f L mv T) (t : Touch V w w') (d : ∀ i, U i → ¬ V i) : Rw w' U S n m f L mv T :=
  ⟨h.row.keep (t.block S (h.lt S h.uS) (d S h.uS)), h.map.keep (fun M e => t.block M (h.lt M (h.uM M e)) (d M (h.uM M e))), fun k hk => t.own (h.own k hk) (fun g hg => d g (h.uT k g hk hg)), h.dis, h.uS, h.uM, h.uT, fun i hi => Nat.lt_of_lt_of_le (h.lt i hi) t.size⟩
theorem Rw.below {U : Nat → Prop} {w w' : World} {S n m : Nat} {f : Int → Option Nat} {L : Nat → List Tm} {mv : Value} {T : Nat → Value} (h : Rw w U S n m f L mv T) (t : Below w.heap.size w w') : Rw w' U S n m f L mv T :=
  h.keep (V := fun _ => False) (Touch.of_below t) (fun _ _ e => e)
/-- The place of a timer that goes off at a, seen from n. -/
def pk (n a : Nat) : Nat := ring n a * 64 + slot n a
theorem pk_lt (n a : Nat) : pk n a < 256 := by have := ring_le n a; have := slot_le n a; unfold pk; omega
/-- What is in memory is the timers. -/
structure Abs (s : Ws) (m : Nat) (f : Int → Option Nat) (L : Nat → List Tm) : Prop where
  good : GoodW s
  cnt : m = s.l.length
  at_ : ∀ id, f id = atOf s.l id
  rows : ∀ k, k < 256 → (L k).Perm (s.l.filter (fun x => pk s.now x.due == k))
  wf : ∀ x ∈ s.l, (Lit.int .i64 (x.id : Int)).wf = true
/-- The program's wheel. -/
def Pw (w : World) (U : Nat → Prop) (S : Nat) (s : Ws) : Prop := ∃ m f L mv T, Rw w U S s.now m f L mv T ∧ Abs s m f L
theorem Pw.keep {V U : Nat → Prop} {w w' : World} {S : Nat} {s : Ws} (h : Pw w U S s) (t : Touch V w w') (d : ∀ i, U i → ¬ V i) : Pw w' U S s := by
  obtain ⟨m, f, L, mv, T, r, a⟩ := h
  exact ⟨m, f, L, mv, T, r.keep t d, a⟩
theorem atOf_mem {l : List Tm} (h : l.Pairwise (fun a b => a.id < b.id)) {x : Tm} (hx : x ∈ l) : atOf l (x.id : Int) = some x.due := by
  obtain ⟨i, hi, rfl⟩ := List.mem_iff_getElem.mp hx
  refine atOf_some hi rfl fun j hj e => ?_
  have := up_getElem h (show j < l.length by omega) hi hj
  omega
theorem atOf_inv {l : List Tm} {id : Int} {a : Nat} (h : atOf l id = some a) : ∃ x ∈ l, (x.id : Int) = id ∧ x.due = a := by
  unfold atOf at h
  cases hf : l.find? (fun x => (x.id : Int) == id) with
  | none => rw [hf] at h; cases h
  | some x =>
    rw [hf] at h
    exact ⟨x, List.mem_of_find?_eq_some hf, by simpa using List.find?_some hf, Option.some.inj h⟩
theorem atOf_isSome (l : List Tm) (id : Int) : (atOf l id).isSome = armed l id := by
  rw [Bool.eq_iff_iff, armed_iff]
  constructor
  · intro h
    obtain ⟨a, ha⟩ := Option.isSome_iff_exists.mp h
    obtain ⟨x, hx, e, _⟩ := atOf_inv ha
    exact ⟨x, hx, e⟩
  · rintro ⟨x, hx, e⟩
    cases h : atOf l id with
    | some a => rfl
    | none =>
      unfold atOf at h
      cases hf : l.find? (fun x => (x.id : Int) == id) with
      | none => have := List.find?_eq_none.mp hf x hx; simp at this; exact absurd e this
      | some y => rw [hf] at h; cases h
end Go.Proofs.Ytpmggiahhjllcaa
