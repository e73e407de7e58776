/-
  Timers, as a list by rising numbers: plain words and facts (stage 6).
-/
import Derived.Test.YtpmggiahhjllcaaTouch
namespace Go.Proofs.Ytpmggiahhjllcaa
open Go.ChangeShapes Go.WideShapes Go.ChangeAt Go.RowKit
set_option linter.unusedVariables false
/-- A timer: its number, its moment. -/
structure Tm where
  id : Nat
  due : Nat
/-- The last moment and one. -/
def maxT : Nat := 16777216
/-- The present moment, the timers. -/
structure Ws where
  now : Nat
  l : List Tm
structure GoodW (s : Ws) : Prop where
  n : s.now < 16777216
  up : s.l.Pairwise (fun a b => a.id < b.id)
  lt : ∀ x ∈ s.l, s.now < x.due ∧ x.due < 16777216
  few : s.l.length ≤ 64
/-- Digit k of a moment, base 64. -/
def dig (n : Nat) : Nat → Nat
  | 0 => n % 64
  | k + 1 => dig (n / 64) k
theorem dig_eq (n k : Nat) : dig n k = n / 64 ^ k % 64 := by
  induction k generalizing n with
  | zero => simp [dig]
  | succ k ih => rw [dig, ih, Nat.div_div_eq_div_mul, Nat.pow_succ, Nat.mul_comm]
theorem dig_lt (n k : Nat) : dig n k < 64 := by rw [dig_eq]; exact Nat.mod_lt _ (by omega)
/-- The ring of a moment, seen from another one. -/
def ring (n a : Nat) : Nat := if dig n 3 ≠ dig a 3 then 3 else if dig n 2 ≠ dig a 2 then 2 else if dig n 1 ≠ dig a 1 then 1 else 0
def slot (n a : Nat) : Nat := dig a (ring n a)
theorem ring_le (n a : Nat) : ring n a ≤ 3 := by
  unfold ring
  split
  · omega
  · split
    · omega
    · split <;> omega
theorem slot_le (n a : Nat) : slot n a < 64 := dig_lt _ _
/-- The place of a number in the list; -1. -/
def pos (l : List Tm) (id : Int) : Int := match l.findIdx? (fun x => (x.id : Int) == id) with | some i => (i : Int) | none => -1
def armed (l : List Tm) (id : Int) : Bool := l.any (fun x => (x.id : Int) == id)
theorem pos_cases (l : List Tm) (id : Int) : (∃ i, ∃ (hi : i < l.length), (l[i].id : Int) = id ∧ (∀ j (hj : j < i), ((l[j]'(by omega)).id : Int) ≠ id) ∧ pos l id = (i : Int) ∧ armed l id = true) ∨ ((∀ x ∈ l, (x.id : Int) ≠ id) ∧ pos l id = -1 ∧ armed l id = false) := by
  unfold pos armed
  cases h : l.findIdx? (fun x => (x.id : Int) == id) with
  | none =>
    rw [List.findIdx?_eq_none_iff] at h
    refine .inr ⟨fun x hx => by simpa using h x hx, rfl, ?_⟩
    rw [List.any_eq_false]
    intro x hx
    simpa using h x hx
  | some i =>
    rw [List.findIdx?_eq_some_iff_getElem] at h
    obtain ⟨hi, h1, h2⟩ := h
    refine .inl ⟨i, hi, by simpa using h1, fun j hj => by simpa using h2 j hj, rfl, ?_⟩
    rw [List.any_eq_true]
    exact ⟨l[i], List.getElem_mem hi, h1⟩
theorem armed_iff (l : List Tm) (id : Int) : armed l id = true ↔ ∃ x ∈ l, (x.id : Int) = id := by
  unfold armed; rw [List.any_eq_true]; simp
/-- What Arm answers. -/
def armE (s : Ws) (id a : Int) : Nat := if id < 0 ∨ a ≤ (s.now : Int) ∨ 16777216 ≤ a then 2 else if armed s.l id then 5 else if s.l.length = 64 then 3 else 0
/-- Where a number belongs. -/
def plc (l : List Tm) (id : Nat) : Nat := l.countP (fun x => decide (x.id < id))
def ins (l : List Tm) (x : Tm) : List Tm := l.take (plc l x.id) ++ x :: l.drop (plc l x.id)
def armS (s : Ws) (id a : Int) : Ws := if armE s id a = 0 then ⟨s.now, ins s.l ⟨id.toNat, a.toNat⟩⟩ else s
def canS (s : Ws) (id : Int) : Ws := ⟨s.now, s.l.filter (fun x => !((x.id : Int) == id))⟩
def gone (s : Ws) : List Nat := (s.l.filter (fun x => x.due == s.now + 1)).map (·.id)
def rest (s : Ws) : List Tm := s.l.filter (fun x => !(x.due == s.now + 1))
def moved (s : Ws) : Nat := (rest s).countP (fun x => ring s.now x.due != ring (s.now + 1) x.due)
def tickS (s : Ws) : Ws := if s.now = 16777215 then s else ⟨s.now + 1, rest s⟩
/-- At the last moment there are no timers. -/
theorem GoodW.last {s : Ws} (h : GoodW s) (e : s.now = 16777215) : s.l = [] := by
  cases hl : s.l with
  | nil => rfl
  | cons x l =>
    have := h.lt x (by rw [hl]; exact List.mem_cons_self)
    omega
/-- The list's order by places. -/
theorem up_getElem {l : List Tm} (h : l.Pairwise (fun a b => a.id < b.id)) {i j : Nat} (hi : i < l.length) (hj : j < l.length) (hij : i < j) : l[i].id < l[j].id := List.pairwise_iff_getElem.mp h i j hi hj hij
theorem plc_le (l : List Tm) (id : Nat) : plc l id ≤ l.length := List.countP_le_length
theorem plc_spec {l : List Tm} (h : l.Pairwise (fun a b => a.id < b.id)) (id : Nat) : (∀ j (hj : j < l.length), j < plc l id → l[j].id < id) ∧ (∀ j (hj : j < l.length), plc l id ≤ j → id ≤ l[j].id) := by
  induction l with
  | nil => exact ⟨(fun j hj => by cases hj), (fun j hj => by cases hj)⟩
  | cons x l ih =>
    obtain ⟨h1, h2⟩ := List.pairwise_cons.mp h
    obtain ⟨i1, i2⟩ := ih h2
    by_cases hx : x.id < id
    · have e : plc (x :: l) id = plc l id + 1 := by unfold plc; rw [List.countP_cons_of_pos (by simpa using hx)]
      refine ⟨fun j hj hp => ?_, fun j hj hp => ?_⟩
      · cases j with
        | zero => exact hx
        | succ j => exact i1 j (by simpa using hj) (by omega)
      · cases j with
        | zero => omega
        | succ j => exact i2 j (by simpa using hj) (by omega)
    · have e : plc (x :: l) id = 0 := by
        unfold plc
        rw [List.countP_cons_of_neg (by simpa using hx), List.countP_eq_zero]
        intro y hy
        have := h1 y hy
        simp; omega
      refine ⟨fun j hj hp => by omega, fun j hj hp => ?_⟩
      cases j with
      | zero => exact Nat.le_of_not_lt hx
      | succ j =>
        have := h1 _ (List.getElem_mem (show j < l.length by simpa using hj))
        have hj2 : j < l.length := by simpa using hj
        show id ≤ (l[j]'hj2).id
        omega
theorem mem_ins (l : List Tm) (x y : Tm) : y ∈ ins l x ↔ y ∈ l ∨ y = x := by
  unfold ins
  rw [List.mem_append, List.mem_cons]
  constructor
  · rintro (h | rfl | h)
    · exact .inl (List.mem_of_mem_take h)
    · exact .inr rfl
    · exact .inl (List.mem_of_mem_drop h)
  · rintro (h | rfl)
    · rw [← List.take_append_drop (plc l x.id) l, List.mem_append] at h
      rcases h with h | h
      · exact .inl h
      · exact .inr (.inr h)
    · exact .inr (.inl rfl)
theorem ins_len (l : List Tm) (x : Tm) : (ins l x).length = l.length + 1 := by
  unfold ins
  have := plc_le l x.id
  rw [List.length_append, List.length_cons, List.length_take, List.length_drop]; omega
theorem ins_up {l : List Tm} (h : l.Pairwise (fun a b => a.id < b.id)) {x : Tm} (hx : ∀ y ∈ l, y.id ≠ x.id) : (ins l x).Pairwise (fun a b => a.id < b.id) := by
  obtain ⟨h1, h2⟩ := plc_spec h x.id
  unfold ins
  rw [List.pairwise_append]
  refine ⟨h.sublist (List.take_sublist _ _), List.pairwise_cons.mpr ⟨fun y hy => ?_, h.sublist (List.drop_sublist _ _)⟩, fun a ha b hb => ?_⟩
  · obtain ⟨j, hj, rfl⟩ := List.mem_iff_getElem.mp hy
    rw [List.getElem_drop]
    rw [List.length_drop] at hj
    have := h2 (plc l x.id + j) (by omega) (by omega)
    have := hx _ (List.getElem_mem (show plc l x.id + j < l.length by omega))
    omega
  · obtain ⟨i, hi, rfl⟩ := List.mem_iff_getElem.mp ha
    rw [List.getElem_take]
    rw [List.length_take] at hi
    have h3 := h1 i (by omega) (by omega)
    rcases List.mem_cons.mp hb with rfl | hb
    · exact h3
    · obtain ⟨j, hj, rfl⟩ := List.mem_iff_getElem.mp hb
      rw [List.getElem_drop]
      rw [List.length_drop] at hj
      exact up_getElem h _ _ (by omega)
theorem armE_zero {s : Ws} {id a : Int} (h : armE s id a = 0) : 0 ≤ id ∧ (s.now : Int) < a ∧ a < 16777216 ∧ armed s.l id = false ∧ s.l.length ≠ 64 := by
  unfold armE at h
  split at h
  · cases h
  · rename_i h1
    split at h
    · cases h
    · rename_i h2
      split at h
      · cases h
      · rename_i h3
        exact ⟨by omega, by omega, by omega, by simpa using h2, h3⟩
theorem good_arm {s : Ws} (h : GoodW s) (id a : Int) : GoodW (armS s id a) := by
  unfold armS
  split
  · rename_i e
    obtain ⟨h1, h2, h3, h4, h5⟩ := armE_zero e
    refine ⟨h.n, ins_up h.up (fun y hy e2 => ?_), fun x hx => ?_, by rw [ins_len]; have := h.few; show s.l.length + 1 ≤ 64; omega⟩
    · have : armed s.l id = true := (armed_iff _ _).mpr ⟨y, hy, by have e2 : y.id = id.toNat := e2; omega⟩
      rw [h4] at this; cases this
    · rcases (mem_ins _ _ _).mp hx with hx | rfl
      · exact h.lt x hx
      · exact ⟨by show s.now < a.toNat; omega, by show a.toNat < _; omega⟩
  · exact h
theorem good_can {s : Ws} (h : GoodW s) (id : Int) : GoodW (canS s id) :=
  ⟨h.n, h.up.sublist (List.filter_sublist), fun x hx => h.lt x (List.mem_filter.mp hx).1, Nat.le_trans (List.length_filter_le _ _) h.few⟩
theorem good_tick {s : Ws} (h : GoodW s) : GoodW (tickS s) := by
  unfold tickS
  split
  · exact h
  · rename_i e
    have := h.n
    refine ⟨by show s.now + 1 < _; omega, h.up.sublist (List.filter_sublist), fun x hx => ?_, Nat.le_trans (List.length_filter_le _ _) h.few⟩
    obtain ⟨h1, h2⟩ := List.mem_filter.mp hx
    have h3 := h.lt x h1
    have h4 : x.due ≠ s.now + 1 := by simpa using h2
    exact ⟨by show s.now + 1 < _; omega, h3.2⟩
theorem filter_split {α : Type} (p : α → Bool) (l : List α) : (l.filter p).length + (l.filter (fun x => !p x)).length = l.length := by
  induction l with
  | nil => rfl
  | cons x l ih =>
    cases h : p x with
    | true => simp only [List.filter, h, Bool.not_true, List.length_cons]; omega
    | false => simp only [List.filter, h, Bool.not_false, List.length_cons]; omega
theorem gone_len (s : Ws) : (gone s).length + (rest s).length = s.l.length := by
  unfold gone rest
  rw [List.length_map]
  exact filter_split _ _
theorem good_new (n : Nat) (h : n < 16777216) : GoodW ⟨n, []⟩ := ⟨h, List.Pairwise.nil, fun x hx => absurd hx List.not_mem_nil, Nat.zero_le _⟩
end Go.Proofs.Ytpmggiahhjllcaa
