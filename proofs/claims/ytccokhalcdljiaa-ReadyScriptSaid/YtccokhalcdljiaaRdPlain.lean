/-
  Numbers by priorities, as a list in order: plain words and facts (stage 8).
-/
import Derived.Test.YtccokhalcdljiaaPrBoth
namespace Go.Proofs.Ytccokhalcdljiaa
open Go.ChangeShapes Go.WideShapes Go.ChangeAt Go.RowKit
set_option linter.unusedVariables false
/-- A number, its priority. -/
structure Rt where
  id : Nat
  p : Pr
/-- Does a stand ahead of b? -/
def aheadR (a b : Rt) : Bool := decide (0 < cmpP a.p b.p ∨ cmpP a.p b.p = 0 ∧ a.id < b.id)
theorem aheadR_trans {a b c : Rt} (h1 : aheadR a b = true) (h2 : aheadR b c = true) : aheadR a c = true := by
  unfold aheadR at *
  simp only [decide_eq_true_eq] at *
  have h3 := cmpP_trans (a := a.p) (b := b.p) (c := c.p) (by omega) (by omega)
  rcases h1 with h1 | ⟨h1, h1'⟩
  · exact .inl (h3.2 (.inl h1))
  · rcases h2 with h2 | ⟨h2, h2'⟩
    · exact .inl (h3.2 (.inr h2))
    · by_cases e : 0 < cmpP a.p c.p
      · exact .inl e
      · exact .inr ⟨by omega, by omega⟩
theorem aheadR_irrefl (a : Rt) : aheadR a a = false := by unfold aheadR; rw [cmpP_self]; simp
theorem aheadR_asymm {a b : Rt} (h : aheadR a b = true) : aheadR b a = false := by
  cases e : aheadR b a with
  | false => rfl
  | true => have := aheadR_trans h e; rw [aheadR_irrefl] at this; cases this
theorem aheadR_total {a b : Rt} (h : a.id ≠ b.id) (e : aheadR a b = false) : aheadR b a = true := by
  unfold aheadR at *
  simp only [decide_eq_true_eq, decide_eq_false_iff_not] at *
  rw [cmpP_swap a.p b.p]
  omega
/-- The list is in order, each number once; all may be. -/
structure GoodR (l : List Rt) : Prop where
  up : l.Pairwise (fun a b => aheadR a b = true)
  one : l.Pairwise (fun a b => a.id ≠ b.id)
  wf : ∀ x ∈ l, (Lit.int .i64 (x.id : Int)).wf = true ∧ PrWf x.p
  may : ∀ x ∈ l, mayP x.p = true
def hasR (l : List Rt) (id : Int) : Bool := l.any (fun x => (x.id : Int) == id)
def posR (l : List Rt) (id : Int) : Int := match l.findIdx? (fun x => (x.id : Int) == id) with | some i => (i : Int) | none => -1
theorem posR_cases (l : List Rt) (id : Int) : (∃ i, ∃ (hi : i < l.length), (l[i].id : Int) = id ∧ (∀ j (hj : j < i), ((l[j]'(by omega)).id : Int) ≠ id) ∧ posR l id = (i : Int) ∧ hasR l id = true) ∨ ((∀ x ∈ l, (x.id : Int) ≠ id) ∧ posR l id = -1 ∧ hasR l id = false) := by
  unfold posR hasR
  cases h : l.findIdx? (fun x => (x.id : Int) == id) with
  | none =>
    rw [List.findIdx?_eq_none_iff] at h
    refine .inr ⟨fun x hx => by simpa using h x hx, rfl, ?_⟩
    rw [List.any_eq_false]
    intro x hx
    simpa using h x hx
  | some i =>
    rw [List.findIdx?_eq_some_iff_getElem] at h
    obtain ⟨hi, h1, h2⟩ := h
    refine .inl ⟨i, hi, by simpa using h1, fun j hj => by simpa using h2 j hj, rfl, ?_⟩
    rw [List.any_eq_true]
    exact ⟨l[i], List.getElem_mem hi, h1⟩
theorem hasR_iff (l : List Rt) (id : Int) : hasR l id = true ↔ ∃ x ∈ l, (x.id : Int) = id := by unfold hasR; rw [List.any_eq_true]; simp
/-- Where x belongs. -/
def plcR (l : List Rt) (x : Rt) : Nat := l.findIdx (fun y => aheadR x y)
def insR (l : List Rt) (x : Rt) : List Rt := l.take (plcR l x) ++ x :: l.drop (plcR l x)
theorem plcR_le (l : List Rt) (x : Rt) : plcR l x ≤ l.length := List.findIdx_le_length
theorem plcR_lo {l : List Rt} {x : Rt} {j : Nat} (hj : j < l.length) (h : j < plcR l x) : aheadR x l[j] = false := by
  have := List.not_of_lt_findIdx (p := fun y => aheadR x y) (xs := l) h
  simpa using this
theorem plcR_at {l : List Rt} {x : Rt} (h : plcR l x < l.length) : aheadR x l[plcR l x] = true :=
  List.findIdx_getElem (p := fun y => aheadR x y) (w := h)
theorem mem_insR (l : List Rt) (x y : Rt) : y ∈ insR l x ↔ y ∈ l ∨ y = x := by
  unfold insR
  rw [List.mem_append, List.mem_cons]
  constructor
  · rintro (h | rfl | h)
    · exact .inl (List.mem_of_mem_take h)
    · exact .inr rfl
    · exact .inl (List.mem_of_mem_drop h)
  · rintro (h | rfl)
    · rw [← List.take_append_drop (plcR l x) l, List.mem_append] at h
      rcases h with h | h
      · exact .inl h
      · exact .inr (.inr h)
    · exact .inr (.inl rfl)
theorem insR_len (l : List Rt) (x : Rt) : (insR l x).length = l.length + 1 := by
  unfold insR
  have := plcR_le l x
  rw [List.length_append, List.length_cons, List.length_take, List.length_drop]; omega
theorem insR_perm (l : List Rt) (x : Rt) : (insR l x).Perm (x :: l) := by
  unfold insR
  refine List.perm_middle.trans ?_
  rw [List.take_append_drop]
theorem good_ins {l : List Rt} (h : GoodR l) {x : Rt} (hx : ∀ y ∈ l, y.id ≠ x.id) (hw : (Lit.int .i64 (x.id : Int)).wf = true ∧ PrWf x.p) (hm : mayP x.p = true) : GoodR (insR l x) := by
  refine ⟨?_, ?_, fun y hy => ?_, fun y hy => ?_⟩
  · unfold insR
    rw [List.pairwise_append]
    have hlo : ∀ a ∈ l.take (plcR l x), aheadR a x = true := fun a ha => by
      obtain ⟨i, hi, rfl⟩ := List.mem_iff_getElem.mp ha
      rw [List.length_take] at hi
      rw [List.getElem_take]
      exact aheadR_total (hx _ (List.getElem_mem (by omega))).symm (plcR_lo (by omega) (by omega))
    have hhi : ∀ b ∈ l.drop (plcR l x), aheadR x b = true := fun b hb => by
      obtain ⟨j, hj, rfl⟩ := List.mem_iff_getElem.mp hb
      rw [List.length_drop] at hj
      rw [List.getElem_drop]
      have h1 := plcR_at (l := l) (x := x) (by omega)
      by_cases e : j = 0
      · subst e; exact h1
      · exact aheadR_trans h1 (List.pairwise_iff_getElem.mp h.up _ _ (by omega) (by omega) (by omega))
    refine ⟨h.up.sublist (List.take_sublist _ _), List.pairwise_cons.mpr ⟨hhi, h.up.sublist (List.drop_sublist _ _)⟩, fun a ha b hb => ?_⟩
    rcases List.mem_cons.mp hb with rfl | hb
    · exact hlo a ha
    · exact aheadR_trans (hlo a ha) (hhi b hb)
  · refine (insR_perm l x).symm.pairwise ?_ (fun h e => h e.symm)
    exact List.pairwise_cons.mpr ⟨fun y hy e => hx y hy e.symm, h.one⟩
  · rcases (mem_insR _ _ _).mp hy with hy | rfl
    · exact h.wf y hy
    · exact hw
  · rcases (mem_insR _ _ _).mp hy with hy | rfl
    · exact h.may y hy
    · exact hm
def dropR (l : List Rt) (id : Int) : List Rt := l.filter (fun x => !((x.id : Int) == id))
theorem good_drop {l : List Rt} (h : GoodR l) (id : Int) : GoodR (dropR l id) :=
  ⟨h.up.sublist List.filter_sublist, h.one.sublist List.filter_sublist, fun x hx => h.wf x (List.mem_filter.mp hx).1, fun x hx => h.may x (List.mem_filter.mp hx).1⟩
theorem good_nil : GoodR [] := ⟨List.Pairwise.nil, List.Pairwise.nil, (fun x hx => by cases hx), (fun x hx => by cases hx)⟩
theorem dropR_none {l : List Rt} {id : Int} (h : ∀ x ∈ l, (x.id : Int) ≠ id) : dropR l id = l := by
  unfold dropR
  rw [List.filter_eq_self]
  intro x hx
  have := h x hx
  simpa using this
theorem dropR_at {l : List Rt} {id : Int} {i : Nat} (hi : i < l.length) (e : (l[i].id : Int) = id) (hu : l.Pairwise (fun a b => a.id ≠ b.id)) : dropR l id = l.take i ++ l.drop (i + 1) := by
  unfold dropR
  have h1 : l = l.take i ++ l[i] :: l.drop (i + 1) := by rw [← List.drop_eq_getElem_cons hi, List.take_append_drop]
  conv => lhs; rw [h1]
  rw [List.filter_append, List.filter_cons_of_neg (by simp [e])]
  congr 1
  · rw [List.filter_eq_self]
    intro x hx
    obtain ⟨j, hj, rfl⟩ := List.mem_iff_getElem.mp hx
    rw [List.getElem_take]
    rw [List.length_take] at hj
    have := List.pairwise_iff_getElem.mp hu j i (by omega) hi (by omega)
    simp; omega
  · rw [List.filter_eq_self]
    intro x hx
    obtain ⟨j, hj, rfl⟩ := List.mem_iff_getElem.mp hx
    rw [List.getElem_drop]
    rw [List.length_drop] at hj
    have := List.pairwise_iff_getElem.mp hu i (i + 1 + j) hi (by omega) (by omega)
    simp; omega
/-- What Add and Change answer, what is then. -/
def addE (l : List Rt) (id : Int) (p : Pr) : Nat := if id < 0 ∨ mayP p = false then 2 else if hasR l id = true then 5 else 0
def addR (l : List Rt) (id : Int) (p : Pr) : List Rt := if addE l id p = 0 then insR l ⟨id.toNat, p⟩ else l
def chgE (l : List Rt) (id : Int) (p : Pr) : Nat := if mayP p = false then 2 else if hasR l id = true then 0 else 4
def chgR (l : List Rt) (id : Int) (p : Pr) : List Rt := if chgE l id p = 0 then insR (dropR l id) ⟨id.toNat, p⟩ else l
theorem addE_zero {l : List Rt} {id : Int} {p : Pr} (h : addE l id p = 0) : 0 ≤ id ∧ mayP p = true ∧ hasR l id = false := by
  unfold addE at h
  split at h
  · cases h
  · rename_i h1
    split at h
    · cases h
    · rename_i h2
      exact ⟨by omega, by simpa using fun e => h1 (.inr e), by simpa using h2⟩
theorem good_add {l : List Rt} (h : GoodR l) {id : Int} {p : Pr} (hid : (Lit.int .i64 id).wf = true) (hp : PrWf p) : GoodR (addR l id p) := by
  unfold addR
  split
  · rename_i e
    obtain ⟨h1, h2, h3⟩ := addE_zero e
    have e1 : ((id.toNat : Nat) : Int) = id := by omega
    refine good_ins h (fun y hy e2 => ?_) ⟨by show (Lit.int .i64 ((id.toNat : Nat) : Int)).wf = true; rw [e1]; exact hid, hp⟩ h2
    have : hasR l id = true := (hasR_iff _ _).mpr ⟨y, hy, by have e2 : y.id = id.toNat := e2; omega⟩
    rw [h3] at this; cases this
  · exact h
theorem hasR_drop (l : List Rt) (id : Int) : hasR (dropR l id) id = false := by
  cases e : hasR (dropR l id) id with
  | false => rfl
  | true =>
    obtain ⟨x, hx, h⟩ := (hasR_iff _ _).mp e
    have := (List.mem_filter.mp hx).2
    simp [h] at this
theorem hasR_nonneg {l : List Rt} {id : Int} (h : hasR l id = true) : 0 ≤ id := by
  obtain ⟨x, _, e⟩ := (hasR_iff _ _).mp h
  omega
theorem chg_add {l : List Rt} {id : Int} {p : Pr} (h : chgE l id p = 0) : addE (dropR l id) id p = 0 ∧ chgR l id p = addR (dropR l id) id p := by
  have h2 : mayP p = true ∧ hasR l id = true := by
    unfold chgE at h
    split at h
    · cases h
    · rename_i h1
      split at h
      · rename_i h2; exact ⟨by simpa using h1, h2⟩
      · cases h
  have e : addE (dropR l id) id p = 0 := by
    unfold addE
    have := hasR_nonneg h2.2
    rw [if_neg (by rw [h2.1]; simp; omega), hasR_drop]; rfl
  exact ⟨e, by unfold chgR addR; rw [if_pos h, if_pos e]⟩
theorem good_chg {l : List Rt} (h : GoodR l) {id : Int} {p : Pr} (hid : (Lit.int .i64 id).wf = true) (hp : PrWf p) : GoodR (chgR l id p) := by
  by_cases e : chgE l id p = 0
  · rw [(chg_add e).2]; exact good_add (good_drop h id) hid hp
  · unfold chgR; rw [if_neg e]; exact h
def firstR (l : List Rt) : Int × Bool := match l with | [] => (0, false) | x :: _ => ((x.id : Int), true)
def allR (l : List Rt) : List Int := l.map (fun x => (x.id : Int))
end Go.Proofs.Ytccokhalcdljiaa
