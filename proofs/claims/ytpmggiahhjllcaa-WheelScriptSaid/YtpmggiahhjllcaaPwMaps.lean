/-
  A map from integers to small numbers, in memory (the program's wheel's moments); nil let in.
-/
import Derived.Test.YtpmggiahhjllcaaWhBoth
namespace Go.Proofs.Ytpmggiahhjllcaa
open Go.ChangeShapes Go.WideShapes Go.ChangeAt Go.RowKit Go.Maps
set_option linter.unusedVariables false
def updM (f : Int → Option Nat) (k : Int) (v : Nat) : Int → Option Nat := fun x => if x = k then some v else f x
def delM (f : Int → Option Nat) (k : Int) : Int → Option Nat := fun x => if x = k then none else f x
theorem keyLaw : Keyed Try.prog 3 := int_keyed Try.underlying3
theorem zeroInt (w : World) : (zeroValue 3).run Try.prog w = .ok (.int .i64 0) w := by kernel_rfl
def Moms (w : World) (M n : Nat) (f : Int → Option Nat) : Prop :=
  ∃ D : DataW Unit, w.ownsMap Try.prog 3 (plainElem Try.prog 3) M n D ∧ Maps.size D = n ∧
    ∀ k, (Lit.int .i64 k).wf = true → Maps.has D (.int .i64 k) = (f k).isSome ∧ ∀ v, f k = some v → D.atKey (.int .i64 k) (.lit (.int .i64 0)) = .lit (.int .i64 v)
theorem Moms.lt {w : World} {M n : Nat} {f : Int → Option Nat} (h : Moms w M n f) : M < w.heap.size := by obtain ⟨D, hD, _⟩ := h; exact hD.lt
theorem Moms.obj {w : World} {M n : Nat} {f : Int → Option Nat} (h : Moms w M n f) : ∃ es clock, w.heap[M]? = some (.map es clock) := by
  obtain ⟨D, ⟨es, clock, hb, _⟩, _⟩ := h; exact ⟨es, clock, hb⟩
theorem Moms.made (w : World) : Moms (w.alloc (.map #[] 0)) w.heap.size 0 (fun _ => none) :=
  ⟨.map [], World.ownsMap_made _ _ _ _, rfl, fun k _ => ⟨rfl, fun v h => by cases h⟩⟩
theorem Moms.keep {w w' : World} {M n : Nat} {f : Int → Option Nat} (h : Moms w M n f) (e : w'.heap[M]? = w.heap[M]?) : Moms w' M n f := by
  obtain ⟨D, ⟨es, clock, hb, r⟩, rest⟩ := h
  exact ⟨D, ⟨es, clock, e.trans hb, r⟩, rest⟩
theorem Moms.store {w : World} {M n : Nat} {f : Int → Option Nat} (h : Moms w M n f) (hn : n < 1000000) (k : Int) (hk : (Lit.int .i64 k).wf = true) (v : Nat) (hv : v < 16777216) (hf0 : f k = none) :
    ∃ w', (Instr.mapUpdate 54 (.map (some M)) (.int .i64 k) (.int .i64 v)).run Try.prog w = .ok () w' ∧ Moms w' M (n + 1) (updM f k v) ∧ w.grownBy w' (some M) := by
  obtain ⟨D, hD, hs, hf⟩ := h
  have hw : (Lit.int .i64 (v : Int)).wf = true := by simp [Lit.wf, IntKind.min, IntKind.max, IntKind.bits, IntKind.signed]; omega
  have hkey : keyOf Try.prog 3 (.int .i64 k) = some (.int .i64 k) := keyOf_int_mk Try.underlying3 hk
  have hI : WideAt.IsKeyLit (Lit.int .i64 k) := trivial
  obtain ⟨w', hrun, ho, hg⟩ := hD.update keyLaw Try.underlying54 (by unfold maxLen; omega) hkey (plainElem_int Try.underlying3 hw)
  have hT := hD.tidy keyLaw
  have hS : Maps.size (D.put (.int .i64 k) (.lit (.int .i64 v))) = n + 1 := by
    rw [size_put hT, (hf k hk).1, hs, hf0]; rfl
  refine ⟨w', hrun, ⟨_, ?_, hS, fun x hx => ?_⟩, hg⟩
  · have hz := ho.size_le
    rw [← hS]
    obtain ⟨es, clock, hb, F, hle, hd⟩ := ho
    refine ⟨es, clock, hb, F, ?_, hd⟩
    rw [hd]
    simp [Maps.size, length_sorted]
  · unfold updM
    by_cases e : x = k
    · subst e
      rw [has_put_same hD.isMap hI, if_pos rfl]
      refine ⟨rfl, fun u hu => ?_⟩
      rw [← Option.some.inj hu]
      exact atKey_put_same hD.isMap hI _ _
    · have hne : (Lit.int .i64 x) ≠ (Lit.int .i64 k) := fun e' => by injection e' with _ e'; exact e e'
      rw [has_put_other hne, if_neg e]
      refine ⟨(hf x hx).1, fun u hu => ?_⟩
      rw [atKey_put_other hne]
      exact (hf x hx).2 u hu
theorem Moms.drop {w : World} {M n : Nat} {f : Int → Option Nat} (h : Moms w M n f) (k : Int) (hk : (Lit.int .i64 k).wf = true) (hf1 : (f k).isSome = true) (ty : TypeId) :
    ∃ w', (Builtin.delete_ #[54, 3] ty #[.map (some M), .int .i64 k]).run Try.prog w = .ok (.tuple #[]) w' ∧ Moms w' M (n - 1) (delM f k) ∧ w.grownBy w' (some M) := by
  obtain ⟨D, hD, hs, hf⟩ := h
  have hkey : keyOf Try.prog 3 (.int .i64 k) = some (.int .i64 k) := keyOf_int_mk Try.underlying3 hk
  obtain ⟨w', hrun, ho, hg⟩ := hD.drop keyLaw Try.underlying54 hkey ty
  have hT := hD.tidy keyLaw
  have hS : Maps.size (D.del (.int .i64 k)) = n - 1 := by
    have := size_del (k := .int .i64 k) hT
    rw [(hf k hk).1, hf1, hs] at this
    simp at this
    omega
  refine ⟨w', hrun, ⟨_, ?_, hS, fun x hx => ?_⟩, hg.grown⟩
  · rw [← hS]
    obtain ⟨es, clock, hb, F, hle, hd⟩ := ho
    refine ⟨es, clock, hb, F, ?_, hd⟩
    rw [hd]
    simp [Maps.size, length_sorted]
  · unfold delM
    by_cases e : x = k
    · subst e
      rw [has_del_same, if_pos rfl]
      exact ⟨rfl, fun u hu => by cases hu⟩
    · have hne : (Lit.int .i64 x) ≠ (Lit.int .i64 k) := fun e' => by injection e' with _ e'; exact e e'
      rw [has_del_other hne, if_neg e]
      refine ⟨(hf x hx).1, fun u hu => ?_⟩
      rw [atKey_del_other hne]
      exact (hf x hx).2 u hu
theorem Moms.look {w : World} {M n : Nat} {f : Int → Option Nat} (h : Moms w M n f) (k : Int) (hk : (Lit.int .i64 k).wf = true) :
    (Instr.lookup 54 (.map (some M)) (.int .i64 k) true).run Try.prog w = .ok (.tuple #[.int .i64 (((f k).getD 0 : Nat) : Int), .bool (f k).isSome]) w := by
  obtain ⟨D, hD, hs, hf⟩ := h
  have hkey : keyOf Try.prog 3 (.int .i64 k) = some (.int .i64 k) := keyOf_int_mk Try.underlying3 hk
  have hw0 : (Lit.int .i64 0).wf = true := by decide
  obtain ⟨v, ps, hrun, hv⟩ := hD.look_ok keyLaw Try.underlying54 (zeroInt w) (plainElem_int Try.underlying3 hw0) hkey
  obtain ⟨c, rfl, hc, _⟩ := plainElem_int_inv Try.underlying3 hv
  simp only [Prod.mk.injEq] at hc
  rw [hrun, (hf k hk).1]
  cases e : f k with
  | none =>
    have hh : Maps.has D (.int .i64 k) = false := by rw [(hf k hk).1, e]; rfl
    rw [atKey_of_not_has hh] at hc
    have hc0 : (DataW.lit (.int .i64 0) : DataW Unit) = .lit (.int .i64 c) := hc.1
    simp only [DataW.lit.injEq, Lit.int.injEq, true_and] at hc0
    rw [← hc0]; rfl
  | some u =>
    have := (hf k hk).2 u e
    rw [hc.1] at this
    simp only [DataW.lit.injEq, Lit.int.injEq, true_and] at this
    rw [this]; rfl
theorem Moms.look1 {w : World} {M n : Nat} {f : Int → Option Nat} (h : Moms w M n f) (k : Int) (hk : (Lit.int .i64 k).wf = true) :
    (Instr.lookup 54 (.map (some M)) (.int .i64 k) false).run Try.prog w = .ok (.int .i64 (((f k).getD 0 : Nat) : Int)) w := by
  obtain ⟨D, ⟨es, clock, hb, F, _, hd⟩, _, hf⟩ := h
  have hkey : keyOf Try.prog 3 (.int .i64 k) = some (.int .i64 k) := keyOf_int_mk Try.underlying3 hk
  have h1 := hf k hk
  rw [hd] at h1
  rcases Maps.fit_look false keyLaw Try.underlying54 (zeroInt w) hb F hkey with ⟨hr, _, hat⟩ | ⟨e0, y, _, _, hr, hRv, hat, _⟩
  · rw [Maps.has_false_of_atKey hat] at h1
    rw [hr]
    cases e : f k with
    | none => rfl
    | some u => rw [e] at h1; cases h1.1
  · rw [Maps.has_true_of_atKey hat] at h1
    obtain ⟨c, e1, e2, _⟩ := plainElem_int_inv Try.underlying3 hRv
    rw [hr]
    cases e : f k with
    | none => rw [e] at h1; cases h1.1
    | some u =>
      have := h1.2 u e
      rw [hat] at this
      rw [e1]
      rw [e2] at this
      simp only [DataW.lit.injEq, Lit.int.injEq, true_and] at this
      rw [this]; rfl
/-- What a field of a map holds: nil, or a map. -/
def MapIs (w : World) (mv : Value) (n : Nat) (f : Int → Option Nat) : Prop := (mv = .map none ∧ n = 0 ∧ ∀ k, f k = none) ∨ ∃ M, mv = .map (some M) ∧ Moms w M n f
theorem MapIs.keep {w w' : World} {mv : Value} {n : Nat} {f : Int → Option Nat} (h : MapIs w mv n f) (e : ∀ M, mv = .map (some M) → w'.heap[M]? = w.heap[M]?) : MapIs w' mv n f := by
  rcases h with h | ⟨M, rfl, h⟩
  · exact .inl h
  · exact .inr ⟨M, rfl, h.keep (e M rfl)⟩
theorem MapIs.look {w : World} {mv : Value} {n : Nat} {f : Int → Option Nat} (h : MapIs w mv n f) (k : Int) (hk : (Lit.int .i64 k).wf = true) :
    (Instr.lookup 54 mv (.int .i64 k) true).run Try.prog w = .ok (.tuple #[.int .i64 (((f k).getD 0 : Nat) : Int), .bool (f k).isSome]) w := by
  rcases h with ⟨rfl, _, hf⟩ | ⟨M, rfl, h⟩
  · rw [Maps.look_nil true keyLaw Try.underlying54 (zeroInt w) (keyOf_int_mk Try.underlying3 hk), hf k]; rfl
  · exact h.look k hk
theorem MapIs.look1 {w : World} {mv : Value} {n : Nat} {f : Int → Option Nat} (h : MapIs w mv n f) (k : Int) (hk : (Lit.int .i64 k).wf = true) :
    (Instr.lookup 54 mv (.int .i64 k) false).run Try.prog w = .ok (.int .i64 (((f k).getD 0 : Nat) : Int)) w := by
  rcases h with ⟨rfl, _, hf⟩ | ⟨M, rfl, h⟩
  · rw [Maps.look_nil false keyLaw Try.underlying54 (zeroInt w) (keyOf_int_mk Try.underlying3 hk), hf k]; rfl
  · exact h.look1 k hk
theorem MapIs.len {w : World} {mv : Value} {n : Nat} {f : Int → Option Nat} (h : MapIs w mv n f) (ty : TypeId) : (Builtin.len_ #[54] ty #[mv]).run Try.prog w = .ok (.int .i64 (n : Int)) w := by
  rcases h with ⟨rfl, rfl, _⟩ | ⟨M, rfl, D, hD, hs, _⟩
  · exact Maps.len_nil Try.underlying54 ty
  · rw [hD.len Try.underlying54 ty, hs]
theorem MapIs.some {w : World} {mv : Value} {n : Nat} {f : Int → Option Nat} (h : MapIs w mv n f) {k : Int} (hk : (f k).isSome = true) : ∃ M, mv = .map (.some M) ∧ Moms w M n f := by
  rcases h with ⟨rfl, _, hf⟩ | h
  · rw [hf k] at hk; cases hk
  · exact h
end Go.Proofs.Ytpmggiahhjllcaa
