/-
  Calls and steps of programs: plain words; what comes in; struct comparison (stage 9).
-/
import Derived.Test.YthgoifmmnebkeaaCame
import Derived.Laws.StructEq
import Derived.Deep.RegionHeld3
import Derived.Deep.QuietTactic
import Derived.BigQuiet
namespace Go.Proofs.Ythgoifmmnebkeaa
open Go.ChangeShapes Go.WideShapes Go.ChangeAt Go.RowKit
set_option linter.unusedVariables false
/-- A call of the system. -/
structure Cl where
  sys : Int
  a : Int
  b : Int
  s : ByteArray
  t : ByteArray
/-- A step of a program. -/
structure Step where
  k : Int
  a : Int
  b : Int
  c : Int
  cl : Cl
def clVals (c : Cl) : List Value := [.int .i64 c.sys, .int .i64 c.a, .int .i64 c.b, .string c.s, .string c.t]
def stVals (o : Step) : List Value := [.int .i64 o.k, .int .i64 o.a, .int .i64 o.b, .int .i64 o.c, .int .i64 o.cl.sys, .int .i64 o.cl.a, .int .i64 o.cl.b, .string o.cl.s, .string o.cl.t]
def ClWf (c : Cl) : Prop := (Lit.int .i64 c.sys).wf = true ∧ (Lit.int .i64 c.a).wf = true ∧ (Lit.int .i64 c.b).wf = true ∧ c.s.size ≤ maxLen ∧ c.t.size ≤ maxLen
def StWf (_ : World) (o : Step) : Prop := (Lit.int .i64 o.k).wf = true ∧ (Lit.int .i64 o.a).wf = true ∧ (Lit.int .i64 o.b).wf = true ∧ (Lit.int .i64 o.c).wf = true ∧ ClWf o.cl
section
variable {H : Type} {enc : TypeId × Value → H} {w : World} {base : Nat} {spare : Nat → Bool} {held : Bool}
theorem step_open (m : Nat) (cs : List Value) (x : DataW H × List MemPlace) (hl : cs.length = 9) (h : DataW.trod enc Try.prog w base spare held m 25 cs = some x) : ∃ o, cs = stVals o ∧ StWf w o := by
  obtain ⟨k, e0, w0⟩ := field_int Try.underlying25 h 0 0 3 rfl Try.underlying3 (by kernel_rfl)
  obtain ⟨a, e1, w1⟩ := field_int Try.underlying25 h 1 1 3 rfl Try.underlying3 (by kernel_rfl)
  obtain ⟨b, e2, w2⟩ := field_int Try.underlying25 h 2 2 3 rfl Try.underlying3 (by kernel_rfl)
  obtain ⟨c, e3, w3⟩ := field_int Try.underlying25 h 3 3 3 rfl Try.underlying3 (by kernel_rfl)
  obtain ⟨n, y, h4⟩ := trod_field Try.underlying25 h 4 4 5 23 rfl (by kernel_rfl)
  obtain ⟨sys, e4, w4⟩ := field_int Try.underlying23 h4 0 0 3 rfl Try.underlying3 (by kernel_rfl)
  obtain ⟨ca, e5, w5⟩ := field_int Try.underlying23 h4 1 1 3 rfl Try.underlying3 (by kernel_rfl)
  obtain ⟨cb, e6, w6⟩ := field_int Try.underlying23 h4 2 2 3 rfl Try.underlying3 (by kernel_rfl)
  obtain ⟨s, e7, w7⟩ := field_text Try.underlying23 h4 3 3 9 rfl Try.underlying9 (by kernel_rfl)
  obtain ⟨t, e8, w8⟩ := field_text Try.underlying23 h4 4 4 9 rfl Try.underlying9 (by kernel_rfl)
  refine ⟨⟨k, a, b, c, ⟨sys, ca, cb, s, t⟩⟩, ?_, w0, w1, w2, w3, w4, w5, w6, w7, w8⟩
  match cs, hl with
  | [v0, v1, v2, v3, v4, v5, v6, v7, v8], _ =>
    simp at e0 e1 e2 e3 e4 e5 e6 e7 e8
    simp [stVals, e0, e1, e2, e3, e4, e5, e6, e7, e8]
end
def eqCl (x y : Cl) : Bool := x.sys == y.sys && x.a == y.a && x.b == y.b && decide (x.s = y.s) && decide (x.t = y.t)
def eqSt (x y : Step) : Bool := x.k == y.k && x.a == y.a && x.b == y.b && x.c == y.c && eqCl x.cl y.cl
theorem text_inj {a b : ByteArray} : a.toList = b.toList ↔ a = b := by
  rw [ByteArray.toList_eq, ByteArray.toList_eq]
  constructor
  · intro h
    obtain ⟨x⟩ := a
    obtain ⟨y⟩ := b
    exact congrArg ByteArray.mk (Array.toList_inj.1 h)
  · intro h; rw [h]
theorem call_eql (w : World) (x y : Cl) : (binOp .eql 23 (.agg #[.int .i64 x.sys, .int .i64 x.a, .int .i64 x.b, .string x.s, .string x.t]) (.agg #[.int .i64 y.sys, .int .i64 y.a, .int .i64 y.b, .string y.s, .string y.t])).run Try.prog w = .ok (.bool (eqCl x y)) w := by
  rw [run_eql_struct, run_equalIn_agg w 9999 _ _ _ (by kernel_rfl) (by kernel_rfl)]
  simp only [Program.fieldsOf, Try.underlying23]
  simp [Op.eqFields, go_sem, Try.underlying3, Try.underlying9, text_inj]
  unfold eqCl
  by_cases e0 : x.sys = y.sys <;> by_cases e1 : x.a = y.a <;> by_cases e2 : x.b = y.b <;> by_cases e3 : x.s = y.s <;> by_cases e4 : x.t = y.t <;> simp [e0, e1, e2, e3, e4]
theorem step_eql (w : World) (x y : Step) : (binOp .eql 25 (.agg (stVals x).toArray) (.agg (stVals y).toArray)).run Try.prog w = .ok (.bool (eqSt x y)) w := by
  rw [run_eql_struct, run_equalIn_agg w 9999 _ _ _ (by kernel_rfl) (by kernel_rfl)]
  simp only [Program.fieldsOf, Try.underlying25]
  simp [Op.eqFields, go_sem, Try.underlying3, stVals, text_inj]
  unfold eqSt eqCl
  by_cases e0 : x.k = y.k
  · by_cases e1 : x.a = y.a
    · by_cases e2 : x.b = y.b
      · by_cases e3 : x.c = y.c
        · by_cases f0 : x.cl.sys = y.cl.sys <;> by_cases f1 : x.cl.a = y.cl.a <;> by_cases f2 : x.cl.b = y.cl.b <;> by_cases f3 : x.cl.s = y.cl.s <;> by_cases f4 : x.cl.t = y.cl.t <;> simp [e0, e1, e2, e3, f0, f1, f2, f3, f4]
        · simp [e0, e1, e2, e3]
      · simp [e0, e1, e2]
    · simp [e0, e1]
  · simp [e0]
theorem step_neq (w : World) (x y : Step) : (binOp .neq 25 (.agg (stVals x).toArray) (.agg (stVals y).toArray)).run Try.prog w = .ok (.bool (!eqSt x y)) w := by
  rw [run_neq_struct, run_equalIn_agg w 9999 _ _ _ (by kernel_rfl) (by kernel_rfl)]
  simp only [Program.fieldsOf, Try.underlying25]
  simp [Op.eqFields, go_sem, Try.underlying3, stVals, text_inj]
  unfold eqSt eqCl
  by_cases e0 : x.k = y.k
  · by_cases e1 : x.a = y.a
    · by_cases e2 : x.b = y.b
      · by_cases e3 : x.c = y.c
        · by_cases f0 : x.cl.sys = y.cl.sys <;> by_cases f1 : x.cl.a = y.cl.a <;> by_cases f2 : x.cl.b = y.cl.b <;> by_cases f3 : x.cl.s = y.cl.s <;> by_cases f4 : x.cl.t = y.cl.t <;> simp [e0, e1, e2, e3, f0, f1, f2, f3, f4]
        · simp [e0, e1, e2, e3]
      · simp [e0, e1, e2]
    · simp [e0, e1]
  · simp [e0]
theorem eqCl_iff {x y : Cl} : eqCl x y = true ↔ x = y := by
  obtain ⟨a, b, c, d, e⟩ := x
  obtain ⟨a', b', c', d', e'⟩ := y
  simp [eqCl, and_assoc]
theorem eqSt_iff {x y : Step} : eqSt x y = true ↔ x = y := by
  obtain ⟨a, b, c, d, e⟩ := x
  obtain ⟨a', b', c', d', e'⟩ := y
  simp [eqSt, eqCl_iff, and_assoc]

theorem step_refl (x : Step) : eqSt x x = true := eqSt_iff.2 rfl
end Go.Proofs.Ythgoifmmnebkeaa
