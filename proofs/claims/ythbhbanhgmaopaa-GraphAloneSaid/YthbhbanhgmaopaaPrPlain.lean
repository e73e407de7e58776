/-
  Priorities: plain words and facts (stage 7).
-/
import Derived.Test.YthbhbanhgmaopaaTouch
import Derived.Laws.StructEq
namespace Go.Proofs.Ythbhbanhgmaopaa
open Go.ChangeShapes Go.WideShapes Go.ChangeAt Go.RowKit
set_option linter.unusedVariables false
/-- A priority: class, level, due. -/
structure Pr where
  c : Int
  l : Int
  d : Int
def mayP (p : Pr) : Bool :=
  if p.c = 0 then decide (0 ≤ p.l ∧ p.l ≤ 15 ∧ p.d = 0) else if p.c = 1 then decide (p.l = 0 ∧ 0 ≤ p.d ∧ p.d ≤ 1099511627776) else if p.c = 2 then decide (0 ≤ p.l ∧ p.l ≤ 63 ∧ p.d = 0) else false
/-- Is a greater than b? -/
def gtP (a b : Pr) : Bool := if a.c ≠ b.c then decide (b.c < a.c) else if a.c = 1 then decide (a.d < b.d) else decide (b.l < a.l)
def cmpP (a b : Pr) : Int := if gtP a b = true then 1 else if gtP b a = true then -1 else 0
def eqP (a b : Pr) : Bool := a.c == b.c && a.l == b.l && a.d == b.d
def maxP (x : Pr) (ys : List Pr) : Pr := ys.foldl (fun b y => if gtP y b = true then y else b) x
theorem eqP_refl (a : Pr) : eqP a a = true := by simp [eqP]
theorem gtP_irrefl (a : Pr) : gtP a a = false := by simp [gtP]
theorem gtP_asymm {a b : Pr} (h : gtP a b = true) : gtP b a = false := by
  unfold gtP at *
  by_cases e : a.c = b.c
  · rw [if_neg (by simpa using e)] at h
    rw [if_neg (by simpa using e.symm)]
    by_cases e1 : a.c = 1
    · rw [if_pos e1] at h; rw [if_pos (by omega)]; simp at h ⊢; omega
    · rw [if_neg e1] at h; rw [if_neg (by omega)]; simp at h ⊢; omega
  · rw [if_pos e] at h
    rw [if_pos (fun e2 => e e2.symm)]
    simp at h ⊢; omega
theorem cmpP_self (a : Pr) : cmpP a a = 0 := by simp [cmpP, gtP_irrefl]
theorem cmpP_swap (a b : Pr) : cmpP b a = -cmpP a b := by
  unfold cmpP
  cases h1 : gtP a b with
  | true => simp [gtP_asymm h1]
  | false =>
    cases h2 : gtP b a with
    | true => simp
    | false => simp
theorem cmpP_vals (a b : Pr) : cmpP a b = 1 ∨ cmpP a b = -1 ∨ cmpP a b = 0 := by
  unfold cmpP
  split
  · exact .inl rfl
  · split
    · exact .inr (.inl rfl)
    · exact .inr (.inr rfl)
/-- What the order compares, as one number's sign along each part. -/
theorem cmpP_ge {a b : Pr} : 0 ≤ cmpP a b ↔ b.c < a.c ∨ a.c = b.c ∧ (a.c = 1 ∧ a.d ≤ b.d ∨ a.c ≠ 1 ∧ b.l ≤ a.l) := by
  have h : 0 ≤ cmpP a b ↔ gtP b a = false := by
    unfold cmpP
    cases h1 : gtP a b with
    | true => simp [gtP_asymm h1]
    | false => cases h2 : gtP b a <;> simp
  rw [h]
  unfold gtP
  by_cases e : a.c = b.c
  · rw [if_neg (by simpa using e.symm)]
    by_cases e1 : b.c = 1
    · rw [if_pos e1]; simp; omega
    · rw [if_neg e1]; simp; omega
  · rw [if_pos (fun e2 => e e2.symm)]; simp; omega
theorem cmpP_gt {a b : Pr} : 0 < cmpP a b ↔ b.c < a.c ∨ a.c = b.c ∧ (a.c = 1 ∧ a.d < b.d ∨ a.c ≠ 1 ∧ b.l < a.l) := by
  have h : 0 < cmpP a b ↔ gtP a b = true := by
    unfold cmpP
    cases h1 : gtP a b with
    | true => simp
    | false => cases h2 : gtP b a <;> simp
  rw [h]
  unfold gtP
  by_cases e : a.c = b.c
  · rw [if_neg (by simpa using e)]
    by_cases e1 : a.c = 1
    · rw [if_pos e1]; simp; omega
    · rw [if_neg e1]; simp; omega
  · rw [if_pos e]; simp; omega
/-- Along three. -/
theorem cmpP_trans {a b c : Pr} (h1 : 0 ≤ cmpP a b) (h2 : 0 ≤ cmpP b c) : 0 ≤ cmpP a c ∧ (0 < cmpP a b ∨ 0 < cmpP b c → 0 < cmpP a c) := by
  rw [cmpP_ge] at *
  rw [cmpP_gt, cmpP_gt, cmpP_gt]
  omega
theorem cmpP_zero {a b : Pr} : cmpP a b = 0 ↔ 0 ≤ cmpP a b ∧ ¬ 0 < cmpP a b := by omega
/-- Of those that may be, unlike ones are never the same. -/
theorem cmpP_may {a b : Pr} (ha : mayP a = true) (hb : mayP b = true) : (cmpP a b == 0) = eqP a b := by
  rw [Bool.eq_iff_iff]
  rw [show ((cmpP a b == 0) = true ↔ cmpP a b = 0) from by simp, cmpP_zero, cmpP_ge, cmpP_gt]
  unfold eqP mayP at *
  simp only [Bool.and_eq_true, beq_iff_eq]
  by_cases a0 : a.c = 0
  · rw [if_pos a0] at ha
    by_cases b0 : b.c = 0
    · rw [if_pos b0] at hb; simp at ha hb; omega
    · constructor <;> intro h <;> omega
  · rw [if_neg a0] at ha
    by_cases a1 : a.c = 1
    · rw [if_pos a1] at ha
      by_cases b1 : b.c = 1
      · rw [if_neg (by omega), if_pos b1] at hb; simp at ha hb; omega
      · constructor <;> intro h <;> omega
    · rw [if_neg a1] at ha
      by_cases a2 : a.c = 2
      · rw [if_pos a2] at ha
        by_cases b2 : b.c = 2
        · rw [if_neg (by omega), if_neg (by omega), if_pos b2] at hb; simp at ha hb; omega
        · constructor <;> intro h <;> omega
      · rw [if_neg a2] at ha; cases ha
theorem prio_eql (w : World) (a0 a1 a2 b0 b1 b2 : Int) : (binOp .eql 39 (.agg #[.int .i64 a0, .int .i64 a1, .int .i64 a2]) (.agg #[.int .i64 b0, .int .i64 b1, .int .i64 b2])).run Try.prog w = .ok (.bool (a0 == b0 && a1 == b1 && a2 == b2)) w := by
  rw [run_eql_struct, run_equalIn_agg w 9999 _ _ _ (by kernel_rfl) (by kernel_rfl)]
  simp only [Program.fieldsOf, Try.underlying39]
  simp [Op.eqFields, go_sem, Try.underlying3]
  by_cases e0 : a0 = b0 <;> by_cases e1 : a1 = b1 <;> by_cases e2 : a2 = b2 <;> simp [e0, e1, e2]
theorem prio_neq (w : World) (a0 a1 a2 b0 b1 b2 : Int) : (binOp .neq 39 (.agg #[.int .i64 a0, .int .i64 a1, .int .i64 a2]) (.agg #[.int .i64 b0, .int .i64 b1, .int .i64 b2])).run Try.prog w = .ok (.bool (!(a0 == b0 && a1 == b1 && a2 == b2))) w := by
  rw [run_neq_struct, run_equalIn_agg w 9999 _ _ _ (by kernel_rfl) (by kernel_rfl)]
  simp only [Program.fieldsOf, Try.underlying39]
  simp [Op.eqFields, go_sem, Try.underlying3]
  by_cases e0 : a0 = b0 <;> by_cases e1 : a1 = b1 <;> by_cases e2 : a2 = b2 <;> simp [e0, e1, e2]
end Go.Proofs.Ythbhbanhgmaopaa
