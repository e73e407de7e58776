/-
  The acts that come in (coxswainlaw8).
-/
import Derived.Test.YtccokhalcdljiaaMixIn2
import Derived.Test.YtccokhalcdljiaaRdPair
namespace Go.Proofs.Ytccokhalcdljiaa
open Go.ChangeShapes Go.WideShapes Go.ChangeAt Go.RowKit
set_option linter.unusedVariables false
def RK : List GK := [.num .i64, .num .i64, .pack 3]
/-- Act k of those at ⟨b, off⟩. -/
structure RActIs (w : World) (b off k : Nat) (d i c l e : Int) : Prop where
  c0 : w.cell? ⟨b, off + k * 5, none⟩ = some (.int .i64 d)
  c1 : w.cell? ⟨b, off + k * 5 + 1, none⟩ = some (.int .i64 i)
  c2 : w.cell? ⟨b, off + k * 5 + 2, none⟩ = some (.int .i64 c)
  c3 : w.cell? ⟨b, off + k * 5 + 3, none⟩ = some (.int .i64 l)
  c4 : w.cell? ⟨b, off + k * 5 + 4, none⟩ = some (.int .i64 e)
  wi : (Lit.int .i64 i).wf = true
  wp : PrWf ⟨c, l, e⟩
theorem RActIs.below {w w' : World} {b off k : Nat} {d i c l e : Int} (h : RActIs w b off k d i c l e) (hb : Below w.heap.size w w') : RActIs w' b off k d i c l e := by
  have hlt : b < w.heap.size := lt_of_cell? h.c0
  exact ⟨(hb.cell hlt).trans h.c0, (hb.cell hlt).trans h.c1, (hb.cell hlt).trans h.c2, (hb.cell hlt).trans h.c3, (hb.cell hlt).trans h.c4, h.wi, h.wp⟩
def RActs (w : World) (a : Option Addr) (n : Nat) : Prop :=
  0 < n → ∃ b off, a = some ⟨b, off, none⟩ ∧ ∀ k, k < n → ∃ d i c l e, RActIs w b off k d i c l e
theorem racts_open {w : World} {a : Option Addr} {n c : Nat} {zs : List (List GV)} (h : CameGen RK w a n c zs) : RActs w a n := by
  intro hn
  obtain ⟨h1, h2, h3, h4, h5⟩ := h
  obtain ⟨b, off, e, hb, hc⟩ := h5 hn
  refine ⟨b, off, e, fun k hk => ?_⟩
  obtain ⟨hl, hf⟩ := h4 k hk
  have hcell := fun j t k' v u => hc k j t k' v u hk
  have hl : (zs.getD k []).length = 3 := hl
  generalize zs.getD k [] = z at *
  match z, hl with
  | [v0, v1, v2], _ =>
    have f0 := hf 0 _ _ rfl rfl
    have f1 := hf 1 _ _ rfl rfl
    have f2 := hf 2 _ _ rfl rfl
    cases v0 with
    | bool => exact f0.elim
    | row => exact f0.elim
    | pack => exact f0.elim
    | num d =>
    cases v1 with
    | bool => exact f1.elim
    | row => exact f1.elim
    | pack => exact f1.elim
    | num x =>
    cases v2 with
    | bool => exact f2.elim
    | row => exact f2.elim
    | num => exact f2.elim
    | pack ys =>
      obtain ⟨hy, hw⟩ := f2
      have g0 := hcell 0 0 _ _ _ rfl rfl rfl
      have g1 := hcell 1 0 _ _ _ rfl rfl rfl
      match ys, hy with
      | [y0, y1, y2], _ =>
        have g4 := hcell 2 0 _ _ _ rfl rfl rfl
        have g5 := hcell 2 1 _ _ _ rfl rfl rfl
        have g6 := hcell 2 2 _ _ _ rfl rfl rfl
        exact ⟨d, x, y0, y1, y2, g0, g1, g4, g5, g6, f1, hw 0 (by omega), hw 1 (by omega), hw 2 (by omega)⟩
/-- The act copied to block X. -/
def CopR (w : World) (X : Nat) (d i c l e : Int) : Prop := w.heap[X]? = some (.cells #[.int .i64 d, .int .i64 i, .int .i64 c, .int .i64 l, .int .i64 e] 33 (0, 0))
theorem CopR.cells {w : World} {X : Nat} {d i c l e : Int} (h : CopR w X d i c l e) : w.cell? ⟨X, 0, none⟩ = some (.int .i64 d) ∧ w.cell? ⟨X, 1, none⟩ = some (.int .i64 i) ∧ w.cell? ⟨X, 2, none⟩ = some (.int .i64 c) ∧ w.cell? ⟨X, 3, none⟩ = some (.int .i64 l) ∧ w.cell? ⟨X, 4, none⟩ = some (.int .i64 e) := by
  refine ⟨?_, ?_, ?_, ?_, ?_⟩ <;> (rw [cell_of_row _ _ _ _ _ _ h]; rfl)
end Go.Proofs.Ytccokhalcdljiaa
