/-
  The acts that come in (coxswainlaw5).
-/
import Derived.Test.YtllapjidnngaeaaMixIn2
namespace Go.Proofs.Ytllapjidnngaeaa
open Go.ChangeShapes Go.WideShapes Go.ChangeAt Go.RowKit
set_option linter.unusedVariables false
def SK : List GK := [.bool, .bool, .num .i64, .num .i64, .pack 3]
/-- Act k of those at ⟨b, off⟩. -/
structure SActIs (w : World) (b off k : Nat) (g r : Bool) (n m fr sl sz : Int) : Prop where
  c0 : w.cell? ⟨b, off + k * 7, none⟩ = some (.bool g)
  c1 : w.cell? ⟨b, off + k * 7 + 1, none⟩ = some (.bool r)
  c2 : w.cell? ⟨b, off + k * 7 + 2, none⟩ = some (.int .i64 n)
  c3 : w.cell? ⟨b, off + k * 7 + 3, none⟩ = some (.int .i64 m)
  c4 : w.cell? ⟨b, off + k * 7 + 4, none⟩ = some (.int .i64 fr)
  c5 : w.cell? ⟨b, off + k * 7 + 5, none⟩ = some (.int .i64 sl)
  c6 : w.cell? ⟨b, off + k * 7 + 6, none⟩ = some (.int .i64 sz)
  wn : (Lit.int .i64 n).wf = true
  wm : (Lit.int .i64 m).wf = true
  wf : (Lit.int .i64 fr).wf = true
  ws : (Lit.int .i64 sl).wf = true
  wz : (Lit.int .i64 sz).wf = true
theorem SActIs.below {w w' : World} {b off k : Nat} {g r : Bool} {n m fr sl sz : Int} (h : SActIs w b off k g r n m fr sl sz) (hb : Below w.heap.size w w') : SActIs w' b off k g r n m fr sl sz := by
  have hlt : b < w.heap.size := lt_of_cell? h.c0
  exact ⟨(hb.cell hlt).trans h.c0, (hb.cell hlt).trans h.c1, (hb.cell hlt).trans h.c2, (hb.cell hlt).trans h.c3, (hb.cell hlt).trans h.c4, (hb.cell hlt).trans h.c5, (hb.cell hlt).trans h.c6, h.wn, h.wm, h.wf, h.ws, h.wz⟩
def SActs (w : World) (a : Option Addr) (n : Nat) : Prop :=
  0 < n → ∃ b off, a = some ⟨b, off, none⟩ ∧ ∀ k, k < n → ∃ g r x m fr sl sz, SActIs w b off k g r x m fr sl sz
theorem sacts_open {w : World} {a : Option Addr} {n c : Nat} {zs : List (List GV)} (h : CameGen SK w a n c zs) : SActs w a n := by
  intro hn
  obtain ⟨h1, h2, h3, h4, h5⟩ := h
  obtain ⟨b, off, e, hb, hc⟩ := h5 hn
  refine ⟨b, off, e, fun k hk => ?_⟩
  obtain ⟨hl, hf⟩ := h4 k hk
  have hcell := fun j t k' v u => hc k j t k' v u hk
  have hl : (zs.getD k []).length = 5 := hl
  generalize zs.getD k [] = z at *
  match z, hl with
  | [v0, v1, v2, v3, v4], _ =>
    have f0 := hf 0 _ _ rfl rfl
    have f1 := hf 1 _ _ rfl rfl
    have f2 := hf 2 _ _ rfl rfl
    have f3 := hf 3 _ _ rfl rfl
    have f4 := hf 4 _ _ rfl rfl
    cases v0 with
    | num => exact f0.elim
    | row => exact f0.elim
    | pack => exact f0.elim
    | bool g =>
    cases v1 with
    | num => exact f1.elim
    | row => exact f1.elim
    | pack => exact f1.elim
    | bool r =>
    cases v2 with
    | bool => exact f2.elim
    | row => exact f2.elim
    | pack => exact f2.elim
    | num x =>
    cases v3 with
    | bool => exact f3.elim
    | row => exact f3.elim
    | pack => exact f3.elim
    | num m =>
    cases v4 with
    | bool => exact f4.elim
    | row => exact f4.elim
    | num => exact f4.elim
    | pack ys =>
      obtain ⟨hy, hw⟩ := f4
      have g0 := hcell 0 0 _ _ _ rfl rfl rfl
      have g1 := hcell 1 0 _ _ _ rfl rfl rfl
      have g2 := hcell 2 0 _ _ _ rfl rfl rfl
      have g3 := hcell 3 0 _ _ _ rfl rfl rfl
      match ys, hy with
      | [y0, y1, y2], _ =>
        have g4 := hcell 4 0 _ _ _ rfl rfl rfl
        have g5 := hcell 4 1 _ _ _ rfl rfl rfl
        have g6 := hcell 4 2 _ _ _ rfl rfl rfl
        exact ⟨g, r, x, m, y0, y1, y2, g0, g1, g2, g3, g4, g5, g6, f2, f3, hw 0 (by omega), hw 1 (by omega), hw 2 (by omega)⟩
end Go.Proofs.Ytllapjidnngaeaa
