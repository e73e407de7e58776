/-
  The acts that come in (coxswainlaw4), and the contract of 'great'.
-/
import Derived.Deep.QuietTactic
import Derived.BigQuiet
import Derived.Test.YtndfnglcichngaaGreatDoorPa06
import Derived.Test.YtndfnglcichngaaGreatDoorPa04
import Derived.Test.YtndfnglcichngaaGreatDoorPa02
namespace Go.Proofs.YtndfnglcichngaaGreatDoor
open Go.ChangeShapes Go.WideShapes Go.ChangeAt Go.RowKit
set_option linter.unusedVariables false
def AK : List FK := [.num .i64, .num .i64, .num .i64, .num .i64, .row .u8]
/-- Act k of those at ⟨b, off⟩. -/
structure ActIs (w : World) (b off k : Nat) (d i o m : Int) (aa : Option Addr) (l c : Nat) (ys : List Int) : Prop where
  c0 : w.cell? ⟨b, off + k * 5, none⟩ = some (.int .i64 d)
  c1 : w.cell? ⟨b, off + k * 5 + 1, none⟩ = some (.int .i64 i)
  c2 : w.cell? ⟨b, off + k * 5 + 2, none⟩ = some (.int .i64 o)
  c3 : w.cell? ⟨b, off + k * 5 + 3, none⟩ = some (.int .i64 m)
  c4 : w.cell? ⟨b, off + k * 5 + 4, none⟩ = some (.slice aa l c)
  wi : (Lit.int .i64 i).wf = true
  wo : (Lit.int .i64 o).wf = true
  wm : (Lit.int .i64 m).wf = true
  came : CameIn .u8 w aa l c ys
theorem CameIn.below {q : IntKind} {w w' : World} {a : Option Addr} {n c : Nat} {xs : List Int} (h : CameIn q w a n c xs) (hb : Below w.heap.size w w') : CameIn q w' a n c xs := ⟨h.1.below hb, h.2⟩
theorem ActIs.below {w w' : World} {b off k : Nat} {d i o m : Int} {aa : Option Addr} {l c : Nat} {ys : List Int} (h : ActIs w b off k d i o m aa l c ys) (hb : Below w.heap.size w w') : ActIs w' b off k d i o m aa l c ys := by
  have hlt : b < w.heap.size := lt_of_cell? h.c0
  exact ⟨(hb.cell hlt).trans h.c0, (hb.cell hlt).trans h.c1, (hb.cell hlt).trans h.c2, (hb.cell hlt).trans h.c3, (hb.cell hlt).trans h.c4, h.wi, h.wo, h.wm, h.came.below hb⟩
/-- Acts, of at most L bytes each. -/
def Acts (L : Nat) (w : World) (a : Option Addr) (n : Nat) : Prop :=
  0 < n → ∃ b off, a = some ⟨b, off, none⟩ ∧ ∀ k, k < n → ∃ d i o m aa l c ys, ActIs w b off k d i o m aa l c ys ∧ l ≤ L
theorem Acts.below {L : Nat} {w w' : World} {a : Option Addr} {n : Nat} (h : Acts L w a n) (hb : Below w.heap.size w w') : Acts L w' a n := by
  intro hn
  obtain ⟨b, off, e, hk⟩ := h hn
  refine ⟨b, off, e, fun k hkn => ?_⟩
  obtain ⟨d, i, o, m, aa, l, c, ys, h1, h2⟩ := hk k hkn
  exact ⟨d, i, o, m, aa, l, c, ys, h1.below hb, h2⟩
theorem acts_open {w : World} {a : Option Addr} {n c : Nat} {zs : List (List FV)} (h : CameMix AK w a n c zs) : Acts maxLen w a n := by
  intro hn
  obtain ⟨h1, h2, h3, h4, h5⟩ := h
  obtain ⟨b, off, e, hb, hc⟩ := h5 hn
  refine ⟨b, off, e, fun k hk => ?_⟩
  obtain ⟨hl, hf⟩ := h4 k hk
  have hcell := fun j k' v => hc k j k' v hk
  have hl : (zs.getD k []).length = 5 := hl
  generalize zs.getD k [] = z at *
  match z, hl with
  | [v0, v1, v2, v3, v4], _ =>
    have f0 := hf 0 _ _ rfl rfl
    have f1 := hf 1 _ _ rfl rfl
    have f2 := hf 2 _ _ rfl rfl
    have f3 := hf 3 _ _ rfl rfl
    have f4 := hf 4 _ _ rfl rfl
    have g0 := hcell 0 _ _ rfl rfl
    have g1 := hcell 1 _ _ rfl rfl
    have g2 := hcell 2 _ _ rfl rfl
    have g3 := hcell 3 _ _ rfl rfl
    have g4 := hcell 4 _ _ rfl rfl
    cases v0 with
    | row => exact f0.elim
    | num d =>
    cases v1 with
    | row => exact f1.elim
    | num i =>
    cases v2 with
    | row => exact f2.elim
    | num o =>
    cases v3 with
    | row => exact f3.elim
    | num m =>
    cases v4 with
    | num => exact f4.elim
    | row aa l c ys =>
      exact ⟨d, i, o, m, aa, l, c, ys, ⟨g0, g1, g2, g3, g4, f1, f2, f3, f4⟩, Nat.le_trans f4.2.1 f4.2.2.1⟩
theorem bytes_of_came {w : World} {a : Option Addr} {n c : Nat} {xs : List Int} (h : CameIn .u8 w a n c xs) : Bytes xs := by
  intro y hy
  have := h.2.2.2.2 y hy
  simp [Lit.wf, IntKind.min, IntKind.max, IntKind.bits, IntKind.signed] at this
  omega
/-- What 'great' tells: if there is nothing too great, the acts are few and short. -/
def GreatTells (w : World) (a : Option Addr) (n most : Nat) (e : Ending) : Prop := ∃ r : Bool, e = .returned (.bool r) ∧ (r = false → n ≤ most ∧ Acts 200 w a n)
end Go.Proofs.YtndfnglcichngaaGreatDoor
