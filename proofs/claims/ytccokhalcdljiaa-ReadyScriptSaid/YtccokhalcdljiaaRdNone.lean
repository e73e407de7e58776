/-
  The walk of ReadyNone, over the contracts of the program's calls on no queue.
-/
import Derived.Test.YtccokhalcdljiaaRdBoth
namespace Go.Proofs.Ytccokhalcdljiaa
open Go.ChangeShapes Go.WideShapes Go.ChangeAt Go.RowKit
set_option linter.unusedVariables false
/-- Calls on no queue. -/
structure NilReady : Prop where
  add : ∀ (w : World) (id c l d : Int), Calls Try.prog 10 #[.pointer none, .int .i64 id, .agg #[.int .i64 c, .int .i64 l, .int .i64 d]] w fun e w' => e = .returned (.int .i64 1) ∧ Below w.heap.size w w'
  chg : ∀ (w : World) (id c l d : Int), Calls Try.prog 14 #[.pointer none, .int .i64 id, .agg #[.int .i64 c, .int .i64 l, .int .i64 d]] w fun e w' => e = .returned (.int .i64 1) ∧ Below w.heap.size w w'
  drop : ∀ (w : World) (id : Int), Calls Try.prog 12 #[.pointer none, .int .i64 id] w fun e w' => e = .returned (.bool false) ∧ Below w.heap.size w w'
  has : ∀ (w : World) (id : Int), Calls Try.prog 19 #[.pointer none, .int .i64 id] w fun e w' => e = .returned (.bool false) ∧ Below w.heap.size w w'
  first : ∀ (w : World), Calls Try.prog 18 #[.pointer none] w fun e w' => e = .returned (.tuple #[.int .i64 0, .bool false]) ∧ Below w.heap.size w w'
  len : ∀ (w : World), Calls Try.prog 21 #[.pointer none] w fun e w' => e = .returned (.int .i64 0) ∧ Below w.heap.size w w'
  all : ∀ (w : World), Calls Try.prog 16 #[.pointer none] w fun e w' => (∃ A c, e = .returned (.slice A 0 c)) ∧ Below w.heap.size w w'
/-- An act's block. -/
def ActR (w : World) (X : Nat) (o i c l d : Int) : Prop := w.heap[X]? = some (.cells #[.int .i64 o, .int .i64 i, .int .i64 c, .int .i64 l, .int .i64 d] 33 (0, 0))
theorem ActR.cells {w : World} {X : Nat} {o i c l d : Int} (h : ActR w X o i c l d) : w.cell? ⟨X, 0, none⟩ = some (.int .i64 o) ∧ w.cell? ⟨X, 1, none⟩ = some (.int .i64 i) ∧ w.cell? ⟨X, 2, none⟩ = some (.int .i64 c) ∧ w.cell? ⟨X, 3, none⟩ = some (.int .i64 l) ∧ w.cell? ⟨X, 4, none⟩ = some (.int .i64 d) := by
  refine ⟨?_, ?_, ?_, ?_, ?_⟩ <;> (rw [cell_of_row _ _ _ _ _ _ h]; rfl)
theorem ActR.below {w w' : World} {X : Nat} {o i c l d : Int} (h : ActR w X o i c l d) (b : Below w.heap.size w w') : ActR w' X o i c l d := (b.block X (lt_of_heap h)).trans h
section
variable {PQ : World → (Nat → Prop) → Nat → List Rt → Prop}
set_option maxHeartbeats 8000000 in
theorem walk_readyNoneC (C : PReady PQ) (Z : NilReady) (w : World) (o i c l d : Int) :
    Calls Try.prog 5 #[.agg #[.int .i64 o, .int .i64 i, .int .i64 c, .int .i64 l, .int .i64 d]] w fun e w' => e = .returned (.bool true) ∧ Below w.heap.size w w' := by
  obtain ⟨w1, hw1⟩ : ∃ w1, w1 = w.alloc (.cells #[.int .i64 o, .int .i64 i, .int .i64 c, .int .i64 l, .int .i64 d] 33) := ⟨_, rfl⟩
  have B1 := hide (show Below w.heap.size w w1 from by rw [hw1]; exact (Below.refl w.heap.size w).alloc (Nat.le_refl _) _)
  have P1 := hide (show ActR w1 w.heap.size o i c l d from by rw [hw1]; exact heap_alloc_new w _)
  obtain ⟨X, hX⟩ : ∃ X, X = w.heap.size := ⟨_, rfl⟩
  rw [← hX] at P1
  have HX := hide hX
  have HW := hide hw1
  clear hw1 hX
  go_enter Try.func5, Try.ntmps5
  go_upto_region 1 with fail
  rw [← HW.out, ← HX.out]
  go_wp2_with (first
    | (go_at_call 18; refine (Z.first _).mono ?_; rintro e w2 ⟨rfl, b2⟩; have B2 := hide (B1.out.trans (b2.mono B1.out.size)); have P2 := hide (P1.out.below b2); obtain ⟨y20, y21, y22, y23, y24⟩ := P2.out.cells; clear b2)
    | (go_at_call 10; refine (Z.add _ _ _ _ _).mono ?_; rintro e w3 ⟨rfl, b3⟩; have B3 := hide (B2.out.trans (b3.mono B2.out.size)); have P3 := hide (P2.out.below b3); obtain ⟨y30, y31, y32, y33, y34⟩ := P3.out.cells; clear b3)
    | (go_at_call 14; refine (Z.chg _ _ _ _ _).mono ?_; rintro e w4 ⟨rfl, b4⟩; have B4 := hide (B3.out.trans (b4.mono B3.out.size)); have P4 := hide (P3.out.below b4); obtain ⟨y40, y41, y42, y43, y44⟩ := P4.out.cells; clear b4)
    | (go_at_call 12; refine (Z.drop _ _).mono ?_; rintro e w5 ⟨rfl, b5⟩; have B5 := hide (B4.out.trans (b5.mono B4.out.size)); have P5 := hide (P4.out.below b5); obtain ⟨y50, y51, y52, y53, y54⟩ := P5.out.cells; clear b5)
    | (go_at_call 19; refine (Z.has _ _).mono ?_; rintro e w6 ⟨rfl, b6⟩; have B6 := hide (B5.out.trans (b6.mono B5.out.size)); have P6 := hide (P5.out.below b6); obtain ⟨y60, y61, y62, y63, y64⟩ := P6.out.cells; clear b6)
    | (go_at_call 21; refine (Z.len _).mono ?_; rintro e w7 ⟨rfl, b7⟩; have B7 := hide (B6.out.trans (b7.mono B6.out.size)); have P7 := hide (P6.out.below b7); obtain ⟨y70, y71, y72, y73, y74⟩ := P7.out.cells; clear b7)
    | (go_at_call 16; refine (Z.all _).mono ?_; rintro e w8 ⟨⟨A8, c8, rfl⟩, b8⟩; have B8 := hide (B7.out.trans (b8.mono B7.out.size)); have P8 := hide (P7.out.below b8); obtain ⟨y80, y81, y82, y83, y84⟩ := P8.out.cells; clear b8)
    | (go_at_call 7; refine (pawake8_any C _).mono ?_; rintro e w9 ⟨rfl, b9⟩; have B9 := hide (B8.out.trans (b9.mono B8.out.size)); clear b9))
  go_ret
  exact ⟨rfl, B9.out⟩
end
end Go.Proofs.Ytccokhalcdljiaa
