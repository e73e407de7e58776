/-
  Contracts of no store (NilStore); the walk of StoreNone over them.
-/
import Derived.Test.YtipepklobpnbpaaSoBoth
namespace Go.Proofs.Ytipepklobpnbpaa
open Go.ChangeShapes Go.WideShapes Go.ChangeAt Go.RowKit
set_option linter.unusedVariables false
structure NilStore : Prop where
  mak : ∀ (w : World) (id : Int), Calls Try.prog 16 #[.pointer none, .int .i64 id] w fun e w' => e = .returned (.int .i64 1) ∧ Below w.heap.size w w'
  dr : ∀ (w : World) (id : Int), Calls Try.prog 18 #[.pointer none, .int .i64 id] w fun e w' => e = .returned (.int .i64 1) ∧ Below w.heap.size w w'
  ct : ∀ (w : World) (id : Int), Calls Try.prog 28 #[.pointer none, .int .i64 id] w fun e w' => e = .returned (.int .i64 1) ∧ Below w.heap.size w w'
  sz : ∀ (w : World) (id : Int), Calls Try.prog 30 #[.pointer none, .int .i64 id] w fun e w' => e = .returned (.tuple #[.int .i64 0, .int .i64 1]) ∧ Below w.heap.size w w'
  bk : ∀ (w : World) (id : Int), Calls Try.prog 32 #[.pointer none, .int .i64 id] w fun e w' => e = .returned (.int .i64 0) ∧ Below w.heap.size w w'
  rd : ∀ (w : World) (id off n : Int), Calls Try.prog 20 #[.pointer none, .int .i64 id, .int .i64 off, .int .i64 n] w fun e w' => e = .returned (.tuple #[.slice none 0 0, .int .i64 1]) ∧ Below w.heap.size w w'
  wr : ∀ (w : World) (id off : Int), Calls Try.prog 25 #[.pointer none, .int .i64 id, .int .i64 off, .slice none 0 0] w fun e w' => e = .returned (.int .i64 1) ∧ Below w.heap.size w w'
section
variable {PS : Nat → Rel So}
set_option maxHeartbeats 4000000 in
theorem walk_storeNoneC (C : PStore PS) (D : NilStore) (w : World) (id off n : Int) : Calls Try.prog 6 #[.int .i64 id, .int .i64 off, .int .i64 n] w fun e w' => e = .returned (.bool true) ∧ Below w.heap.size w w' := by
  go_enter Try.func6, Try.ntmps6
  go_wp2_with (first
    | (go_at_call 20; refine (D.rd _ _ _ _).mono ?_; rintro e w1 ⟨rfl, b1⟩; have B1 := hide b1; clear b1)
    | (go_at_call 30; refine (D.sz _ _).mono ?_; rintro e w2 ⟨rfl, b2⟩; have B2 := hide (B1.out.trans (b2.mono B1.out.size)); clear b2)
    | (go_at_call 16; refine (D.mak _ _).mono ?_; rintro e w3 ⟨rfl, b3⟩; have B3 := hide (B2.out.trans (b3.mono B2.out.size)); clear b3)
    | (go_at_call 18; refine (D.dr _ _).mono ?_; rintro e w4 ⟨rfl, b4⟩; have B4 := hide (B3.out.trans (b4.mono B3.out.size)); clear b4)
    | (go_at_call 25; refine (D.wr _ _ _).mono ?_; rintro e w5 ⟨rfl, b5⟩; have B5 := hide (B4.out.trans (b5.mono B4.out.size)); clear b5)
    | (go_at_call 28; refine (D.ct _ _).mono ?_; rintro e w6 ⟨rfl, b6⟩; have B6 := hide (B5.out.trans (b6.mono B5.out.size)); clear b6)
    | (go_at_call 32; refine (D.bk _ _).mono ?_; rintro e w7 ⟨rfl, b7⟩; have B7 := hide (B6.out.trans (b7.mono B6.out.size)); clear b7)
    | (go_at_call 10; refine (soawake_any C _).mono ?_; rintro e w8 ⟨rfl, b8⟩; have B8 := hide (B7.out.trans (b8.mono B7.out.size)); clear b8))
  go_ret
  exact ⟨rfl, B8.out⟩
end
end Go.Proofs.Ytipepklobpnbpaa
