/-
  The contract of 'awake' (coxswainlaw4), and the walk of FramesNone.
-/
import Derived.Test.YtbahhdocjnmncaaFrNew
namespace Go.Proofs.Ytbahhdocjnmncaa
open Go.ChangeShapes Go.WideShapes Go.ChangeAt Go.RowKit
set_option linter.unusedVariables false
set_option maxHeartbeats 1000000 in
theorem awake_any (w : World) : Calls Try.prog 9 #[] w fun e w' => e = .returned (.bool true) ∧ Below w.heap.size w w' := by
  go_enter Try.func9, Try.ntmps9
  go_wp2_with fail
  go_at_call 10
  refine (new_ok w 2 (by omega) (by omega)).mono ?_
  rintro e w1 ⟨H, A, Q, rfl, f1, b1, hb⟩
  have F1 := hide f1
  have B1 := hide b1
  have HB := hide hb
  clear f1 b1 hb
  go_wp2_with fail
  go_at_call 13
  refine (take_ok F1.out (l := [1]) (x := 0) rfl).mono ?_
  rintro e w2 ⟨rfl, f2, t2⟩
  have F2 := hide f2
  have T2 := hide t2
  clear f2 t2
  go_wp2_with fail
  go_at_call 13
  refine (take_ok F2.out (l := []) (x := 1) rfl).mono ?_
  rintro e w3 ⟨rfl, f3, t3⟩
  have F3 := hide f3
  have T3 := hide t3
  clear f3 t3
  go_wp2_with fail
  go_at_call 13
  refine (take_full F3.out rfl).mono ?_
  rintro e w4 ⟨rfl, rfl⟩
  go_wp2_with (first
    | (go_at_call 15; refine (give_ok F3.out 0 (by decide) (by rfl)).mono ?_; rintro e w5 ⟨rfl, f5, t5⟩; have F5 := hide f5; have T5 := hide t5; clear f5 t5)
    | (go_at_call 25; refine (free_any F5.out).mono ?_; rintro e w6 ⟨rfl, rfl⟩; rw [show ((St.give _ 0).fr).length = 1 by rfl]))
  go_ret
  refine ⟨rfl, B1.out.trans (Touch.below (S := Blk H A Q) ?_ B1.out.size HB.out)⟩
  exact (T2.out.trans T3.out (fun i e => .inl e)).trans T5.out (fun i e => .inl e)
end Go.Proofs.Ytbahhdocjnmncaa
