/-
  The walk of the law NumSums.
-/
import Derived.Test.YtpmkkgcpoiaebaaNumAwake
import Derived.Test.YtpmkkgcpoiaebaaLend
namespace Go.Proofs.Ytpmkkgcpoiaebaa
open Go.ChangeShapes Go.WideShapes Go.ChangeAt Go.RowKit
set_option linter.unusedVariables false
set_option maxHeartbeats 800000 in
theorem walk_numSums (w : World) (x : Int) (wx : (Lit.int .i64 x).wf = true) (a : Option Addr) (n c : Nat) (xs : List Int) (ha : CameIn .i64 w a n c xs) :
    Calls Try.prog 3 #[.int .i64 x, .slice a n c] w fun e w' => e = .returned (.bool true) ∧ Below w.heap.size w w' := by
  obtain ⟨ia, na, ma, za, _⟩ := ha
  unfold maxLen at ma
  clear wx
  by_cases h : (50 : Int) < (n : Int)
  · clear ia za
    go_enter Try.func3, Try.ntmps3
    go_wp2_with (go_at_call 8; refine (awake_any _).mono ?_; rintro e w' ⟨rfl, hz⟩)
    go_ret
    exact ⟨rfl, hz⟩
  · have hn : n ≤ 1000000 := by omega
    go_enter Try.func3, Try.ntmps3
    go_wp2_with (first
      | (go_at_call 9; refine (lend_any a n c xs _ ia za hn).mono ?_; rintro e w1 ⟨rfl, hr, hb⟩; have hi := room_ints hr ia.1)
      | (go_at_call 10; refine (clip_any _ _).mono ?_; rintro e w' ⟨rfl, rfl⟩)
      | (go_at_call 11; refine (rclip_any _ _).mono ?_; rintro e w' ⟨rfl, rfl⟩)
      | (go_at_call 12; refine (add_any _ n _ xs _ hi (by omega)).mono ?_; rintro e w' ⟨rfl, rfl⟩)
      | (go_at_call 13; refine (rsum_any a n c xs _ (ia.below hb) (by omega)).mono ?_; rintro e w' ⟨rfl, rfl⟩)
      | (go_at_call 14; refine (kept_any _ a n c xs _ hr (ia.below hb) hn).mono ?_; rintro e w2 ⟨rfl, hy⟩)
      | (go_at_call 8; refine (awake_any _).mono ?_; rintro e w3 ⟨rfl, hz⟩))
    go_ret
    exact ⟨rfl, (hb.trans (hy.mono hb.size)).trans (hz.mono (Nat.le_trans hb.size hy.size))⟩
end Go.Proofs.Ytpmkkgcpoiaebaa
