/-
  Contracts: sums over a slice of integers, whatever the slice (nil, empty, or not).
-/
import Derived.Test.YtjbjchakkccflaaNumRefs
namespace Go.Proofs.Ytjbjchakkccflaa
open Go.ChangeShapes Go.WideShapes Go.ChangeAt Go.RowKit
set_option linter.unusedVariables false
theorem sum_step (xs : List Int) (k : Nat) (h : k < xs.length) : cl (sum (xs.take k) + cl (xs[k]?.getD 0)) = sum (xs.take (k + 1)) := by
  rw [take_succ_getD xs k h, sum_snoc]; simp [List.getD]
theorem rsum_step (xs : List Int) (k : Nat) (h : k < xs.length) : cl (cl (sum (xs.take k)) + cl (xs[k]?.getD 0)) = sum (xs.take (k + 1)) := by
  rw [cl_in (sum (xs.take k)) (sum_lo _) (sum_hi _)]; exact sum_step xs k h

set_option maxHeartbeats 400000 in
theorem add_any (a : Option Addr) (n c : Nat) (xs : List Int) (w : World) (h : Ints .i64 w a n xs) (hn : n ≤ 9223372036854775807) :
    Calls Try.prog 20 #[.slice a n c] w fun e w' => e = .returned (.int .i64 (sum xs)) ∧ w = w' := by
  obtain ⟨hl, hc⟩ := h
  have HL := hide hl
  clear hl
  go_enter Try.func20, Try.ntmps20
  go_wp2_with fail
  go_loop [3, 8] (fun s i => ∃ k : Nat, k ≤ n ∧ i = .int .i64 k ∧ s = .int .i64 (sum (xs.take k))) (fun _ i => n - (intOf i).toNat)
  case atStart => exact ⟨0, Nat.zero_le _, rfl, rfl⟩
  case round =>
    obtain ⟨k, hk, rfl, rfl⟩ := hrel
    by_cases hlt : k < n
    · obtain ⟨b, off, rfl, hcs⟩ := hc (by omega)
      have hcell := hcs k hlt
      clear hcs hc
      have HS := hide (sum_step xs k (by rw [show xs.length = n from HL]; exact hlt))
      have s0 := sum_lo (xs.take k)
      have s1 := sum_hi (xs.take k)
      have e0 := cl_lo (xs[k]?.getD 0)
      have e1 := cl_hi (xs[k]?.getD 0)
      go_wp2_with (go_at_call 13; refine (clip_any _ _).mono ?_; rintro e w' ⟨rfl, rfl⟩)
      go_round
      case rel => exact ⟨k + 1, by omega, by go_num, ret_val HS⟩
      case measure => simp [intOf]; omega
    · clear hc
      go_wp2_with fail
      go_ret
      exact ⟨ret_int (by rw [List.take_of_length_le (by rw [show xs.length = n from HL]; omega)]), rfl⟩

end Go.Proofs.Ytjbjchakkccflaa
