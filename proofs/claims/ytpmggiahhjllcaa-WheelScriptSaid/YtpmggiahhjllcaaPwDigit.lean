/-
  Contracts of digit and unlike.
-/
import Derived.Test.YtpmggiahhjllcaaPwMem
namespace Go.Proofs.Ytpmggiahhjllcaa
open Go.ChangeShapes Go.WideShapes Go.ChangeAt Go.RowKit
set_option linter.unusedVariables false
set_option maxHeartbeats 1000000 in
theorem pdigit_any (w : World) (n k : Nat) (hn : n < 16777217) (hk : k ≤ 3) : Calls Try.prog 32 #[.int .i64 (n : Int), .int .i64 (k : Int)] w fun e w' => e = .returned (.int .i64 (dig n k : Nat)) ∧ w = w' := by
  go_enter Try.func32, Try.ntmps32
  go_wp2_with fail
  go_loop [0, 6] (fun v i => ∃ (j m : Nat), j ≤ k ∧ i = .int .i64 (j : Int) ∧ v = .int .i64 (m : Int) ∧ Hid (m ≤ n ∧ dig m (k - j) = dig n k)) (fun _ i => k - (intOf i).toNat)
  case atStart => exact ⟨0, n, Nat.zero_le _, rfl, rfl, Nat.le_refl _, rfl⟩
  case round =>
    obtain ⟨j, m, hj, rfl, rfl, hM⟩ := hrel
    have m1 := tdiv64 m
    have m2 := tmod64 m
    have M0 := hide hM.out.1
    have m3 : ((m / 64 : Nat) : Int) ≤ 16777216 := by have := M0.out; have := Nat.div_le_self m 64; omega
    have m4 : (0 : Int) ≤ ((m / 64 : Nat) : Int) := by omega
    have m5 : ((m % 64 : Nat) : Int) ≤ 64 := by omega
    have m6 : (0 : Int) ≤ ((m % 64 : Nat) : Int) := by omega
    by_cases hlt : j < k
    · have NX : Hid (m / 64 ≤ n ∧ dig (m / 64) (k - (j + 1)) = dig n k) := (show _ ∧ _ from ⟨Nat.le_trans (Nat.div_le_self m 64) M0.out, by
        have := hM.out.2
        rw [show k - j = (k - (j + 1)) + 1 by omega] at this
        exact this⟩)
      clear hM
      generalize hq : m / 64 = q at *
      clear hq
      generalize m % 64 = r at *
      go_wp2_with fail
      go_round
      case rel => exact ⟨j + 1, q, by omega, by go_num, by go_num, NX⟩
      case measure => simp [intOf]; omega
    · obtain rfl : j = k := by omega
      have E := hide (show m % 64 = dig n j by have := hM.out.2; rw [Nat.sub_self] at this; exact this)
      clear hM
      generalize m / 64 = q at *
      generalize hr : m % 64 = r at *
      go_wp2_with fail
      go_ret
      exact ⟨ret_int (by have := E.out; omega), rfl⟩
set_option maxHeartbeats 1000000 in
theorem unlike_any (w : World) (n a : Nat) (hn : n < 16777217) (ha : a < 16777217) : Calls Try.prog 31 #[.int .i64 (n : Int), .int .i64 (a : Int)] w fun e w' => e = .returned (.int .i64 (ring n a : Nat)) ∧ w = w' := by
  go_enter Try.func31, Try.ntmps31
  go_wp2_with fail
  go_loop [5] (fun v => ∃ (j : Nat), j ≤ 3 ∧ v = .int .i64 (j : Int) ∧ Hid (∀ q, j < q → q ≤ 3 → dig n q = dig a q)) (fun v => (intOf v).toNat)
  case atStart => exact ⟨3, by omega, rfl, fun q h1 h2 => by omega⟩
  case round =>
    obtain ⟨j, hj, rfl, hM⟩ := hrel
    by_cases h0 : j = 0
    · subst h0
      have ER := hide (ring_zero hM.out)
      have g0 : ¬ (0 : Int) < ((0 : Nat) : Int) := by omega
      go_wp2_with fail
      go_ret
      exact ⟨ret_int (by rw [ER.out]; rfl), rfl⟩
    · have j0 : (0 : Int) < (j : Int) := by omega
      have j1 : (j : Int) ≤ 3 := by omega
      by_cases he : dig n j = dig a j
      · have g1 : (((dig n j : Nat) : Int) == ((dig a j : Nat) : Int)) = true := by simp [he]
        have NX := hide (show ∀ q, j - 1 < q → q ≤ 3 → dig n q = dig a q from fun q h1 h2 => by
          by_cases e : q = j
          · subst e; exact he
          · exact hM.out q (by omega) h2)
        clear he
        generalize hx : ((dig n j : Nat) : Int) = x at *
        generalize hy : ((dig a j : Nat) : Int) = y at *
        go_wp2_with (first
          | (go_at_call 32; with_reducible refine (pdigit_any _ n j hn hj).mono ?_; rintro e w' ⟨rfl, rfl⟩; rw [hx])
          | (go_at_call 32; with_reducible refine (pdigit_any _ a j ha hj).mono ?_; rintro e w' ⟨rfl, rfl⟩; rw [hy]))
        go_round
        case rel => exact ⟨j - 1, by omega, by go_num, NX⟩
        case measure => simp [intOf]; omega
      · have g1 : (((dig n j : Nat) : Int) == ((dig a j : Nat) : Int)) = false := by simp; omega
        have ER := hide (ring_is (by omega) hj hM.out he)
        clear he
        generalize hx : ((dig n j : Nat) : Int) = x at *
        generalize hy : ((dig a j : Nat) : Int) = y at *
        go_wp2_with (first
          | (go_at_call 32; with_reducible refine (pdigit_any _ n j hn hj).mono ?_; rintro e w' ⟨rfl, rfl⟩; rw [hx])
          | (go_at_call 32; with_reducible refine (pdigit_any _ a j ha hj).mono ?_; rintro e w' ⟨rfl, rfl⟩; rw [hy]))
        go_ret
        exact ⟨ret_int (by rw [ER.out]), rfl⟩
end Go.Proofs.Ytpmggiahhjllcaa
