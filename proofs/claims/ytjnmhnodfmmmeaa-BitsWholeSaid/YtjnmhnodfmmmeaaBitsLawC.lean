/-
  The walk of the law BitsWhole.
-/
import Derived.Test.YtjnmhnodfmmmeaaBitsLawB
import Derived.Deep.QuietTactic
import Derived.BigQuiet
import Derived.IntWalk
namespace Go.Proofs.Ytjnmhnodfmmmeaa
open Go.ChangeShapes Go.WideShapes Go.ChangeAt Go.RowKit
set_option linter.unusedVariables false
attribute [local irreducible] nums word topOf cells64
/-- A contract that changes nothing, behind draws. -/
theorem quiet_on {P : Program} {f : FuncId} {args : Array Value} {w : World} {a n : Nat} {v : Value} (h : Calls P f args (w.drewN (a + n)) fun e w' => e = .returned v ∧ w.drewN (a + n) = w') :
    Calls P f args (w.drewN (a + n)) fun e w' => e = .returned v ∧ ∃ m, w' = w.drewN (a + m) :=
  h.mono fun e w' hh => ⟨hh.1, n, hh.2.symm⟩
/-- What holds behind i rounds: x has the numbers of m that y has not; the first i numbers are gone from y. -/
def Round (m : Int) (i : Nat) (x y : Int) : Prop :=
  0 ≤ x ∧ x ≤ 18446744073709551615 ∧ 0 ≤ y ∧ y ≤ 18446744073709551615 ∧ (∀ j, j < 64 → bit x j = (bit m j && !bit y j)) ∧ (∀ j, bit y j = true → bit m j = true) ∧ ∃ acc, acc.length = i ∧ nums (bit m) = acc ++ nums (bit y)
theorem round_start (m : Int) (m0 : 0 ≤ m) (m1 : m ≤ 18446744073709551615) : Round m 0 0 m :=
  ⟨by omega, by omega, m0, m1, fun j hj => by unfold bit; simp, fun j h => h, [], rfl, rfl⟩
theorem round_end {m x y : Int} (m0 : 0 ≤ m) (m1 : m ≤ 18446744073709551615) (h : Round m (nums (bit m)).length x y) : x = m ∧ y = 0 := by
  obtain ⟨x0, x1, y0, y1, hx, hy, acc, hl, he⟩ := h
  have hn : nums (bit y) = [] := by
    have := congrArg List.length he
    rw [List.length_append, hl] at this
    exact List.eq_nil_of_length_eq_zero (by omega)
  have hz := nums_none y y0 y1 hn
  subst hz
  refine ⟨?_, rfl⟩
  rw [← word_bit x x0 x1, ← word_bit m m0 m1]
  refine word_congr fun i hi => ?_
  rw [hx i hi]; simp [bit]
theorem round_next {m x y : Int} {i : Nat} (h : Round m i x y) (hi : i < (nums (bit m)).length) :
    ∃ k : Nat, k < 64 ∧ topOf y = k ∧ (nums (bit m)).getD i 0 = (k : Int) ∧ Round m (i + 1) (word (put (bit x) k true)) (word (put (bit y) k false)) := by
  obtain ⟨x0, x1, y0, y1, hx, hy, acc, hl, he⟩ := h
  have hne : y ≠ 0 := by
    intro e
    subst e
    rw [nums_zero, List.append_nil] at he
    rw [he] at hi; omega
  obtain ⟨k, hk, hk64, hb, ht⟩ := top_bit y y0 y1 hne
  have hnt := nums_top y k hk64 hb ht
  refine ⟨k, hk64, hk, ?_, word_lo _, word_hi _, word_lo _, word_hi _, fun j hj => ?_, fun j hj => ?_, acc ++ [(k : Int)], by simp [hl], ?_⟩
  · rw [he, hnt, List.getD_eq_getElem?_getD, List.getElem?_append_right (by omega), hl]; simp
  · rw [bit_word _ j hj, bit_word _ j hj]
    unfold put
    by_cases e : j = k
    · subst e; simp [hy j hb]
    · rw [if_neg e, if_neg e]; exact hx j hj
  · rcases Nat.lt_or_ge j 64 with h | h
    · rw [bit_word _ j h] at hj
      unfold put at hj
      split at hj
      · cases hj
      · exact hy j hj
    · have : bit (word (put (bit y) k false)) j = false := by
        obtain ⟨z, hz⟩ := Int.eq_ofNat_of_zero_le (word_lo (put (bit y) k false))
        have hi := word_hi (put (bit y) k false)
        rw [hz] at hi ⊢
        rw [bit_nat]
        exact Nat.testBit_lt_two_pow (Nat.lt_of_lt_of_le (show z < 2 ^ 64 by omega) (Nat.pow_le_pow_right (by decide) h))
      rw [this] at hj; cases hj
  · rw [nums_word, he, hnt, List.append_assoc]; rfl
theorem falls_at (m : Int) (i : Nat) (h : i + 1 < (nums (bit m)).length) : (nums (bit m)).getD (i + 1) 0 < (nums (bit m)).getD i 0 := by
  have := nums_falls (bit m) i (i + 1) (Nat.lt_succ_self i) h
  simp only [List.getD_eq_getElem?_getD, List.getElem?_eq_getElem h, List.getElem?_eq_getElem (Nat.lt_trans (Nat.lt_succ_self i) h), Option.getD_some]
  exact this
set_option maxHeartbeats 1600000 in
theorem walk_bitsWhole (w : World) (m : Int) (wm : (Lit.int .u64 m).wf = true) :
    Calls Try.prog 6 #[.int .u64 m] w fun e w' => e = .returned (.bool true) ∧ Below w.heap.size w w' := by
  obtain ⟨m0, m1⟩ := u64_wf wm
  clear wm
  have hle := nums_le (bit m)
  obtain ⟨L, hL⟩ : ∃ L, L = (nums (bit m)).length := ⟨_, rfl⟩
  have hL64 : L ≤ 64 := by omega
  have HL := hide hL
  clear hL hle
  go_enter Try.func6, Try.ntmps6
  go_wp2_with (go_at_call 16; with_reducible refine (ball_any m _ m0 m1).mono ?_; rintro e w1 ⟨v, rfl, ho, hb⟩; obtain ⟨A, c, rfl, hi, hnil⟩ := own_ints ho; rw [← HL.out]; clear ho)
  have HI := hide hi.2
  rw [← HL.out] at HI
  clear hi
  go_loopw [4, 5, 6] (fun x y i wr => ∃ (n : Nat) (p q : Int) (r : Nat), n ≤ L ∧ i = .int .i64 n ∧ x = .int .u64 p ∧ y = .int .u64 q ∧ Hid (Round m n p q) ∧ wr = w1.drewN r) (fun _ _ i _ => L - (intOf i).toNat)
  case atStart => exact ⟨0, 0, m, 0, by omega, rfl, rfl, rfl, round_start m m0 m1, rfl⟩
  case round =>
    obtain ⟨n, p, q, r, hn, rfl, rfl, rfl, hr, rfl⟩ := hrel
    by_cases hlt : n < L
    · obtain ⟨k, hk64, hk, hget, hr'⟩ := round_next hr.out (by rw [← HL.out]; exact hlt)
      obtain ⟨b, off, rfl, hcells⟩ := HI.out (by omega)
      have hc := hcells n hlt
      rw [hget] at hc
      obtain ⟨p0, p1, q0, q1, _⟩ := hr.out
      have HK := hide hk
      clear hk
      cases n with
      | zero =>
        have hr2 := hide hr'
        clear hcells hget hr' hr HI
        rw [Nat.add_zero] at hc
        rw [show ((0 : Nat) : Int) = 0 from rfl]
        go_wp2_with fail
        go_quiet ((go_at_call 14; exact quiet_on (top_is q k _ q0 q1 HK.out)))
        go_wp2_with fail
        go_quiet ((first
          | (go_at_call 9; exact quiet_on (set_in p k _ p0 p1 hk64))
          | (go_at_call 11; exact quiet_on (clear_in q k _ q0 q1 hk64))))
        go_wp2_with fail
        go_roundw
        case rel => exact ⟨0 + 1, _, _, _, by omega, by go_num, rfl, rfl, hr2, rfl⟩
        case measure => simp [intOf]; omega
      | succ n =>
        have hp := hcells n (by omega)
        have hf := falls_at m n (by rw [← HL.out]; exact hlt)
        rw [hget] at hf
        generalize (nums (bit m)).getD n 0 = z at hp hf
        have hnd : decide (z ≤ (k : Int)) = false := by simpa using hf
        have hs : IntKind.i64.wrap ((n : Int) + 1 - 1) = (n : Int) := IntWalk.i64_in _ (by omega) |>.trans (by omega)
        have hr2 := hide hr'
        clear hcells hget hr' hr HI
        go_wp2_with fail
        go_quiet ((go_at_call 14; exact quiet_on (top_is q k _ q0 q1 HK.out)))
        clear hs hnd
        go_wp2_with fail
        go_quiet ((first
          | (go_at_call 9; exact quiet_on (set_in p k _ p0 p1 hk64))
          | (go_at_call 11; exact quiet_on (clear_in q k _ q0 q1 hk64))))
        go_wp2_with fail
        go_roundw
        case rel => exact ⟨n + 1 + 1, _, _, _, by omega, by go_num, rfl, rfl, hr2, rfl⟩
        case measure => simp [intOf]; omega
    · obtain rfl : n = L := by omega
      rw [HL.out] at hr
      obtain ⟨rfl, rfl⟩ := round_end m0 m1 hr.out
      clear HI hr
      go_wp2_with (first
        | (go_at_call 13; with_reducible refine (count_is _ n _ m0 m1 (by rw [← HL.out])).mono ?_; rintro e w' ⟨rfl, rfl⟩)
        | (go_at_call 15; with_reducible refine (awake_any _).mono ?_; rintro e w' ⟨rfl, rfl⟩))
      go_ret
      exact ⟨rfl, below_drewN hb _⟩
end Go.Proofs.Ytjnmhnodfmmmeaa
