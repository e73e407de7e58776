/-
  The walks of the laws BitsBack, BitsWhole.
-/
import Derived.Test.YtjnmhnodfmmmeaaBitsLawA
namespace Go.Proofs.Ytjnmhnodfmmmeaa
open Go.ChangeShapes Go.WideShapes Go.ChangeAt Go.RowKit
set_option linter.unusedVariables false
attribute [local irreducible] nums word topOf cells64
theorem low_wrap (x : Int) (n : Nat) (hn : x % 64 = n) : wrap64 ((IntKind.u64.wrap x).tmod 64) = n := by
  have h : IntKind.u64.wrap x = x % 18446744073709551616 := by simp [IntKind.wrap, IntKind.bits, IntKind.signed]
  rw [h, Int.tmod_eq_emod_of_nonneg (by omega)]
  unfold wrap64
  omega
theorem low_is (x : Int) (n : Nat) (w : World) (hn : x % 64 = n) :
    Calls Try.prog 19 #[.int .i64 x, .int .i64 64] w fun e w' => e = .returned (.int .i64 (n : Int)) ∧ w = w' := by
  have HN := hide hn
  clear hn
  go_enter Try.func19, Try.ntmps19
  go_wp2_with fail
  go_ret
  exact ⟨ret_int (low_wrap x n HN.out), rfl⟩
theorem set_is (m : Int) (n : Nat) (S : Int) (w : World) (m0 : 0 ≤ m) (m1 : m ≤ 18446744073709551615) (hn : n < 64) (hS : word (put (bit m) n true) = S) :
    Calls Try.prog 9 #[.int .u64 m, .int .i64 (n : Int)] w fun e w' => e = .returned (.int .u64 S) ∧ w = w' := by subst hS; exact set_in m n w m0 m1 hn
theorem clear_is (m : Int) (n : Nat) (S : Int) (w : World) (m0 : 0 ≤ m) (m1 : m ≤ 18446744073709551615) (hn : n < 64) (hS : word (put (bit m) n false) = S) :
    Calls Try.prog 11 #[.int .u64 m, .int .i64 (n : Int)] w fun e w' => e = .returned (.int .u64 S) ∧ w = w' := by subst hS; exact clear_in m n w m0 m1 hn
theorem has_is (m : Int) (n : Nat) (b : Bool) (w : World) (m0 : 0 ≤ m) (m1 : m ≤ 18446744073709551615) (hn : n < 64) (hb : bit m n = b) :
    Calls Try.prog 12 #[.int .u64 m, .int .i64 (n : Int)] w fun e w' => e = .returned (.bool b) ∧ w = w' := by subst hb; exact has_in m n w m0 m1 hn
theorem count_is (m L : Int) (w : World) (m0 : 0 ≤ m) (m1 : m ≤ 18446744073709551615) (h : ((nums (bit m)).length : Int) = L) :
    Calls Try.prog 13 #[.int .u64 m] w fun e w' => e = .returned (.int .i64 L) ∧ w = w' := by subst h; exact count_any m w m0 m1
theorem top_is (m L : Int) (w : World) (m0 : 0 ≤ m) (m1 : m ≤ 18446744073709551615) (h : topOf m = L) :
    Calls Try.prog 14 #[.int .u64 m] w fun e w' => e = .returned (.int .i64 L) ∧ w = w' := by subst h; exact top_any m w m0 m1
/-- What Set and Clear make of a word, told once. -/
structure Two (m : Int) (n : Nat) (S C LS LC K : Int) : Prop where
  set : word (put (bit m) n true) = S
  clear : word (put (bit m) n false) = C
  s0 : 0 ≤ S
  s1 : S ≤ 18446744073709551615
  c0 : 0 ≤ C
  c1 : C ≤ 18446744073709551615
  hasS : bit S n = true
  hasC : bit C n = false
  otherS : ∀ k, k < 64 → k ≠ n → bit S k = bit m k
  otherC : ∀ k, k < 64 → k ≠ n → bit C k = bit m k
  lenS : ((nums (bit S)).length : Int) = LS
  lenC : ((nums (bit C)).length : Int) = LC
  one : LS = LC + 1
  lo : 0 ≤ LC
  hi : LC ≤ 64
  back : word (put (bit C) n true) = S
  forth : word (put (bit S) n false) = C
  top : topOf S = K
  above : (n : Int) ≤ K
theorem two (m : Int) (n : Nat) (m0 : 0 ≤ m) (m1 : m ≤ 18446744073709551615) (hn : n < 64) : ∃ S C LS LC K, Two m n S C LS LC K := by
  have bS : ∀ k, k < 64 → bit (word (put (bit m) n true)) k = put (bit m) n true k := fun k hk => bit_word _ k hk
  have bC : ∀ k, k < 64 → bit (word (put (bit m) n false)) k = put (bit m) n false k := fun k hk => bit_word _ k hk
  have hS : bit (word (put (bit m) n true)) n = true := by rw [bS n hn]; simp [put]
  obtain ⟨k, hk, hk64, hb, ht⟩ := top_bit (word (put (bit m) n true)) (word_lo _) (word_hi _) (by
    intro e; rw [e] at hS; revert hS; unfold bit; simp)
  refine ⟨_, _, _, _, _, rfl, rfl, word_lo _, word_hi _, word_lo _, word_hi _, hS, by rw [bC n hn]; simp [put], fun j hj hne => by rw [bS j hj]; simp [put, hne], fun j hj hne => by rw [bC j hj]; simp [put, hne], rfl, rfl, ?_, by omega, by have := nums_le (bit (word (put (bit m) n false))); omega, ?_, ?_, hk, ?_⟩
  · rw [nums_word, nums_word, nums_put _ n hn]; omega
  · refine word_congr fun i hi => ?_
    show (if i = n then true else bit (word (put (bit m) n false)) i) = (if i = n then true else bit m i)
    rw [bC i hi]; unfold put; split <;> rfl
  · refine word_congr fun i hi => ?_
    show (if i = n then false else bit (word (put (bit m) n true)) i) = (if i = n then false else bit m i)
    rw [bS i hi]; unfold put; split <;> rfl
  · rcases Nat.lt_or_ge k n with h | h
    · rw [ht n h] at hS; cases hS
    · omega
set_option maxHeartbeats 800000 in
theorem walk_bitsBack (w : World) (m : Int) (wm : (Lit.int .u64 m).wf = true) (i : Int) (wi : (Lit.int .i64 i).wf = true) (j : Int) (wj : (Lit.int .i64 j).wf = true) :
    Calls Try.prog 5 #[.int .u64 m, .int .i64 i, .int .i64 j] w fun e w' => e = .returned (.bool true) ∧ Below w.heap.size w w' := by
  obtain ⟨m0, m1⟩ := u64_wf wm
  clear wm wi wj
  obtain ⟨n, hi⟩ := Int.eq_ofNat_of_zero_le (show 0 ≤ i % 64 by omega)
  obtain ⟨k, hj⟩ := Int.eq_ofNat_of_zero_le (show 0 ≤ j % 64 by omega)
  have hn : n < 64 := by omega
  have hk : k < 64 := by omega
  obtain ⟨S, C, LS, LC, K, T⟩ := two m n m0 m1 hn
  have HI := hide hi
  have HJ := hide hj
  clear hi hj
  have s0 := T.s0; have s1 := T.s1; have c0 := T.c0; have c1 := T.c1
  have l0 := T.lo; have l1 := T.hi
  have e1 : LS - LC = 1 := by have := T.one; omega
  have l2 : LS ≤ 65 := by omega
  have l3 : 0 ≤ LS := by omega
  have E1 := hide e1
  have ab := T.above
  clear e1
  by_cases hkn : k = n
  · subst hkn
    have ne : ((k : Int) != (k : Int)) = false := by simp
    have ee : (LS - LC == 1) = true := by rw [E1.out]; rfl
    go_enter Try.func5, Try.ntmps5
    go_wp2_with (first
      | (go_at_call 19; with_reducible refine (low_is i k _ HI.out).mono ?_; rintro e w' ⟨rfl, rfl⟩)
      | (go_at_call 19; with_reducible refine (low_is j k _ HJ.out).mono ?_; rintro e w' ⟨rfl, rfl⟩)
      | (go_at_call 9; with_reducible refine (set_is m k S _ m0 m1 hn T.set).mono ?_; rintro e w' ⟨rfl, rfl⟩)
      | (go_at_call 9; with_reducible refine (set_is C k S _ c0 c1 hn T.back).mono ?_; rintro e w' ⟨rfl, rfl⟩)
      | (go_at_call 11; with_reducible refine (clear_is m k C _ m0 m1 hn T.clear).mono ?_; rintro e w' ⟨rfl, rfl⟩)
      | (go_at_call 11; with_reducible refine (clear_is S k C _ s0 s1 hn T.forth).mono ?_; rintro e w' ⟨rfl, rfl⟩)
      | (go_at_call 12; with_reducible refine (has_is S k true _ s0 s1 hn T.hasS).mono ?_; rintro e w' ⟨rfl, rfl⟩)
      | (go_at_call 12; with_reducible refine (has_is C k false _ c0 c1 hn T.hasC).mono ?_; rintro e w' ⟨rfl, rfl⟩)
      | (go_at_call 13; with_reducible refine (count_is S LS _ s0 s1 T.lenS).mono ?_; rintro e w' ⟨rfl, rfl⟩)
      | (go_at_call 13; with_reducible refine (count_is C LC _ c0 c1 T.lenC).mono ?_; rintro e w' ⟨rfl, rfl⟩)
      | (go_at_call 14; with_reducible refine (top_is S K _ s0 s1 T.top).mono ?_; rintro e w' ⟨rfl, rfl⟩)
      | (go_at_call 15; with_reducible refine (awake_any _).mono ?_; rintro e w' ⟨rfl, rfl⟩))
    go_ret
    exact ⟨rfl, Below.refl _ _⟩
  · obtain ⟨t, ht⟩ : ∃ t, bit m k = t := ⟨_, rfl⟩
    have HT := hide ht
    clear ht
    have ne : ((k : Int) != (n : Int)) = true := by simp; omega
    have oS := hide ((T.otherS k hk hkn).trans HT.out)
    have oC := hide ((T.otherC k hk hkn).trans HT.out)
    have ee : (LS - LC == 1) = true := by rw [E1.out]; rfl
    go_enter Try.func5, Try.ntmps5
    go_wp2_with (first
      | (go_at_call 19; with_reducible refine (low_is i n _ HI.out).mono ?_; rintro e w' ⟨rfl, rfl⟩)
      | (go_at_call 19; with_reducible refine (low_is j k _ HJ.out).mono ?_; rintro e w' ⟨rfl, rfl⟩)
      | (go_at_call 9; with_reducible refine (set_is m n S _ m0 m1 hn T.set).mono ?_; rintro e w' ⟨rfl, rfl⟩)
      | (go_at_call 9; with_reducible refine (set_is C n S _ c0 c1 hn T.back).mono ?_; rintro e w' ⟨rfl, rfl⟩)
      | (go_at_call 11; with_reducible refine (clear_is m n C _ m0 m1 hn T.clear).mono ?_; rintro e w' ⟨rfl, rfl⟩)
      | (go_at_call 11; with_reducible refine (clear_is S n C _ s0 s1 hn T.forth).mono ?_; rintro e w' ⟨rfl, rfl⟩)
      | (go_at_call 12; with_reducible refine (has_is S n true _ s0 s1 hn T.hasS).mono ?_; rintro e w' ⟨rfl, rfl⟩)
      | (go_at_call 12; with_reducible refine (has_is C n false _ c0 c1 hn T.hasC).mono ?_; rintro e w' ⟨rfl, rfl⟩)
      | (go_at_call 12; with_reducible refine (has_is S k t _ s0 s1 hk oS.out).mono ?_; rintro e w' ⟨rfl, rfl⟩)
      | (go_at_call 12; with_reducible refine (has_is C k t _ c0 c1 hk oC.out).mono ?_; rintro e w' ⟨rfl, rfl⟩)
      | (go_at_call 12; with_reducible refine (has_is m k t _ m0 m1 hk HT.out).mono ?_; rintro e w' ⟨rfl, rfl⟩)
      | (go_at_call 13; with_reducible refine (count_is S LS _ s0 s1 T.lenS).mono ?_; rintro e w' ⟨rfl, rfl⟩)
      | (go_at_call 13; with_reducible refine (count_is C LC _ c0 c1 T.lenC).mono ?_; rintro e w' ⟨rfl, rfl⟩)
      | (go_at_call 14; with_reducible refine (top_is S K _ s0 s1 T.top).mono ?_; rintro e w' ⟨rfl, rfl⟩)
      | (go_at_call 15; with_reducible refine (awake_any _).mono ?_; rintro e w' ⟨rfl, rfl⟩))
    go_ret
    exact ⟨rfl, Below.refl _ _⟩
end Go.Proofs.Ytjnmhnodfmmmeaa
