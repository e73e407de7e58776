/-
  Plain arithmetic of layer 2, second part: a number set or cleared, the greatest number of a word.
-/
import Derived.Test.YtccokhalcdljiaaBitsPop
import Derived.WalkKit
namespace Go.Proofs.Ytccokhalcdljiaa
open Go
theorem wordFrom_bit (f : Nat → Bool) : ∀ n k i, i < n → bit (wordFrom f n k) i = f (k + i)
  | 0, _, i, h => by omega
  | n + 1, k, 0, _ => by
    have lo := wordFrom_lo f n (k + 1)
    rw [wordFrom, bit]
    simp only [Int.pow_zero, Int.ediv_one, Nat.add_zero]
    cases f k
    · have : ((0 : Int) + 2 * wordFrom f n (k + 1)) % 2 = 0 := by omega
      simp
    · have : ((1 : Int) + 2 * wordFrom f n (k + 1)) % 2 = 1 := by omega
      simp [this]
  | n + 1, k, i + 1, h => by
    have ih := wordFrom_bit f n (k + 1) i (by omega)
    rw [← bit_half]
    have : wordFrom f (n + 1) k / 2 = wordFrom f n (k + 1) := by rw [wordFrom]; split <;> omega
    rw [this, ih]; congr 1; omega
theorem bit_word (f : Nat → Bool) (i : Nat) (h : i < 64) : bit (word f) i = f i := by
  have := wordFrom_bit f 64 0 i h
  rwa [Nat.zero_add] at this
theorem word_lo (f : Nat → Bool) : 0 ≤ word f := wordFrom_lo f 64 0
theorem word_hi (f : Nat → Bool) : word f ≤ 18446744073709551615 := by have := wordFrom_hi f 64 0; unfold word; omega
theorem wordFrom_congr {f g : Nat → Bool} : ∀ n k, (∀ i, i < n → f (k + i) = g (k + i)) → wordFrom f n k = wordFrom g n k
  | 0, _, _ => rfl
  | n + 1, k, h => by
    have e := wordFrom_congr (f := f) (g := g) n (k + 1) (fun i hi => by have e := h (i + 1) (by omega); rw [show k + (i + 1) = k + 1 + i from by omega] at e; exact e)
    have e0 : f k = g k := h 0 (by omega)
    rw [wordFrom, wordFrom, e, e0]
theorem word_congr {f g : Nat → Bool} (h : ∀ i, i < 64 → f i = g i) : word f = word g := wordFrom_congr 64 0 fun i hi => by rw [Nat.zero_add]; exact h i hi
theorem fall_congr {f g : Nat → Bool} (h : ∀ i, i < 64 → f i = g i) : ∀ n, fall f n = fall g n
  | 0 => rfl
  | n + 1 => by rw [fall, fall, fall_congr h n, h (63 - n) (by omega)]
theorem nums_word (f : Nat → Bool) : nums (bit (word f)) = nums f := fall_congr (fun i hi => bit_word f i hi) 64
theorem pow_small (n : Nat) (h : n < 64) : (2 : Nat) ^ n < 18446744073709551616 := Nat.pow_lt_pow_right (a := 2) (n := 64) (by decide) h
theorem wrap_pow (n : Nat) (h : n < 64) : IntKind.u64.wrap (2 ^ n) = ((2 ^ n : Nat) : Int) := by
  rw [← wrap_u64_in (2 ^ n) (pow_small n h)]; simp
theorem or_set (m : Int) (n : Nat) (m0 : 0 ≤ m) (m1 : m ≤ 18446744073709551615) (hn : n < 64) :
    bits .or .u64 m (IntKind.u64.wrap (2 ^ n)) = word (put (bit m) n true) := by
  obtain ⟨x, rfl⟩ := Int.eq_ofNat_of_zero_le m0
  have hp := pow_small n hn
  rw [wrap_pow n hn, u64_or_nat _ _ (by omega) hp]
  have hx : x ||| 2 ^ n < 2 ^ 64 := Nat.or_lt_two_pow (by omega) (by omega)
  refine (word_ext _ _ (by omega) (by omega) fun i hi => ?_).symm
  rw [bit_nat, Nat.testBit_or, Nat.testBit_two_pow, put]
  by_cases h : i = n
  · subst h; simp
  · rw [if_neg h, bit_nat]; simp [show ¬ n = i from fun e => h e.symm]
theorem andNot_clear (m : Int) (n : Nat) (m0 : 0 ≤ m) (m1 : m ≤ 18446744073709551615) (hn : n < 64) :
    bits .andNot .u64 m (IntKind.u64.wrap (2 ^ n)) = word (put (bit m) n false) := by
  obtain ⟨x, rfl⟩ := Int.eq_ofNat_of_zero_le m0
  have hp := pow_small n hn
  rw [wrap_pow n hn, u64_andNot_nat _ _ (by omega) hp]
  have hx : x &&& (18446744073709551615 - 2 ^ n) < 2 ^ 64 := Nat.and_lt_two_pow _ (Nat.lt_of_le_of_lt (Nat.sub_le _ _) (by decide))
  refine (word_ext _ _ (by omega) (by omega) fun i hi => ?_).symm
  have e : 18446744073709551615 - 2 ^ n = 2 ^ 64 - (2 ^ n + 1) := by omega
  rw [bit_nat, Nat.testBit_and, e, Nat.testBit_two_pow_sub_succ (by omega), Nat.testBit_two_pow, put]
  by_cases h : i = n
  · subst h; simp
  · rw [if_neg h, bit_nat]; simp [show ¬ n = i from fun e => h e.symm, hi]
theorem has_bit (m : Int) (n : Nat) (m0 : 0 ≤ m) (m1 : m ≤ 18446744073709551615) : (bits .and .u64 (m / 2 ^ n) 1 == 1) = bit m n := by
  have a := div_pow_lo m n m0
  have b := div_pow_hi m n m0
  obtain ⟨x, hx⟩ := Int.eq_ofNat_of_zero_le a
  unfold bit
  rw [hx, show (1 : Int) = ((1 : Nat) : Int) from rfl, u64_and_nat x 1 (by omega) (by omega), nat_mask1]
  rfl
/-- The greatest number of a word; -1 of none. -/
def topOf (m : Int) : Int := (Lib.bitLen m.toNat : Int) - 1
theorem bitLenAux_top : ∀ f x : Nat, x < 2 ^ f → x ≠ 0 → ∃ k, Lib.bitLenAux f x = k + 1 ∧ k < f ∧ x.testBit k = true ∧ x < 2 ^ (k + 1)
  | 0, x, h, h0 => by simp at h; omega
  | f + 1, x, h, h0 => by
    rw [Lib.bitLenAux, if_neg h0]
    by_cases h2 : x / 2 = 0
    · refine ⟨0, ?_, by omega, ?_, by omega⟩
      · rw [h2]; cases f <;> simp [Lib.bitLenAux]
      · have : x = 1 := by omega
        subst this; decide
    · obtain ⟨k, e, hk, hb, hx⟩ := bitLenAux_top f (x / 2) (by rw [Nat.pow_succ] at h; omega) h2
      refine ⟨k + 1, by rw [e]; omega, by omega, by rw [Nat.testBit_succ]; exact hb, by rw [Nat.pow_succ]; omega⟩
theorem top_zero : topOf 0 = -1 := by decide
/-- The greatest number of a word that has one: it is in the word, none above it is. -/
theorem top_bit (m : Int) (m0 : 0 ≤ m) (m1 : m ≤ 18446744073709551615) (h : m ≠ 0) : ∃ k : Nat, topOf m = k ∧ k < 64 ∧ bit m k = true ∧ ∀ i, k < i → bit m i = false := by
  obtain ⟨x, rfl⟩ := Int.eq_ofNat_of_zero_le m0
  obtain ⟨k, e, hk, hb, hx⟩ := bitLenAux_top 64 x (by omega) (by omega)
  refine ⟨k, ?_, hk, by rw [bit_nat]; exact hb, fun i hi => ?_⟩
  · unfold topOf Lib.bitLen; rw [Int.toNat_natCast, e]; omega
  · rw [bit_nat]
    refine Nat.testBit_lt_two_pow (Nat.lt_of_lt_of_le hx (Nat.pow_le_pow_right (by decide) (by omega)))
theorem fall_below (f : Nat → Bool) (k : Nat) (h : ∀ i, k < i → f i = false) : ∀ n, n ≤ 63 - k → fall f n = []
  | 0, _ => rfl
  | n + 1, hn => by rw [fall, fall_below f k h n (by omega), h (63 - n) (by omega)]; rfl
theorem fall_top (f : Nat → Bool) (k : Nat) (hk : k < 64) (hf : f k = true) (h : ∀ i, k < i → f i = false) : ∀ n, n ≤ k → fall f (63 - k + 1 + n) = (k : Int) :: fall (put f k false) (63 - k + 1 + n)
  | 0, _ => by
    have e : 63 - (63 - k) = k := by omega
    rw [Nat.add_zero, fall, fall_below f k h _ (Nat.le_refl _), e, if_pos hf, fall, fall_below (put f k false) k (fun i hi => by unfold put; rw [if_neg (by omega)]; exact h i hi) _ (Nat.le_refl _), e]
    simp [put]
  | n + 1, hn => by
    have e : put f k false (63 - (63 - k + 1 + n)) = f (63 - (63 - k + 1 + n)) := by unfold put; rw [if_neg (by omega)]
    rw [← Nat.add_assoc, fall, fall_top f k hk hf h n (by omega), fall, List.cons_append, e]
/-- All numbers of a word that has one: the greatest, and those of the word without it. -/
theorem nums_top (m : Int) (k : Nat) (hk : k < 64) (hf : bit m k = true) (h : ∀ i, k < i → bit m i = false) : nums (bit m) = (k : Int) :: nums (put (bit m) k false) := by
  have := fall_top (bit m) k hk hf h k (Nat.le_refl _)
  rwa [show 63 - k + 1 + k = 64 from by omega] at this
theorem nums_zero : nums (bit 0) = [] := by decide
theorem nums_le (f : Nat → Bool) : (nums f).length ≤ 64 := fall_len f 64
/-- '&' of two numbers of int that are not below 0. -/
theorem i64_and_nat (a b : Nat) (ha : a < 9223372036854775808) (hb : b < 9223372036854775808) : bits .and .i64 (a : Int) (b : Int) = ((a &&& b : Nat) : Int) := by
  have le : a &&& b ≤ a := Nat.and_le_left
  have ea : (BitVec.ofInt 64 (a : Int)).toNat = a := by simp only [BitVec.ofInt_natCast, BitVec.toNat_ofNat]; omega
  have eb : (BitVec.ofInt 64 (b : Int)).toNat = b := by simp only [BitVec.ofInt_natCast, BitVec.toNat_ofNat]; omega
  have e : bits .and .i64 (a : Int) (b : Int) = IntKind.i64.wrap ((BitVec.ofInt 64 (a : Int)).toNat &&& (BitVec.ofInt 64 (b : Int)).toNat : Nat) := by
    rw [← BitVec.toNat_and]; rfl
  rw [e, ea, eb, IntKind.wrap_i64]
  omega
theorem count_len (x : Int) (x0 : 0 ≤ x) (x1 : x ≤ 18446744073709551615) : bits .and .i64 (RowKit.wrap64 (swar x)) 127 = ((nums (bit x)).length : Int) := by
  obtain ⟨n, rfl⟩ := Int.eq_ofNat_of_zero_le x0
  obtain ⟨y, e, hy, hp⟩ := swar_nat n (by omega)
  have hw : RowKit.wrap64 (y : Int) = y := by unfold RowKit.wrap64; omega
  rw [e, hw, show (127 : Int) = ((127 : Nat) : Int) from rfl, i64_and_nat y 127 hy (by omega), nat_mask7, hp, nums_len]
/-- Numbers of a row come falling. -/
theorem fall_lo (f : Nat → Bool) : ∀ n, n ≤ 64 → ∀ x ∈ fall f n, (64 : Int) - n ≤ x
  | 0, _, x, h => by cases h
  | n + 1, hn, x, h => by
    rw [fall, List.mem_append] at h
    rcases h with h | h
    · have := fall_lo f n (by omega) x h; omega
    · split at h
      · rw [List.mem_singleton] at h; omega
      · cases h
theorem fall_sorted (f : Nat → Bool) : ∀ n, n ≤ 64 → (fall f n).Pairwise (· > ·)
  | 0, _ => List.Pairwise.nil
  | n + 1, hn => by
    rw [fall, List.pairwise_append]
    refine ⟨fall_sorted f n (by omega), by split <;> simp, fun x hx y hy => ?_⟩
    have := fall_lo f n (by omega) x hx
    split at hy
    · rw [List.mem_singleton] at hy; omega
    · cases hy
attribute [local irreducible] nums in
theorem nums_falls (f : Nat → Bool) (i j : Nat) (hi : i < j) (hj : j < (nums f).length) : (nums f)[j]'hj < (nums f)[i]'(Nat.lt_trans hi hj) := by
  have h : (nums f).Pairwise (· > ·) := by unfold nums; exact fall_sorted f 64 (by omega)
  exact List.pairwise_iff_getElem.1 h i j (Nat.lt_trans hi hj) hj hi
theorem cnt_congr (f g : Nat → Bool) : ∀ n k, (∀ i, k ≤ i → i < k + n → f i = g i) → cnt f n k = cnt g n k
  | 0, _, _ => rfl
  | n + 1, k, h => by rw [cnt, cnt, h k (by omega) (by omega), cnt_congr f g n (k + 1) fun i h1 h2 => h i (by omega) (by omega)]
theorem cnt_put (f : Nat → Bool) (p : Nat) : ∀ n k, k ≤ p → p < k + n → cnt (put f p true) n k = cnt (put f p false) n k + 1
  | 0, k, h1, h2 => by omega
  | n + 1, k, h1, h2 => by
    rw [cnt, cnt]
    by_cases h : k = p
    · subst h
      rw [cnt_congr (put f k true) (put f k false) n (k + 1) fun i h1 h2 => by unfold put; rw [if_neg (by omega), if_neg (by omega)]]
      simp [put]; omega
    · rw [cnt_put f p n (k + 1) (by omega) (by omega)]
      simp [put, h]; omega
theorem nums_put (f : Nat → Bool) (p : Nat) (h : p < 64) : (nums (put f p true)).length = (nums (put f p false)).length + 1 := by
  rw [show nums (put f p true) = fall (put f p true) 64 from rfl, show nums (put f p false) = fall (put f p false) 64 from rfl, fall_cnt _ 64 (by omega), fall_cnt _ 64 (by omega)]
  exact cnt_put f p 64 0 (by omega) (by omega)
theorem nums_none (m : Int) (m0 : 0 ≤ m) (m1 : m ≤ 18446744073709551615) (h : nums (bit m) = []) : m = 0 := by
  rcases Int.lt_or_eq_of_le m0 with h0 | h0
  · obtain ⟨k, _, hk, hb, ht⟩ := top_bit m m0 m1 (by omega)
    rw [nums_top m k hk hb ht] at h; cases h
  · exact h0.symm
end Go.Proofs.Ytccokhalcdljiaa
