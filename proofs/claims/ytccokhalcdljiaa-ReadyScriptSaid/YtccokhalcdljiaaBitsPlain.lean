/-
  Plain arithmetic of layer 2 (sets of the numbers 0 to 63 as words): no Go in sight.
-/
import Derived.Laws.Tables
namespace Go.Proofs.Ytccokhalcdljiaa
open Go
/-- Is the number i in the word m? -/
def bit (m : Int) (i : Nat) : Bool := m / 2 ^ i % 2 == 1
theorem bit_half (m : Int) (i : Nat) : bit (m / 2) i = bit m (i + 1) := by
  unfold bit
  rw [Int.pow_succ, Int.mul_comm, ← Int.ediv_ediv_of_nonneg (by omega)]
theorem div_pow_succ (m : Int) (k : Nat) : m / 2 ^ k / 2 = m / 2 ^ (k + 1) := by
  rw [Int.pow_succ, Int.ediv_ediv_of_nonneg (Int.pow_nonneg (by decide))]
theorem div_pow_lo (m : Int) (k : Nat) (h : 0 ≤ m) : 0 ≤ m / 2 ^ k := Int.ediv_nonneg h (Int.pow_nonneg (by decide))
theorem div_pow_hi (m : Int) (k : Nat) (h : 0 ≤ m) : m / 2 ^ k ≤ m := Int.ediv_le_self _ h
/-- A row of 64 truths, as cells. -/
def cells64 (f : Nat → Bool) : Array Value := ((List.range 64).map fun i => Value.bool (f i)).toArray
theorem cells64_size (f : Nat → Bool) : (cells64 f).size = 64 := by simp [cells64]
theorem cells64_get (f : Nat → Bool) (i : Nat) (h : i < 64) : (cells64 f)[i]? = some (.bool (f i)) := by
  simp [cells64, h]
theorem cells64_set (f : Nat → Bool) (k : Nat) (b : Bool) : (cells64 f).setIfInBounds k (.bool b) = cells64 (fun i => if i = k then b else f i) := by
  apply Array.ext_getElem?
  intro i
  rw [Array.getElem?_setIfInBounds]
  by_cases hi : i < 64
  · by_cases hk : k = i
    · subst hk; rw [if_pos rfl, if_pos (by rw [cells64_size]; exact hi), cells64_get _ _ hi, if_pos rfl]
    · rw [if_neg hk, cells64_get _ _ hi, cells64_get _ _ hi, if_neg (fun e => hk e.symm)]
  · have h1 : (cells64 f)[i]? = none := by rw [Array.getElem?_eq_none_iff, cells64_size]; omega
    have h2 : (cells64 (fun i => if i = k then b else f i))[i]? = none := by rw [Array.getElem?_eq_none_iff, cells64_size]; omega
    rw [h1, h2]
    by_cases hk : k = i
    · subst hk; rw [if_pos rfl, if_neg (by rw [cells64_size]; exact hi)]
    · rw [if_neg hk]
theorem cells64_congr {f g : Nat → Bool} (h : ∀ i, i < 64 → f i = g i) : cells64 f = cells64 g := by
  apply Array.ext_getElem?
  intro i
  by_cases hi : i < 64
  · rw [cells64_get _ _ hi, cells64_get _ _ hi, h i hi]
  · have h1 : (cells64 f)[i]? = none := by rw [Array.getElem?_eq_none_iff, cells64_size]; omega
    have h2 : (cells64 g)[i]? = none := by rw [Array.getElem?_eq_none_iff, cells64_size]; omega
    rw [h1, h2]
theorem cells64_one (f : Nat → Bool) : (cells64 f).all (·.oneCell') = true := by
  simp [cells64, Value.oneCell']
/-- What a row is behind k rounds. -/
def upto (f : Nat → Bool) (k : Nat) (i : Nat) : Bool := decide (i < k) && f i
theorem upto_zero (f : Nat → Bool) : cells64 (upto f 0) = cells64 fun _ => false := cells64_congr fun i _ => by simp [upto]
theorem upto_all (f : Nat → Bool) : cells64 (upto f 64) = cells64 f := cells64_congr fun i h => by simp [upto, h]
theorem upto_succ (f : Nat → Bool) (k : Nat) : (cells64 (upto f k)).setIfInBounds k (.bool (f k)) = cells64 (upto f (k + 1)) := by
  rw [cells64_set]
  refine cells64_congr fun i _ => ?_
  unfold upto
  by_cases h : i = k
  · subst h; simp
  · rw [if_neg h]
    by_cases h2 : i < k
    · simp [h2, show i < k + 1 by omega]
    · simp [h2, show ¬ i < k + 1 by omega]
/-- The row f with n in it, or out. -/
def put (f : Nat → Bool) (n : Nat) (b : Bool) : Nat → Bool := fun i => if i = n then b else f i
/-- The word of a row: its truths from 'k' on, the least one first. -/
def wordFrom (f : Nat → Bool) : Nat → Nat → Int
  | 0, _ => 0
  | n + 1, k => (if f k then 1 else 0) + 2 * wordFrom f n (k + 1)
def word (f : Nat → Bool) : Int := wordFrom f 64 0
theorem wordFrom_lo (f : Nat → Bool) : ∀ n k, 0 ≤ wordFrom f n k
  | 0, _ => Int.le_refl 0
  | n + 1, k => by have := wordFrom_lo f n (k + 1); unfold wordFrom; split <;> omega
theorem wordFrom_hi (f : Nat → Bool) : ∀ n k, wordFrom f n k < 2 ^ n
  | 0, k => by unfold wordFrom; omega
  | n + 1, k => by have := wordFrom_hi f n (k + 1); rw [wordFrom, Int.pow_succ]; split <;> omega
theorem wordFrom_succ (f : Nat → Bool) (n k : Nat) : wordFrom f (n + 1) k = 2 * wordFrom f n (k + 1) + if f k then 1 else 0 := by
  show (if f k then 1 else 0) + 2 * wordFrom f n (k + 1) = _
  omega

/-- The word's truths from j on. -/
def wd (f : Nat → Bool) (j : Nat) : Int := wordFrom f (64 - j) j
theorem wd_start (f : Nat → Bool) : wd f 64 = 0 := rfl
theorem wd_end (f : Nat → Bool) : wd f 0 = word f := rfl
theorem wd_lo (f : Nat → Bool) (j : Nat) : 0 ≤ wd f j := wordFrom_lo f _ _
theorem wd_hi (f : Nat → Bool) (j : Nat) : wd f (j + 1) ≤ 9223372036854775807 := by
  have h := wordFrom_hi f (64 - (j + 1)) (j + 1)
  have p : (2 : Int) ^ (64 - (j + 1)) ≤ 2 ^ 63 := by
    have : (2 : Nat) ^ (64 - (j + 1)) ≤ 2 ^ 63 := Nat.pow_le_pow_right (by decide) (by omega)
    exact_mod_cast this
  unfold wd
  omega
theorem wd_one (f : Nat → Bool) (k : Nat) (h : k < 64) (hf : f k = true) : wd f (k + 1) * 2 + 1 = wd f k := by
  unfold wd
  rw [show 64 - k = (64 - (k + 1)) + 1 from by omega, wordFrom_succ, hf]; simp; omega
theorem wd_zero (f : Nat → Bool) (k : Nat) (h : k < 64) (hf : f k = false) : wd f (k + 1) * 2 = wd f k := by
  unfold wd
  rw [show 64 - k = (64 - (k + 1)) + 1 from by omega, wordFrom_succ, hf]; simp; omega
/-- The numbers of a row, falling, behind n rounds. -/
def fall (f : Nat → Bool) : Nat → List Int
  | 0 => []
  | n + 1 => fall f n ++ if f (63 - n) then [((63 - n : Nat) : Int)] else []
def nums (f : Nat → Bool) : List Int := fall f 64
theorem fall_len (f : Nat → Bool) : ∀ n, (fall f n).length ≤ n
  | 0 => Nat.le_refl 0
  | n + 1 => by have := fall_len f n; rw [fall]; split <;> simp <;> omega
theorem fall_hit (f : Nat → Bool) (n k : Nat) (hk : 63 - n = k) (h : f k = true) : fall f (n + 1) = fall f n ++ [(k : Int)] := by
  subst hk; rw [fall, if_pos h]
theorem fall_miss (f : Nat → Bool) (n k : Nat) (hk : 63 - n = k) (h : f k = false) : fall f (n + 1) = fall f n := by
  subst hk; rw [fall, h]; simp
theorem wordFrom_ext (f : Nat → Bool) : ∀ (n k : Nat) (x : Int), 0 ≤ x → x < 2 ^ n → (∀ i, i < n → bit x i = f (k + i)) → wordFrom f n k = x
  | 0, k, x, h0, h1, _ => by simp at h1; simp [wordFrom]; omega
  | n + 1, k, x, h0, h1, h => by
    rw [Int.pow_succ] at h1
    have e := wordFrom_ext f n (k + 1) (x / 2) (by omega) (by omega) (fun i hi => by
      rw [bit_half, h (i + 1) (by omega)]; congr 1; omega)
    rw [wordFrom, e]
    have h00 := h 0 (by omega)
    rw [Nat.add_zero] at h00
    have hb : bit x 0 = (x % 2 == 1) := by simp [bit]
    rw [hb] at h00
    by_cases p : x % 2 = 1
    · rw [← h00, p]; simp; omega
    · have : (x % 2 == 1) = false := by simpa using p
      rw [← h00, this]; simp; omega
theorem word_ext (f : Nat → Bool) (x : Int) (h0 : 0 ≤ x) (h1 : x ≤ 18446744073709551615) (h : ∀ i, i < 64 → bit x i = f i) : word f = x :=
  wordFrom_ext f 64 0 x h0 (by omega) (fun i hi => by rw [Nat.zero_add]; exact h i hi)
theorem word_bit (m : Int) (h0 : 0 ≤ m) (h1 : m ≤ 18446744073709551615) : word (bit m) = m := word_ext _ m h0 h1 fun _ _ => rfl
theorem bit_nat (n i : Nat) : bit (n : Int) i = n.testBit i := by
  rw [Nat.testBit_eq_decide_div_mod_eq]
  unfold bit
  have : ((n : Int) / 2 ^ i % 2) = ((n / 2 ^ i % 2 : Nat) : Int) := by simp
  rw [this]
  by_cases h : n / 2 ^ i % 2 = 1
  · simp [h]
  · have h2 : ¬ ((n / 2 ^ i % 2 : Nat) : Int) = 1 := by omega
    simp only [h, decide_false]
    exact beq_false_of_ne h2
end Go.Proofs.Ytccokhalcdljiaa
