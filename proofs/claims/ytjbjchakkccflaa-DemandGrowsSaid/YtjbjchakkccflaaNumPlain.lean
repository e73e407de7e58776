/-
  Plain arithmetic of layer 1 (numbers clipped to 0 .. 2^40): no Go in sight.
-/
namespace Go.Proofs.Ytjbjchakkccflaa
/-- A number clipped. -/
def cl (x : Int) : Int := if x < 0 then 0 else if 1099511627776 < x then 1099511627776 else x
theorem cl_lo (x : Int) : 0 ≤ cl x := by unfold cl; split <;> (try split) <;> omega
theorem cl_hi (x : Int) : cl x ≤ 1099511627776 := by unfold cl; split <;> (try split) <;> omega
theorem cl_neg (x : Int) (h : x < 0) : cl x = 0 := by unfold cl; rw [if_pos h]
theorem cl_big (x : Int) (h : 1099511627776 < x) : cl x = 1099511627776 := by unfold cl; rw [if_neg (by omega), if_pos h]
theorem cl_in (x : Int) (h : 0 ≤ x) (k : x ≤ 1099511627776) : cl x = x := by unfold cl; rw [if_neg (by omega), if_neg (by omega)]
theorem cl_mono {x y : Int} (h : x ≤ y) : cl x ≤ cl y := by unfold cl; repeat' split <;> omega
theorem cl_cl (x : Int) : cl (cl x) = cl x := cl_in _ (cl_lo x) (cl_hi x)
/-- A divisor: clipped, and at least 1. -/
def dv (b : Int) : Int := if b < 1 then 1 else cl b
theorem dv_lo (b : Int) : 1 ≤ dv b := by unfold dv cl; repeat' split <;> omega
theorem dv_hi (b : Int) : dv b ≤ 1099511627776 := by unfold dv cl; repeat' split <;> omega
theorem dv_small (b : Int) (h : b < 1) : dv b = 1 := by unfold dv; rw [if_pos h]
theorem dv_else (b : Int) (h : ¬ b < 1) : dv b = cl b := by unfold dv; rw [if_neg h]
theorem dv_in (b : Int) (h : 1 ≤ b) (k : b ≤ 1099511627776) : dv b = b := by rw [dv_else b (by omega), cl_in b (by omega) k]
theorem dv_mono {x y : Int} (h : x ≤ y) : dv x ≤ dv y := by unfold dv cl; repeat' split <;> omega
theorem dv_of_cl (b : Int) (h : cl b < 1) : dv b = 1 := by
  unfold dv
  split
  · rfl
  · unfold cl at h ⊢; repeat' split <;> omega
theorem dv_of_cl' (b : Int) (h : ¬ cl b < 1) : dv b = cl b := by
  unfold dv
  split
  · unfold cl at h; repeat' split at h <;> omega
  · rfl
def mul (a b : Int) : Int := cl (cl a * cl b)
def up (a b : Int) : Int := (cl a + dv b - 1) / dv b
def down (a b : Int) : Int := cl a / dv b
/-- A sum, from 's' on: each number and each sum clipped. -/
def sumFrom (s : Int) (l : List Int) : Int := l.foldl (fun t x => cl (t + cl x)) s
def sum (l : List Int) : Int := sumFrom 0 l
theorem sum_snoc (l : List Int) (x : Int) : sum (l ++ [x]) = cl (sum l + cl x) := by simp [sum, sumFrom]
theorem sumFrom_lo (l : List Int) : ∀ s, 0 ≤ s → 0 ≤ sumFrom s l := by
  induction l with
  | nil => intro s h; exact h
  | cons x l ih => intro s _; exact ih _ (cl_lo _)
theorem sumFrom_hi (l : List Int) : ∀ s, s ≤ 1099511627776 → sumFrom s l ≤ 1099511627776 := by
  induction l with
  | nil => intro s h; exact h
  | cons x l ih => intro s _; exact ih _ (cl_hi _)
theorem sum_lo (l : List Int) : 0 ≤ sum l := sumFrom_lo l 0 (by omega)
theorem sum_hi (l : List Int) : sum l ≤ 1099511627776 := sumFrom_hi l 0 (by omega)
theorem Int.ediv_eq_of_nonneg_of_lt_mul' (x d q : Int) (hd : 0 < d) (h1 : q * d ≤ x) (h2 : x < (q + 1) * d) : x / d = q := by
  have a := (Int.le_ediv_iff_mul_le hd).mpr h1
  have b := (Int.ediv_lt_iff_lt_mul hd).mpr h2
  omega
/-- The product where it is within the bound; and where it is not. -/
theorem mul_over (a b : Int) (h : 0 < cl a) (k : 1099511627776 / cl a < cl b) : mul a b = 1099511627776 := by
  have h2 : 1099511627776 < cl a * cl b := by
    have := (Int.ediv_lt_iff_lt_mul h).mp k
    rw [Int.mul_comm]; exact this
  exact cl_big _ h2
theorem mul_fits (a b : Int) (h : 0 < cl a) (k : ¬ 1099511627776 / cl a < cl b) : 0 ≤ cl a * cl b ∧ cl a * cl b ≤ 1099511627776 := by
  refine ⟨Int.mul_nonneg (cl_lo a) (cl_lo b), ?_⟩
  have h2 : cl b ≤ 1099511627776 / cl a := by omega
  have := (Int.le_ediv_iff_mul_le h).mp h2
  rw [Int.mul_comm]; exact this
theorem mul_within (a b : Int) (k : cl a * cl b ≤ 1099511627776) : mul a b = cl a * cl b := cl_in _ (Int.mul_nonneg (cl_lo a) (cl_lo b)) k
theorem mul_zero_left (a b : Int) (h : cl a = 0) : mul a b = 0 := by unfold mul; rw [h, Int.zero_mul]; exact cl_in 0 (by omega) (by omega)
theorem dv_max (b : Int) : max (cl b) 1 = dv b := by unfold dv cl; repeat' split <;> omega
theorem dv_max' (b : Int) : max 1 (cl b) = dv b := by unfold dv cl; repeat' split <;> omega
theorem cl_dv (b : Int) : cl (dv b) = dv b := cl_in _ (by have := dv_lo b; omega) (dv_hi b)
theorem down_lo (a b : Int) : 0 ≤ down a b := Int.ediv_nonneg (cl_lo a) (by have := dv_lo b; omega)
theorem down_hi (a b : Int) : down a b ≤ 1099511627776 := by
  have h1 : down a b ≤ cl a := Int.ediv_le_self _ (cl_lo a)
  have := cl_hi a
  omega
theorem up_lo (a b : Int) : 0 ≤ up a b := Int.ediv_nonneg (by have := dv_lo b; have := cl_lo a; omega) (by have := dv_lo b; omega)
theorem down_mul (a b : Int) : down a b * dv b ≤ cl a := Int.ediv_mul_le _ (by have := dv_lo b; omega)
theorem mul_down (a b : Int) : mul (down a b) (dv b) = down a b * dv b := by
  unfold mul
  rw [cl_in (down a b) (down_lo a b) (down_hi a b), cl_dv]
  exact cl_in _ (Int.mul_nonneg (down_lo a b) (by have := dv_lo b; omega)) (by have := down_mul a b; have := cl_hi a; omega)
theorem up_more (a b : Int) (h : down a b * dv b < cl a) : up a b = down a b + 1 := by
  have d := dv_lo b
  have e := Int.emod_add_mul_ediv (cl a) (dv b)
  have m1 := Int.emod_lt_of_pos (cl a) (show 0 < dv b by omega)
  have q : down a b = cl a / dv b := rfl
  rw [Int.mul_comm, ← q] at e
  unfold up
  refine Int.ediv_eq_of_nonneg_of_lt_mul' (cl a + dv b - 1) (dv b) (down a b + 1) (by omega) ?_ ?_
  · rw [Int.add_mul, Int.one_mul]; omega
  · rw [Int.add_mul, Int.add_mul, Int.one_mul]; omega
theorem up_same (a b : Int) (h : ¬ down a b * dv b < cl a) : up a b = down a b := by
  have d := dv_lo b
  have k := down_mul a b
  unfold up
  refine Int.ediv_eq_of_nonneg_of_lt_mul' (cl a + dv b - 1) (dv b) (down a b) (by omega) ?_ ?_
  · omega
  · rw [Int.add_mul, Int.one_mul]; omega
/-- The product by doubling: what stands before bit 'j - 1' is looked at. -/
def rm (A B : Int) (j : Nat) : Int := cl (A * (B / 2 ^ j))
theorem rm_lo (A B : Int) (j : Nat) : 0 ≤ rm A B j := cl_lo _
theorem rm_hi (A B : Int) (j : Nat) : rm A B j ≤ 1099511627776 := cl_hi _
theorem rm_start (A B : Int) (h : 0 ≤ B) (k : B ≤ 1099511627776) : rm A B 41 = 0 := by
  unfold rm
  have : B / 2 ^ 41 = 0 := by omega
  rw [this, Int.mul_zero]; exact cl_in 0 (by omega) (by omega)
theorem half (B : Int) (j : Nat) : B / 2 ^ j = 2 * (B / 2 ^ (j + 1)) + B / 2 ^ j % 2 := by
  have : B / 2 ^ (j + 1) = B / 2 ^ j / 2 := by
    rw [Int.pow_succ, Int.ediv_ediv_of_nonneg (Int.pow_nonneg (by decide))]
  rw [this]; omega
theorem cl_dbl (x : Int) (h : 0 ≤ x) : cl (2 * cl x) = cl (2 * x) := by unfold cl; repeat' split <;> omega
theorem cl_add (x y : Int) (h : 0 ≤ x) (k : 0 ≤ y) : cl (cl (cl x) + cl y) = cl (x + y) := by unfold cl; repeat' split <;> omega
theorem rm_zero (A B : Int) (j : Nat) (hA : 0 ≤ A) (hB : 0 ≤ B) (h : B / 2 ^ j % 2 = 0) : cl (2 * rm A B (j + 1)) = rm A B j := by
  unfold rm
  have q : 0 ≤ B / 2 ^ (j + 1) := Int.ediv_nonneg hB (Int.pow_nonneg (by decide))
  rw [cl_dbl _ (Int.mul_nonneg hA q), half B j, h, Int.add_zero, ← Int.mul_assoc, ← Int.mul_assoc, Int.mul_comm A 2]
theorem rm_one (A B : Int) (j : Nat) (hA : 0 ≤ A) (hB : 0 ≤ B) (h : B / 2 ^ j % 2 = 1) : cl (cl (cl (2 * rm A B (j + 1))) + cl A) = rm A B j := by
  unfold rm
  have q : 0 ≤ B / 2 ^ (j + 1) := Int.ediv_nonneg hB (Int.pow_nonneg (by decide))
  have m : 0 ≤ A * (B / 2 ^ (j + 1)) := Int.mul_nonneg hA q
  rw [cl_dbl _ m, cl_add _ _ (by omega) hA, half B j, h, Int.mul_add, Int.mul_one, ← Int.mul_assoc, ← Int.mul_assoc, Int.mul_comm A 2]
theorem rm_end (a b : Int) : rm (cl a) (cl b) 0 = mul a b := by unfold rm mul; simp
theorem sum_two (a b : Int) : sum [a, b] = cl (cl a + cl b) := by
  have : sum [a, b] = cl (cl (0 + cl a) + cl b) := rfl
  rw [this, Int.zero_add, cl_cl]
/-- The sum of the clipped numbers, not clipped itself. -/
def tot (l : List Int) : Int := (l.map cl).sum
theorem tot_lo (l : List Int) : 0 ≤ tot l := by
  induction l with
  | nil => exact Int.le_refl 0
  | cons x l ih => have := cl_lo x; unfold tot at ih ⊢; simp; omega
theorem sumFrom_tot (l : List Int) : ∀ s, 0 ≤ s → s ≤ 1099511627776 → sumFrom s l = cl (s + tot l) := by
  induction l with
  | nil => intro s h k; show s = cl (s + 0); rw [Int.add_zero, cl_in s h k]
  | cons x l ih =>
    intro s h k
    have e : sumFrom s (x :: l) = sumFrom (cl (s + cl x)) l := rfl
    have t : tot (x :: l) = cl x + tot l := by unfold tot; simp
    rw [e, ih _ (cl_lo _) (cl_hi _), t]
    have := cl_lo x
    have := tot_lo l
    generalize cl x = y at *
    unfold cl
    repeat' split <;> omega
theorem sum_tot (l : List Int) : sum l = cl (tot l) := by
  have := sumFrom_tot l 0 (by omega) (by omega)
  rw [Int.zero_add] at this
  exact this
theorem tot_append (a b : List Int) : tot (a ++ b) = tot a + tot b := by unfold tot; simp
theorem sum_append (a b : List Int) : sum (a ++ b) = sum [sum a, sum b] := by
  rw [sum_two, sum_tot a, sum_tot b, sum_tot, tot_append, cl_cl, cl_cl]
  have := tot_lo a
  have := tot_lo b
  unfold cl
  repeat' split <;> omega
theorem sum_turned (a b : List Int) : sum (a ++ b) = sum (b ++ a) := by rw [sum_tot, sum_tot, tot_append, tot_append, Int.add_comm]
/-- What 'Low' answers: a number taken as an unsigned one, modulo n. -/
def low (x n : Int) : Int := x % 18446744073709551616 % n
theorem low_lo (x n : Int) (h : 1 ≤ n) : 0 ≤ low x n := Int.emod_nonneg _ (by omega)
theorem low_hi (x n : Int) (h : 1 ≤ n) : low x n < n := Int.emod_lt_of_pos _ (by omega)
theorem whole_facts (A B : Int) (a0 : 0 ≤ A) (a1 : A < 1073741824) (b0 : 1 ≤ B) (b1 : B ≤ 1048576) :
    0 ≤ down A B * B ∧ down A B * B ≤ A ∧ A - down A B * B < B ∧ A ≤ up A B * B ∧ up A B * B - A < B ∧ 0 ≤ up A B * B ∧ up A B * B ≤ 1074790400 ∧
    (mul (down A B) B + A % B == A) = true ∧ (sum [A, B] == A + B) = true ∧ (cl (1099511627776 + A) == 1099511627776) = true ∧ mul (down A B) B ≤ A ∧ 0 ≤ mul (down A B) B := by
  have ca : cl A = A := cl_in A a0 (by omega)
  have db : dv B = B := dv_in B b0 (by omega)
  have m := Int.emod_add_mul_ediv A B
  have m0 := Int.emod_nonneg A (show B ≠ 0 by omega)
  have m1 := Int.emod_lt_of_pos A (show 0 < B by omega)
  have q : down A B = A / B := by unfold down; rw [ca, db]
  have d1 := down_mul A B
  have md := mul_down A B
  rw [db] at md d1
  rw [ca] at d1
  have d0 : 0 ≤ down A B * B := Int.mul_nonneg (down_lo A B) (by omega)
  have u : up A B = (A + B - 1) / B := by unfold up; rw [ca, db]
  have n := Int.emod_add_mul_ediv (A + B - 1) B
  have n0 := Int.emod_nonneg (A + B - 1) (show B ≠ 0 by omega)
  have n1 := Int.emod_lt_of_pos (A + B - 1) (show 0 < B by omega)
  rw [← u, Int.mul_comm] at n
  rw [← q, Int.mul_comm] at m
  have s : sum [A, B] = A + B := by rw [sum_two, ca, cl_in B (by omega) (by omega), cl_in _ (by omega) (by omega)]
  have c : cl (1099511627776 + A) = 1099511627776 := by unfold cl; repeat' split <;> omega
  refine ⟨d0, d1, by omega, by omega, by omega, by omega, by omega, ?_, ?_, ?_, ?_, ?_⟩
  · rw [md]; simpa using by omega
  · rw [s]; simp
  · rw [c]; rfl
  · rw [md]; exact d1
  · rw [md]; exact d0
/-! Greater numbers never make less. -/
theorem mul_mono (a b c d : Int) (h : a ≤ b) (k : c ≤ d) : mul a c ≤ mul b d := cl_mono (Int.mul_le_mul (cl_mono h) (cl_mono k) (cl_lo c) (cl_lo b))
theorem sum_mono (a b c d : Int) (h : a ≤ b) (k : c ≤ d) : sum [a, c] ≤ sum [b, d] := by
  rw [sum_two, sum_two]; exact cl_mono (Int.add_le_add (cl_mono h) (cl_mono k))
theorem up_mono (a b d : Int) (h : a ≤ b) : up a d ≤ up b d := by
  unfold up
  have := dv_lo d
  have := cl_mono h
  exact Int.ediv_le_ediv (by omega) (by omega)
theorem down_div (a c d : Int) (h : c ≤ d) : down a d ≤ down a c := by
  have d1 := dv_lo c
  have d2 := dv_lo d
  have e := dv_mono h
  refine (Int.le_ediv_iff_mul_le (by omega)).mpr ?_
  have h1 := down_mul a d
  have h2 : down a d * dv c ≤ down a d * dv d := Int.mul_le_mul_of_nonneg_left e (down_lo a d)
  omega
theorem up_div (a c d : Int) (h : c ≤ d) : up a d ≤ up a c := by
  have d1 := dv_lo c
  have d2 := dv_lo d
  have e := dv_mono h
  have l := up_lo a c
  have q : up a c = (cl a + dv c - 1) / dv c := rfl
  have m := Int.emod_add_mul_ediv (cl a + dv c - 1) (dv c)
  have m1 := Int.emod_lt_of_pos (cl a + dv c - 1) (show 0 < dv c by omega)
  rw [Int.mul_comm, ← q] at m
  have h2 : up a c * dv c ≤ up a c * dv d := Int.mul_le_mul_of_nonneg_left e l
  have h3 : cl a + dv d - 1 < (up a c + 1) * dv d := by rw [Int.add_mul, Int.one_mul]; omega
  have := (Int.ediv_lt_iff_lt_mul (show 0 < dv d by omega)).mpr h3
  unfold up at *
  omega
end Go.Proofs.Ytjbjchakkccflaa
