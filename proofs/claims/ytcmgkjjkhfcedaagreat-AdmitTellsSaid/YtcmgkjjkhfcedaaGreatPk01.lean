/-
  What the walks lean on, part 1: NumPlain NumWalks NumRefs RkPlain CfIn PgCall PgMay GOps PgFix.
-/
import Derived.WalkLawsBesides
import Derived.Deep.RegionHeld3
import Derived.Deep.QuietTactic
import Derived.BigQuiet
import Derived.Deep.DeepCutAuto
import Derived.Deep.AppendLies
import Derived.Deep.CutBlock
import Derived.Test.YtcmgkjjkhfcedaaGreatPk00
/-
  Plain arithmetic of layer 1 (numbers clipped to 0 .. 2^40): no Go in sight.
-/
namespace Go.Proofs.YtcmgkjjkhfcedaaGreat
/-- A number clipped. -/
def cl (x : Int) : Int := if x < 0 then 0 else if 1099511627776 < x then 1099511627776 else x
theorem cl_lo (x : Int) : 0 ≤ cl x := by unfold cl; split <;> (try split) <;> omega
theorem cl_hi (x : Int) : cl x ≤ 1099511627776 := by unfold cl; split <;> (try split) <;> omega
theorem cl_neg (x : Int) (h : x < 0) : cl x = 0 := by unfold cl; rw [if_pos h]
theorem cl_big (x : Int) (h : 1099511627776 < x) : cl x = 1099511627776 := by unfold cl; rw [if_neg (by omega), if_pos h]
theorem cl_in (x : Int) (h : 0 ≤ x) (k : x ≤ 1099511627776) : cl x = x := by unfold cl; rw [if_neg (by omega), if_neg (by omega)]
theorem cl_mono {x y : Int} (h : x ≤ y) : cl x ≤ cl y := by unfold cl; repeat' split <;> omega
theorem cl_cl (x : Int) : cl (cl x) = cl x := cl_in _ (cl_lo x) (cl_hi x)
/-- A divisor: clipped, and at least 1. -/
def dv (b : Int) : Int := if b < 1 then 1 else cl b
theorem dv_lo (b : Int) : 1 ≤ dv b := by unfold dv cl; repeat' split <;> omega
theorem dv_hi (b : Int) : dv b ≤ 1099511627776 := by unfold dv cl; repeat' split <;> omega
theorem dv_small (b : Int) (h : b < 1) : dv b = 1 := by unfold dv; rw [if_pos h]
theorem dv_else (b : Int) (h : ¬ b < 1) : dv b = cl b := by unfold dv; rw [if_neg h]
theorem dv_in (b : Int) (h : 1 ≤ b) (k : b ≤ 1099511627776) : dv b = b := by rw [dv_else b (by omega), cl_in b (by omega) k]
theorem dv_mono {x y : Int} (h : x ≤ y) : dv x ≤ dv y := by unfold dv cl; repeat' split <;> omega
theorem dv_of_cl (b : Int) (h : cl b < 1) : dv b = 1 := by
  unfold dv
  split
  · rfl
  · unfold cl at h ⊢; repeat' split <;> omega
theorem dv_of_cl' (b : Int) (h : ¬ cl b < 1) : dv b = cl b := by
  unfold dv
  split
  · unfold cl at h; repeat' split at h <;> omega
  · rfl
def mul (a b : Int) : Int := cl (cl a * cl b)
def up (a b : Int) : Int := (cl a + dv b - 1) / dv b
def down (a b : Int) : Int := cl a / dv b
/-- A sum, from 's' on: each number and each sum clipped. -/
def sumFrom (s : Int) (l : List Int) : Int := l.foldl (fun t x => cl (t + cl x)) s
def sum (l : List Int) : Int := sumFrom 0 l
theorem sum_snoc (l : List Int) (x : Int) : sum (l ++ [x]) = cl (sum l + cl x) := by simp [sum, sumFrom]
theorem sumFrom_lo (l : List Int) : ∀ s, 0 ≤ s → 0 ≤ sumFrom s l := by
  induction l with
  | nil => intro s h; exact h
  | cons x l ih => intro s _; exact ih _ (cl_lo _)
theorem sumFrom_hi (l : List Int) : ∀ s, s ≤ 1099511627776 → sumFrom s l ≤ 1099511627776 := by
  induction l with
  | nil => intro s h; exact h
  | cons x l ih => intro s _; exact ih _ (cl_hi _)
theorem sum_lo (l : List Int) : 0 ≤ sum l := sumFrom_lo l 0 (by omega)
theorem sum_hi (l : List Int) : sum l ≤ 1099511627776 := sumFrom_hi l 0 (by omega)
theorem Int.ediv_eq_of_nonneg_of_lt_mul' (x d q : Int) (hd : 0 < d) (h1 : q * d ≤ x) (h2 : x < (q + 1) * d) : x / d = q := by
  have a := (Int.le_ediv_iff_mul_le hd).mpr h1
  have b := (Int.ediv_lt_iff_lt_mul hd).mpr h2
  omega
/-- The product where it is within the bound; and where it is not. -/
theorem mul_over (a b : Int) (h : 0 < cl a) (k : 1099511627776 / cl a < cl b) : mul a b = 1099511627776 := by
  have h2 : 1099511627776 < cl a * cl b := by
    have := (Int.ediv_lt_iff_lt_mul h).mp k
    rw [Int.mul_comm]; exact this
  exact cl_big _ h2
theorem mul_fits (a b : Int) (h : 0 < cl a) (k : ¬ 1099511627776 / cl a < cl b) : 0 ≤ cl a * cl b ∧ cl a * cl b ≤ 1099511627776 := by
  refine ⟨Int.mul_nonneg (cl_lo a) (cl_lo b), ?_⟩
  have h2 : cl b ≤ 1099511627776 / cl a := by omega
  have := (Int.le_ediv_iff_mul_le h).mp h2
  rw [Int.mul_comm]; exact this
theorem mul_within (a b : Int) (k : cl a * cl b ≤ 1099511627776) : mul a b = cl a * cl b := cl_in _ (Int.mul_nonneg (cl_lo a) (cl_lo b)) k
theorem mul_zero_left (a b : Int) (h : cl a = 0) : mul a b = 0 := by unfold mul; rw [h, Int.zero_mul]; exact cl_in 0 (by omega) (by omega)
theorem dv_max (b : Int) : max (cl b) 1 = dv b := by unfold dv cl; repeat' split <;> omega
theorem dv_max' (b : Int) : max 1 (cl b) = dv b := by unfold dv cl; repeat' split <;> omega
theorem cl_dv (b : Int) : cl (dv b) = dv b := cl_in _ (by have := dv_lo b; omega) (dv_hi b)
theorem down_lo (a b : Int) : 0 ≤ down a b := Int.ediv_nonneg (cl_lo a) (by have := dv_lo b; omega)
theorem down_hi (a b : Int) : down a b ≤ 1099511627776 := by
  have h1 : down a b ≤ cl a := Int.ediv_le_self _ (cl_lo a)
  have := cl_hi a
  omega
theorem up_lo (a b : Int) : 0 ≤ up a b := Int.ediv_nonneg (by have := dv_lo b; have := cl_lo a; omega) (by have := dv_lo b; omega)
theorem down_mul (a b : Int) : down a b * dv b ≤ cl a := Int.ediv_mul_le _ (by have := dv_lo b; omega)
theorem mul_down (a b : Int) : mul (down a b) (dv b) = down a b * dv b := by
  unfold mul
  rw [cl_in (down a b) (down_lo a b) (down_hi a b), cl_dv]
  exact cl_in _ (Int.mul_nonneg (down_lo a b) (by have := dv_lo b; omega)) (by have := down_mul a b; have := cl_hi a; omega)
theorem up_more (a b : Int) (h : down a b * dv b < cl a) : up a b = down a b + 1 := by
  have d := dv_lo b
  have e := Int.emod_add_mul_ediv (cl a) (dv b)
  have m1 := Int.emod_lt_of_pos (cl a) (show 0 < dv b by omega)
  have q : down a b = cl a / dv b := rfl
  rw [Int.mul_comm, ← q] at e
  unfold up
  refine Int.ediv_eq_of_nonneg_of_lt_mul' (cl a + dv b - 1) (dv b) (down a b + 1) (by omega) ?_ ?_
  · rw [Int.add_mul, Int.one_mul]; omega
  · rw [Int.add_mul, Int.add_mul, Int.one_mul]; omega
theorem up_same (a b : Int) (h : ¬ down a b * dv b < cl a) : up a b = down a b := by
  have d := dv_lo b
  have k := down_mul a b
  unfold up
  refine Int.ediv_eq_of_nonneg_of_lt_mul' (cl a + dv b - 1) (dv b) (down a b) (by omega) ?_ ?_
  · omega
  · rw [Int.add_mul, Int.one_mul]; omega
/-- The product by doubling: what stands before bit 'j - 1' is looked at. -/
def rm (A B : Int) (j : Nat) : Int := cl (A * (B / 2 ^ j))
theorem rm_lo (A B : Int) (j : Nat) : 0 ≤ rm A B j := cl_lo _
theorem rm_hi (A B : Int) (j : Nat) : rm A B j ≤ 1099511627776 := cl_hi _
theorem rm_start (A B : Int) (h : 0 ≤ B) (k : B ≤ 1099511627776) : rm A B 41 = 0 := by
  unfold rm
  have : B / 2 ^ 41 = 0 := by omega
  rw [this, Int.mul_zero]; exact cl_in 0 (by omega) (by omega)
theorem half (B : Int) (j : Nat) : B / 2 ^ j = 2 * (B / 2 ^ (j + 1)) + B / 2 ^ j % 2 := by
  have : B / 2 ^ (j + 1) = B / 2 ^ j / 2 := by
    rw [Int.pow_succ, Int.ediv_ediv_of_nonneg (Int.pow_nonneg (by decide))]
  rw [this]; omega
theorem cl_dbl (x : Int) (h : 0 ≤ x) : cl (2 * cl x) = cl (2 * x) := by unfold cl; repeat' split <;> omega
theorem cl_add (x y : Int) (h : 0 ≤ x) (k : 0 ≤ y) : cl (cl (cl x) + cl y) = cl (x + y) := by unfold cl; repeat' split <;> omega
theorem rm_zero (A B : Int) (j : Nat) (hA : 0 ≤ A) (hB : 0 ≤ B) (h : B / 2 ^ j % 2 = 0) : cl (2 * rm A B (j + 1)) = rm A B j := by
  unfold rm
  have q : 0 ≤ B / 2 ^ (j + 1) := Int.ediv_nonneg hB (Int.pow_nonneg (by decide))
  rw [cl_dbl _ (Int.mul_nonneg hA q), half B j, h, Int.add_zero, ← Int.mul_assoc, ← Int.mul_assoc, Int.mul_comm A 2]
theorem rm_one (A B : Int) (j : Nat) (hA : 0 ≤ A) (hB : 0 ≤ B) (h : B / 2 ^ j % 2 = 1) : cl (cl (cl (2 * rm A B (j + 1))) + cl A) = rm A B j := by
  unfold rm
  have q : 0 ≤ B / 2 ^ (j + 1) := Int.ediv_nonneg hB (Int.pow_nonneg (by decide))
  have m : 0 ≤ A * (B / 2 ^ (j + 1)) := Int.mul_nonneg hA q
  rw [cl_dbl _ m, cl_add _ _ (by omega) hA, half B j, h, Int.mul_add, Int.mul_one, ← Int.mul_assoc, ← Int.mul_assoc, Int.mul_comm A 2]
theorem rm_end (a b : Int) : rm (cl a) (cl b) 0 = mul a b := by unfold rm mul; simp
theorem sum_two (a b : Int) : sum [a, b] = cl (cl a + cl b) := by
  have : sum [a, b] = cl (cl (0 + cl a) + cl b) := rfl
  rw [this, Int.zero_add, cl_cl]
/-- The sum of the clipped numbers, not clipped itself. -/
def tot (l : List Int) : Int := (l.map cl).sum
theorem tot_lo (l : List Int) : 0 ≤ tot l := by
  induction l with
  | nil => exact Int.le_refl 0
  | cons x l ih => have := cl_lo x; unfold tot at ih ⊢; simp; omega
theorem sumFrom_tot (l : List Int) : ∀ s, 0 ≤ s → s ≤ 1099511627776 → sumFrom s l = cl (s + tot l) := by
  induction l with
  | nil => intro s h k; show s = cl (s + 0); rw [Int.add_zero, cl_in s h k]
  | cons x l ih =>
    intro s h k
    have e : sumFrom s (x :: l) = sumFrom (cl (s + cl x)) l := rfl
    have t : tot (x :: l) = cl x + tot l := by unfold tot; simp
    rw [e, ih _ (cl_lo _) (cl_hi _), t]
    have := cl_lo x
    have := tot_lo l
    generalize cl x = y at *
    unfold cl
    repeat' split <;> omega
theorem sum_tot (l : List Int) : sum l = cl (tot l) := by
  have := sumFrom_tot l 0 (by omega) (by omega)
  rw [Int.zero_add] at this
  exact this
theorem tot_append (a b : List Int) : tot (a ++ b) = tot a + tot b := by unfold tot; simp
theorem sum_append (a b : List Int) : sum (a ++ b) = sum [sum a, sum b] := by
  rw [sum_two, sum_tot a, sum_tot b, sum_tot, tot_append, cl_cl, cl_cl]
  have := tot_lo a
  have := tot_lo b
  unfold cl
  repeat' split <;> omega
theorem sum_turned (a b : List Int) : sum (a ++ b) = sum (b ++ a) := by rw [sum_tot, sum_tot, tot_append, tot_append, Int.add_comm]
/-- What 'Low' answers: a number taken as an unsigned one, modulo n. -/
def low (x n : Int) : Int := x % 18446744073709551616 % n
theorem low_lo (x n : Int) (h : 1 ≤ n) : 0 ≤ low x n := Int.emod_nonneg _ (by omega)
theorem low_hi (x n : Int) (h : 1 ≤ n) : low x n < n := Int.emod_lt_of_pos _ (by omega)
theorem whole_facts (A B : Int) (a0 : 0 ≤ A) (a1 : A < 1073741824) (b0 : 1 ≤ B) (b1 : B ≤ 1048576) :
    0 ≤ down A B * B ∧ down A B * B ≤ A ∧ A - down A B * B < B ∧ A ≤ up A B * B ∧ up A B * B - A < B ∧ 0 ≤ up A B * B ∧ up A B * B ≤ 1074790400 ∧
    (mul (down A B) B + A % B == A) = true ∧ (sum [A, B] == A + B) = true ∧ (cl (1099511627776 + A) == 1099511627776) = true ∧ mul (down A B) B ≤ A ∧ 0 ≤ mul (down A B) B := by
  have ca : cl A = A := cl_in A a0 (by omega)
  have db : dv B = B := dv_in B b0 (by omega)
  have m := Int.emod_add_mul_ediv A B
  have m0 := Int.emod_nonneg A (show B ≠ 0 by omega)
  have m1 := Int.emod_lt_of_pos A (show 0 < B by omega)
  have q : down A B = A / B := by unfold down; rw [ca, db]
  have d1 := down_mul A B
  have md := mul_down A B
  rw [db] at md d1
  rw [ca] at d1
  have d0 : 0 ≤ down A B * B := Int.mul_nonneg (down_lo A B) (by omega)
  have u : up A B = (A + B - 1) / B := by unfold up; rw [ca, db]
  have n := Int.emod_add_mul_ediv (A + B - 1) B
  have n0 := Int.emod_nonneg (A + B - 1) (show B ≠ 0 by omega)
  have n1 := Int.emod_lt_of_pos (A + B - 1) (show 0 < B by omega)
  rw [← u, Int.mul_comm] at n
  rw [← q, Int.mul_comm] at m
  have s : sum [A, B] = A + B := by rw [sum_two, ca, cl_in B (by omega) (by omega), cl_in _ (by omega) (by omega)]
  have c : cl (1099511627776 + A) = 1099511627776 := by unfold cl; repeat' split <;> omega
  refine ⟨d0, d1, by omega, by omega, by omega, by omega, by omega, ?_, ?_, ?_, ?_, ?_⟩
  · rw [md]; simpa using by omega
  · rw [s]; simp
  · rw [c]; rfl
  · rw [md]; exact d1
  · rw [md]; exact d0
/-! Greater numbers never make less. -/
theorem mul_mono (a b c d : Int) (h : a ≤ b) (k : c ≤ d) : mul a c ≤ mul b d := cl_mono (Int.mul_le_mul (cl_mono h) (cl_mono k) (cl_lo c) (cl_lo b))
theorem sum_mono (a b c d : Int) (h : a ≤ b) (k : c ≤ d) : sum [a, c] ≤ sum [b, d] := by
  rw [sum_two, sum_two]; exact cl_mono (Int.add_le_add (cl_mono h) (cl_mono k))
theorem up_mono (a b d : Int) (h : a ≤ b) : up a d ≤ up b d := by
  unfold up
  have := dv_lo d
  have := cl_mono h
  exact Int.ediv_le_ediv (by omega) (by omega)
theorem down_div (a c d : Int) (h : c ≤ d) : down a d ≤ down a c := by
  have d1 := dv_lo c
  have d2 := dv_lo d
  have e := dv_mono h
  refine (Int.le_ediv_iff_mul_le (by omega)).mpr ?_
  have h1 := down_mul a d
  have h2 : down a d * dv c ≤ down a d * dv d := Int.mul_le_mul_of_nonneg_left e (down_lo a d)
  omega
theorem up_div (a c d : Int) (h : c ≤ d) : up a d ≤ up a c := by
  have d1 := dv_lo c
  have d2 := dv_lo d
  have e := dv_mono h
  have l := up_lo a c
  have q : up a c = (cl a + dv c - 1) / dv c := rfl
  have m := Int.emod_add_mul_ediv (cl a + dv c - 1) (dv c)
  have m1 := Int.emod_lt_of_pos (cl a + dv c - 1) (show 0 < dv c by omega)
  rw [Int.mul_comm, ← q] at m
  have h2 : up a c * dv c ≤ up a c * dv d := Int.mul_le_mul_of_nonneg_left e l
  have h3 : cl a + dv d - 1 < (up a c + 1) * dv d := by rw [Int.add_mul, Int.one_mul]; omega
  have := (Int.ediv_lt_iff_lt_mul (show 0 < dv d by omega)).mpr h3
  unfold up at *
  omega
end Go.Proofs.YtcmgkjjkhfcedaaGreat
/-
  Contracts of package num's functions: for every input, what each returns, the world left as it was.
-/
namespace Go.Proofs.YtcmgkjjkhfcedaaGreat
open Go.ChangeShapes Go.WideShapes Go.ChangeAt Go.RowKit
set_option linter.unusedVariables false
theorem clip_any (x : Int) (w : World) : Calls Tryz.prog 67 #[.int .i64 x] w fun e w' => e = .returned (.int .i64 (cl x)) ∧ w = w' := by
  by_cases h : x < 0
  · go_enter Tryz.func67, Tryz.ntmps67
    go_wp2
    go_ret
    exact ⟨ret_int (cl_neg x h).symm, rfl⟩
  · by_cases h2 : 1099511627776 < x
    · go_enter Tryz.func67, Tryz.ntmps67
      go_wp2
      go_ret
      exact ⟨ret_int (cl_big x h2).symm, rfl⟩
    · go_enter Tryz.func67, Tryz.ntmps67
      go_wp2
      go_ret
      exact ⟨ret_int (cl_in x (by omega) (by omega)).symm, rfl⟩

theorem rclip_any (x : Int) (w : World) : Calls Tryz.prog 82 #[.int .i64 x] w fun e w' => e = .returned (.int .i64 (cl x)) ∧ w = w' := by
  by_cases h : x < 0
  · go_enter Tryz.func82, Tryz.ntmps82
    go_wp2
    go_ret
    exact ⟨ret_int (cl_neg x h).symm, rfl⟩
  · by_cases h2 : 1099511627776 < x
    · go_enter Tryz.func82, Tryz.ntmps82
      go_wp2
      go_ret
      exact ⟨ret_int (cl_big x h2).symm, rfl⟩
    · go_enter Tryz.func82, Tryz.ntmps82
      go_wp2
      go_ret
      exact ⟨ret_int (cl_in x (by omega) (by omega)).symm, rfl⟩

theorem divisor_any (x : Int) (w : World) : Calls Tryz.prog 107 #[.int .i64 x] w fun e w' => e = .returned (.int .i64 (dv x)) ∧ w = w' := by
  by_cases h : x < 1
  · go_enter Tryz.func107, Tryz.ntmps107
    go_wp2
    go_ret
    exact ⟨ret_int (dv_small x h).symm, rfl⟩
  · go_enter Tryz.func107, Tryz.ntmps107
    go_wp2_with (go_at_call 67; refine (clip_any _ _).mono ?_; rintro e w' ⟨rfl, rfl⟩)
    go_ret
    exact ⟨ret_int (dv_else x (by omega)).symm, rfl⟩

theorem mul_any (a b : Int) (w : World) : Calls Tryz.prog 96 #[.int .i64 a, .int .i64 b] w fun e w' => e = .returned (.int .i64 (mul a b)) ∧ w = w' := by
  have a0 := cl_lo a
  have a1 := cl_hi a
  have b0 := cl_lo b
  have b1 := cl_hi b
  by_cases h : 0 < cl a
  · by_cases k : 1099511627776 / cl a < cl b
    · go_enter Tryz.func96, Tryz.ntmps96
      go_wp2_with (go_at_call 67; refine (clip_any _ _).mono ?_; rintro e w' ⟨rfl, rfl⟩)
      go_ret
      exact ⟨ret_int (mul_over a b h k).symm, rfl⟩
    · obtain ⟨m0, m1⟩ := mul_fits a b h k
      go_enter Tryz.func96, Tryz.ntmps96
      go_wp2_with (go_at_call 67; refine (clip_any _ _).mono ?_; rintro e w' ⟨rfl, rfl⟩)
      go_ret
      exact ⟨ret_int (mul_within a b m1).symm, rfl⟩
  · have z : cl a = 0 := by omega
    have Z := mul_zero_left a b z
    have m0 : 0 ≤ cl a * cl b := by rw [z, Int.zero_mul]; omega
    have m1 : cl a * cl b ≤ 0 := by rw [z, Int.zero_mul]; omega
    have HZ := hide Z
    clear Z z
    go_enter Tryz.func96, Tryz.ntmps96
    go_wp2_with (go_at_call 67; refine (clip_any _ _).mono ?_; rintro e w' ⟨rfl, rfl⟩)
    go_ret
    exact ⟨ret_int (by have : mul a b = 0 := HZ; omega), rfl⟩

theorem up_any (a b : Int) (w : World) : Calls Tryz.prog 97 #[.int .i64 a, .int .i64 b] w fun e w' => e = .returned (.int .i64 (up a b)) ∧ w = w' := by
  have a0 := cl_lo a
  have a1 := cl_hi a
  have b0 := dv_lo b
  have b1 := dv_hi b
  go_enter Tryz.func97, Tryz.ntmps97
  go_wp2_with (first | (go_at_call 67; refine (clip_any _ _).mono ?_; rintro e w' ⟨rfl, rfl⟩) | (go_at_call 107; refine (divisor_any _ _).mono ?_; rintro e w' ⟨rfl, rfl⟩))
  go_ret
  exact ⟨rfl, rfl⟩

theorem down_any (a b : Int) (w : World) : Calls Tryz.prog 113 #[.int .i64 a, .int .i64 b] w fun e w' => e = .returned (.int .i64 (down a b)) ∧ w = w' := by
  have a0 := cl_lo a
  have a1 := cl_hi a
  have b0 := dv_lo b
  have b1 := dv_hi b
  go_enter Tryz.func113, Tryz.ntmps113
  go_wp2_with (first | (go_at_call 67; refine (clip_any _ _).mono ?_; rintro e w' ⟨rfl, rfl⟩) | (go_at_call 107; refine (divisor_any _ _).mono ?_; rintro e w' ⟨rfl, rfl⟩))
  go_ret
  exact ⟨rfl, rfl⟩
end Go.Proofs.YtcmgkjjkhfcedaaGreat
/-
  Contracts of the document's own answers on numbers (chapter 1).
-/
namespace Go.Proofs.YtcmgkjjkhfcedaaGreat
open Go.ChangeShapes Go.WideShapes Go.ChangeAt Go.RowKit
set_option linter.unusedVariables false
theorem radd_any (a b : Int) (w : World) : Calls Tryz.prog 72 #[.int .i64 a, .int .i64 b] w fun e w' => e = .returned (.int .i64 (cl (cl a + cl b))) ∧ w = w' := by
  have a0 := cl_lo a
  have a1 := cl_hi a
  have b0 := cl_lo b
  have b1 := cl_hi b
  go_enter Tryz.func72, Tryz.ntmps72
  go_wp2_with (go_at_call 82; refine (rclip_any _ _).mono ?_; rintro e w' ⟨rfl, rfl⟩)
  go_ret
  exact ⟨rfl, rfl⟩

theorem rdown_any (a b : Int) (w : World) : Calls Tryz.prog 101 #[.int .i64 a, .int .i64 b] w fun e w' => e = .returned (.int .i64 (down a b)) ∧ w = w' := by
  have a0 := cl_lo a
  have a1 := cl_hi a
  have b0 := cl_lo b
  have b1 := cl_hi b
  by_cases h : cl b < 1
  · go_enter Tryz.func101, Tryz.ntmps101
    go_wp2_with (go_at_call 82; refine (rclip_any _ _).mono ?_; rintro e w' ⟨rfl, rfl⟩)
    go_ret
    exact ⟨ret_int (by unfold down; rw [dv_of_cl b h]; simp), rfl⟩
  · go_enter Tryz.func101, Tryz.ntmps101
    go_wp2_with (go_at_call 82; refine (rclip_any _ _).mono ?_; rintro e w' ⟨rfl, rfl⟩)
    go_ret
    exact ⟨ret_int (by unfold down; rw [dv_of_cl' b (by omega)]), rfl⟩

theorem i64_and1 (n : Int) : bits .and .i64 n 1 = n % 2 := by
  have h1 : (BitVec.ofInt 64 1).toNat = 2 ^ 1 - 1 := by decide
  have key : (BitVec.ofInt 64 n &&& BitVec.ofInt 64 1).toNat = (n % ((2 ^ 64 : Nat) : Int)).toNat % 2 ^ 1 := by
    rw [BitVec.toNat_and, BitVec.toNat_ofInt, h1, Nat.and_two_pow_sub_one_eq_mod]
  show IntKind.i64.wrap ((BitVec.ofInt 64 n &&& BitVec.ofInt 64 1).toNat : Nat) = n % 2
  rw [key, IntKind.wrap_i64]
  omega

theorem rmul_any (a b : Int) (w : World) : Calls Tryz.prog 99 #[.int .i64 a, .int .i64 b] w fun e w' => e = .returned (.int .i64 (mul a b)) ∧ w = w' := by
  have a0 := cl_lo a
  have a1 := cl_hi a
  have b0 := cl_lo b
  have b1 := cl_hi b
  go_enter Tryz.func99, Tryz.ntmps99
  go_wp2_with (go_at_call 82; refine (rclip_any _ _).mono ?_; rintro e w' ⟨rfl, rfl⟩)
  go_loop [5, 6] (fun n i => ∃ j : Nat, j ≤ 41 ∧ i = .int .i64 ((j : Int) - 1) ∧ n = .int .i64 (rm (cl a) (cl b) j)) (fun _ i => (intOf i + 1).toNat)
  case atStart => exact ⟨41, by omega, rfl, ret_val (rm_start (cl a) (cl b) b0 b1).symm⟩
  case round =>
    obtain ⟨j, hj, rfl, rfl⟩ := hrel
    cases j with
    | zero =>
      go_wp2_with fail
      go_ret
      exact ⟨ret_int (rm_end a b), rfl⟩
    | succ m =>
      have n0 := rm_lo (cl a) (cl b) (m + 1)
      have n1 := rm_hi (cl a) (cl b) (m + 1)
      rw [show (((m + 1 : Nat) : Int) - 1) = (m : Int) from by omega]
      have bit := i64_and1 (cl b / 2 ^ m)
      by_cases hb : cl b / 2 ^ m % 2 = 1
      · have hd : (bits BinOp.and IntKind.i64 (cl b / 2 ^ m) 1 == 1) = true := by rw [bit, hb]; rfl
        have hn := hide (rm_one (cl a) (cl b) m a0 b0 hb)
        clear hb bit
        go_wp2_with (first | (go_at_call 82; refine (rclip_any _ _).mono ?_; rintro e w' ⟨rfl, rfl⟩) | (go_at_call 72; refine (radd_any _ _ _).mono ?_; rintro e w' ⟨rfl, rfl⟩))
        go_round
        case rel => exact ⟨m, by omega, rfl, ret_val hn⟩
        case measure => simp [intOf]
      · have hd : (bits BinOp.and IntKind.i64 (cl b / 2 ^ m) 1 == 1) = false := by rw [bit]; simpa using hb
        have hn := hide (rm_zero (cl a) (cl b) m a0 b0 (by omega))
        clear hb bit
        go_wp2_with (first | (go_at_call 82; refine (rclip_any _ _).mono ?_; rintro e w' ⟨rfl, rfl⟩) | (go_at_call 72; refine (radd_any _ _ _).mono ?_; rintro e w' ⟨rfl, rfl⟩))
        go_round
        case rel => exact ⟨m, by omega, rfl, ret_val hn⟩
        case measure => simp [intOf]

theorem rup_any (a b : Int) (w : World) : Calls Tryz.prog 100 #[.int .i64 a, .int .i64 b] w fun e w' => e = .returned (.int .i64 (up a b)) ∧ w = w' := by
  have d0 := down_lo a b
  have d1 := down_hi a b
  by_cases h : 1 ≤ cl b
  · have HV := hide (dv_of_cl' b (by omega))
    have HD := hide (mul_down a b)
    by_cases k : mul (down a b) (cl b) < cl a
    · go_enter Tryz.func100, Tryz.ntmps100
      go_wp2_with (first | (go_at_call 82; refine (rclip_any _ _).mono ?_; rintro e w' ⟨rfl, rfl⟩) | (go_at_call 101; refine (rdown_any _ _ _).mono ?_; rintro e w' ⟨rfl, rfl⟩) | (go_at_call 99; refine (rmul_any _ _ _).mono ?_; rintro e w' ⟨rfl, rfl⟩))
      go_ret
      exact ⟨ret_int (up_more a b (by rw [← HD.out, HV.out]; exact k)).symm, rfl⟩
    · go_enter Tryz.func100, Tryz.ntmps100
      go_wp2_with (first | (go_at_call 82; refine (rclip_any _ _).mono ?_; rintro e w' ⟨rfl, rfl⟩) | (go_at_call 101; refine (rdown_any _ _ _).mono ?_; rintro e w' ⟨rfl, rfl⟩) | (go_at_call 99; refine (rmul_any _ _ _).mono ?_; rintro e w' ⟨rfl, rfl⟩))
      go_ret
      exact ⟨ret_int (up_same a b (by rw [← HD.out, HV.out]; omega)).symm, rfl⟩
  · have HV := hide (dv_of_cl b (by omega))
    have HD := hide (mul_down a b)
    by_cases k : mul (down a b) 1 < cl a
    · go_enter Tryz.func100, Tryz.ntmps100
      go_wp2_with (first | (go_at_call 82; refine (rclip_any _ _).mono ?_; rintro e w' ⟨rfl, rfl⟩) | (go_at_call 101; refine (rdown_any _ _ _).mono ?_; rintro e w' ⟨rfl, rfl⟩) | (go_at_call 99; refine (rmul_any _ _ _).mono ?_; rintro e w' ⟨rfl, rfl⟩))
      go_ret
      exact ⟨ret_int (up_more a b (by rw [← HD.out, HV.out]; exact k)).symm, rfl⟩
    · go_enter Tryz.func100, Tryz.ntmps100
      go_wp2_with (first | (go_at_call 82; refine (rclip_any _ _).mono ?_; rintro e w' ⟨rfl, rfl⟩) | (go_at_call 101; refine (rdown_any _ _ _).mono ?_; rintro e w' ⟨rfl, rfl⟩) | (go_at_call 99; refine (rmul_any _ _ _).mono ?_; rintro e w' ⟨rfl, rfl⟩))
      go_ret
      exact ⟨ret_int (up_same a b (by rw [← HD.out, HV.out]; omega)).symm, rfl⟩
end Go.Proofs.YtcmgkjjkhfcedaaGreat
/-
  Mutexes that are declared: plain words; what comes in (stage 10).
-/
namespace Go.Proofs.YtcmgkjjkhfcedaaGreat
open Go.ChangeShapes Go.WideShapes Go.ChangeAt Go.RowKit
set_option linter.unusedVariables false
/-- A mutex: its rank, its limit. -/
structure Mu where
  r : Int
  l : Int
def muVals (m : Mu) : List Value := [.int .i64 m.r, .int .i64 m.l]
def MuWf (_ : World) (m : Mu) : Prop := (Lit.int .i64 m.r).wf = true ∧ (Lit.int .i64 m.l).wf = true
theorem muVals_len (x : Mu) : (muVals x).length = 2 := rfl
theorem muVals_cell (x : Mu) : ∀ v ∈ muVals x, v.oneCell' = true := by
  intro v hv
  simp [muVals] at hv
  rcases hv with rfl | rfl <;> rfl
section
variable {H : Type} {enc : TypeId × Value → H} {w : World} {base : Nat} {spare : Nat → Bool} {held : Bool}
theorem mu_open (m : Nat) (cs : List Value) (x : DataW H × List MemPlace) (hl : cs.length = 2) (h : DataW.trod enc Tryz.prog w base spare held m 52 cs = some x) : ∃ z, cs = muVals z ∧ MuWf w z := by
  obtain ⟨r, e0, w0⟩ := field_int Tryz.underlying52 h 0 0 3 rfl Tryz.underlying3 (by kernel_rfl)
  obtain ⟨l, e1, w1⟩ := field_int Tryz.underlying52 h 1 1 3 rfl Tryz.underlying3 (by kernel_rfl)
  refine ⟨⟨r, l⟩, ?_, w0, w1⟩
  match cs, hl with
  | [v0, v1], _ =>
    simp at e0 e1
    simp [muVals, e0, e1]
end
def okMu (m : Mu) : Bool := decide (1 ≤ m.r ∧ m.r ≤ 100 ∧ 1 ≤ m.l ∧ m.l ≤ 1000)
def goodMu (ms : List Mu) : Bool := ms.all okMu && decide (ms.length ≤ 6)
def isMu (n : Nat) (m : Int) : Bool := decide (0 ≤ m ∧ m < (n : Int))
def muAt (ms : List Mu) (m : Int) : Mu := ms.getD m.toNat ⟨0, 0⟩
/-- Is one of those held in the way? -/
def inWay (ms : List Mu) (m h : Int) : Bool := isMu ms.length h && decide ((muAt ms m).r ≤ (muAt ms h).r)
def mayMu (ms : List Mu) (hs : List Int) (m : Int) : Int := if isMu ms.length m = false then 19 else if hs.any (inWay ms m) = true then 7 else 0
def leastS (ms : List Mu) (s : Int × Bool) (u : Int) : Int × Bool := if (isMu ms.length u && (!s.2 || decide ((muAt ms u).r < s.1))) = true then ((muAt ms u).r, true) else s
def leastMu (ms : List Mu) (us : List Int) : Int × Bool := us.foldl (leastS ms) (0, false)
def sumS (rank : Int) (s : Int) (m : Mu) : Int := if rank ≤ m.r then cl (cl s + cl m.l) else s
def sumMu (ms : List Mu) (rank : Int) : Int := ms.foldl (sumS rank) 0
def rankMu (ms : List Mu) (m : Int) : Int := if isMu ms.length m = true then (muAt ms m).r else 0
def limMu (ms : List Mu) (m : Int) : Int := if isMu ms.length m = true then (muAt ms m).l else 0
theorem muAt_nat {ms : List Mu} {k : Nat} {x : Mu} (h : ms[k]? = some x) : muAt ms (k : Int) = x := by
  unfold muAt
  rw [Int.toNat_natCast, List.getD_eq_getElem?_getD, h]; rfl
theorem isMu_iff {n : Nat} {m : Int} : isMu n m = true ↔ ∃ k : Nat, m = (k : Int) ∧ k < n := by
  unfold isMu
  rw [decide_eq_true_eq]
  constructor
  · intro h; exact ⟨m.toNat, by omega, by omega⟩
  · rintro ⟨k, rfl, hk⟩; omega
set_option maxHeartbeats 2000000 in
theorem ris_any (a : Option Addr) (n c : Nat) (m : Int) (w : World) (hn : n ≤ maxLen) : Calls Tryz.prog 71 #[.slice a n c, .int .i64 m] w fun e w' => e = .returned (.bool (isMu n m)) ∧ w = w' := by
  by_cases h : 0 ≤ m
  · go_enter Tryz.func71, Tryz.ntmps71
    go_wp2_with fail
    go_ret
    exact ⟨ret_bool (by rw [Bool.eq_iff_iff]; simp [isMu]; omega), rfl⟩
  · go_enter Tryz.func71, Tryz.ntmps71
    go_wp2_with fail
    go_ret
    exact ⟨ret_bool (by rw [Bool.eq_iff_iff]; simp [isMu]; omega), rfl⟩
theorem goodMu_bad {ms : List Mu} {k : Nat} {x : Mu} (h : ms[k]? = some x) (hx : okMu x = false) : goodMu ms = false := by
  have : ms.all okMu = false := by
    rw [List.all_eq_false]
    exact ⟨x, List.mem_iff_getElem?.2 ⟨k, h⟩, by simp [hx]⟩
  simp [goodMu, this]
theorem goodMu_all {ms : List Mu} (h : ∀ (i : Nat) (x : Mu), ms[i]? = some x → okMu x = true) : goodMu ms = decide (ms.length ≤ 6) := by
  have : ms.all okMu = true := by
    rw [List.all_eq_true]
    intro x hx
    obtain ⟨i, hi⟩ := List.mem_iff_getElem?.1 hx
    exact h i x hi
  simp [goodMu, this]
set_option maxHeartbeats 4000000 in
theorem rgood_any (a : Option Addr) (n c : Nat) (ms : List Mu) (w : World) (ha : Reads 2 muVals w a n ms) (hn : n ≤ maxLen) : Calls Tryz.prog 28 #[.slice a n c] w fun e w' => e = .returned (.bool (goodMu ms)) ∧ w = w' := by
  have n63 : (n : Int) ≤ 9223372036854775807 := by unfold maxLen at hn; omega
  obtain ⟨G, hG⟩ : ∃ G, G = goodMu ms := ⟨_, rfl⟩
  rw [← hG]
  have HG := hide hG
  have HL := hide ha.1
  have HA := hide ha
  clear hG ha hn
  go_enter Tryz.func28, Tryz.ntmps28
  go_wp2_with fail
  go_loop [3] (fun i => ∃ k : Nat, k ≤ n ∧ i = .int .i64 k ∧ Hid (∀ (i : Nat) (x : Mu), i < k → ms[i]? = some x → okMu x = true)) (fun i => n - (intOf i).toNat)
  case atStart => exact ⟨0, Nat.zero_le _, rfl, fun i x hi => absurd hi (by omega)⟩
  case round =>
    obtain ⟨k, hk, rfl, hZ⟩ := hrel
    by_cases hlt : k < n
    · have k0 : (0 : Int) ≤ (k : Int) := by omega
      have k1 : (k : Int) < (n : Int) := by omega
      obtain ⟨x, b, off, hx, rfl, hc⟩ := HA.out.at_ hlt
      have HX := hide hx
      have c0 : w.cell? ⟨b, off + k * 2, none⟩ = some (.int .i64 x.r) := hc 0 _ rfl
      have c1 : w.cell? ⟨b, off + k * 2 + 1, none⟩ = some (.int .i64 x.l) := hc 1 _ rfl
      clear hx hc
      by_cases h1 : x.r < 1
      · have G2 := hide (show G = false from by rw [HG.out]; exact goodMu_bad HX.out (by unfold okMu; simp; omega))
        go_wp2_with fail
        go_ret
        exact ⟨ret_bool G2.out.symm, rfl⟩
      by_cases h2 : 100 < x.r
      · have G2 := hide (show G = false from by rw [HG.out]; exact goodMu_bad HX.out (by unfold okMu; simp; omega))
        go_wp2_with fail
        go_ret
        exact ⟨ret_bool G2.out.symm, rfl⟩
      by_cases h3 : x.l < 1
      · have G2 := hide (show G = false from by rw [HG.out]; exact goodMu_bad HX.out (by unfold okMu; simp; omega))
        go_wp2_with fail
        go_ret
        exact ⟨ret_bool G2.out.symm, rfl⟩
      by_cases h4 : 1000 < x.l
      · have G2 := hide (show G = false from by rw [HG.out]; exact goodMu_bad HX.out (by unfold okMu; simp; omega))
        go_wp2_with fail
        go_ret
        exact ⟨ret_bool G2.out.symm, rfl⟩
      have N2 := hide (show ∀ (i : Nat) (y : Mu), i < k + 1 → ms[i]? = some y → okMu y = true from fun i y hi hy => by
        by_cases e : i = k
        · subst e
          rw [HX.out] at hy
          injection hy with hy
          subst hy
          unfold okMu; simp; omega
        · exact hZ.out i y (by omega) hy)
      go_wp2_with fail
      go_round
      case rel => exact ⟨k + 1, by omega, by go_num, N2.out⟩
      case measure => simp [intOf]; omega
    · obtain rfl : k = n := by omega
      have G2 := hide (show G = decide ((k : Int) ≤ 6) from by
        rw [HG.out]
        have h1 := HL.out
        rw [goodMu_all fun i x hi => hZ.out i x (by have := (List.getElem?_eq_some_iff.1 hi).1; omega) hi, h1, Bool.eq_iff_iff]
        simp
        omega)
      go_wp2_with fail
      go_ret
      exact ⟨ret_bool G2.out.symm, rfl⟩
end Go.Proofs.YtcmgkjjkhfcedaaGreat
/-
  A configuration that comes in (api.Config): its tasks, threads of best effort, mutexes, gaps; the steps of their programs.
-/
namespace Go.Proofs.YtcmgkjjkhfcedaaGreat
open Go.ChangeShapes Go.WideShapes Go.ChangeAt Go.RowKit
set_option linter.unusedVariables false
/-- A slice of whole numbers, as one of elements. -/
def nuVals (z : Int) : List Value := [.int .i64 z]
def NuFit (_ : World) (z : Int) : Prop := (Lit.int .i64 z).wf = true
theorem nuVals_len (z : Int) : (nuVals z).length = 1 := rfl
theorem nuVals_cell (z : Int) : ∀ v ∈ nuVals z, v.oneCell' = true := by
  intro v hv
  simp [nuVals] at hv
  subst hv; rfl
/-- A task that is declared. -/
structure Tk where
  cls : Int
  lev : Int
  per : Int
  dl : Int
  bud : Int
  line : Int
  ua : Option Addr
  un : Nat
  uc : Nat
  us : List Int
  qa : Option Addr
  qn : Nat
  qc : Nat
  qs : List Step
def tkVals (t : Tk) : List Value := [.int .i64 t.cls, .int .i64 t.lev, .int .i64 t.per, .int .i64 t.dl, .int .i64 t.bud, .int .i64 t.line, .slice t.ua t.un t.uc, .slice t.qa t.qn t.qc]
structure TkFit (w : World) (t : Tk) : Prop where
  cls : (Lit.int .i64 t.cls).wf = true
  lev : (Lit.int .i64 t.lev).wf = true
  per : (Lit.int .i64 t.per).wf = true
  dl : (Lit.int .i64 t.dl).wf = true
  bud : (Lit.int .i64 t.bud).wf = true
  line : (Lit.int .i64 t.line).wf = true
  uses : Came 1 nuVals NuFit w t.ua t.un t.uc t.us
  prog : Came 9 stVals StWf w t.qa t.qn t.qc t.qs
theorem tkVals_len (t : Tk) : (tkVals t).length = 8 := rfl
theorem tkVals_cell (t : Tk) : ∀ v ∈ tkVals t, v.oneCell' = true := by
  intro v hv
  simp [tkVals] at hv
  rcases hv with rfl | rfl | rfl | rfl | rfl | rfl | rfl | rfl <;> rfl
/-- A thread of best effort that is declared. -/
structure Ef where
  lev : Int
  qa : Option Addr
  qn : Nat
  qc : Nat
  qs : List Step
def efVals (e : Ef) : List Value := [.int .i64 e.lev, .slice e.qa e.qn e.qc]
structure EfFit (w : World) (e : Ef) : Prop where
  lev : (Lit.int .i64 e.lev).wf = true
  prog : Came 9 stVals StWf w e.qa e.qn e.qc e.qs
theorem efVals_len (e : Ef) : (efVals e).length = 2 := rfl
theorem efVals_cell (e : Ef) : ∀ v ∈ efVals e, v.oneCell' = true := by
  intro v hv
  simp [efVals] at hv
  rcases hv with rfl | rfl <;> rfl
/-- A configuration. -/
structure Cf where
  ta : Option Addr
  tn : Nat
  tc : Nat
  ts : List Tk
  ea : Option Addr
  en : Nat
  ec : Nat
  es : List Ef
  ma : Option Addr
  mn : Nat
  mc : Nat
  ms : List Mu
  ga : Option Addr
  gn : Nat
  gc : Nat
  gs : List Int
  frames : Int
  dog : Int
def cfVals (c : Cf) : List Value := [.slice c.ta c.tn c.tc, .slice c.ea c.en c.ec, .slice c.ma c.mn c.mc, .slice c.ga c.gn c.gc, .int .i64 c.frames, .int .i64 c.dog]
structure CfFit (w : World) (c : Cf) : Prop where
  tasks : Came 8 tkVals TkFit w c.ta c.tn c.tc c.ts
  best : Came 2 efVals EfFit w c.ea c.en c.ec c.es
  mutexes : Came 2 muVals MuWf w c.ma c.mn c.mc c.ms
  gaps : Came 1 nuVals NuFit w c.ga c.gn c.gc c.gs
  frames : (Lit.int .i64 c.frames).wf = true
  dog : (Lit.int .i64 c.dog).wf = true
theorem cfVals_len (c : Cf) : (cfVals c).length = 6 := rfl
section
variable {H : Type} {enc : TypeId × Value → H} {P : Program} {w : World} {base : Nat} {spare : Nat → Bool} {held : Bool}
/-- A field that is a slice. -/
theorem field_came {α : Type} {size : Nat} {vals : α → List Value} {fits : World → α → Prop} {t e : TypeId} {fs : Array Field} {n : Nat} {cs : List Value} {x : DataW H × List MemPlace} (ht : P.underlying t = some (.struct fs)) (h : DataW.trod enc P w base spare held n t cs = some x) (j off : Nat) (ft : TypeId) (hj : (fs[j]?).map (fun f => (f.type, f.offset)) = some (ft, off)) (hq : P.underlying ft = some (.slice e)) (hc : P.cellsOf ft = 1)
    (hC : P.cellsOf e = size) (h0 : 0 < size) (hv : ∀ z, (vals z).length = size) (op : ∀ (m : Nat) (cs : List Value) (x : DataW H × List MemPlace), cs.length = size → DataW.trod enc P w base spare held m e cs = some x → ∃ z, cs = vals z ∧ fits w z) :
    ∃ a l c zs, cs[off]? = some (.slice a l c) ∧ Came size vals fits w a l c zs := by
  obtain ⟨m, y, h1⟩ := trod_field ht h j off 1 ft hj hc
  obtain ⟨a, l, c, zs, hz, hw⟩ := came_open hq hC h0 hv op h1
  refine ⟨a, l, c, zs, ?_, hw⟩
  have := congrArg (·[0]?) hz
  simpa [List.getElem?_take, List.getElem?_drop] using this
end
section
variable {H : Type} {enc : TypeId × Value → H} {w : World} {base : Nat} {spare : Nat → Bool} {held : Bool}
theorem nu_open (m : Nat) (cs : List Value) (x : DataW H × List MemPlace) (hl : cs.length = 1) (h : DataW.trod enc Tryz.prog w base spare held m 3 cs = some x) : ∃ z, cs = nuVals z ∧ NuFit w z := by
  obtain ⟨z, hz, _, hw⟩ := DataW.trod_int Tryz.underlying3 h
  exact ⟨z, hz, hw⟩
theorem tk_open (m : Nat) (cs : List Value) (x : DataW H × List MemPlace) (hl : cs.length = 8) (h : DataW.trod enc Tryz.prog w base spare held m 47 cs = some x) : ∃ o, cs = tkVals o ∧ TkFit w o := by
  obtain ⟨a0, e0, w0⟩ := field_int Tryz.underlying47 h 0 0 3 rfl Tryz.underlying3 (by kernel_rfl)
  obtain ⟨a1, e1, w1⟩ := field_int Tryz.underlying47 h 1 1 3 rfl Tryz.underlying3 (by kernel_rfl)
  obtain ⟨a2, e2, w2⟩ := field_int Tryz.underlying47 h 2 2 3 rfl Tryz.underlying3 (by kernel_rfl)
  obtain ⟨a3, e3, w3⟩ := field_int Tryz.underlying47 h 3 3 3 rfl Tryz.underlying3 (by kernel_rfl)
  obtain ⟨a4, e4, w4⟩ := field_int Tryz.underlying47 h 4 4 3 rfl Tryz.underlying3 (by kernel_rfl)
  obtain ⟨a5, e5, w5⟩ := field_int Tryz.underlying47 h 5 5 3 rfl Tryz.underlying3 (by kernel_rfl)
  obtain ⟨ua, un, uc, us, e6, w6⟩ := field_came Tryz.underlying47 h 6 6 25 rfl Tryz.underlying25 (by kernel_rfl) (by kernel_rfl) (by decide) nuVals_len nu_open
  obtain ⟨qa, qn, qc, qs, e7, w7⟩ := field_came Tryz.underlying47 h 7 7 45 rfl Tryz.underlying45 (by kernel_rfl) (by kernel_rfl) (by decide) (show ∀ x, (stVals x).length = 9 from fun _ => rfl) step_open
  refine ⟨⟨a0, a1, a2, a3, a4, a5, ua, un, uc, us, qa, qn, qc, qs⟩, ?_, w0, w1, w2, w3, w4, w5, w6, w7⟩
  match cs, hl with
  | [v0, v1, v2, v3, v4, v5, v6, v7], _ =>
    simp at e0 e1 e2 e3 e4 e5 e6 e7
    simp [tkVals, e0, e1, e2, e3, e4, e5, e6, e7]
theorem ef_open (m : Nat) (cs : List Value) (x : DataW H × List MemPlace) (hl : cs.length = 2) (h : DataW.trod enc Tryz.prog w base spare held m 50 cs = some x) : ∃ o, cs = efVals o ∧ EfFit w o := by
  obtain ⟨a0, e0, w0⟩ := field_int Tryz.underlying50 h 0 0 3 rfl Tryz.underlying3 (by kernel_rfl)
  obtain ⟨qa, qn, qc, qs, e1, w1⟩ := field_came Tryz.underlying50 h 1 1 45 rfl Tryz.underlying45 (by kernel_rfl) (by kernel_rfl) (by decide) (show ∀ x, (stVals x).length = 9 from fun _ => rfl) step_open
  refine ⟨⟨a0, qa, qn, qc, qs⟩, ?_, w0, w1⟩
  match cs, hl with
  | [v0, v1], _ =>
    simp at e0 e1
    simp [efVals, e0, e1]
theorem cf_open (m : Nat) (cs : List Value) (x : DataW H × List MemPlace) (hl : cs.length = 6) (h : DataW.trod enc Tryz.prog w base spare held m 27 cs = some x) : ∃ o, cs = cfVals o ∧ CfFit w o := by
  obtain ⟨ta, tn, tc, ts, e0, w0⟩ := field_came Tryz.underlying27 h 0 0 22 rfl Tryz.underlying22 (by kernel_rfl) (by kernel_rfl) (by decide) tkVals_len tk_open
  obtain ⟨ea, en, ec, es, e1, w1⟩ := field_came Tryz.underlying27 h 1 1 23 rfl Tryz.underlying23 (by kernel_rfl) (by kernel_rfl) (by decide) efVals_len ef_open
  obtain ⟨ma, mn, mc, ms, e2, w2⟩ := field_came Tryz.underlying27 h 2 2 24 rfl Tryz.underlying24 (by kernel_rfl) (by kernel_rfl) (by decide) muVals_len mu_open
  obtain ⟨ga, gn, gc, gs, e3, w3⟩ := field_came Tryz.underlying27 h 3 3 25 rfl Tryz.underlying25 (by kernel_rfl) (by kernel_rfl) (by decide) nuVals_len nu_open
  obtain ⟨a4, e4, w4⟩ := field_int Tryz.underlying27 h 4 4 3 rfl Tryz.underlying3 (by kernel_rfl)
  obtain ⟨a5, e5, w5⟩ := field_int Tryz.underlying27 h 5 5 3 rfl Tryz.underlying3 (by kernel_rfl)
  refine ⟨⟨ta, tn, tc, ts, ea, en, ec, es, ma, mn, mc, ms, ga, gn, gc, gs, a4, a5⟩, ?_, w0, w1, w2, w3, w4, w5⟩
  match cs, hl with
  | [v0, v1, v2, v3, v4, v5], _ =>
    simp at e0 e1 e2 e3 e4 e5
    simp [cfVals, e0, e1, e2, e3, e4, e5]
end
end Go.Proofs.YtcmgkjjkhfcedaaGreat
/-
  The document's own in, MayCall (coxswainref9).
-/
namespace Go.Proofs.YtcmgkjjkhfcedaaGreat
open Go.ChangeShapes Go.WideShapes Go.ChangeAt Go.RowKit
set_option linter.unusedVariables false
def emp : ByteArray := ByteArray.empty
def inB (n m : Int) : Bool := decide (0 ≤ n ∧ n ≤ m)
def paths (c : Cl) : Bool := decide (c.s.size ≤ 100) && decide (c.t.size ≤ 100)
/-- May a call be? -/
def mayCl (c : Cl) : Bool :=
  if c.sys = 1 then eqCl c ⟨1, c.a, 0, c.s, emp⟩ && paths c && inB c.a 7
  else if c.sys = 2 ∨ c.sys = 6 then eqCl c ⟨c.sys, c.a, 0, emp, emp⟩ && inB c.a 7
  else if c.sys = 3 ∨ c.sys = 5 then eqCl c ⟨c.sys, c.a, c.b, emp, emp⟩ && inB c.a 7 && inB c.b 512
  else if c.sys = 4 then eqCl c ⟨4, c.a, 0, c.s, emp⟩ && inB c.a 7 && decide (c.s.size ≤ 512)
  else if c.sys = 7 then eqCl c ⟨7, 0, 0, c.s, c.t⟩ && paths c
  else if c.sys = 8 ∨ c.sys = 9 ∨ c.sys = 10 ∨ c.sys = 12 ∨ c.sys = 13 then eqCl c ⟨c.sys, 0, 0, c.s, emp⟩ && paths c
  else if c.sys = 11 ∨ c.sys = 16 ∨ c.sys = 17 then eqCl c ⟨c.sys, 0, 0, emp, emp⟩
  else if c.sys = 14 then eqCl c ⟨14, c.a, 0, emp, emp⟩ && inB c.a 39
  else if c.sys = 15 then eqCl c ⟨15, c.a, 0, emp, emp⟩ && inB c.a 255
  else false
theorem built_call (n : Int) : Tryz.prog.built 96 [(0, .int .i64 n)] = some #[.int .i64 n, .int .i64 0, .int .i64 0, .string ByteArray.empty, .string ByteArray.empty] := by kernel_rfl
attribute [local go_sem] built_call
theorem two_blocks (w : World) (o1 o2 : Obj) : ((w.alloc o1).alloc o2).heap[w.heap.size]? = some o1 ∧ ((w.alloc o1).alloc o2).heap[w.heap.size + 1]? = some o2 := by
  refine ⟨?_, ?_⟩
  · exact (((Below.refl (w.alloc o1).heap.size (w.alloc o1)).alloc (Nat.le_refl _) o2).block w.heap.size (by simp)).trans (heap_alloc_new w o1)
  · have := heap_alloc_new (w.alloc o1) o2
    simpa using this
/-- A call's block. -/
def ClAt (w : World) (X : Nat) (n a b : Int) (s t : ByteArray) : Prop := w.heap[X]? = some (.cells #[.int .i64 n, .int .i64 a, .int .i64 b, .string s, .string t] 96 (0, 0))
theorem ClAt.cells {w : World} {X : Nat} {n a b : Int} {s t : ByteArray} (h : ClAt w X n a b s t) : w.cell? ⟨X, 0, none⟩ = some (.int .i64 n) ∧ w.cell? ⟨X, 1, none⟩ = some (.int .i64 a) ∧ w.cell? ⟨X, 2, none⟩ = some (.int .i64 b) ∧ w.cell? ⟨X, 3, none⟩ = some (.string s) ∧ w.cell? ⟨X, 4, none⟩ = some (.string t) := by
  refine ⟨?_, ?_, ?_, ?_, ?_⟩ <;> (rw [cell_of_row _ _ _ _ _ _ h]; rfl)
theorem ClAt.frozen {w : World} {X : Nat} {n a b : Int} {s t : ByteArray} (h : ClAt w X n a b s t) : w.frozen? ⟨X, 0, none⟩ = false ∧ w.frozen? ⟨X, 1, none⟩ = false ∧ w.frozen? ⟨X, 2, none⟩ = false ∧ w.frozen? ⟨X, 3, none⟩ = false ∧ w.frozen? ⟨X, 4, none⟩ = false :=
  ⟨frozen_of_row _ _ _ _ _ h, frozen_of_row _ _ _ _ _ h, frozen_of_row _ _ _ _ _ h, frozen_of_row _ _ _ _ _ h, frozen_of_row _ _ _ _ _ h⟩
theorem ClAt.set1 {w : World} {X : Nat} {n a b : Int} {s t : ByteArray} (h : ClAt w X n a b s t) (y : Int) : ClAt (w.setCell ⟨X, 1, none⟩ (.int .i64 y)) X n y b s t := by unfold ClAt; rw [heap_setCell_same _ _ _ _ _ _ h]; rfl
theorem ClAt.set2 {w : World} {X : Nat} {n a b : Int} {s t : ByteArray} (h : ClAt w X n a b s t) (y : Int) : ClAt (w.setCell ⟨X, 2, none⟩ (.int .i64 y)) X n a y s t := by unfold ClAt; rw [heap_setCell_same _ _ _ _ _ _ h]; rfl
theorem ClAt.set3 {w : World} {X : Nat} {n a b : Int} {s t : ByteArray} (h : ClAt w X n a b s t) (y : ByteArray) : ClAt (w.setCell ⟨X, 3, none⟩ (.string y)) X n a b y t := by unfold ClAt; rw [heap_setCell_same _ _ _ _ _ _ h]; rfl
theorem ClAt.set4 {w : World} {X : Nat} {n a b : Int} {s t : ByteArray} (h : ClAt w X n a b s t) (y : ByteArray) : ClAt (w.setCell ⟨X, 4, none⟩ (.string y)) X n a b s y := by unfold ClAt; rw [heap_setCell_same _ _ _ _ _ _ h]; rfl
end Go.Proofs.YtcmgkjjkhfcedaaGreat
/-
  The document's own May (coxswainref9).
-/
namespace Go.Proofs.YtcmgkjjkhfcedaaGreat
open Go.ChangeShapes Go.WideShapes Go.ChangeAt Go.RowKit
set_option linter.unusedVariables false
def clZ : Cl := ⟨0, 0, 0, emp, emp⟩
/-- May a step be? -/
def maySt (o : Step) : Bool :=
  if o.k = 0 ∨ o.k = 4 ∨ o.k = 6 then eqSt o ⟨o.k, 0, 0, 0, clZ⟩
  else if o.k = 1 ∨ o.k = 7 then eqSt o ⟨o.k, o.a, 0, 0, clZ⟩ && decide (1 ≤ o.a) && decide (o.a ≤ 1000)
  else if o.k = 2 ∨ o.k = 3 then eqSt o ⟨o.k, o.a, 0, 0, clZ⟩ && inB o.a 5
  else if o.k = 5 then eqSt o ⟨5, o.a, 0, 0, clZ⟩ && inB o.a 39
  else if o.k = 8 then eqSt o ⟨8, o.a, o.b, o.c, clZ⟩ && inB o.a 3 && inB o.b 5 && inB o.c 1000
  else if o.k = 9 then eqSt o ⟨9, o.a, 0, 0, clZ⟩ && inB o.a 3
  else if o.k = 10 then eqSt o ⟨10, 0, 0, 0, o.cl⟩ && mayCl o.cl
  else false
theorem built_step (n : Int) : Tryz.prog.built 98 [(0, .int .i64 n)] = some #[.int .i64 n, .int .i64 0, .int .i64 0, .int .i64 0, .int .i64 0, .int .i64 0, .int .i64 0, .string ByteArray.empty, .string ByteArray.empty] := by kernel_rfl
attribute [local go_sem] built_step
/-- A step's block. -/
def StAt (w : World) (X : Nat) (k a b c n x y : Int) (s t : ByteArray) : Prop := w.heap[X]? = some (.cells #[.int .i64 k, .int .i64 a, .int .i64 b, .int .i64 c, .int .i64 n, .int .i64 x, .int .i64 y, .string s, .string t] 98 (0, 0))
theorem StAt.cells {w : World} {X : Nat} {k a b c n x y : Int} {s t : ByteArray} (h : StAt w X k a b c n x y s t) : w.cell? ⟨X, 0, none⟩ = some (.int .i64 k) ∧ w.cell? ⟨X, 1, none⟩ = some (.int .i64 a) ∧ w.cell? ⟨X, 2, none⟩ = some (.int .i64 b) ∧ w.cell? ⟨X, 3, none⟩ = some (.int .i64 c) ∧ w.cell? ⟨X, 4, none⟩ = some (.int .i64 n) ∧ w.cell? ⟨X, 5, none⟩ = some (.int .i64 x) ∧ w.cell? ⟨X, 6, none⟩ = some (.int .i64 y) ∧ w.cell? ⟨X, 7, none⟩ = some (.string s) ∧ w.cell? ⟨X, 8, none⟩ = some (.string t) := by
  refine ⟨?_, ?_, ?_, ?_, ?_, ?_, ?_, ?_, ?_⟩ <;> (rw [cell_of_row _ _ _ _ _ _ h]; rfl)
theorem StAt.frozen {w : World} {X : Nat} {k a b c n x y : Int} {s t : ByteArray} (h : StAt w X k a b c n x y s t) : w.frozen? ⟨X, 0, none⟩ = false ∧ w.frozen? ⟨X, 1, none⟩ = false ∧ w.frozen? ⟨X, 2, none⟩ = false ∧ w.frozen? ⟨X, 3, none⟩ = false ∧ w.frozen? ⟨X, 4, none⟩ = false ∧ w.frozen? ⟨X, 5, none⟩ = false ∧ w.frozen? ⟨X, 6, none⟩ = false ∧ w.frozen? ⟨X, 7, none⟩ = false ∧ w.frozen? ⟨X, 8, none⟩ = false :=
  ⟨frozen_of_row _ _ _ _ _ h, frozen_of_row _ _ _ _ _ h, frozen_of_row _ _ _ _ _ h, frozen_of_row _ _ _ _ _ h, frozen_of_row _ _ _ _ _ h, frozen_of_row _ _ _ _ _ h, frozen_of_row _ _ _ _ _ h, frozen_of_row _ _ _ _ _ h, frozen_of_row _ _ _ _ _ h⟩
theorem StAt.set1 {w : World} {X : Nat} {k a b c n x y : Int} {s t : ByteArray} (h : StAt w X k a b c n x y s t) (q : Int) : StAt (w.setCell ⟨X, 1, none⟩ (.int .i64 q)) X k q b c n x y s t := by unfold StAt; rw [heap_setCell_same _ _ _ _ _ _ h]; rfl
theorem StAt.set2 {w : World} {X : Nat} {k a b c n x y : Int} {s t : ByteArray} (h : StAt w X k a b c n x y s t) (q : Int) : StAt (w.setCell ⟨X, 2, none⟩ (.int .i64 q)) X k a q c n x y s t := by unfold StAt; rw [heap_setCell_same _ _ _ _ _ _ h]; rfl
theorem StAt.set3 {w : World} {X : Nat} {k a b c n x y : Int} {s t : ByteArray} (h : StAt w X k a b c n x y s t) (q : Int) : StAt (w.setCell ⟨X, 3, none⟩ (.int .i64 q)) X k a b q n x y s t := by unfold StAt; rw [heap_setCell_same _ _ _ _ _ _ h]; rfl
theorem StAt.set4 {w : World} {X : Nat} {k a b c n x y : Int} {s t : ByteArray} (h : StAt w X k a b c n x y s t) (q : Int) : StAt (w.setCell ⟨X, 4, none⟩ (.int .i64 q)) X k a b c q x y s t := by unfold StAt; rw [heap_setCell_same _ _ _ _ _ _ h]; rfl
theorem StAt.set5 {w : World} {X : Nat} {k a b c n x y : Int} {s t : ByteArray} (h : StAt w X k a b c n x y s t) (q : Int) : StAt (w.setCell ⟨X, 5, none⟩ (.int .i64 q)) X k a b c n q y s t := by unfold StAt; rw [heap_setCell_same _ _ _ _ _ _ h]; rfl
theorem StAt.set6 {w : World} {X : Nat} {k a b c n x y : Int} {s t : ByteArray} (h : StAt w X k a b c n x y s t) (q : Int) : StAt (w.setCell ⟨X, 6, none⟩ (.int .i64 q)) X k a b c n x q s t := by unfold StAt; rw [heap_setCell_same _ _ _ _ _ _ h]; rfl
theorem StAt.set7 {w : World} {X : Nat} {k a b c n x y : Int} {s t : ByteArray} (h : StAt w X k a b c n x y s t) (q : ByteArray) : StAt (w.setCell ⟨X, 7, none⟩ (.string q)) X k a b c n x y q t := by unfold StAt; rw [heap_setCell_same _ _ _ _ _ _ h]; rfl
theorem StAt.set8 {w : World} {X : Nat} {k a b c n x y : Int} {s t : ByteArray} (h : StAt w X k a b c n x y s t) (q : ByteArray) : StAt (w.setCell ⟨X, 8, none⟩ (.string q)) X k a b c n x y s q := by unfold StAt; rw [heap_setCell_same _ _ _ _ _ _ h]; rfl
end Go.Proofs.YtcmgkjjkhfcedaaGreat
/-
  Ops of package coxswainlaw0: lent out with marked room, the same, kept, written over.
-/
namespace Go.Proofs.YtcmgkjjkhfcedaaGreat
open Go.ChangeShapes Go.WideShapes Go.ChangeAt Go.RowKit
set_option linter.unusedVariables false
theorem stVals_len (x : Step) : (stVals x).length = 9 := rfl
theorem stVals_cell (x : Step) : ∀ v ∈ stVals x, v.oneCell' = true := by
  intro v hv
  simp [stVals] at hv
  rcases hv with rfl | rfl | rfl | rfl | rfl | rfl | rfl | rfl | rfl <;> rfl
theorem ops_info : (Tryz.prog.info? 98).map (fun i => (i.zero, i.size, i.bytes)) = some (some (.agg #[.int .i64 0, .int .i64 0, .int .i64 0, .int .i64 0, .int .i64 0, .int .i64 0, .int .i64 0, .string ByteArray.empty, .string ByteArray.empty]), 9, 88) := by kernel_rfl
theorem built_ops_mark : Tryz.prog.built 98 [(0, .int .i64 (-7))] = some #[.int .i64 (-7), .int .i64 0, .int .i64 0, .int .i64 0, .int .i64 0, .int .i64 0, .int .i64 0, .string ByteArray.empty, .string ByteArray.empty] := by kernel_rfl
attribute [local go_sem] built_ops_mark
theorem built_ops_over : Tryz.prog.built 98 [(0, .int .i64 (-9))] = some #[.int .i64 (-9), .int .i64 0, .int .i64 0, .int .i64 0, .int .i64 0, .int .i64 0, .int .i64 0, .string ByteArray.empty, .string ByteArray.empty] := by kernel_rfl
attribute [local go_sem] built_ops_over
def mkOps : Step := ⟨-7, 0, 0, 0, ⟨0, 0, 0, ByteArray.empty, ByteArray.empty⟩⟩
def ovOps : Step := ⟨-9, 0, 0, 0, ⟨0, 0, 0, ByteArray.empty, ByteArray.empty⟩⟩
theorem step_same (w : World) (x : Step) : (binOp .neq 98 (.agg #[.int .i64 x.k, .int .i64 x.a, .int .i64 x.b, .int .i64 x.c, .int .i64 x.cl.sys, .int .i64 x.cl.a, .int .i64 x.cl.b, .string x.cl.s, .string x.cl.t]) (.agg #[.int .i64 x.k, .int .i64 x.a, .int .i64 x.b, .int .i64 x.c, .int .i64 x.cl.sys, .int .i64 x.cl.a, .int .i64 x.cl.b, .string x.cl.s, .string x.cl.t])).run Tryz.prog w = .ok (.bool false) w := by
  have := step_neq w x x
  rw [step_refl] at this
  exact this
theorem own_sliceOps {w : World} {B : Nat} {e : TypeId} {z n : Nat} {v : Value} {xs : List Value} (h : w.ownsRow B e z v n xs) : ∃ a c, v = .slice a n c ∧ (a = none → c = 0) := by
  rcases h.2 with ⟨rfl, rfl⟩ | ⟨g, cap, cur, rfl, _⟩
  · exact ⟨none, 0, rfl, fun _ => rfl⟩
  · exact ⟨_, _, rfl, (fun e => by cases e)⟩
end Go.Proofs.YtcmgkjjkhfcedaaGreat
/-
  Great lists of steps; the document's own Fix (coxswainref9); contracts of the program's prog.
-/
namespace Go.Proofs.YtcmgkjjkhfcedaaGreat
open Go.ChangeShapes Go.WideShapes Go.ChangeAt Go.RowKit
set_option linter.unusedVariables false
def bigSt (o : Step) : Bool := decide (600 < o.cl.s.size) || decide (600 < o.cl.t.size)
def greatB (xs : List Step) : Bool := decide (60 < xs.length) || xs.any bigSt
def zSt : Step := ⟨0, 0, 0, 0, ⟨0, 0, 0, ByteArray.empty, ByteArray.empty⟩⟩
def fixO (o : Step) : Step := if maySt o = true then o else zSt
def fixL (xs : List Step) : List Step := (xs.take 40).map fixO
theorem greatB_no {xs : List Step} (h : ¬ 60 < xs.length) (hk : ∀ (i : Nat) (x : Step), xs[i]? = some x → bigSt x = false) : greatB xs = false := by
  unfold greatB
  have h1 : xs.any bigSt = false := by
    rw [List.any_eq_false]
    intro x hx
    obtain ⟨i, he⟩ := List.mem_iff_getElem?.1 hx
    simp [hk i x he]
  simp [h, h1]
theorem greatB_yes {xs : List Step} {i : Nat} {x : Step} (h : xs[i]? = some x) (hb : bigSt x = true) : greatB xs = true := by
  unfold greatB
  have h1 : xs.any bigSt = true := List.any_eq_true.2 ⟨x, List.mem_iff_getElem?.2 ⟨i, h⟩, hb⟩
  simp [h1]
set_option maxHeartbeats 4000000 in
theorem great_any (a : Option Addr) (n c : Nat) (xs : List Step) (w : World) (ha : Reads 9 stVals w a n xs) (hn : n ≤ maxLen) :
    Calls Tryz.prog 18 #[.slice a n c] w fun e w' => e = .returned (.bool (greatB xs)) ∧ w = w' := by
  have hl := ha.1
  have n63 : (n : Int) ≤ 9223372036854775807 := by unfold maxLen at hn; omega
  obtain ⟨G, hG⟩ : ∃ G, G = greatB xs := ⟨_, rfl⟩
  rw [← hG]
  have HG := hide hG
  have HL := hide hl
  have HA := hide ha
  clear hG ha hl hn
  by_cases h60 : (60 : Int) < (n : Int)
  · have G2 := hide (show G = true from by rw [HG.out]; unfold greatB; have := HL.out; simp; left; omega)
    go_enter Tryz.func18, Tryz.ntmps18
    go_wp2_with fail
    go_ret
    exact ⟨ret_bool G2.out.symm, rfl⟩
  · go_enter Tryz.func18, Tryz.ntmps18
    go_wp2_with fail
    go_loop [3] (fun i => ∃ k : Nat, k ≤ n ∧ i = .int .i64 k ∧ Hid (∀ (i : Nat) (x : Step), i < k → xs[i]? = some x → bigSt x = false)) (fun i => n - (intOf i).toNat)
    case atStart => exact ⟨0, Nat.zero_le _, rfl, fun i x hi => absurd hi (by omega)⟩
    case round =>
      obtain ⟨k, hk, rfl, hZ⟩ := hrel
      by_cases hlt : k < n
      · have k0 : (0 : Int) ≤ (k : Int) := by omega
        have k1 : (k : Int) < (n : Int) := by omega
        obtain ⟨x, b, off, hx, rfl, hc⟩ := HA.out.at_ hlt
        have HX := hide hx
        have c7 : w.cell? ⟨b, off + k * 9 + 7, none⟩ = some (.string x.cl.s) := hc 7 _ rfl
        have c8 : w.cell? ⟨b, off + k * 9 + 8, none⟩ = some (.string x.cl.t) := hc 8 _ rfl
        have c7' : w.cell? ⟨b, off + k * 9 + 4 + 3, none⟩ = some (.string x.cl.s) := c7
        have c8' : w.cell? ⟨b, off + k * 9 + 4 + 4, none⟩ = some (.string x.cl.t) := c8
        clear hx hc
        by_cases hs : (600 : Int) < (x.cl.s.size : Int)
        · have G2 := hide (show G = true from by rw [HG.out]; exact greatB_yes HX.out (by unfold bigSt; simp; left; omega))
          go_wp2_with fail
          go_ret
          exact ⟨ret_bool G2.out.symm, rfl⟩
        · by_cases ht : (600 : Int) < (x.cl.t.size : Int)
          · have G2 := hide (show G = true from by rw [HG.out]; exact greatB_yes HX.out (by unfold bigSt; simp; right; omega))
            go_wp2_with fail
            go_ret
            exact ⟨ret_bool G2.out.symm, rfl⟩
          · have N2 := hide (show ∀ (i : Nat) (y : Step), i < k + 1 → xs[i]? = some y → bigSt y = false from fun i y hi hy => by
              by_cases e : i = k
              · subst e
                rw [HX.out] at hy
                injection hy with hy
                subst hy
                unfold bigSt; simp; omega
              · exact hZ.out i y (by omega) hy)
            go_wp2_with fail
            go_round
            case rel => exact ⟨k + 1, by omega, by go_num, N2.out⟩
            case measure => simp [intOf]; omega
      · obtain rfl : k = n := by omega
        have G2 := hide (show G = false from by
          rw [HG.out]
          have h1 := HL.out
          refine greatB_no (by omega) fun i x hi => hZ.out i x ?_ hi
          have := (List.getElem?_eq_some_iff.1 hi).1
          omega)
        go_wp2_with fail
        go_ret
        exact ⟨ret_bool G2.out.symm, rfl⟩
theorem fixL_succ {xs : List Step} {k : Nat} {x : Step} (hx : xs[k]? = some x) : (xs.take (k + 1)).map fixO = (xs.take k).map fixO ++ [fixO x] := by
  have hk : k < xs.length := (List.getElem?_eq_some_iff.1 hx).1
  rw [List.take_succ_eq_append_getElem hk, List.map_append]
  have : xs[k] = x := by rw [List.getElem?_eq_getElem hk] at hx; injection hx
  rw [this]; rfl
theorem built_zero : Tryz.prog.built 98 [] = some #[.int .i64 0, .int .i64 0, .int .i64 0, .int .i64 0, .int .i64 0, .int .i64 0, .int .i64 0, .string ByteArray.empty, .string ByteArray.empty] := by kernel_rfl
attribute [local go_sem] built_zero
end Go.Proofs.YtcmgkjjkhfcedaaGreat
