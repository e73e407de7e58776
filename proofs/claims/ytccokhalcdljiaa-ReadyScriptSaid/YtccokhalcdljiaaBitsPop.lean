/-
  Plain arithmetic: how many ones a word of 64 bits has, reckoned by sums of ever wider fields.
-/
import Derived.Test.YtccokhalcdljiaaBitsPlain
import Derived.Laws.BitsAllLaws
import Derived.Lib.BitFns
namespace Go.Proofs.Ytccokhalcdljiaa
open Go
/-- The ones of the lowest n bits. -/
def pop : Nat → Nat → Nat
  | 0, _ => 0
  | n + 1, x => x % 2 + pop n (x / 2)
theorem pop_eight (k x : Nat) : pop (k + 8) x = pop 8 (x % 256) + pop k (x / 256) := by
  have e : x / 2 / 2 / 2 / 2 / 2 / 2 / 2 / 2 = x / 256 := by omega
  simp only [pop, e]
  omega
/-- A mask: the byte c, k times. -/
def mask (c : Nat) : Nat → Nat
  | 0 => 0
  | k + 1 => c + 256 * mask c k
theorem and_split (a b c d : Nat) (ha : a < 256) (hc : c < 256) : (a + 256 * b) &&& (c + 256 * d) = (a &&& c) + 256 * (b &&& d) := by
  have hx : a &&& c < 2 ^ 8 := Nat.and_lt_two_pow _ (by omega)
  apply Nat.eq_of_testBit_eq
  intro i
  rw [Nat.add_comm a, Nat.add_comm c, Nat.add_comm (a &&& c), show (256 : Nat) = 2 ^ 8 from rfl, Nat.testBit_and,
    Nat.testBit_two_pow_mul_add b (by omega : a < 2 ^ 8), Nat.testBit_two_pow_mul_add d (by omega : c < 2 ^ 8), Nat.testBit_two_pow_mul_add (b &&& d) hx]
  split <;> simp [Nat.testBit_and]
theorem and_mask (a b c k : Nat) (ha : a < 256) (hc : c < 256) : (a + 256 * b) &&& mask c (k + 1) = (a &&& c) + 256 * (b &&& mask c k) := and_split a b c _ ha hc
def s1 (k x : Nat) : Nat := (x / 2 &&& mask 85 k) + (x &&& mask 85 k)
def s2 (k x : Nat) : Nat := (x / 4 &&& mask 51 k) + (x &&& mask 51 k)
def s3 (k x : Nat) : Nat := (x / 16 + x) &&& mask 15 k
def q1 (a : Nat) : Nat := (a / 2 &&& 85) + (a &&& 85)
def q2 (a : Nat) : Nat := (q1 a / 4 &&& 51) + (q1 a &&& 51)
theorem d1 : ∀ a : Fin 256, ∀ t : Fin 2, (a.val / 2 + 128 * t.val) &&& 85 = a.val / 2 &&& 85 := by decide +kernel
theorem d2 : ∀ a : Fin 256, ∀ t : Fin 4, (a.val / 4 + 64 * t.val) &&& 51 = a.val / 4 &&& 51 := by decide +kernel
theorem d3 : ∀ a : Fin 256, ∀ t : Fin 5, (q2 a.val / 16 + 16 * t.val + q2 a.val) &&& 15 = pop 8 a.val := by decide +kernel
theorem l1 : ∀ a : Fin 256, q1 a.val < 256 := by decide +kernel
theorem l2 : ∀ a : Fin 256, q2 a.val % 16 ≤ 4 ∧ q2 a.val / 16 ≤ 4 := by decide +kernel
theorem l3 : ∀ a : Fin 256, pop 8 a.val ≤ 8 := by decide +kernel
theorem s1_succ (k a b : Nat) (ha : a < 256) : s1 (k + 1) (a + 256 * b) = q1 a + 256 * s1 k b := by
  unfold s1 q1
  have e := d1 ⟨a, ha⟩ ⟨b % 2, by omega⟩
  simp only at e
  rw [show (a + 256 * b) / 2 = (a / 2 + 128 * (b % 2)) + 256 * (b / 2) from by omega, and_mask _ _ _ _ (by omega) (by omega), and_mask _ _ _ _ ha (by omega), e]
  omega
theorem s2_succ (k a b : Nat) (ha : a < 256) : s2 (k + 1) (a + 256 * b) = ((a / 4 &&& 51) + (a &&& 51)) + 256 * s2 k b := by
  unfold s2
  have e := d2 ⟨a, ha⟩ ⟨b % 4, by omega⟩
  simp only at e
  rw [show (a + 256 * b) / 4 = (a / 4 + 64 * (b % 4)) + 256 * (b / 4) from by omega, and_mask _ _ _ _ (by omega) (by omega), and_mask _ _ _ _ ha (by omega), e]
  omega
def t2 (k x : Nat) : Nat := s2 k (s1 k x)
theorem t2_succ (k a b : Nat) (ha : a < 256) : t2 (k + 1) (a + 256 * b) = q2 a + 256 * t2 k b := by
  unfold t2
  rw [s1_succ k a b ha, s2_succ k _ _ (l1 ⟨a, ha⟩)]
  rfl
theorem t2_zero (x : Nat) : t2 0 x = 0 := by simp [t2, s1, s2, mask]
theorem t2_low (k x : Nat) : t2 k x % 16 ≤ 4 := by
  cases k with
  | zero => rw [t2_zero]; omega
  | succ k =>
    have h := t2_succ k (x % 256) (x / 256) (by omega)
    rw [show x % 256 + 256 * (x / 256) = x from by omega] at h
    have := l2 ⟨x % 256, by omega⟩
    simp only at this
    rw [h]; omega
def t3 (k x : Nat) : Nat := s3 k (t2 k x)
theorem t3_succ (k a b : Nat) (ha : a < 256) : t3 (k + 1) (a + 256 * b) = pop 8 a + 256 * t3 k b := by
  unfold t3 s3
  rw [t2_succ k a b ha]
  have hl := t2_low k b
  have e := d3 ⟨a, ha⟩ ⟨t2 k b % 16, by omega⟩
  have h2 := l2 ⟨a, ha⟩
  simp only at e h2
  rw [show (q2 a + 256 * t2 k b) / 16 + (q2 a + 256 * t2 k b) = (q2 a / 16 + 16 * (t2 k b % 16) + q2 a) + 256 * (t2 k b / 16 + t2 k b) from by omega,
    and_mask _ _ _ _ (by omega) (by omega), e]
theorem t3_zero (x : Nat) : t3 0 x = 0 := by simp [t3, s3, mask]
theorem t3_step (k x : Nat) : t3 (k + 1) x = pop 8 (x % 256) + 256 * t3 k (x / 256) := by
  have h := t3_succ k (x % 256) (x / 256) (by omega)
  rwa [show x % 256 + 256 * (x / 256) = x from by omega] at h
theorem t2_hi (k x : Nat) : t2 k x < 256 ^ k ∧ t2 k x / 16 + t2 k x < 256 ^ k := by
  induction k generalizing x with
  | zero => rw [t2_zero]; decide
  | succ k ih =>
    have h := t2_succ k (x % 256) (x / 256) (by omega)
    rw [show x % 256 + 256 * (x / 256) = x from by omega] at h
    have := l2 ⟨x % 256, by omega⟩
    have hl := t2_low k (x / 256)
    simp only at this
    obtain ⟨i1, i2⟩ := ih (x / 256)
    rw [h, Nat.pow_succ]
    omega
theorem s1_hi (k x : Nat) : s1 k x < 256 ^ k := by
  induction k generalizing x with
  | zero => simp [s1, mask]
  | succ k ih =>
    have h := s1_succ k (x % 256) (x / 256) (by omega)
    rw [show x % 256 + 256 * (x / 256) = x from by omega] at h
    have := l1 ⟨x % 256, by omega⟩
    simp only at this
    have i1 := ih (x / 256)
    rw [h, Nat.pow_succ]
    omega
theorem pop8_le (x : Nat) : pop 8 (x % 256) ≤ 8 := l3 ⟨x % 256, by omega⟩
/-- The last three sums. -/
def s6 (y : Nat) : Nat :=
  let a := y + y / 256
  let b := a + a / 65536
  b + b / 4294967296
theorem quot (c r q x : Nat) (hr : r < c) (h : x = r + c * q) : x / c = q := by
  subst h; rw [Nat.add_mul_div_left _ _ (by omega), Nat.div_eq_of_lt hr, Nat.zero_add]
theorem i1 (p0 p1 p2 p3 p4 p5 p6 p7 : Nat) :
    p0 + 256 * (p1 + 256 * (p2 + 256 * (p3 + 256 * (p4 + 256 * (p5 + 256 * (p6 + 256 * p7)))))) + (p1 + 256 * (p2 + 256 * (p3 + 256 * (p4 + 256 * (p5 + 256 * (p6 + 256 * p7))))))
      = ((p0 + p1) + 256 * (p1 + p2)) + 65536 * ((p2 + p3) + 256 * ((p3 + p4) + 256 * ((p4 + p5) + 256 * ((p5 + p6) + 256 * ((p6 + p7) + 256 * p7))))) := by omega
theorem i2 (p0 p1 p2 p3 p4 p5 p6 p7 : Nat) :
    ((p0 + p1) + 256 * (p1 + p2)) + 65536 * ((p2 + p3) + 256 * ((p3 + p4) + 256 * ((p4 + p5) + 256 * ((p5 + p6) + 256 * ((p6 + p7) + 256 * p7))))) + ((p2 + p3) + 256 * ((p3 + p4) + 256 * ((p4 + p5) + 256 * ((p5 + p6) + 256 * ((p6 + p7) + 256 * p7)))))
      = ((p0 + p1 + p2 + p3) + 256 * ((p1 + p2 + p3 + p4) + 256 * ((p2 + p3 + p4 + p5) + 256 * (p3 + p4 + p5 + p6)))) + 4294967296 * ((p4 + p5 + p6 + p7) + 256 * ((p5 + p6 + p7) + 256 * ((p6 + p7) + 256 * p7))) := by omega
theorem i3 (p0 p1 p2 p3 p4 p5 p6 p7 : Nat) :
    ((p0 + p1 + p2 + p3) + 256 * ((p1 + p2 + p3 + p4) + 256 * ((p2 + p3 + p4 + p5) + 256 * (p3 + p4 + p5 + p6)))) + 4294967296 * ((p4 + p5 + p6 + p7) + 256 * ((p5 + p6 + p7) + 256 * ((p6 + p7) + 256 * p7))) + ((p4 + p5 + p6 + p7) + 256 * ((p5 + p6 + p7) + 256 * ((p6 + p7) + 256 * p7)))
      = (p0 + p1 + p2 + p3 + p4 + p5 + p6 + p7) + 128 * (2 * ((p1 + p2 + p3 + p4) + (p5 + p6 + p7) + 256 * ((p2 + p3 + p4 + p5) + (p6 + p7) + 256 * ((p3 + p4 + p5 + p6) + p7 + 256 * ((p4 + p5 + p6 + p7) + 256 * ((p5 + p6 + p7) + 256 * ((p6 + p7) + 256 * p7))))))) := by omega
theorem s6_sum (p0 p1 p2 p3 p4 p5 p6 p7 y : Nat) (h0 : p0 ≤ 8) (h1 : p1 ≤ 8) (h2 : p2 ≤ 8) (h3 : p3 ≤ 8) (h4 : p4 ≤ 8) (h5 : p5 ≤ 8) (h6 : p6 ≤ 8) (h7 : p7 ≤ 8)
    (hy : y = p0 + 256 * (p1 + 256 * (p2 + 256 * (p3 + 256 * (p4 + 256 * (p5 + 256 * (p6 + 256 * p7))))))) :
    y + y / 256 < 18446744073709551616 ∧ (y + y / 256) + (y + y / 256) / 65536 < 18446744073709551616 ∧ s6 y < 9223372036854775808 ∧ s6 y % 128 = p0 + p1 + p2 + p3 + p4 + p5 + p6 + p7 := by
  have e1 : y / 256 = _ := quot 256 p0 _ y (by clear hy; omega) hy
  have ea := Eq.trans (show y + y / 256 = _ from by rw [e1, hy]) (i1 p0 p1 p2 p3 p4 p5 p6 p7)
  have e2 : (y + y / 256) / 65536 = _ := quot 65536 _ _ _ (by clear hy e1 ea; omega) ea
  have eb := Eq.trans (show (y + y / 256) + (y + y / 256) / 65536 = _ from by rw [e2, ea]) (i2 p0 p1 p2 p3 p4 p5 p6 p7)
  have e3 : ((y + y / 256) + (y + y / 256) / 65536) / 4294967296 = _ := quot 4294967296 _ _ _ (by clear hy e1 ea e2 eb; omega) eb
  have eq := Eq.trans (show s6 y = _ from by show ((y + y / 256) + (y + y / 256) / 65536) + ((y + y / 256) + (y + y / 256) / 65536) / 4294967296 = _; rw [e3, eb]) (i3 p0 p1 p2 p3 p4 p5 p6 p7)
  have k1 : y + y / 256 < 18446744073709551616 := by rw [ea]; clear hy e1 ea e2 eb e3 eq; omega
  have k2 : (y + y / 256) + (y + y / 256) / 65536 < 18446744073709551616 := by rw [eb]; clear hy e1 ea e2 eb e3 eq k1; omega
  have k3 : s6 y < 9223372036854775808 := by rw [eq]; clear hy e1 ea e2 eb e3 eq k1 k2; omega
  refine ⟨k1, k2, k3, ?_⟩
  rw [eq, Nat.add_mul_mod_self_left, Nat.mod_eq_of_lt (by clear hy e1 ea e2 eb e3 eq k1 k2 k3; omega)]
theorem t3_all (x : Nat) : ∃ p0 p1 p2 p3 p4 p5 p6 p7 : Nat, p0 ≤ 8 ∧ p1 ≤ 8 ∧ p2 ≤ 8 ∧ p3 ≤ 8 ∧ p4 ≤ 8 ∧ p5 ≤ 8 ∧ p6 ≤ 8 ∧ p7 ≤ 8 ∧
    t3 8 x = p0 + 256 * (p1 + 256 * (p2 + 256 * (p3 + 256 * (p4 + 256 * (p5 + 256 * (p6 + 256 * p7)))))) ∧ pop 64 x = p0 + p1 + p2 + p3 + p4 + p5 + p6 + p7 := by
  refine ⟨_, _, _, _, _, _, _, _, pop8_le x, pop8_le (x / 256), pop8_le (x / 256 / 256), pop8_le (x / 256 / 256 / 256), pop8_le (x / 256 / 256 / 256 / 256), pop8_le (x / 256 / 256 / 256 / 256 / 256),
    pop8_le (x / 256 / 256 / 256 / 256 / 256 / 256), pop8_le (x / 256 / 256 / 256 / 256 / 256 / 256 / 256), ?_, ?_⟩
  · rw [t3_step 7, t3_step 6, t3_step 5, t3_step 4, t3_step 3, t3_step 2, t3_step 1, t3_step 0, t3_zero]; omega
  · rw [pop_eight 56 (x), pop_eight 48 (x / 256), pop_eight 40 (x / 256 / 256), pop_eight 32 (x / 256 / 256 / 256), pop_eight 24 (x / 256 / 256 / 256 / 256), pop_eight 16 (x / 256 / 256 / 256 / 256 / 256), pop_eight 8 (x / 256 / 256 / 256 / 256 / 256 / 256), pop_eight 0 (x / 256 / 256 / 256 / 256 / 256 / 256 / 256)]
    have : ∀ y, pop 0 y = 0 := fun _ => rfl
    rw [this]; omega
theorem m1_eq : mask 85 8 = 6148914691236517205 := by decide
theorem m2_eq : mask 51 8 = 3689348814741910323 := by decide
theorem m3_eq : mask 15 8 = 1085102592571150095 := by decide
/-- What is reckoned, as the operations are. -/
def swar1 (x : Int) : Int := IntKind.u64.wrap (bits .and .u64 (x / 2) 6148914691236517205 + bits .and .u64 x 6148914691236517205)
def swar2 (x : Int) : Int := IntKind.u64.wrap (bits .and .u64 (x / 4) 3689348814741910323 + bits .and .u64 x 3689348814741910323)
def swar3 (x : Int) : Int := bits .and .u64 (IntKind.u64.wrap (x / 16 + x)) 1085102592571150095
def swar4 (x : Int) : Int := IntKind.u64.wrap (x + x / 256)
def swar5 (x : Int) : Int := IntKind.u64.wrap (x + x / 65536)
def swar6 (x : Int) : Int := IntKind.u64.wrap (x + x / 4294967296)
def swar (x : Int) : Int := swar6 (swar5 (swar4 (swar3 (swar2 (swar1 x)))))
theorem wrap_u64_in (n : Nat) (h : n < 18446744073709551616) : IntKind.u64.wrap (n : Int) = n := by
  simp only [IntKind.wrap, IntKind.bits, IntKind.signed]; simp; omega
theorem swar1_nat (n : Nat) (h : n < 18446744073709551616) : swar1 (n : Int) = (s1 8 n : Nat) := by
  have hi := s1_hi 8 n
  unfold swar1
  rw [show (n : Int) / 2 = ((n / 2 : Nat) : Int) from by omega, show (6148914691236517205 : Int) = ((6148914691236517205 : Nat) : Int) from rfl, u64_and_nat _ _ (by omega) (by omega), u64_and_nat _ _ h (by omega), ← Int.natCast_add]
  unfold s1 at hi ⊢
  rw [m1_eq] at hi ⊢
  exact wrap_u64_in _ (by omega)
theorem swar2_nat (n : Nat) (h : n < 18446744073709551616) (hi : s2 8 n < 18446744073709551616) : swar2 (n : Int) = (s2 8 n : Nat) := by
  unfold swar2
  rw [show (n : Int) / 4 = ((n / 4 : Nat) : Int) from by omega, show (3689348814741910323 : Int) = ((3689348814741910323 : Nat) : Int) from rfl, u64_and_nat _ _ (by omega) (by omega), u64_and_nat _ _ h (by omega), ← Int.natCast_add]
  unfold s2 at hi ⊢
  rw [m2_eq] at hi ⊢
  exact wrap_u64_in _ hi
theorem swar3_nat (n : Nat) (h : n / 16 + n < 18446744073709551616) : swar3 (n : Int) = (s3 8 n : Nat) := by
  unfold swar3 s3
  rw [m3_eq, show (n : Int) / 16 + (n : Int) = ((n / 16 + n : Nat) : Int) from by omega, wrap_u64_in _ h, show (1085102592571150095 : Int) = ((1085102592571150095 : Nat) : Int) from rfl, u64_and_nat _ _ h (by omega)]
theorem swar_nat (n : Nat) (h : n < 18446744073709551616) : ∃ y : Nat, swar (n : Int) = y ∧ y < 9223372036854775808 ∧ y % 128 = pop 64 n := by
  obtain ⟨p0, p1, p2, p3, p4, p5, p6, p7, h0, h1, h2, h3, h4, h5, h6, h7, hy, hp⟩ := t3_all n
  obtain ⟨b1, b2, b3, b4⟩ := s6_sum p0 p1 p2 p3 p4 p5 p6 p7 (t3 8 n) h0 h1 h2 h3 h4 h5 h6 h7 hy
  obtain ⟨c1, c2⟩ := t2_hi 8 n
  have c0 := s1_hi 8 n
  refine ⟨s6 (t3 8 n), ?_, b3, by rw [b4, hp]⟩
  unfold swar
  have e3 : t3 8 n = s3 8 (t2 8 n) := rfl
  have e2 : t2 8 n = s2 8 (s1 8 n) := rfl
  rw [swar1_nat n h, swar2_nat _ (by omega) (by rw [← e2]; omega), ← e2, swar3_nat _ (by omega), ← e3]
  generalize t3 8 n = y at b1 b2 b3 ⊢
  unfold swar4
  rw [show (y : Int) + (y : Int) / 256 = ((y + y / 256 : Nat) : Int) from by omega, wrap_u64_in _ b1]
  unfold swar5
  rw [show ((y + y / 256 : Nat) : Int) + ((y + y / 256 : Nat) : Int) / 65536 = (((y + y / 256) + (y + y / 256) / 65536 : Nat) : Int) from by omega, wrap_u64_in _ b2]
  unfold swar6
  have e : s6 y = (y + y / 256 + (y + y / 256) / 65536) + (y + y / 256 + (y + y / 256) / 65536) / 4294967296 := rfl
  rw [e] at b3 ⊢
  generalize (y + y / 256 + (y + y / 256) / 65536) = z at b3 ⊢
  rw [show (z : Int) + (z : Int) / 4294967296 = ((z + z / 4294967296 : Nat) : Int) from by omega, wrap_u64_in _ (by omega)]
/-- Ones counted one by one. -/
def cnt (f : Nat → Bool) : Nat → Nat → Nat
  | 0, _ => 0
  | n + 1, k => (if f k then 1 else 0) + cnt f n (k + 1)
theorem fall_cnt (f : Nat → Bool) : ∀ n, n ≤ 64 → (fall f n).length = cnt f n (64 - n)
  | 0, _ => rfl
  | n + 1, h => by
    rw [fall, List.length_append, fall_cnt f n (by omega), cnt, show 64 - (n + 1) = 63 - n from by omega, show 63 - n + 1 = 64 - n from by omega]
    split <;> simp <;> omega
theorem pop_cnt (m : Nat) : ∀ n k, pop n (m / 2 ^ k) = cnt (bit (m : Int)) n k
  | 0, _ => rfl
  | n + 1, k => by
    have ih := pop_cnt m n (k + 1)
    rw [pop, cnt, Nat.div_div_eq_div_mul, ← Nat.pow_succ, ih, bit_nat, Nat.testBit_eq_decide_div_mod_eq]
    have : m / 2 ^ k % 2 = 0 ∨ m / 2 ^ k % 2 = 1 := by omega
    rcases this with h | h <;> simp [h]
theorem nums_len (m : Nat) : (nums (bit (m : Int))).length = pop 64 m := by
  rw [show nums (bit (m : Int)) = fall (bit (m : Int)) 64 from rfl, fall_cnt _ 64 (by omega), ← pop_cnt m 64 0]; simp
end Go.Proofs.Ytccokhalcdljiaa
