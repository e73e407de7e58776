/-
  The law PrioOrder, over the contracts of the program's prio.
-/
import Derived.Test.YteiokkdkeneogaaPrBoth
namespace Go.Proofs.Yteiokkdkeneogaa
open Go.ChangeShapes Go.WideShapes Go.ChangeAt Go.RowKit
set_option linter.unusedVariables false
/-- The signs along three. -/
theorem signs {u v t : Int} (h : 0 ≤ u → 0 ≤ v → 0 ≤ t ∧ (0 < u ∨ 0 < v → 0 < t)) : u < 0 ∨ 0 ≤ u ∧ v < 0 ∨ 0 ≤ u ∧ 0 ≤ v ∧ 0 < t ∨ 0 ≤ u ∧ 0 ≤ v ∧ t = 0 ∧ ¬ 0 < u ∧ ¬ 0 < v := by
  by_cases h1 : 0 ≤ u
  · by_cases h2 : 0 ≤ v
    · obtain ⟨h3, h4⟩ := h h1 h2
      by_cases h5 : 0 < t
      · exact .inr (.inr (.inl ⟨h1, h2, h5⟩))
      · exact .inr (.inr (.inr ⟨h1, h2, by omega, fun e => h5 (h4 (.inl e)), fun e => h5 (h4 (.inr e))⟩))
    · exact .inr (.inl ⟨h1, by omega⟩)
  · exact .inl (by omega)
set_option maxHeartbeats 16000000 in
theorem walk_prioOrderC (C : PPrio) (w : World) (c l d x y z p q r : Int) (hc : (Lit.int .i64 c).wf = true) (hl : (Lit.int .i64 l).wf = true) (hd : (Lit.int .i64 d).wf = true) (hx : (Lit.int .i64 x).wf = true) (hy : (Lit.int .i64 y).wf = true) (hz : (Lit.int .i64 z).wf = true) (hp : (Lit.int .i64 p).wf = true) (hq : (Lit.int .i64 q).wf = true) (hr : (Lit.int .i64 r).wf = true) :
    Calls Try.prog 5 #[.agg #[.int .i64 c, .int .i64 l, .int .i64 d], .agg #[.int .i64 x, .int .i64 y, .int .i64 z], .agg #[.int .i64 p, .int .i64 q, .int .i64 r]] w fun e w' => e = .returned (.bool true) ∧ Below w.heap.size w w' := by
  have wa : PrWf ⟨c, l, d⟩ := ⟨hc, hl, hd⟩
  have wb : PrWf ⟨x, y, z⟩ := ⟨hx, hy, hz⟩
  have wc : PrWf ⟨p, q, r⟩ := ⟨hp, hq, hr⟩
  obtain ⟨u, hu⟩ : ∃ u, u = cmpP ⟨c, l, d⟩ ⟨x, y, z⟩ := ⟨_, rfl⟩
  obtain ⟨v, hv⟩ : ∃ v, v = cmpP ⟨x, y, z⟩ ⟨p, q, r⟩ := ⟨_, rfl⟩
  obtain ⟨t, ht⟩ : ∃ t, t = cmpP ⟨c, l, d⟩ ⟨p, q, r⟩ := ⟨_, rfl⟩
  obtain ⟨ma, hma⟩ : ∃ m, m = mayP ⟨c, l, d⟩ := ⟨_, rfl⟩
  obtain ⟨mb, hmb⟩ : ∃ m, m = mayP ⟨x, y, z⟩ := ⟨_, rfl⟩
  obtain ⟨eq, heq⟩ : ∃ m, m = (c == x && l == y && d == z) := ⟨_, rfl⟩
  have k1 := fun W => C.cmp W c l d x y z wa wb
  have k2 := fun W => C.cmp W x y z p q r wb wc
  have k3 := fun W => C.cmp W c l d p q r wa wc
  have k4 := fun W => C.cmp W x y z c l d wb wa
  have k5 := fun W => C.cmp W c l d c l d wa wa
  have k6 := fun W => C.may W c l d wa
  have k7 := fun W => C.may W x y z wb
  have ee := fun W => prio_eql W c l d x y z
  rw [cmpP_swap ⟨c, l, d⟩ ⟨x, y, z⟩, ← hu] at k4
  rw [cmpP_self] at k5
  rw [← hu] at k1
  rw [← hv] at k2
  rw [← ht] at k3
  rw [← hma] at k6
  rw [← hmb] at k7
  rw [← heq] at ee
  have SG := hide (signs (u := u) (v := v) (t := t) (fun h1 h2 => by rw [hu] at *; rw [hv] at *; rw [ht]; exact cmpP_trans h1 h2))
  have MAY : Hid (ma = false ∨ ma = true ∧ mb = false ∨ ma = true ∧ mb = true ∧ ((u == 0) == eq) = true) := (show _ from by
    cases h1 : ma with
    | false => exact .inl rfl
    | true =>
      cases h2 : mb with
      | false => exact .inr (.inl ⟨rfl, rfl⟩)
      | true =>
        refine .inr (.inr ⟨rfl, rfl, ?_⟩)
        rw [hu, heq, cmpP_may (by rw [← hma]; exact h1) (by rw [← hmb]; exact h2)]
        simp [eqP])
  have ub : -1 ≤ u ∧ u ≤ 1 := by rcases cmpP_vals ⟨c, l, d⟩ ⟨x, y, z⟩ with h | h | h <;> (rw [hu, h]; omega)
  obtain ⟨u0, u1⟩ := ub
  have g0 : ((-u) != (-u)) = false := by simp
  have K1 := hide k1
  have K2 := hide k2
  have K3 := hide k3
  have K4 := hide k4
  have K5 := hide k5
  have MA := hide k6
  have MB := hide k7
  clear k1 k2 k3 k4 k5 k6 k7 hu hv ht hma hmb heq wa wb wc hc hl hd hx hy hz hp hq hr
  obtain ⟨w1, hw1⟩ : ∃ w1, w1 = ((w.alloc (.cells #[.int .i64 c, .int .i64 l, .int .i64 d] 23)).alloc (.cells #[.int .i64 x, .int .i64 y, .int .i64 z] 23)).alloc (.cells #[.int .i64 p, .int .i64 q, .int .i64 r] 23) := ⟨_, rfl⟩
  have B1 := hide (show Below w.heap.size w w1 from by rw [hw1]; exact ((((Below.refl w.heap.size w).alloc (Nat.le_refl _) _).alloc (by simp) _).alloc (by simp; omega) _))
  have P1 := hide (show PrAt w1 w.heap.size c l d from by rw [hw1]; exact ((prAt_new w c l d).below ((Below.refl _ _).alloc (Nat.le_refl _) _)).below ((Below.refl _ _).alloc (Nat.le_refl _) _))
  have Q1 := hide (show PrAt w1 (w.heap.size + 1) x y z from by rw [hw1]; have := (prAt_new (w.alloc (.cells #[.int .i64 c, .int .i64 l, .int .i64 d] 23)) x y z).below ((Below.refl _ _).alloc (Nat.le_refl _) (.cells #[.int .i64 p, .int .i64 q, .int .i64 r] 23)); simpa using this)
  have R1 := hide (show PrAt w1 (w.heap.size + 1 + 1) p q r from by rw [hw1]; have := prAt_new ((w.alloc (.cells #[.int .i64 c, .int .i64 l, .int .i64 d] 23)).alloc (.cells #[.int .i64 x, .int .i64 y, .int .i64 z] 23)) p q r; simpa using this)
  have c1 := And.intro P1.out.cells (And.intro Q1.out.cells R1.out.cells)
  obtain ⟨X, hX⟩ : ∃ X, X = w.heap.size := ⟨_, rfl⟩
  obtain ⟨Y, hY⟩ : ∃ Y, Y = w.heap.size + 1 := ⟨_, rfl⟩
  obtain ⟨Z, hZ⟩ : ∃ Z, Z = w.heap.size + 1 + 1 := ⟨_, rfl⟩
  rw [← hZ, ← hY, ← hX] at c1
  rw [← hX] at P1
  rw [← hY] at Q1
  rw [← hZ] at R1
  have HX := hide hX
  have HY := hide hY
  have HZ := hide hZ
  have HW := hide hw1
  clear hw1 hX hY hZ
  go_enter Try.func5, Try.ntmps5
  go_upto_region 1 with fail
  rw [← HW.out, ← HZ.out, ← HY.out, ← HX.out]
  go_region_held3 (fun w' => (w'.cell? ⟨X, 0, none⟩ = some (.int .i64 c) ∧ w'.cell? ⟨X, 1, none⟩ = some (.int .i64 l) ∧ w'.cell? ⟨X, 2, none⟩ = some (.int .i64 d)) ∧ (w'.cell? ⟨Y, 0, none⟩ = some (.int .i64 x) ∧ w'.cell? ⟨Y, 1, none⟩ = some (.int .i64 y) ∧ w'.cell? ⟨Y, 2, none⟩ = some (.int .i64 z)) ∧ (w'.cell? ⟨Z, 0, none⟩ = some (.int .i64 p) ∧ w'.cell? ⟨Z, 1, none⟩ = some (.int .i64 q) ∧ w'.cell? ⟨Z, 2, none⟩ = some (.int .i64 r))) (first | exact c1 | exact c2 | exact c3 | exact c4) (first
    | (go_at_call 6; have t4 := B3.out; refine (K3.out _).mono ?_; rintro e w4 ⟨rfl, b4⟩; have B4 := hide (B3.out.trans (b4.mono B3.out.size)); have P4 := hide (P3.out.below b4); have Q4 := hide (Q3.out.below b4); have R4 := hide (R3.out.below b4); have c4 := And.intro P4.out.cells (And.intro Q4.out.cells R4.out.cells); clear b4)
    | (go_at_call 6; have t3 := B2.out; refine (K2.out _).mono ?_; rintro e w3 ⟨rfl, b3⟩; have B3 := hide (B2.out.trans (b3.mono B2.out.size)); have P3 := hide (P2.out.below b3); have Q3 := hide (Q2.out.below b3); have R3 := hide (R2.out.below b3); have c3 := And.intro P3.out.cells (And.intro Q3.out.cells R3.out.cells); clear b3)
    | (go_at_call 6; refine (K1.out _).mono ?_; rintro e w2 ⟨rfl, b2⟩; have B2 := hide (B1.out.trans (((below_drewN (Below.refl w1.heap.size w1) 1).trans b2).mono B1.out.size)); have P2 := hide (P1.out.below ((below_drewN (Below.refl w1.heap.size w1) 1).trans b2)); have Q2 := hide (Q1.out.below ((below_drewN (Below.refl w1.heap.size w1) 1).trans b2)); have R2 := hide (R1.out.below ((below_drewN (Below.refl w1.heap.size w1) 1).trans b2)); have c2 := And.intro P2.out.cells (And.intro Q2.out.cells R2.out.cells); clear b2))
  obtain ⟨⟨x0, x1, x2⟩, ⟨y0, y1, y2⟩, z0, z1, z2⟩ := c4
  clear c1 c2 c3
  go_upto_region 4 with (first
    | (go_at_call 6; have t6 := B5.out; refine (K5.out _).mono ?_; rintro e w6 ⟨rfl, b6⟩; have B6 := hide (B5.out.trans (b6.mono B5.out.size)); have P6 := hide (P5.out.below b6); have Q6 := hide (Q5.out.below b6); have R6 := hide (R5.out.below b6); have c6 := And.intro P6.out.cells (And.intro Q6.out.cells R6.out.cells); clear b6; obtain ⟨⟨xx0, xx1, xx2⟩, ⟨yy0, yy1, yy2⟩, zz0, zz1, zz2⟩ := c6)
    | (go_at_call 6; refine (K4.out _).mono ?_; rintro e w5 ⟨rfl, b5⟩; have B5 := hide (B4.out.trans (b5.mono B4.out.size)); have P5 := hide (P4.out.below b5); have Q5 := hide (Q4.out.below b5); have R5 := hide (R4.out.below b5); have c5 := And.intro P5.out.cells (And.intro Q5.out.cells R5.out.cells); clear b5; obtain ⟨⟨x50, x51, x52⟩, ⟨y50, y51, y52⟩, z50, z51, z52⟩ := c5))
  -- HERE
  rcases SG.out with s1 | ⟨s1, s2⟩ | ⟨s1, s2, s3⟩ | ⟨s1, s2, s3, s4, s5⟩
  · rcases MAY.out with hm | ⟨hm, hm2⟩ | ⟨hm, hm2, ge⟩
    · rw [hm] at MA
      go_wp2_with (first
        | (go_at_call 8; refine (MA.out _).mono ?_; rintro e w7 ⟨rfl, b7⟩; have B7 := hide (B6.out.trans (b7.mono B6.out.size)); have P7 := hide (P6.out.below b7); have Q7 := hide (Q6.out.below b7); have R7 := hide (R6.out.below b7); have c7 := And.intro P7.out.cells (And.intro Q7.out.cells R7.out.cells); clear b7)
        | (go_at_call 10; refine (pawake7_any C _).mono ?_; rintro e w9 ⟨rfl, b9⟩))
      go_ret
      exact ⟨rfl, B7.out.trans (b9.mono B7.out.size)⟩
    · rw [hm] at MA
      rw [hm2] at MB
      go_wp2_with (first
        | (go_at_call 8; have t8 := B7.out; refine (MB.out _).mono ?_; rintro e w8 ⟨rfl, b8⟩; have B8 := hide (B7.out.trans (b8.mono B7.out.size)); have P8 := hide (P7.out.below b8); have Q8 := hide (Q7.out.below b8); have R8 := hide (R7.out.below b8); have c8 := And.intro P8.out.cells (And.intro Q8.out.cells R8.out.cells); clear b8)
        | (go_at_call 8; refine (MA.out _).mono ?_; rintro e w7 ⟨rfl, b7⟩; have B7 := hide (B6.out.trans (b7.mono B6.out.size)); have P7 := hide (P6.out.below b7); have Q7 := hide (Q6.out.below b7); have R7 := hide (R6.out.below b7); have c7 := And.intro P7.out.cells (And.intro Q7.out.cells R7.out.cells); clear b7)
        | (go_at_call 10; refine (pawake7_any C _).mono ?_; rintro e w9 ⟨rfl, b9⟩))
      go_ret
      exact ⟨rfl, B8.out.trans (b9.mono B8.out.size)⟩
    · rw [hm] at MA
      rw [hm2] at MB
      go_wp2_with (first
        | (go_at_call 8; have t8 := B7.out; refine (MB.out _).mono ?_; rintro e w8 ⟨rfl, b8⟩; have B8 := hide (B7.out.trans (b8.mono B7.out.size)); have P8 := hide (P7.out.below b8); have Q8 := hide (Q7.out.below b8); have R8 := hide (R7.out.below b8); have c8 := And.intro P8.out.cells (And.intro Q8.out.cells R8.out.cells); clear b8)
        | (go_at_call 8; refine (MA.out _).mono ?_; rintro e w7 ⟨rfl, b7⟩; have B7 := hide (B6.out.trans (b7.mono B6.out.size)); have P7 := hide (P6.out.below b7); have Q7 := hide (Q6.out.below b7); have R7 := hide (R6.out.below b7); have c7 := And.intro P7.out.cells (And.intro Q7.out.cells R7.out.cells); clear b7)
        | (go_at_call 10; refine (pawake7_any C _).mono ?_; rintro e w9 ⟨rfl, b9⟩))
      go_ret
      exact ⟨rfl, B8.out.trans (b9.mono B8.out.size)⟩
  · rcases MAY.out with hm | ⟨hm, hm2⟩ | ⟨hm, hm2, ge⟩
    · rw [hm] at MA
      go_wp2_with (first
        | (go_at_call 8; refine (MA.out _).mono ?_; rintro e w7 ⟨rfl, b7⟩; have B7 := hide (B6.out.trans (b7.mono B6.out.size)); have P7 := hide (P6.out.below b7); have Q7 := hide (Q6.out.below b7); have R7 := hide (R6.out.below b7); have c7 := And.intro P7.out.cells (And.intro Q7.out.cells R7.out.cells); clear b7)
        | (go_at_call 10; refine (pawake7_any C _).mono ?_; rintro e w9 ⟨rfl, b9⟩))
      go_ret
      exact ⟨rfl, B7.out.trans (b9.mono B7.out.size)⟩
    · rw [hm] at MA
      rw [hm2] at MB
      go_wp2_with (first
        | (go_at_call 8; have t8 := B7.out; refine (MB.out _).mono ?_; rintro e w8 ⟨rfl, b8⟩; have B8 := hide (B7.out.trans (b8.mono B7.out.size)); have P8 := hide (P7.out.below b8); have Q8 := hide (Q7.out.below b8); have R8 := hide (R7.out.below b8); have c8 := And.intro P8.out.cells (And.intro Q8.out.cells R8.out.cells); clear b8)
        | (go_at_call 8; refine (MA.out _).mono ?_; rintro e w7 ⟨rfl, b7⟩; have B7 := hide (B6.out.trans (b7.mono B6.out.size)); have P7 := hide (P6.out.below b7); have Q7 := hide (Q6.out.below b7); have R7 := hide (R6.out.below b7); have c7 := And.intro P7.out.cells (And.intro Q7.out.cells R7.out.cells); clear b7)
        | (go_at_call 10; refine (pawake7_any C _).mono ?_; rintro e w9 ⟨rfl, b9⟩))
      go_ret
      exact ⟨rfl, B8.out.trans (b9.mono B8.out.size)⟩
    · rw [hm] at MA
      rw [hm2] at MB
      go_wp2_with (first
        | (go_at_call 8; have t8 := B7.out; refine (MB.out _).mono ?_; rintro e w8 ⟨rfl, b8⟩; have B8 := hide (B7.out.trans (b8.mono B7.out.size)); have P8 := hide (P7.out.below b8); have Q8 := hide (Q7.out.below b8); have R8 := hide (R7.out.below b8); have c8 := And.intro P8.out.cells (And.intro Q8.out.cells R8.out.cells); clear b8)
        | (go_at_call 8; refine (MA.out _).mono ?_; rintro e w7 ⟨rfl, b7⟩; have B7 := hide (B6.out.trans (b7.mono B6.out.size)); have P7 := hide (P6.out.below b7); have Q7 := hide (Q6.out.below b7); have R7 := hide (R6.out.below b7); have c7 := And.intro P7.out.cells (And.intro Q7.out.cells R7.out.cells); clear b7)
        | (go_at_call 10; refine (pawake7_any C _).mono ?_; rintro e w9 ⟨rfl, b9⟩))
      go_ret
      exact ⟨rfl, B8.out.trans (b9.mono B8.out.size)⟩
  · have s4 : (t == 0) = false := by simp; omega
    rcases MAY.out with hm | ⟨hm, hm2⟩ | ⟨hm, hm2, ge⟩
    · rw [hm] at MA
      go_wp2_with (first
        | (go_at_call 8; refine (MA.out _).mono ?_; rintro e w7 ⟨rfl, b7⟩; have B7 := hide (B6.out.trans (b7.mono B6.out.size)); have P7 := hide (P6.out.below b7); have Q7 := hide (Q6.out.below b7); have R7 := hide (R6.out.below b7); have c7 := And.intro P7.out.cells (And.intro Q7.out.cells R7.out.cells); clear b7)
        | (go_at_call 10; refine (pawake7_any C _).mono ?_; rintro e w9 ⟨rfl, b9⟩))
      go_ret
      exact ⟨rfl, B7.out.trans (b9.mono B7.out.size)⟩
    · rw [hm] at MA
      rw [hm2] at MB
      go_wp2_with (first
        | (go_at_call 8; have t8 := B7.out; refine (MB.out _).mono ?_; rintro e w8 ⟨rfl, b8⟩; have B8 := hide (B7.out.trans (b8.mono B7.out.size)); have P8 := hide (P7.out.below b8); have Q8 := hide (Q7.out.below b8); have R8 := hide (R7.out.below b8); have c8 := And.intro P8.out.cells (And.intro Q8.out.cells R8.out.cells); clear b8)
        | (go_at_call 8; refine (MA.out _).mono ?_; rintro e w7 ⟨rfl, b7⟩; have B7 := hide (B6.out.trans (b7.mono B6.out.size)); have P7 := hide (P6.out.below b7); have Q7 := hide (Q6.out.below b7); have R7 := hide (R6.out.below b7); have c7 := And.intro P7.out.cells (And.intro Q7.out.cells R7.out.cells); clear b7)
        | (go_at_call 10; refine (pawake7_any C _).mono ?_; rintro e w9 ⟨rfl, b9⟩))
      go_ret
      exact ⟨rfl, B8.out.trans (b9.mono B8.out.size)⟩
    · rw [hm] at MA
      rw [hm2] at MB
      go_wp2_with (first
        | (go_at_call 8; have t8 := B7.out; refine (MB.out _).mono ?_; rintro e w8 ⟨rfl, b8⟩; have B8 := hide (B7.out.trans (b8.mono B7.out.size)); have P8 := hide (P7.out.below b8); have Q8 := hide (Q7.out.below b8); have R8 := hide (R7.out.below b8); have c8 := And.intro P8.out.cells (And.intro Q8.out.cells R8.out.cells); clear b8)
        | (go_at_call 8; refine (MA.out _).mono ?_; rintro e w7 ⟨rfl, b7⟩; have B7 := hide (B6.out.trans (b7.mono B6.out.size)); have P7 := hide (P6.out.below b7); have Q7 := hide (Q6.out.below b7); have R7 := hide (R6.out.below b7); have c7 := And.intro P7.out.cells (And.intro Q7.out.cells R7.out.cells); clear b7)
        | (go_at_call 10; refine (pawake7_any C _).mono ?_; rintro e w9 ⟨rfl, b9⟩))
      go_ret
      exact ⟨rfl, B8.out.trans (b9.mono B8.out.size)⟩
  · subst s3
    rcases MAY.out with hm | ⟨hm, hm2⟩ | ⟨hm, hm2, ge⟩
    · rw [hm] at MA
      go_wp2_with (first
        | (go_at_call 8; refine (MA.out _).mono ?_; rintro e w7 ⟨rfl, b7⟩; have B7 := hide (B6.out.trans (b7.mono B6.out.size)); have P7 := hide (P6.out.below b7); have Q7 := hide (Q6.out.below b7); have R7 := hide (R6.out.below b7); have c7 := And.intro P7.out.cells (And.intro Q7.out.cells R7.out.cells); clear b7)
        | (go_at_call 10; refine (pawake7_any C _).mono ?_; rintro e w9 ⟨rfl, b9⟩))
      go_ret
      exact ⟨rfl, B7.out.trans (b9.mono B7.out.size)⟩
    · rw [hm] at MA
      rw [hm2] at MB
      go_wp2_with (first
        | (go_at_call 8; have t8 := B7.out; refine (MB.out _).mono ?_; rintro e w8 ⟨rfl, b8⟩; have B8 := hide (B7.out.trans (b8.mono B7.out.size)); have P8 := hide (P7.out.below b8); have Q8 := hide (Q7.out.below b8); have R8 := hide (R7.out.below b8); have c8 := And.intro P8.out.cells (And.intro Q8.out.cells R8.out.cells); clear b8)
        | (go_at_call 8; refine (MA.out _).mono ?_; rintro e w7 ⟨rfl, b7⟩; have B7 := hide (B6.out.trans (b7.mono B6.out.size)); have P7 := hide (P6.out.below b7); have Q7 := hide (Q6.out.below b7); have R7 := hide (R6.out.below b7); have c7 := And.intro P7.out.cells (And.intro Q7.out.cells R7.out.cells); clear b7)
        | (go_at_call 10; refine (pawake7_any C _).mono ?_; rintro e w9 ⟨rfl, b9⟩))
      go_ret
      exact ⟨rfl, B8.out.trans (b9.mono B8.out.size)⟩
    · rw [hm] at MA
      rw [hm2] at MB
      go_wp2_with (first
        | (go_at_call 8; have t8 := B7.out; refine (MB.out _).mono ?_; rintro e w8 ⟨rfl, b8⟩; have B8 := hide (B7.out.trans (b8.mono B7.out.size)); have P8 := hide (P7.out.below b8); have Q8 := hide (Q7.out.below b8); have R8 := hide (R7.out.below b8); have c8 := And.intro P8.out.cells (And.intro Q8.out.cells R8.out.cells); clear b8)
        | (go_at_call 8; refine (MA.out _).mono ?_; rintro e w7 ⟨rfl, b7⟩; have B7 := hide (B6.out.trans (b7.mono B6.out.size)); have P7 := hide (P6.out.below b7); have Q7 := hide (Q6.out.below b7); have R7 := hide (R6.out.below b7); have c7 := And.intro P7.out.cells (And.intro Q7.out.cells R7.out.cells); clear b7)
        | (go_at_call 10; refine (pawake7_any C _).mono ?_; rintro e w9 ⟨rfl, b9⟩))
      go_ret
      exact ⟨rfl, B8.out.trans (b9.mono B8.out.size)⟩
end Go.Proofs.Yteiokkdkeneogaa
