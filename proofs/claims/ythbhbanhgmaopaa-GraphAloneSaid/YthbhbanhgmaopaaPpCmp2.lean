/-
  The program's prio: Compare.
-/
import Derived.Test.YthbhbanhgmaopaaPpCmp
namespace Go.Proofs.Ythbhbanhgmaopaa
open Go.ChangeShapes Go.WideShapes Go.ChangeAt Go.RowKit
set_option linter.unusedVariables false
theorem turn_first (w : World) : (Instr.index 58 (.agg turnsV) (.int .i64 0)).run Try.prog w = .ok (.func (.func 45) #[] #[]) w := by kernel_rfl
theorem turn_second (w : World) : (Instr.index 58 (.agg turnsV) (.int .i64 1)).run Try.prog w = .ok (.func (.func 46) #[] #[]) w := by kernel_rfl
set_option maxHeartbeats 4000000 in
theorem pcmp_any (w : World) (c l d x y z : Int) : Calls Try.prog 26 #[.agg #[.int .i64 c, .int .i64 l, .int .i64 d], .agg #[.int .i64 x, .int .i64 y, .int .i64 z]] w fun e w' => e = .returned (.int .i64 (cmpP ⟨c, l, d⟩ ⟨x, y, z⟩)) ∧ Below w.heap.size w w' := by
  obtain ⟨w1, hw1⟩ : ∃ w1, w1 = (w.alloc (.cells #[.int .i64 c, .int .i64 l, .int .i64 d] 39)).alloc (.cells #[.int .i64 x, .int .i64 y, .int .i64 z] 39) := ⟨_, rfl⟩
  have B1 := hide (show Below w.heap.size w w1 from by rw [hw1]; exact (((Below.refl w.heap.size w).alloc (Nat.le_refl _) _).alloc (by simp) _))
  have P1 := hide (show PrAt w1 w.heap.size c l d from by rw [hw1]; exact (prAt_new w c l d).below ((Below.refl _ _).alloc (Nat.le_refl _) _))
  have Q1 := hide (show PrAt w1 (w.heap.size + 1) x y z from by rw [hw1]; have := prAt_new (w.alloc (.cells #[.int .i64 c, .int .i64 l, .int .i64 d] 39)) x y z; simpa using this)
  have HW := hide hw1
  have t1 := turn_first
  have t2 := turn_second
  clear hw1
  go_enter Try.func26, Try.ntmps26
  go_upto_region 1 with fail
  rw [← HW.out]
  obtain ⟨X, hX⟩ : ∃ X, X = w.heap.size := ⟨_, rfl⟩
  obtain ⟨Y, hY⟩ : ∃ Y, Y = w.heap.size + 1 := ⟨_, rfl⟩
  rw [← hY, ← hX]
  rw [← hX] at P1
  rw [← hY] at Q1
  clear hX hY HW
  go_wp2_with (go_at_call 38; refine (pturns_any _).mono ?_; rintro e w2 ⟨rfl, b2⟩; have B2 := hide (B1.out.trans (b2.mono B1.out.size)); have P2 := hide (P1.out.below b2); have Q2 := hide (Q1.out.below b2); clear b2)
  go_loopw [9] (fun i wr => ∃ k : Nat, k ≤ 2 ∧ i = .int .i64 k ∧ (0 < k → c = x) ∧ (1 < k → inI c l d y z = 0) ∧ Hid (Below w.heap.size w wr ∧ PrAt wr X c l d ∧ PrAt wr Y x y z)) (fun i _ => 2 - (intOf i).toNat)
  case atStart => exact ⟨0, by omega, by first | trivial | rfl, by omega, by omega, B2.out, P2.out, Q2.out⟩
  case round =>
    clear B1 P1 Q1 B2 P2 Q2
    obtain ⟨k, hk, rfl, g0, g1, hZ⟩ := hrel
    have B3 := hide hZ.out.1
    have P3 := hide hZ.out.2.1
    have Q3 := hide hZ.out.2.2
    obtain ⟨p0, p1, p2⟩ := P3.out.cells
    obtain ⟨q0, q1, q2⟩ := Q3.out.cells
    clear hZ
    match k, hk with
    | 0, _ =>
      clear g0 g1 t2
      rw [show ((0 : Nat) : Int) = 0 from rfl]
      have K := hide (fun W => pbyClass_any W c l d x y z)
      by_cases h : c = x
      · subst h
        have K' := hide (show ∀ W, Calls Try.prog 45 #[.agg #[.int .i64 c, .int .i64 l, .int .i64 d], .agg #[.int .i64 c, .int .i64 y, .int .i64 z]] W fun e w' => e = .returned (.int .i64 0) ∧ Below W.heap.size W w' from fun W => by have := K.out W; rw [sgnI_self] at this; exact this)
        clear K
        go_wp2_with (go_at_call 45; refine (K'.out _).mono ?_; rintro e w4 ⟨rfl, b4⟩; have B4 := hide (B3.out.trans (b4.mono B3.out.size)); have P4 := hide (P3.out.below b4); have Q4 := hide (Q3.out.below b4); clear b4)
        go_roundw
        case rel => exact ⟨1, by omega, rfl, by simp, by omega, B4.out, P4.out, Q4.out⟩
        case measure => simp [intOf]
      · have e1 : cmpP ⟨c, l, d⟩ ⟨x, y, z⟩ = sgnI c x := cmpP_turn1 h
        obtain ⟨u, hu⟩ : ∃ u, u = sgnI c x := ⟨_, rfl⟩
        have un : (u != 0) = true := by have := sgnI_ne h; rw [hu]; simpa using this
        have K' := hide (show ∀ W, Calls Try.prog 45 #[.agg #[.int .i64 c, .int .i64 l, .int .i64 d], .agg #[.int .i64 x, .int .i64 y, .int .i64 z]] W fun e w' => e = .returned (.int .i64 u) ∧ Below W.heap.size W w' from fun W => by have := K.out W; rw [← hu] at this; exact this)
        have E1 := hide (e1.trans hu.symm)
        clear K e1 hu h
        go_wp2_with (go_at_call 45; refine (K'.out _).mono ?_; rintro e w4 ⟨rfl, b4⟩; have B4 := hide (B3.out.trans (b4.mono B3.out.size)); clear b4)
        go_ret
        exact ⟨ret_int E1.out.symm, B4.out⟩
    | 1, _ =>
      obtain rfl := g0 (by omega)
      clear g0 g1 t1
      rw [show ((1 : Nat) : Int) = 1 from rfl]
      have K := hide (fun W => pinClass_any W c l d c y z)
      have E1 := hide (cmpP_turn2 c l d y z)
      obtain ⟨u, hu⟩ : ∃ u, u = inI c l d y z := ⟨_, rfl⟩
      have K' := hide (show ∀ W, Calls Try.prog 46 #[.agg #[.int .i64 c, .int .i64 l, .int .i64 d], .agg #[.int .i64 c, .int .i64 y, .int .i64 z]] W fun e w' => e = .returned (.int .i64 u) ∧ Below W.heap.size W w' from fun W => by have := K.out W; rw [← hu] at this; exact this)
      have HU := hide hu
      clear K hu
      by_cases h : u = 0
      · have un : (u != 0) = false := by simpa using h
        go_wp2_with (go_at_call 46; refine (K'.out _).mono ?_; rintro e w4 ⟨rfl, b4⟩; have B4 := hide (B3.out.trans (b4.mono B3.out.size)); have P4 := hide (P3.out.below b4); have Q4 := hide (Q3.out.below b4); clear b4)
        go_roundw
        case rel => exact ⟨2, by omega, rfl, by simp, fun _ => by rw [← HU.out]; exact h, B4.out, P4.out, Q4.out⟩
        case measure => simp [intOf]
      · have un : (u != 0) = true := by simpa using h
        go_wp2_with (go_at_call 46; refine (K'.out _).mono ?_; rintro e w4 ⟨rfl, b4⟩; have B4 := hide (B3.out.trans (b4.mono B3.out.size)); clear b4)
        go_ret
        exact ⟨ret_int (HU.out.trans E1.out.symm), B4.out⟩
    | 2, _ =>
      obtain rfl := g0 (by omega)
      have e0 := g1 (by omega)
      have E1 := hide ((cmpP_turn2 c l d y z).trans e0)
      clear g0 g1 e0 t1 t2
      rw [show ((2 : Nat) : Int) = 2 from rfl]
      go_wp2_with fail
      go_ret
      exact ⟨ret_int E1.out.symm, B3.out⟩
end Go.Proofs.Ythbhbanhgmaopaa
