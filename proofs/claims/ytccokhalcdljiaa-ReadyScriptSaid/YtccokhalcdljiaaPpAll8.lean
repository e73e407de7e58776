/-
  Several texts as one: CmpInt PpCmp PpCmp2 PpMay PpTwo.
-/
import Derived.Test.YtccokhalcdljiaaKit
import Derived.Deep.RegionHeld3
import Derived.Deep.QuietTactic
import Derived.BigQuiet
import Derived.Test.YtccokhalcdljiaaPrBoth
namespace Go.Proofs.Ytccokhalcdljiaa
open Go.ChangeShapes Go.WideShapes Go.ChangeAt Go.RowKit
set_option linter.unusedVariables false
theorem isNaNI_any (x : Int) (w : World) : Calls Try.prog 41 #[.int .i64 x] w fun e w' => e = .returned (.bool false) ∧ w = w' := by
  have h : (x != x) = false := by simp
  go_enter Try.func41, Try.ntmps41
  go_wp2_with fail
  go_ret
  exact ⟨rfl, rfl⟩
def sgnI (x y : Int) : Int := if x < y then -1 else if y < x then 1 else 0
theorem sgnI_any (x y : Int) (w : World) : Calls Try.prog 40 #[.int .i64 x, .int .i64 y] w fun e w' => e = .returned (.int .i64 (sgnI x y)) ∧ w = w' := by
  by_cases h1 : x < y
  · go_enter Try.func40, Try.ntmps40
    go_wp2_with (go_at_call 41; refine (isNaNI_any _ _).mono ?_; rintro e w' ⟨rfl, rfl⟩)
    go_ret
    exact ⟨by simp [sgnI, h1], rfl⟩
  · by_cases h2 : y < x
    · go_enter Try.func40, Try.ntmps40
      go_wp2_with (go_at_call 41; refine (isNaNI_any _ _).mono ?_; rintro e w' ⟨rfl, rfl⟩)
      go_ret
      exact ⟨ret_int (by unfold sgnI; split <;> (try split) <;> omega), rfl⟩
    · go_enter Try.func40, Try.ntmps40
      go_wp2_with (go_at_call 41; refine (isNaNI_any _ _).mono ?_; rintro e w' ⟨rfl, rfl⟩)
      go_ret
      exact ⟨ret_int (by unfold sgnI; split <;> (try split) <;> omega), rfl⟩
end Go.Proofs.Ytccokhalcdljiaa
namespace Go.Proofs.Ytccokhalcdljiaa
open Go.ChangeShapes Go.WideShapes Go.ChangeAt Go.RowKit
set_option linter.unusedVariables false
/-- What tells two of one class apart. -/
def inI (c l d y z : Int) : Int := if c = 1 then sgnI z d else sgnI l y
theorem cmpP_turn1 {c l d x y z : Int} (h : c ≠ x) : cmpP ⟨c, l, d⟩ ⟨x, y, z⟩ = sgnI c x := by
  unfold cmpP gtP sgnI
  rw [if_pos h, if_pos (Ne.symm h)]
  simp only [decide_eq_true_eq]
  split <;> (try split) <;> (try split) <;> omega
theorem cmpP_turn2 (c l d y z : Int) : cmpP ⟨c, l, d⟩ ⟨c, y, z⟩ = inI c l d y z := by
  unfold cmpP gtP inI sgnI
  by_cases h : c = 1
  · simp only [h, ne_eq, not_true_eq_false, if_false, if_true, decide_eq_true_eq]
    split <;> (try split) <;> (try split) <;> omega
  · simp only [h, ne_eq, not_true_eq_false, if_false, decide_eq_true_eq]
    split <;> (try split) <;> (try split) <;> omega
theorem sgnI_ne {x y : Int} (h : x ≠ y) : sgnI x y ≠ 0 := by unfold sgnI; split <;> (try split) <;> omega
theorem sgnI_self (x : Int) : sgnI x x = 0 := by simp [sgnI]
set_option maxHeartbeats 2000000 in
theorem pbyClass_any (w : World) (c l d x y z : Int) : Calls Try.prog 37 #[.agg #[.int .i64 c, .int .i64 l, .int .i64 d], .agg #[.int .i64 x, .int .i64 y, .int .i64 z]] w fun e w' => e = .returned (.int .i64 (sgnI c x)) ∧ Below w.heap.size w w' := by
  have B := hide (((Below.refl w.heap.size w).alloc (Nat.le_refl _) (.cells #[.int .i64 c, .int .i64 l, .int .i64 d] 79)).alloc (by simp) (.cells #[.int .i64 x, .int .i64 y, .int .i64 z] 79))
  go_enter Try.func37, Try.ntmps37
  go_wp2_with (go_at_call 40; refine (sgnI_any _ _ _).mono ?_; rintro e w' ⟨rfl, rfl⟩)
  go_ret
  exact ⟨rfl, B.out⟩
set_option maxHeartbeats 2000000 in
theorem pinClass_any (w : World) (c l d x y z : Int) : Calls Try.prog 38 #[.agg #[.int .i64 c, .int .i64 l, .int .i64 d], .agg #[.int .i64 x, .int .i64 y, .int .i64 z]] w fun e w' => e = .returned (.int .i64 (inI c l d y z)) ∧ Below w.heap.size w w' := by
  have B := hide (((Below.refl w.heap.size w).alloc (Nat.le_refl _) (.cells #[.int .i64 c, .int .i64 l, .int .i64 d] 79)).alloc (by simp) (.cells #[.int .i64 x, .int .i64 y, .int .i64 z] 79))
  by_cases h : c = 1
  · subst h
    have e : inI 1 l d y z = sgnI z d := by simp [inI]
    rw [e]
    clear e
    go_enter Try.func38, Try.ntmps38
    go_wp2_with (go_at_call 40; refine (sgnI_any _ _ _).mono ?_; rintro e w' ⟨rfl, rfl⟩)
    go_ret
    exact ⟨rfl, B.out⟩
  · have e : inI c l d y z = sgnI l y := by simp [inI, h]
    have h' : (c == 1) = false := by simpa using h
    rw [e]
    clear e h
    go_enter Try.func38, Try.ntmps38
    go_wp2_with (go_at_call 40; refine (sgnI_any _ _ _).mono ?_; rintro e w' ⟨rfl, rfl⟩)
    go_ret
    exact ⟨rfl, B.out⟩
def turnsV : Array Value := #[.func (.func 37) #[] #[], .func (.func 38) #[] #[]]
theorem prstore_func (w : World) (a : Addr) (m : Mode) (fn : Fn) (first captured : Array Value) : (store a (.func fn first captured) m).run Try.prog w = stored Try.prog w a (.func fn first captured) m := run_store Try.prog w a _ m rfl
attribute [local go_sem] prstore_func
theorem built_turns : Try.prog.built 77 [(0, .func (.func 37) #[] #[]), (1, .func (.func 38) #[] #[])] = some turnsV := by kernel_rfl
set_option maxHeartbeats 2000000 in
theorem pturns_any (w : World) : Calls Try.prog 34 #[] w fun e w' => e = .returned (.agg turnsV) ∧ Below w.heap.size w w' := by
  go_enter Try.func34, Try.ntmps34
  go_wp2_with fail
  first
  | (go_ret; exact ⟨rfl, (Below.refl _ _).alloc (Nat.le_refl _) _⟩)
  | exact bodyPost_ret (v := .agg turnsV) (by simp [results, Try.results34, go_sem]; rfl) rfl ⟨rfl, (Below.refl _ _).alloc (Nat.le_refl _) _⟩
end Go.Proofs.Ytccokhalcdljiaa
namespace Go.Proofs.Ytccokhalcdljiaa
open Go.ChangeShapes Go.WideShapes Go.ChangeAt Go.RowKit
set_option linter.unusedVariables false
theorem turn_first (w : World) : (Instr.index 77 (.agg turnsV) (.int .i64 0)).run Try.prog w = .ok (.func (.func 37) #[] #[]) w := by kernel_rfl
theorem turn_second (w : World) : (Instr.index 77 (.agg turnsV) (.int .i64 1)).run Try.prog w = .ok (.func (.func 38) #[] #[]) w := by kernel_rfl
set_option maxHeartbeats 4000000 in
theorem pcmp_any (w : World) (c l d x y z : Int) : Calls Try.prog 25 #[.agg #[.int .i64 c, .int .i64 l, .int .i64 d], .agg #[.int .i64 x, .int .i64 y, .int .i64 z]] w fun e w' => e = .returned (.int .i64 (cmpP ⟨c, l, d⟩ ⟨x, y, z⟩)) ∧ Below w.heap.size w w' := by
  obtain ⟨w1, hw1⟩ : ∃ w1, w1 = (w.alloc (.cells #[.int .i64 c, .int .i64 l, .int .i64 d] 31)).alloc (.cells #[.int .i64 x, .int .i64 y, .int .i64 z] 31) := ⟨_, rfl⟩
  have B1 := hide (show Below w.heap.size w w1 from by rw [hw1]; exact (((Below.refl w.heap.size w).alloc (Nat.le_refl _) _).alloc (by simp) _))
  have P1 := hide (show PrAt w1 w.heap.size c l d from by rw [hw1]; exact (prAt_new w c l d).below ((Below.refl _ _).alloc (Nat.le_refl _) _))
  have Q1 := hide (show PrAt w1 (w.heap.size + 1) x y z from by rw [hw1]; have := prAt_new (w.alloc (.cells #[.int .i64 c, .int .i64 l, .int .i64 d] 31)) x y z; simpa using this)
  have HW := hide hw1
  have t1 := turn_first
  have t2 := turn_second
  clear hw1
  go_enter Try.func25, Try.ntmps25
  go_upto_region 1 with fail
  rw [← HW.out]
  obtain ⟨X, hX⟩ : ∃ X, X = w.heap.size := ⟨_, rfl⟩
  obtain ⟨Y, hY⟩ : ∃ Y, Y = w.heap.size + 1 := ⟨_, rfl⟩
  rw [← hY, ← hX]
  rw [← hX] at P1
  rw [← hY] at Q1
  clear hX hY HW
  go_wp2_with (go_at_call 34; refine (pturns_any _).mono ?_; rintro e w2 ⟨rfl, b2⟩; have B2 := hide (B1.out.trans (b2.mono B1.out.size)); have P2 := hide (P1.out.below b2); have Q2 := hide (Q1.out.below b2); clear b2)
  go_loopw [9] (fun i wr => ∃ k : Nat, k ≤ 2 ∧ i = .int .i64 k ∧ (0 < k → c = x) ∧ (1 < k → inI c l d y z = 0) ∧ Hid (Below w.heap.size w wr ∧ PrAt wr X c l d ∧ PrAt wr Y x y z)) (fun i _ => 2 - (intOf i).toNat)
  case atStart => exact ⟨0, by omega, by first | trivial | rfl, by omega, by omega, B2.out, P2.out, Q2.out⟩
  case round =>
    clear B1 P1 Q1 B2 P2 Q2
    obtain ⟨k, hk, rfl, g0, g1, hZ⟩ := hrel
    have B3 := hide hZ.out.1
    have P3 := hide hZ.out.2.1
    have Q3 := hide hZ.out.2.2
    obtain ⟨p0, p1, p2⟩ := P3.out.cells
    obtain ⟨q0, q1, q2⟩ := Q3.out.cells
    clear hZ
    match k, hk with
    | 0, _ =>
      clear g0 g1 t2
      rw [show ((0 : Nat) : Int) = 0 from rfl]
      have K := hide (fun W => pbyClass_any W c l d x y z)
      by_cases h : c = x
      · subst h
        have K' := hide (show ∀ W, Calls Try.prog 37 #[.agg #[.int .i64 c, .int .i64 l, .int .i64 d], .agg #[.int .i64 c, .int .i64 y, .int .i64 z]] W fun e w' => e = .returned (.int .i64 0) ∧ Below W.heap.size W w' from fun W => by have := K.out W; rw [sgnI_self] at this; exact this)
        clear K
        go_wp2_with (go_at_call 37; refine (K'.out _).mono ?_; rintro e w4 ⟨rfl, b4⟩; have B4 := hide (B3.out.trans (b4.mono B3.out.size)); have P4 := hide (P3.out.below b4); have Q4 := hide (Q3.out.below b4); clear b4)
        go_roundw
        case rel => exact ⟨1, by omega, rfl, by simp, by omega, B4.out, P4.out, Q4.out⟩
        case measure => simp [intOf]
      · have e1 : cmpP ⟨c, l, d⟩ ⟨x, y, z⟩ = sgnI c x := cmpP_turn1 h
        obtain ⟨u, hu⟩ : ∃ u, u = sgnI c x := ⟨_, rfl⟩
        have un : (u != 0) = true := by have := sgnI_ne h; rw [hu]; simpa using this
        have K' := hide (show ∀ W, Calls Try.prog 37 #[.agg #[.int .i64 c, .int .i64 l, .int .i64 d], .agg #[.int .i64 x, .int .i64 y, .int .i64 z]] W fun e w' => e = .returned (.int .i64 u) ∧ Below W.heap.size W w' from fun W => by have := K.out W; rw [← hu] at this; exact this)
        have E1 := hide (e1.trans hu.symm)
        clear K e1 hu h
        go_wp2_with (go_at_call 37; refine (K'.out _).mono ?_; rintro e w4 ⟨rfl, b4⟩; have B4 := hide (B3.out.trans (b4.mono B3.out.size)); clear b4)
        go_ret
        exact ⟨ret_int E1.out.symm, B4.out⟩
    | 1, _ =>
      obtain rfl := g0 (by omega)
      clear g0 g1 t1
      rw [show ((1 : Nat) : Int) = 1 from rfl]
      have K := hide (fun W => pinClass_any W c l d c y z)
      have E1 := hide (cmpP_turn2 c l d y z)
      obtain ⟨u, hu⟩ : ∃ u, u = inI c l d y z := ⟨_, rfl⟩
      have K' := hide (show ∀ W, Calls Try.prog 38 #[.agg #[.int .i64 c, .int .i64 l, .int .i64 d], .agg #[.int .i64 c, .int .i64 y, .int .i64 z]] W fun e w' => e = .returned (.int .i64 u) ∧ Below W.heap.size W w' from fun W => by have := K.out W; rw [← hu] at this; exact this)
      have HU := hide hu
      clear K hu
      by_cases h : u = 0
      · have un : (u != 0) = false := by simpa using h
        go_wp2_with (go_at_call 38; refine (K'.out _).mono ?_; rintro e w4 ⟨rfl, b4⟩; have B4 := hide (B3.out.trans (b4.mono B3.out.size)); have P4 := hide (P3.out.below b4); have Q4 := hide (Q3.out.below b4); clear b4)
        go_roundw
        case rel => exact ⟨2, by omega, rfl, by simp, fun _ => by rw [← HU.out]; exact h, B4.out, P4.out, Q4.out⟩
        case measure => simp [intOf]
      · have un : (u != 0) = true := by simpa using h
        go_wp2_with (go_at_call 38; refine (K'.out _).mono ?_; rintro e w4 ⟨rfl, b4⟩; have B4 := hide (B3.out.trans (b4.mono B3.out.size)); clear b4)
        go_ret
        exact ⟨ret_int (HU.out.trans E1.out.symm), B4.out⟩
    | 2, _ =>
      obtain rfl := g0 (by omega)
      have e0 := g1 (by omega)
      have E1 := hide ((cmpP_turn2 c l d y z).trans e0)
      clear g0 g1 e0 t1 t2
      rw [show ((2 : Nat) : Int) = 2 from rfl]
      go_wp2_with fail
      go_ret
      exact ⟨ret_int E1.out.symm, B3.out⟩
end Go.Proofs.Ytccokhalcdljiaa
namespace Go.Proofs.Ytccokhalcdljiaa
open Go.ChangeShapes Go.WideShapes Go.ChangeAt Go.RowKit
set_option linter.unusedVariables false
theorem pwithin_any (w : World) (x h : Int) : Calls Try.prog 33 #[.int .i64 x, .int .i64 h] w fun e w' => e = .returned (.bool (decide (0 ≤ x ∧ x ≤ h))) ∧ w = w' := by
  by_cases l0 : 0 ≤ x
  · go_enter Try.func33, Try.ntmps33
    go_wp2_with fail
    go_ret
    exact ⟨ret_bool (by rw [Bool.eq_iff_iff]; simp; omega), rfl⟩
  · go_enter Try.func33, Try.ntmps33
    go_wp2_with fail
    go_ret
    exact ⟨ret_bool (by rw [Bool.eq_iff_iff]; simp; omega), rfl⟩
set_option maxHeartbeats 4000000 in
theorem pmay_any (w : World) (c l d : Int) : Calls Try.prog 24 #[.agg #[.int .i64 c, .int .i64 l, .int .i64 d]] w fun e w' => e = .returned (.bool (mayP ⟨c, l, d⟩)) ∧ Below w.heap.size w w' := by
  have B := hide ((Below.refl w.heap.size w).alloc (Nat.le_refl _) (.cells #[.int .i64 c, .int .i64 l, .int .i64 d] 31))
  by_cases c0 : c = 0
  · subst c0
    obtain ⟨b, hb⟩ : ∃ b, b = decide (0 ≤ l ∧ l ≤ 15) := ⟨_, rfl⟩
    have K := hide (show ∀ W, Calls Try.prog 33 #[.int .i64 l, .int .i64 15] W fun e w' => e = .returned (.bool b) ∧ W = w' from fun W => by rw [hb]; exact pwithin_any W l 15)
    have hm : mayP ⟨0, l, d⟩ = (b && decide (d = 0)) := by
      rw [hb, Bool.eq_iff_iff]; simp [mayP]; omega
    rw [hm]
    clear hm hb
    cases b with
    | true =>
      go_enter Try.func24, Try.ntmps24
      go_wp2_with (go_at_call 33; refine (K.out _).mono ?_; rintro e w' ⟨rfl, rfl⟩)
      go_ret
      exact ⟨ret_bool (by rw [Bool.eq_iff_iff]; simp), B.out⟩
    | false =>
      go_enter Try.func24, Try.ntmps24
      go_wp2_with (go_at_call 33; refine (K.out _).mono ?_; rintro e w' ⟨rfl, rfl⟩)
      go_ret
      exact ⟨ret_bool (by simp), B.out⟩
  by_cases c1 : c = 1
  · subst c1
    clear c0
    obtain ⟨b, hb⟩ : ∃ b, b = decide (0 ≤ d ∧ d ≤ 1099511627776) := ⟨_, rfl⟩
    have K := hide (show ∀ W, Calls Try.prog 33 #[.int .i64 d, .int .i64 1099511627776] W fun e w' => e = .returned (.bool b) ∧ W = w' from fun W => by rw [hb]; exact pwithin_any W d 1099511627776)
    have hm : mayP ⟨1, l, d⟩ = (decide (l = 0) && b) := by
      rw [hb, Bool.eq_iff_iff]; simp [mayP]
    rw [hm]
    clear hm hb
    by_cases l0 : l = 0
    · subst l0
      go_enter Try.func24, Try.ntmps24
      go_wp2_with (go_at_call 33; refine (K.out _).mono ?_; rintro e w' ⟨rfl, rfl⟩)
      go_ret
      exact ⟨ret_bool (by simp), B.out⟩
    · have l0' : (l == 0) = false := by simpa using l0
      go_enter Try.func24, Try.ntmps24
      go_wp2_with (go_at_call 33; refine (K.out _).mono ?_; rintro e w' ⟨rfl, rfl⟩)
      go_ret
      exact ⟨ret_bool (by simp [l0]), B.out⟩
  have c0' : (c == 0) = false := by simpa using c0
  have c1' : (c == 1) = false := by simpa using c1
  by_cases c2 : c = 2
  · subst c2
    clear c0 c1 c0' c1'
    obtain ⟨b, hb⟩ : ∃ b, b = decide (0 ≤ l ∧ l ≤ 63) := ⟨_, rfl⟩
    have K := hide (show ∀ W, Calls Try.prog 33 #[.int .i64 l, .int .i64 63] W fun e w' => e = .returned (.bool b) ∧ W = w' from fun W => by rw [hb]; exact pwithin_any W l 63)
    have hm : mayP ⟨2, l, d⟩ = (b && decide (d = 0)) := by
      rw [hb, Bool.eq_iff_iff]; simp [mayP]; omega
    rw [hm]
    clear hm hb
    cases b with
    | true =>
      go_enter Try.func24, Try.ntmps24
      go_wp2_with (go_at_call 33; refine (K.out _).mono ?_; rintro e w' ⟨rfl, rfl⟩)
      go_ret
      exact ⟨ret_bool (by rw [Bool.eq_iff_iff]; simp), B.out⟩
    | false =>
      go_enter Try.func24, Try.ntmps24
      go_wp2_with (go_at_call 33; refine (K.out _).mono ?_; rintro e w' ⟨rfl, rfl⟩)
      go_ret
      exact ⟨ret_bool (by simp), B.out⟩
  · have c2' : (c == 2) = false := by simpa using c2
    have hm : mayP ⟨c, l, d⟩ = false := by unfold mayP; rw [if_neg c0, if_neg c1, if_neg c2]
    rw [hm]
    clear c0 c1 c2
    go_enter Try.func24, Try.ntmps24
    go_wp2_with fail
    go_ret
    exact ⟨rfl, B.out⟩
end Go.Proofs.Ytccokhalcdljiaa
namespace Go.Proofs.Ytccokhalcdljiaa
open Go.ChangeShapes Go.WideShapes Go.ChangeAt Go.RowKit
set_option linter.unusedVariables false
theorem pprio2 : PPrio2 where
  may := fun w c l d _ => pmay_any w c l d
  cmp := fun w c l d x y z _ _ => pcmp_any w c l d x y z
end Go.Proofs.Ytccokhalcdljiaa
