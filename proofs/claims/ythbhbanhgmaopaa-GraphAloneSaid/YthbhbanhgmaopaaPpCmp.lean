/-
  The program's prio: by class, in a class, the turns, Compare.
-/
import Derived.Test.YthbhbanhgmaopaaPrBoth
import Derived.Test.YthbhbanhgmaopaaCmpInt
namespace Go.Proofs.Ythbhbanhgmaopaa
open Go.ChangeShapes Go.WideShapes Go.ChangeAt Go.RowKit
set_option linter.unusedVariables false
/-- What tells two of one class apart. -/
def inI (c l d y z : Int) : Int := if c = 1 then sgnI z d else sgnI l y
theorem cmpP_turn1 {c l d x y z : Int} (h : c ≠ x) : cmpP ⟨c, l, d⟩ ⟨x, y, z⟩ = sgnI c x := by
  unfold cmpP gtP sgnI
  rw [if_pos h, if_pos (Ne.symm h)]
  simp only [decide_eq_true_eq]
  split <;> (try split) <;> (try split) <;> omega
theorem cmpP_turn2 (c l d y z : Int) : cmpP ⟨c, l, d⟩ ⟨c, y, z⟩ = inI c l d y z := by
  unfold cmpP gtP inI sgnI
  by_cases h : c = 1
  · simp only [h, ne_eq, not_true_eq_false, if_false, if_true, decide_eq_true_eq]
    split <;> (try split) <;> (try split) <;> omega
  · simp only [h, ne_eq, not_true_eq_false, if_false, decide_eq_true_eq]
    split <;> (try split) <;> (try split) <;> omega
theorem sgnI_ne {x y : Int} (h : x ≠ y) : sgnI x y ≠ 0 := by unfold sgnI; split <;> (try split) <;> omega
theorem sgnI_self (x : Int) : sgnI x x = 0 := by simp [sgnI]
set_option maxHeartbeats 2000000 in
theorem pbyClass_any (w : World) (c l d x y z : Int) : Calls Try.prog 45 #[.agg #[.int .i64 c, .int .i64 l, .int .i64 d], .agg #[.int .i64 x, .int .i64 y, .int .i64 z]] w fun e w' => e = .returned (.int .i64 (sgnI c x)) ∧ Below w.heap.size w w' := by
  have B := hide (((Below.refl w.heap.size w).alloc (Nat.le_refl _) (.cells #[.int .i64 c, .int .i64 l, .int .i64 d] 60)).alloc (by simp) (.cells #[.int .i64 x, .int .i64 y, .int .i64 z] 60))
  go_enter Try.func45, Try.ntmps45
  go_wp2_with (go_at_call 48; refine (sgnI_any _ _ _).mono ?_; rintro e w' ⟨rfl, rfl⟩)
  go_ret
  exact ⟨rfl, B.out⟩
set_option maxHeartbeats 2000000 in
theorem pinClass_any (w : World) (c l d x y z : Int) : Calls Try.prog 46 #[.agg #[.int .i64 c, .int .i64 l, .int .i64 d], .agg #[.int .i64 x, .int .i64 y, .int .i64 z]] w fun e w' => e = .returned (.int .i64 (inI c l d y z)) ∧ Below w.heap.size w w' := by
  have B := hide (((Below.refl w.heap.size w).alloc (Nat.le_refl _) (.cells #[.int .i64 c, .int .i64 l, .int .i64 d] 60)).alloc (by simp) (.cells #[.int .i64 x, .int .i64 y, .int .i64 z] 60))
  by_cases h : c = 1
  · subst h
    have e : inI 1 l d y z = sgnI z d := by simp [inI]
    rw [e]
    clear e
    go_enter Try.func46, Try.ntmps46
    go_wp2_with (go_at_call 48; refine (sgnI_any _ _ _).mono ?_; rintro e w' ⟨rfl, rfl⟩)
    go_ret
    exact ⟨rfl, B.out⟩
  · have e : inI c l d y z = sgnI l y := by simp [inI, h]
    have h' : (c == 1) = false := by simpa using h
    rw [e]
    clear e h
    go_enter Try.func46, Try.ntmps46
    go_wp2_with (go_at_call 48; refine (sgnI_any _ _ _).mono ?_; rintro e w' ⟨rfl, rfl⟩)
    go_ret
    exact ⟨rfl, B.out⟩
def turnsV : Array Value := #[.func (.func 45) #[] #[], .func (.func 46) #[] #[]]
theorem prstore_func (w : World) (a : Addr) (m : Mode) (fn : Fn) (first captured : Array Value) : (store a (.func fn first captured) m).run Try.prog w = stored Try.prog w a (.func fn first captured) m := run_store Try.prog w a _ m rfl
attribute [local go_sem] prstore_func
theorem built_turns : Try.prog.built 58 [(0, .func (.func 45) #[] #[]), (1, .func (.func 46) #[] #[])] = some turnsV := by kernel_rfl
set_option maxHeartbeats 2000000 in
theorem pturns_any (w : World) : Calls Try.prog 38 #[] w fun e w' => e = .returned (.agg turnsV) ∧ Below w.heap.size w w' := by
  go_enter Try.func38, Try.ntmps38
  go_wp2_with fail
  first
  | (go_ret; exact ⟨rfl, (Below.refl _ _).alloc (Nat.le_refl _) _⟩)
  | exact bodyPost_ret (v := .agg turnsV) (by simp [results, Try.results38, go_sem]; rfl) rfl ⟨rfl, (Below.refl _ _).alloc (Nat.le_refl _) _⟩
end Go.Proofs.Ythbhbanhgmaopaa
