/-
  Contracts of cmp.Compare, cmp.Or at two numbers, and of 'compare' of package heap.
-/
import Derived.Test.YtccokhalcdljiaaHpMem
import Derived.Sort.Grow
import Derived.Deep.RegionHeld3
import Derived.Deep.QuietTactic
import Derived.BigQuiet
namespace Go.Proofs.Ytccokhalcdljiaa.Hp
open Go.ChangeShapes Go.WideShapes Go.ChangeAt Go.RowKit Go.Sort
set_option linter.unusedVariables false
theorem cell_new (w : World) (cs : Array Value) (t : TypeId) (n i : Nat) (v : Value) (hn : n = w.heap.size) (h : cs[i]? = some v) : (w.alloc (.cells cs t)).cell? ⟨n, i, none⟩ = some v := by
  subst hn
  rw [cell_of_row _ _ _ cs t (0, 0) (heap_alloc_new w _)]; exact h
theorem isNaN_any (x : Int) (w : World) : Calls Try.prog 41 #[.int .i64 x] w fun e w' => e = .returned (.bool false) ∧ w = w' := by
  have h : (x != x) = false := by simp
  go_enter Try.func41, Try.ntmps41
  go_wp2_with fail
  go_ret
  exact ⟨rfl, rfl⟩
def cmpI (x y : Int) : Int := if x < y then -1 else if y < x then 1 else 0
theorem cmpI_any (x y : Int) (w : World) : Calls Try.prog 40 #[.int .i64 x, .int .i64 y] w fun e w' => e = .returned (.int .i64 (cmpI x y)) ∧ w = w' := by
  by_cases h1 : x < y
  · go_enter Try.func40, Try.ntmps40
    go_wp2_with (go_at_call 41; refine (isNaN_any _ _).mono ?_; rintro e w' ⟨rfl, rfl⟩)
    go_ret
    exact ⟨by simp [cmpI, h1], rfl⟩
  · by_cases h2 : y < x
    · go_enter Try.func40, Try.ntmps40
      go_wp2_with (go_at_call 41; refine (isNaN_any _ _).mono ?_; rintro e w' ⟨rfl, rfl⟩)
      go_ret
      exact ⟨ret_int (by unfold cmpI; split <;> (try split) <;> omega), rfl⟩
    · go_enter Try.func40, Try.ntmps40
      go_wp2_with (go_at_call 41; refine (isNaN_any _ _).mono ?_; rintro e w' ⟨rfl, rfl⟩)
      go_ret
      exact ⟨ret_int (by unfold cmpI; split <;> (try split) <;> omega), rfl⟩
def orI (x y : Int) : Int := if x = 0 then y else x
theorem cmpOr_two (x y : Int) (b c : Nat) (w : World) (h0 : w.cell? ⟨b, 0, none⟩ = some (.int .i64 x)) (h1 : w.cell? ⟨b, 1, none⟩ = some (.int .i64 y)) :
    Calls Try.prog 90 #[.slice (some ⟨b, 0, none⟩) 2 c] w fun e w' => e = .returned (.int .i64 (orI x y)) ∧ w = w' := by
  go_enter Try.func90, Try.ntmps90
  go_wp2_with fail
  go_loop [8] (fun i => ∃ k : Nat, k ≤ 2 ∧ i = .int .i64 k ∧ (0 < k → x = 0) ∧ (1 < k → y = 0)) (fun i => 2 - (intOf i).toNat)
  case atStart => exact ⟨0, by omega, rfl, by omega, by omega⟩
  case round =>
    obtain ⟨k, hk, rfl, g0, g1⟩ := hrel
    match k, hk with
    | 0, _ =>
      clear g0 g1
      by_cases hx : x = 0
      · subst hx
        rw [show ((0 : Nat) : Int) = 0 from rfl]
        go_wp2_with fail
        go_round
        case rel => exact ⟨1, by omega, rfl, by simp, by omega⟩
        case measure => simp [intOf]
      · have hne : (x != 0) = true := by simpa using hx
        rw [show ((0 : Nat) : Int) = 0 from rfl]
        go_wp2_with fail
        go_ret
        exact ⟨ret_int (by unfold orI; first | rw [if_pos rfl] | rw [if_neg ‹_›]), rfl⟩
    | 1, _ =>
      have hx := g0 (by omega)
      subst hx
      clear g0 g1
      by_cases hy : y = 0
      · subst hy
        rw [show ((1 : Nat) : Int) = 1 from rfl]
        go_wp2_with fail
        go_round
        case rel => exact ⟨2, by omega, rfl, by simp, by simp⟩
        case measure => simp [intOf]
      · have hne : (y != 0) = true := by simpa using hy
        rw [show ((1 : Nat) : Int) = 1 from rfl]
        go_wp2_with fail
        go_ret
        exact ⟨ret_int (by unfold orI; first | rw [if_pos rfl] | rw [if_neg ‹_›]), rfl⟩
    | 2, _ =>
      have hx := g0 (by omega)
      have hy := g1 (by omega)
      subst hx hy
      clear g0 g1
      rw [show ((2 : Nat) : Int) = 2 from rfl]
      go_wp2_with fail
      go_ret
      exact ⟨ret_int (by unfold orI; first | rw [if_pos rfl] | rw [if_neg ‹_›]), rfl⟩
/-- What 'compare' says of two items. -/
def cmpIt (a b : Int × Int) : Int := orI (cmpI a.2 b.2) (cmpI a.1 b.1)
theorem cmpIt_lt (a b : Int × Int) : decide (cmpIt a b < 0) = due a b := by
  rw [Bool.eq_iff_iff, due_iff, decide_eq_true_iff]
  unfold cmpIt orI cmpI
  split <;> split <;> (try split) <;> (try split) <;> omega
set_option maxHeartbeats 1000000 in
theorem compare_any (x y : Int × Int) (W : World) : Calls Try.prog 86 #[.agg #[.int .i64 x.1, .int .i64 x.2], .agg #[.int .i64 y.1, .int .i64 y.2]] W fun e w' =>
    e = .returned (.int .i64 (cmpIt x y)) ∧ ∃ q os', w' = grow (W.drewN q) os' := by
  obtain ⟨i, a⟩ := x
  obtain ⟨j, b⟩ := y
  go_enter Try.func86, Try.ntmps86
  go_wp2_with fail
  go_region_held3 (fun w' => w'.cell? ⟨W.heap.size, 0, none⟩ = some (.int .i64 i) ∧ w'.cell? ⟨W.heap.size, 1, none⟩ = some (.int .i64 a) ∧ w'.cell? ⟨W.heap.size + 1, 0, none⟩ = some (.int .i64 j) ∧ w'.cell? ⟨W.heap.size + 1, 1, none⟩ = some (.int .i64 b)) (go_keep) (first | (go_at_call 40; refine (cmpI_any _ _ _).mono ?_; rintro e w' ⟨rfl, rfl⟩) | (go_at_call 90; refine (cmpOr_two (cmpI a b) (cmpI i j) _ _ _ ?_ ?_).mono ?_; refine cell_new _ _ _ _ _ _ ?_ rfl; (simp); refine cell_new _ _ _ _ _ _ ?_ rfl; (simp); rintro e w' ⟨rfl, rfl⟩))
  go_wp2_with fail
  go_ret
  exact ⟨rfl, 1, _, by rw [alloc_eq_grow, alloc_eq_grow, alloc_eq_grow, grow_grow, grow_grow]; rfl⟩
end Go.Proofs.Ytccokhalcdljiaa.Hp
