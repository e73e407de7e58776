/-
  Contracts of what the statements share: whether two slices of integers are the same; a slice of integers written over.
-/
import Derived.Test.YtpeodmnhdabonaaMem
import Derived.Deep.QuietTactic
import Derived.BigQuiet
import Derived.Laws.OwnMore
namespace Go.Proofs.Ytpeodmnhdabonaa
open Go.ChangeShapes Go.WideShapes Go.ChangeAt Go.RowKit
set_option linter.unusedVariables false
theorem int_info : (Try.prog.info? 3).map (fun i => (i.zero, i.size, i.bytes)) = some (some (.int .i64 0), 1, 8) := by kernel_rfl
set_option maxHeartbeats 800000 in
theorem same_any (a b : Option Addr) (n c d : Nat) (xs : List Int) (w : World) (ha : Ints .i64 w a n xs) (hb : Ints .i64 w b n xs) (hn : n ≤ 9223372036854775807) :
    Calls Try.prog 17 #[.slice a n c, .slice b n d] w fun e w' => e = .returned (.bool true) ∧ Below w.heap.size w w' := by
  obtain ⟨hl, hc⟩ := ha
  obtain ⟨_, hd⟩ := hb
  clear hl
  have e0 : ((n : Int) == (n : Int)) = true := by simp
  have e1 : ((n : Int) != (n : Int)) = false := by simp
  go_enter Try.func17, Try.ntmps17
  go_wp2_with fail
  go_loopw [5] (fun i wr => ∃ k : Nat, k ≤ n ∧ i = .int .i64 k ∧ ∃ m, wr = w.drewN m) (fun i _ => n - (intOf i).toNat)
  case atStart => exact ⟨0, Nat.zero_le _, rfl, 0, rfl⟩
  case round =>
    obtain ⟨k, hk, rfl, m, rfl⟩ := hrel
    by_cases hlt : k < n
    · obtain ⟨b1, o1, rfl, hcs⟩ := hc (by omega)
      obtain ⟨b2, o2, rfl, hds⟩ := hd (by omega)
      have h1 := hcs k hlt
      have h2 := hds k hlt
      clear hcs hds hc hd
      go_wp2_with fail
      go_quiet (fail)
      go_wp2_with fail
      go_roundw
      case rel => exact ⟨k + 1, by omega, by go_num, _, rfl⟩
      case measure => simp [intOf]; omega
    · clear hc hd
      go_wp2_with fail
      go_ret
      exact ⟨rfl, below_drewN (Below.refl _ _) _⟩
theorem same_own (u v : Value) (n : Nat) (xs : List Int) (w : World) {b1 b2 : Nat} (hu : w.ownsRow b1 3 1 u n (xs.map (Value.int .i64))) (hv : w.ownsRow b2 3 1 v n (xs.map (Value.int .i64))) (hn : n ≤ 9223372036854775807) :
    Calls Try.prog 17 #[u, v] w fun e w' => e = .returned (.bool true) ∧ Below w.heap.size w w' := by
  obtain ⟨A, c, rfl, hi, _⟩ := own_ints hu
  obtain ⟨B, d, rfl, hj, _⟩ := own_ints hv
  exact same_any A B n c d xs w hi hj hn
set_option maxHeartbeats 800000 in
theorem over_any (v : Value) (n : Nat) (xs : List Value) (w : World) {B : Nat} (hv : w.ownsRow B 3 1 v n xs) (hB : B ≤ w.heap.size) (hn : n ≤ 1000000) :
    Calls Try.prog 18 #[v] w fun e w' => e = .returned (.tuple #[]) ∧ Below B w w' := by
  obtain ⟨i0, hi0, hz0, hz1, hz2⟩ := info_parts int_info
  obtain ⟨a, c, rfl⟩ : ∃ a c, v = .slice a n c := by
    rcases hv.2 with ⟨rfl, rfl⟩ | ⟨g, cap, cur, rfl, _⟩
    · exact ⟨none, 0, rfl⟩
    · exact ⟨_, _, rfl⟩
  go_enter Try.func18, Try.ntmps18
  go_wp2_with fail
  go_loopw [2] (fun i wr => ∃ (k : Nat) (ys : List Value), k ≤ n ∧ i = .int .i64 k ∧ wr.ownsRow B 3 1 (.slice a n c) n ys ∧ Below B w wr) (fun i _ => n - (intOf i).toNat)
  case atStart => exact ⟨0, xs, Nat.zero_le _, rfl, hv, Below.refl _ _⟩
  case round =>
    obtain ⟨k, ys, hk, rfl, ho, hb⟩ := hrel
    by_cases hlt : k < n
    · obtain ⟨g, cap, e⟩ : ∃ g cap, (Value.slice a n c) = .slice (some ⟨g, 0, none⟩) n cap := by
        rcases ho.2 with ⟨_, h⟩ | ⟨g, cap, cur, e, _⟩
        · omega
        · exact ⟨_, _, e⟩
      injection e with e1 _ e2
      subst e1 e2
      have hl : ys.length = n := by have := ho.1; omega
      have hc := ho.cellAt k (by omega)
      rw [List.getElem?_eq_getElem (by omega)] at hc
      have hf := ho.frozenAt k
      have hlo := (ho.lt g rfl).1
      have S := (ho.stored k (.int .i64 (-999))).1
      have B1 := hb.setCell (p := ⟨g, k, none⟩) hlo (.int .i64 (-999))
      clear ho hb hv
      go_wp2_with fail
      go_roundw
      case rel => exact ⟨k + 1, _, by omega, by go_num, S, B1⟩
      case measure => simp [intOf]; omega
    · have hb0 : B ≤ wr.heap.size := Nat.le_trans hB hb.size
      clear hv
      go_wp2_with (at_builtin; refine wpList_append_src rfl (.tmp 12) (.tmp 13) _ rfl B 3 i0 _ 8 Try.underlying36 hi0 hz0 hz1 hz2 rfl _ _ _ rfl (ho.alloc _) .i64 _ 1 _ [-999] rfl (ints_cell1 _ _ _ _ _ rfl) (fun h => by cases h) (by unfold maxLen; omega) (by omega) (by simp; omega) ?_; intro v' w' o' g' t'; have hr' := (hb.alloc hb0 _).grown g' (by simp; omega) (own_lo ho); clear g' t' ho hb)
      go_end0
      exact ⟨rfl, hr'⟩
end Go.Proofs.Ytpeodmnhdabonaa
