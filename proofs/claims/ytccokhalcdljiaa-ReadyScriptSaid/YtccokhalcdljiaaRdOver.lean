/-
  OverInts over an own row, Num (coxswainlaw0), for stage 8.
-/
import Derived.Test.YtccokhalcdljiaaRdPair
namespace Go.Proofs.Ytccokhalcdljiaa
open Go.ChangeShapes Go.WideShapes Go.ChangeAt Go.RowKit
set_option linter.unusedVariables false
set_option maxHeartbeats 800000 in
theorem over_touch (v : Value) (n : Nat) (xs : List Value) (w : World) {B : Nat} (hv : w.ownsRow B 3 1 v n xs) (hn : n ≤ 1000000) :
    Calls Try.prog 23 #[v] w fun e w' => e = .returned (.tuple #[]) ∧ Touch (fun i => v.ownBlock = some i) w w' := by
  obtain ⟨i0, hi0, hz0, hz1, hz2⟩ := info_parts int_info
  obtain ⟨a, c, rfl, _⟩ := own_sliceQ hv
  go_enter Try.func23, Try.ntmps23
  go_wp2_with fail
  go_loopw [2] (fun i wr => ∃ (k : Nat) (ys : List Value), k ≤ n ∧ i = .int .i64 k ∧ wr.ownsRow B 3 1 (.slice a n c) n ys ∧ Hid (Touch (fun i => (Value.slice a n c).ownBlock = some i) w wr)) (fun i _ => n - (intOf i).toNat)
  case atStart => exact ⟨0, xs, Nat.zero_le _, rfl, hv, Touch.refl _ _⟩
  case round =>
    obtain ⟨k, ys, hk, rfl, ho, hb⟩ := hrel
    by_cases hlt : k < n
    · obtain ⟨g, cap, e⟩ : ∃ g cap, (Value.slice a n c) = .slice (some ⟨g, 0, none⟩) n cap := by
        rcases ho.2 with ⟨_, h⟩ | ⟨g, cap, cur, e, _⟩
        · omega
        · exact ⟨_, _, e⟩
      injection e with e1 _ e2
      subst e1 e2
      have hl : ys.length = n := by have := ho.1; omega
      have hc := ho.cellAt k (by omega)
      rw [List.getElem?_eq_getElem (by omega)] at hc
      have hf := ho.frozenAt k
      have S := (ho.stored k (.int .i64 (-999))).1
      have B1 := hide (hb.out.setCell (p := ⟨g, k, none⟩) rfl (.int .i64 (-999)))
      clear ho hb hv
      go_wp2_with fail
      go_roundw
      case rel => exact ⟨k + 1, _, by omega, by go_num, S, B1⟩
      case measure => simp [intOf]; omega
    · have HO := hide ho
      clear hv ho
      go_wp2_with (at_builtin; refine wpList_append_src rfl (.tmp 12) (.tmp 13) _ rfl 0 3 i0 _ 8 Try.underlying39 hi0 hz0 hz1 hz2 rfl _ _ _ rfl (own_base (HO.out.alloc _) (Nat.zero_le _)) .i64 _ 1 _ [-999] rfl (ints_cell1 _ _ _ _ _ rfl) (fun h => by cases h) (by unfold maxLen; omega) (by omega) (Nat.zero_le _) ?_; intro v' w' o' g' t'; have hr' := hide ((hb.out.alloc _).trans (Touch.of_grown (S := fun i => (Value.slice a n c).ownBlock = some i) g' (fun g e => e)) (fun i e => .inl e)); clear g' t')
      go_end0
      exact ⟨rfl, hr'.out⟩
theorem num_any (w : World) (x : Int) : Calls Try.prog 9 #[.int .i64 x] w fun e w' => e = .returned (.int .i64 x) ∧ w = w' := by
  go_enter Try.func9, Try.ntmps9
  go_wp2_with fail
  go_ret
  exact ⟨rfl, rfl⟩
end Go.Proofs.Ytccokhalcdljiaa
