/-
  The contract of All of package bits, and of 'awake' (coxswainlaw2).
-/
import Derived.Test.YtccokhalcdljiaaBitsWalks
namespace Go.Proofs.Ytccokhalcdljiaa
open Go.ChangeShapes Go.WideShapes Go.ChangeAt Go.RowKit
set_option linter.unusedVariables false
attribute [local irreducible] nums word topOf
set_option maxHeartbeats 1600000 in
theorem ball_any (m : Int) (w : World) (m0 : 0 ≤ m) (m1 : m ≤ 18446744073709551615) :
    Calls Try.prog 63 #[.int .u64 m] w fun e w' => ∃ v, e = .returned v ∧ w'.ownsRow w.heap.size 3 1 v (nums (bit m)).length ((nums (bit m)).map (Value.int .i64)) ∧ Below w.heap.size w w' := by
  obtain ⟨i0, hi0, hz0, hz1, hz2⟩ := info_parts int_info
  have hle := nums_le (bit m)
  obtain ⟨L, hL⟩ : ∃ L, L = (nums (bit m)).length := ⟨_, rfl⟩
  have HL := hide hL
  have hL64 : L ≤ 64 := by omega
  have hz3 : i0.bytes * L ≤ 281474976710656 := by rw [hz2]; omega
  clear hL hle
  have HZ := hide hz2
  clear hz2
  go_enter Try.func63, Try.ntmps63
  go_wp2_with (first
    | (go_at_call 74; refine (count_any m _ m0 m1).mono ?_; rintro e w' ⟨rfl, rfl⟩; rw [← HL.out])
    | (refine wpList_make_own _ rfl (.const (.int .i64 0)) (.tmp 6) _ rfl w.heap.size 3 i0 _ 1 Try.underlying39 hi0 hz0 hz1 .i64 .i64 _ L rfl rfl rfl hz3 (by unfold maxLen; omega) (Nat.le_refl _) ?_; intro w1 o1 g1; have b1 := (Below.refl w.heap.size w).grown g1 (Nat.le_refl _) (by simp)))
  rw [HL.out] at o1
  have S0 : w1.ownsRow w.heap.size 3 1 (.slice (some ⟨w.heap.size, 0, none⟩) 0 (nums (bit m)).length) ([] : List Int).length (([] : List Int).map (Value.int .i64)) := o1
  have HN : Hid (nums (bit m) = [] ++ nums (bit m)) := rfl
  clear o1 g1
  trace "1"
  go_loopw [0, 3] (fun x v wr => ∃ (y : Int) (acc : List Int), 0 ≤ y ∧ y ≤ 18446744073709551615 ∧ x = .int .u64 y ∧ Hid (nums (bit m) = acc ++ nums (bit y)) ∧ acc.length ≤ 64 ∧ wr.ownsRow w.heap.size 3 1 v acc.length (acc.map (Value.int .i64)) ∧ Below w.heap.size w wr) (fun x _ _ => (nums (bit (intOf x))).length)
  case atStart => exact ⟨m, [], m0, m1, rfl, HN, by simp, by rw [HL.out]; exact S0, b1⟩
  case round =>
    obtain ⟨y, acc, y0, y1, rfl, hn, hlen, ho, hb⟩ := hrel
    clear HN S0 b1
    by_cases hy : y = 0
    · subst hy
      go_wp2_with fail
      go_ret
      refine ⟨_, rfl, ?_, hb⟩
      have : nums (bit m) = acc := by rw [hn.out, nums_zero, List.append_nil]
      rw [this]; exact ho
    · obtain ⟨k, hk, hk64, hbit, htop⟩ := top_bit y y0 y1 hy
      have hnt := nums_top y k hk64 hbit htop
      have T1 := word_lo (put (bit y) k false)
      have T2 := word_hi (put (bit y) k false)
      have N1 : Hid (nums (bit m) = (acc ++ [(k : Int)]) ++ nums (bit (word (put (bit y) k false)))) := by
        show _ = _
        rw [hn.out, hnt, nums_word, List.append_assoc]; rfl
      have M1 : Hid ((nums (bit (word (put (bit y) k false)))).length < (nums (bit y)).length) := by
        show _ < _
        rw [hnt, nums_word]; simp
      have LM : (acc ++ [(k : Int)]).length ≤ 64 := by
        have h1 := nums_le (bit m)
        rw [N1.out, List.length_append] at h1
        omega
      have HK := hide hk
      have hne : (y != 0) = true := by simpa using hy
      clear hk hnt htop hbit hn
      trace "2"
      go_wp2_with (first
        | (go_at_call 68; refine (top_any y _ y0 y1).mono ?_; rintro e w' ⟨rfl, rfl⟩; rw [HK.out])
        | (at_builtin; refine wpList_append_src rfl (.tmp 12) (.tmp 14) _ rfl w.heap.size 3 i0 _ 8 Try.underlying39 hi0 hz0 hz1 HZ.out rfl _ _ _ rfl (ho.alloc _) .i64 _ 1 _ [(k : Int)] rfl (ints_cell1 _ _ _ _ _ rfl) (fun h => by cases h) (by unfold maxLen; omega) (by omega) (by have := hb.size; simp; omega) ?_; intro v' w' o' g' t'; have hr' := (hb.alloc hb.size _).grown g' (by have := hb.size; simp; omega) (own_lo ho); clear g' t' ho hb)
        | (go_at_call 67; refine (clear_in y k _ y0 y1 hk64).mono ?_; rintro e w' ⟨rfl, rfl⟩))
      trace "3"
      go_roundw
      case rel => exact ⟨_, acc ++ [(k : Int)], T1, T2, rfl, N1, LM, by simpa using o', hr'⟩
      case measure => exact M1.out
end Go.Proofs.Ytccokhalcdljiaa
