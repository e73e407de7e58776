/-
  Contracts of the document's own answers on sets of small numbers (chapter 2): rows of 64 truths.
-/
import Derived.Test.YtjnmhnodfmmmeaaSame
import Derived.Test.YtjnmhnodfmmmeaaBitsPlain
import Derived.Laws.Tables
namespace Go.Proofs.Ytjnmhnodfmmmeaa
open Go.ChangeShapes Go.WideShapes Go.ChangeAt Go.RowKit
set_option linter.unusedVariables false
theorem arr_info : (Try.prog.info? 25).map (·.size) = some 64 := by kernel_rfl
theorem zero64 : cells64 (fun _ => false) = #[.bool false, .bool false, .bool false, .bool false, .bool false, .bool false, .bool false, .bool false, .bool false, .bool false, .bool false, .bool false, .bool false, .bool false, .bool false, .bool false, .bool false, .bool false, .bool false, .bool false, .bool false, .bool false, .bool false, .bool false, .bool false, .bool false, .bool false, .bool false, .bool false, .bool false, .bool false, .bool false, .bool false, .bool false, .bool false, .bool false, .bool false, .bool false, .bool false, .bool false, .bool false, .bool false, .bool false, .bool false, .bool false, .bool false, .bool false, .bool false, .bool false, .bool false, .bool false, .bool false, .bool false, .bool false, .bool false, .bool false, .bool false, .bool false, .bool false, .bool false, .bool false, .bool false, .bool false, .bool false] := by rfl
/-- Block g is a row of 64 truths. -/
def Bits64 (w : World) (g : Nat) (f : Nat → Bool) : Prop := w.heap[g]? = some (.cells (cells64 f) 25 (0, 0))
theorem bits64_cell {w : World} {g : Nat} {f : Nat → Bool} (h : Bits64 w g f) (i : Nat) (hi : i < 64) : w.cell? ⟨g, i, none⟩ = some (.bool (f i)) := by
  rw [cell_of_row w g i _ _ _ h, cells64_get f i hi]
theorem bits64_free {w : World} {g : Nat} {f : Nat → Bool} (h : Bits64 w g f) (i : Nat) : w.frozen? ⟨g, i, none⟩ = false := frozen_of_row w g i _ _ h
theorem bits64_set {w : World} {g : Nat} {f : Nat → Bool} (h : Bits64 w g f) (k : Nat) (b : Bool) : Bits64 (w.setCell ⟨g, k, none⟩ (.bool b)) g (fun i => if i = k then b else f i) := by
  have := heap_setCell_same w g k _ _ (.bool b) h
  rw [cells64_set] at this
  exact this
theorem bits64_far {w : World} {g : Nat} {f : Nat → Bool} (h : Bits64 w g f) {p : Addr} (hp : g ≠ p.block) (v : Value) : Bits64 (w.setCell p v) g f := (heap_setCell_other w p g v hp).trans h
theorem bits64_row {w : World} {g : Nat} {old : Array Value} (h : w.heap[g]? = some (.cells old 25 (0, 0))) (f : Nat → Bool) : Bits64 (w.setRow g (cells64 f)) g f := setRow_heap w g old (cells64 f) _ _ h
theorem bits64_lt {w : World} {g : Nat} {f : Nat → Bool} (h : Bits64 w g f) : g < w.heap.size := (Array.getElem?_eq_some_iff.1 h).1
theorem bits64_congr {w : World} {g : Nat} {f f' : Nat → Bool} (h : Bits64 w g f) (e : ∀ i, i < 64 → f i = f' i) : Bits64 w g f' := by
  unfold Bits64 at h ⊢; rw [← cells64_congr e]; exact h
theorem bits64_below {w w' : World} {g : Nat} {f : Nat → Bool} (h : Bits64 w g f) {B : Nat} (hb : Below B w w') (hg : g < B) : Bits64 w' g f := (hb.block g hg).trans h

set_option maxHeartbeats 800000 in
theorem row_any (m : Int) (w : World) (m0 : 0 ≤ m) (m1 : m ≤ 18446744073709551615) : Calls Try.prog 8 #[.int .u64 m] w fun e w' => e = .returned (.agg (cells64 (bit m))) ∧ Below w.heap.size w w' := by
  go_enter Try.func8, Try.ntmps8
  go_wp2_with fail
  go_loopw [0, 4] (fun v i wr => ∃ k : Nat, k ≤ 64 ∧ i = .int .i64 k ∧ v = .int .u64 (m / 2 ^ k) ∧ Bits64 wr w.heap.size (fun _ => false) ∧ Bits64 wr (w.heap.size + 1) (upto (bit m) k) ∧ Below w.heap.size w wr) (fun _ i _ => 64 - (intOf i).toNat)
  case atStart =>
    refine ⟨0, by omega, rfl, by simp, ?_, ?_, ((Below.refl _ _).alloc (Nat.le_refl _) _).alloc (by simp) _⟩
    · unfold Bits64; rw [zero64]; exact heap_alloc2_old w _ _
    · unfold Bits64; rw [upto_zero, zero64]; exact heap_alloc2_new w _ _
  case round =>
    obtain ⟨k, hk, rfl, rfl, h1, h2, hb⟩ := hrel
    by_cases hlt : k < 64
    · have x0 := div_pow_lo m k m0
      have x1 := div_pow_hi m k m0
      have hc := bits64_cell h2 k hlt
      have hf := bits64_free h2 k
      have e : bit m k = (m / 2 ^ k % 2 == 1) := rfl
      have R2 : Bits64 (wr.setCell ⟨w.heap.size + 1, k, none⟩ (.bool (m / 2 ^ k % 2 == 1))) (w.heap.size + 1) (upto (bit m) (k + 1)) := by
        rw [← e]
        have := bits64_set h2 k (bit m k)
        unfold Bits64 at this ⊢
        rw [← cells64_set, upto_succ] at this
        exact this
      have R1 : Bits64 (wr.setCell ⟨w.heap.size + 1, k, none⟩ (.bool (m / 2 ^ k % 2 == 1))) w.heap.size (fun _ => false) := bits64_far h1 (by simp) _
      have B1 := hb.setCell (p := ⟨w.heap.size + 1, k, none⟩) (by simp) (.bool (m / 2 ^ k % 2 == 1))
      have D := hide (div_pow_succ m k)
      clear e h1 h2 hb
      go_wp2_with fail
      go_roundw
      case rel => exact ⟨k + 1, by omega, by go_num, ret_val D, R1, R2, B1⟩
      case measure => simp [intOf]; omega
    · obtain rfl : k = 64 := by omega
      rw [show Bits64 wr (w.heap.size + 1) (upto (bit m) 64) = Bits64 wr (w.heap.size + 1) (bit m) from by unfold Bits64; rw [upto_all]] at h2
      go_wp2_with (first
        | (refine wpList_load_row rfl 25 (.tmp 3) rfl (w.heap.size + 1) rfl _ _ _ _ h2 Try.underlying25 rfl (by rw [cells64_size]; exact arr_info) ?_)
        | (refine wpList_store_row rfl 25 (.tmp 2) (.tmp 16) rfl w.heap.size _ rfl rfl _ _ h1 (by rw [cells64_size]; exact arr_info) (by rw [cells64_size, cells64_size]) (cells64_one _) ?_))
      exact bodyPost_ret (v := .agg (cells64 (bit m))) (results_cell_row Try.results8 _ _ w.heap.size _ _ _ _ rfl (setRow_heap _ _ _ _ _ _ h1) Try.underlying25 rfl (by rw [cells64_size]; exact arr_info)) rfl ⟨rfl, below_setRow hb (Nat.le_refl _) _⟩

set_option maxHeartbeats 800000 in
theorem word_any (f : Nat → Bool) (w : World) : Calls Try.prog 22 #[.agg (cells64 f)] w fun e w' => e = .returned (.int .u64 (word f)) ∧ Below w.heap.size w w' := by
  go_enter Try.func22, Try.ntmps22
  go_wp2_with fail
  have H0 : Bits64 (w.alloc (.cells (cells64 f) 25)) w.heap.size f := heap_alloc_new w _
  go_loop [3, 4] (fun v i => ∃ j : Nat, j ≤ 64 ∧ i = .int .i64 ((j : Int) - 1) ∧ v = .int .u64 (wd f j)) (fun _ i => (intOf i + 1).toNat)
  case atStart => exact ⟨64, by omega, rfl, rfl⟩
  case round =>
    obtain ⟨j, hj, rfl, rfl⟩ := hrel
    cases j with
    | zero =>
      clear H0
      go_wp2_with fail
      go_ret
      exact ⟨rfl, (Below.refl _ _).alloc (Nat.le_refl _) _⟩
    | succ k =>
      have x0 := wd_lo f (k + 1)
      have x1 := wd_hi f k
      have hc := bits64_cell H0 k (by omega)
      rw [show (((k + 1 : Nat) : Int) - 1) = (k : Int) from by omega]
      cases hf : f k
      · rw [hf] at hc
        have D := hide (wd_zero f k (by omega) hf)
        clear H0 hf
        go_wp2_with fail
        go_round
        case rel => exact ⟨k, by omega, rfl, ret_val D⟩
        case measure => simp [intOf]
      · rw [hf] at hc
        have D := hide (wd_one f k (by omega) hf)
        clear H0 hf
        go_wp2_with fail
        go_round
        case rel => exact ⟨k, by omega, rfl, ret_val D⟩
        case measure => simp [intOf]
theorem below_new {w w' : World} {o : Obj} (h : Below w.heap.size (w.alloc o) w') : Below w.heap.size w w' := ((Below.refl _ w).alloc (Nat.le_refl _) o).trans h
theorem wpList_store_bits {ops : Array Oper} {rest : List Oper} {o : Oper} {a : Act} {w : World} {Q : Exit → Act → World → Prop} (hgd : o.guard = none) (x y : Operand) (ho : o.op = .store 25 x y)
    (g : Nat) (f : Nat → Bool) (hx : a.eval x = .pointer (some ⟨g, 0, none⟩)) (hy : a.eval y = .agg (cells64 f)) (old : Array Value) (hg : w.heap[g]? = some (.cells old 25 (0, 0))) (hold : old.size = 64)
    (h : ∀ w', Bits64 w' g f → Below g w w' → wpList Try.prog ops Q rest (a.put o.dst undef) w') : wpList Try.prog ops Q (o :: rest) a w :=
  wpList_store_row hgd _ x y ho g (cells64 f) hx hy _ old hg (by rw [cells64_size]; exact arr_info) (by rw [cells64_size]; exact hold) (cells64_one f) (h _ (bits64_row hg f) (below_setRow (Below.refl g w) (Nat.le_refl _) _))

set_option maxHeartbeats 800000 in
theorem put_any (m : Int) (n : Nat) (b : Bool) (w : World) (m0 : 0 ≤ m) (m1 : m ≤ 18446744073709551615) (hn : n < 64) :
    Calls Try.prog 10 #[.int .u64 m, .int .i64 (n : Int), .bool b] w fun e w' => e = .returned (.int .u64 (word (put (bit m) n b))) ∧ Below w.heap.size w w' := by
  have l0 : ¬ (n : Int) < 0 := by omega
  have l1 : ¬ (63 : Int) < (n : Int) := by omega
  go_enter Try.func10, Try.ntmps10
  go_wp2_with (first
    | (go_at_call 8; refine (row_any m _ m0 m1).mono ?_; rintro e w1 ⟨rfl, hb⟩)
    | (refine wpList_store_bits rfl (.tmp 7) (.tmp 16) rfl w1.heap.size (bit m) rfl rfl _ (heap_alloc_new w1 _) (by rfl) ?_; intro w2 H1 hb2; have hb3 := below_new hb2; have hc := bits64_cell H1 n hn; have hf := bits64_free H1 n; have H2 := bits64_set H1 n b; have hb4 := hb3.setCell (p := ⟨w1.heap.size, n, none⟩) (Nat.le_refl _) (.bool b); clear H1 hb2 hb3)
    | (refine wpList_load_row rfl 25 (.tmp 7) rfl w1.heap.size rfl _ _ _ _ H2 Try.underlying25 rfl (by rw [cells64_size]; exact arr_info) ?_; clear hc hf H2)
    | (go_at_call 22; refine (word_any _ _).mono ?_; rintro e w4 ⟨rfl, hb5⟩))
  go_ret
  exact ⟨rfl, hb.trans ((hb4.trans (hb5.mono hb4.size)).mono hb.size)⟩
theorem put_out (m i : Int) (b : Bool) (w : World) (h : i < 0 ∨ 63 < i) :
    Calls Try.prog 10 #[.int .u64 m, .int .i64 i, .bool b] w fun e w' => e = .returned (.int .u64 m) ∧ w = w' := by
  rcases h with h | h
  · go_enter Try.func10, Try.ntmps10
    go_wp2_with fail
    go_ret
    exact ⟨rfl, rfl⟩
  · have h0 : ¬ i < 0 := by omega
    go_enter Try.func10, Try.ntmps10
    go_wp2_with fail
    go_ret
    exact ⟨rfl, rfl⟩
set_option maxHeartbeats 1600000 in
theorem all_any (m : Int) (w : World) (m0 : 0 ≤ m) (m1 : m ≤ 18446744073709551615) :
    Calls Try.prog 7 #[.int .u64 m] w fun e w' => ∃ v, e = .returned v ∧ w'.ownsRow w.heap.size 3 1 v (nums (bit m)).length ((nums (bit m)).map (Value.int .i64)) ∧ Below w.heap.size w w' := by
  obtain ⟨i0, hi0, hz0, hz1, hz2⟩ := info_parts int_info
  go_enter Try.func7, Try.ntmps7
  go_wp2_with (first
    | (go_at_call 8; refine (row_any m _ m0 m1).mono ?_; rintro e w1 ⟨rfl, hb⟩)
    | (refine wpList_store_bits rfl (.tmp 3) (.tmp 7) rfl w1.heap.size (bit m) rfl rfl _ (heap_alloc_new w1 _) (by rfl) ?_; intro w2 H1 hb2; have hb3 := below_new hb2; clear hb2))
  have hlt2 := bits64_lt H1
  go_loopw [4, 5] (fun v i wr => ∃ n : Nat, n ≤ 64 ∧ i = .int .i64 (63 - (n : Int)) ∧ wr.ownsRow (w1.heap.size + 1) 3 1 v (fall (bit m) n).length ((fall (bit m) n).map (Value.int .i64)) ∧ Below (w1.heap.size + 1) w2 wr) (fun _ i _ => (intOf i + 1).toNat)
  case atStart => exact ⟨0, by omega, rfl, World.ownsRow_nil _ _ _ _, Below.refl _ _⟩
  case round =>
    obtain ⟨n, hn, rfl, ho, hr⟩ := hrel
    by_cases hlt : n < 64
    · obtain ⟨k, hk, hki⟩ : ∃ k : Nat, 63 - n = k ∧ (63 - (n : Int)) = (k : Int) := ⟨63 - n, rfl, by omega⟩
      have HK := hide hk
      have hk64 : k < 64 := by omega
      clear hk
      rw [hki]
      have hkn := hide hki
      have hm : (63 : Int) - ((n + 1 : Nat) : Int) = (k : Int) - 1 := by omega
      clear hki
      have HM := hide hm
      clear hm
      have hc := bits64_cell (bits64_below H1 hr (by omega)) k hk64
      have hl := fall_len (bit m) n
      have hb0 : w1.heap.size + 1 ≤ wr.heap.size := Nat.le_trans hlt2 hr.size
      cases hf : bit m k
      · rw [hf] at hc
        have hx := hide (fall_miss (bit m) n k HK.out hf)
        clear H1 hf hlt2
        go_wp2_with fail
        go_roundw
        case rel =>
          rw [← hx.out] at ho
          exact ⟨n + 1, by omega, ret_val HM.out.symm, ho, hr⟩
        case measure => simp [intOf] <;> omega
      · rw [hf] at hc
        have hx := hide (fall_hit (bit m) n k HK.out hf)
        clear H1 hf hlt2
        go_wp2_with (at_builtin; refine wpList_append_src rfl (.tmp 15) (.tmp 17) _ rfl (w1.heap.size + 1) 3 i0 _ 8 Try.underlying23 hi0 hz0 hz1 hz2 rfl _ _ _ rfl (ho.alloc _) .i64 _ 1 _ [(k : Int)] rfl (ints_cell1 _ _ _ _ _ rfl) (fun h => by cases h) (by unfold maxLen; omega) (by omega) (by simp; omega) ?_; intro v' w' o' g' t'; have hr' := (hr.alloc hb0 _).grown g' (by simp; omega) (own_lo ho); clear g' t' ho hr)
        go_roundw
        case rel =>
          refine ⟨n + 1, by omega, ret_val HM.out.symm, ?_, hr'⟩
          rw [hx.out]; simpa using o'
        case measure => simp [intOf] <;> omega
    · obtain rfl : n = 64 := by omega
      clear H1
      go_wp2_with fail
      go_ret
      refine ⟨_, rfl, own_base ho (by have := hb.size; omega), hb.trans ((hb3.trans (hr.mono (by omega))).mono hb.size)⟩
end Go.Proofs.Ytjnmhnodfmmmeaa
