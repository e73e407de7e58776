/-
  The walks of the laws BitsTells, BitsAll.
-/
import Derived.Test.YtjnmhnodfmmmeaaBitsAllW
import Derived.ChangeKeysEq
namespace Go.Proofs.Ytjnmhnodfmmmeaa
open Go.ChangeShapes Go.WideShapes Go.ChangeAt Go.RowKit
set_option linter.unusedVariables false
attribute [local irreducible] nums word topOf cells64
theorem u64_wf {m : Int} (h : (Lit.int .u64 m).wf = true) : 0 ≤ m ∧ m ≤ 18446744073709551615 := by
  simp [Lit.wf, IntKind.min, IntKind.max, IntKind.bits, IntKind.signed] at h
  omega
theorem own_below {w w' : World} {base : Nat} {e : TypeId} {z n : Nat} {v : Value} {xs : List Value} (h : w.ownsRow base e z v n xs) (hb : Below w.heap.size w w') : w'.ownsRow base e z v n xs :=
  own_kept h ⟨hb.os, hb.tape, hb.output, hb.size, fun i hi _ => hb.block i hi⟩
theorem and63 (n : Nat) (h : n < 64) : bits .and .i64 (n : Int) 63 = (n : Int) := by
  rw [show (63 : Int) = ((63 : Nat) : Int) from rfl, i64_and_nat n 63 (by omega) (by omega), nat_mask6, Nat.mod_eq_of_lt h]
theorem run_index_plain {P : Program} (w : World) {t e : TypeId} {n : Nat} {i : TypeInfo} (ht : P.underlying t = some (.array n e)) (hk : P.plainKey e = true) (hi : P.info? e = some i) (h1 : P.cellsOf e = 1)
    {cs : Array Value} {j : Nat} (hj : j < n) {v : Value} (hv : cs[j]? = some v) (k : IntKind) : (Instr.index t (.agg cs) (.int k (j : Int))).run P w = .ok v w := by
  have hb : 0 ≤ (j : Int) ∧ (j : Int) < (n : Int) := by omega
  simp only [Instr.index, asIntOf, Sem.run_bind, Sem.run_pure, run_underlying ht, Result.andThen_ok, hb, and_self, if_true, run_sizeOf w hi, h1, Nat.mul_one, Int.toNat_natCast]
  exact run_part_plain w hk hv
theorem arr_type : Try.prog.underlying 25 = some (.array 64 4) := Try.underlying25
theorem bool_info : ∃ i, Try.prog.info? 4 = some i := by
  have h : (Try.prog.info? 4).isSome = true := by kernel_rfl
  exact Option.isSome_iff_exists.1 h
theorem row_index (f : Nat → Bool) (n : Nat) (hn : n < 64) : ∀ w, (Instr.index 25 (.agg (cells64 f)) (.int .i64 (n : Int))).run Try.prog w = .ok (.bool (f n)) w := by
  intro w
  obtain ⟨i, hi⟩ := bool_info
  exact run_index_plain w arr_type (by kernel_rfl) hi (by kernel_rfl) hn (cells64_get f n hn) .i64
/-- What is listed: nothing, or the greatest number first. -/
theorem all_none (w : World) : Calls Try.prog 7 #[.int .u64 0] w fun e w' => (∃ A c, e = .returned (.slice A 0 c)) ∧ Below w.heap.size w w' :=
  (all_any 0 w (by omega) (by omega)).mono fun e w' ⟨v, he, ho, hb⟩ => by
    obtain ⟨A, c, rfl, _, _⟩ := own_ints ho
    refine ⟨⟨A, c, ?_⟩, hb⟩
    rw [he, nums_zero]; rfl
theorem all_some (m : Int) (w : World) (m0 : 0 ≤ m) (m1 : m ≤ 18446744073709551615) (k : Nat) (xs : List Int) (hx : nums (bit m) = (k : Int) :: xs) (L : Nat) (hL : L = (nums (bit m)).length) :
    Calls Try.prog 7 #[.int .u64 m] w fun e w' => (∃ b off c, e = .returned (.slice (some ⟨b, off, none⟩) L c) ∧ w'.cell? ⟨b, off, none⟩ = some (.int .i64 (k : Int))) ∧ Below w.heap.size w w' :=
  (all_any m w m0 m1).mono fun e w' ⟨v, he, ho, hb⟩ => by
    obtain ⟨A, c, rfl, hi, _⟩ := own_ints ho
    refine ⟨?_, hb⟩
    obtain ⟨b, off, rfl, hc⟩ := hi.2 (by rw [hx]; simp)
    have := hc 0 (by rw [hx]; simp)
    rw [hx] at this
    refine ⟨b, off, c, by rw [he, hL], ?_⟩
    simpa using this
set_option maxHeartbeats 800000 in
theorem tells_zero (n : Nat) (w : World) (hn : n < 64) :
    Calls Try.prog 3 #[.int .u64 0, .int .i64 (n : Int)] w fun e w' => e = .returned (.bool true) ∧ Below w.heap.size w w' := by
  have l0 : (0 : Int) ≤ (n : Int) := by omega
  have l1 : (n : Int) < 64 := by omega
  have a63 := and63 n hn
  have hg := row_index (bit 0) n hn
  have HL : Hid (0 = (nums (bit 0)).length) := by show _ = _; rw [nums_zero]; rfl
  have HT : Hid (topOf 0 = -1) := top_zero
  have m0 : (0 : Int) ≤ 0 := by omega
  have m1 : (0 : Int) ≤ 18446744073709551615 := by omega
  go_enter Try.func3, Try.ntmps3
  go_wp2_with (first
    | (go_at_call 7; with_reducible refine (all_none _).mono ?_; rintro e w1 ⟨⟨A, c, rfl⟩, hb⟩)
    | (go_at_call 8; with_reducible refine (row_any 0 _ m0 m1).mono ?_; rintro e w2 ⟨rfl, hb2⟩)
    | (go_at_call 10; with_reducible refine (put_any 0 n true _ m0 m1 hn).mono ?_; rintro e w3 ⟨rfl, hb3⟩)
    | (go_at_call 10; with_reducible refine (put_any 0 n false _ m0 m1 hn).mono ?_; rintro e w4 ⟨rfl, hb4⟩)
    | (go_at_call 9; with_reducible refine (set_in 0 n _ m0 m1 hn).mono ?_; rintro e w' ⟨rfl, rfl⟩)
    | (go_at_call 11; with_reducible refine (clear_in 0 n _ m0 m1 hn).mono ?_; rintro e w' ⟨rfl, rfl⟩)
    | (go_at_call 12; with_reducible refine (has_in 0 n _ m0 m1 hn).mono ?_; rintro e w' ⟨rfl, rfl⟩)
    | (go_at_call 13; with_reducible refine (count_any 0 _ m0 m1).mono ?_; rintro e w' ⟨rfl, rfl⟩; rw [← HL.out])
    | (go_at_call 14; with_reducible refine (top_any 0 _ m0 m1).mono ?_; rintro e w' ⟨rfl, rfl⟩; rw [HT.out])
    | (go_at_call 15; with_reducible refine (awake_any _).mono ?_; rintro e w' ⟨rfl, rfl⟩))
  go_ret
  exact ⟨rfl, hb.trans ((hb2.trans ((hb3.trans (hb4.mono hb3.size)).mono hb2.size)).mono hb.size)⟩
set_option maxHeartbeats 800000 in
theorem tells_in (m : Int) (n : Nat) (w : World) (m0 : 0 ≤ m) (m1 : m ≤ 18446744073709551615) (hm : m ≠ 0) (hn : n < 64) :
    Calls Try.prog 3 #[.int .u64 m, .int .i64 (n : Int)] w fun e w' => e = .returned (.bool true) ∧ Below w.heap.size w w' := by
  have l0 : (0 : Int) ≤ (n : Int) := by omega
  have l1 : (n : Int) < 64 := by omega
  have a63 := and63 n hn
  have hg := row_index (bit m) n hn
  obtain ⟨k, hk, hk64, hbit, htop⟩ := top_bit m m0 m1 hm
  have hx := nums_top m k hk64 hbit htop
  have HX : Hid (nums (bit m) = (k : Int) :: nums (put (bit m) k false)) := hx
  obtain ⟨L, hL⟩ : ∃ L, L = (nums (bit m)).length := ⟨_, rfl⟩
  have HL := hide hL
  have L1 : 0 < L := by rw [hL, hx]; simp
  have HT := hide hk
  clear hx hL hk hbit htop hm
  go_enter Try.func3, Try.ntmps3
  go_wp2_with (first
    | (go_at_call 7; with_reducible refine (all_some m _ m0 m1 k _ HX.out L HL.out).mono ?_; rintro e w1 ⟨⟨b, off, c, rfl, hc⟩, hb⟩; have hlt := lt_of_cell? hc)
    | (go_at_call 8; with_reducible refine (row_any m _ m0 m1).mono ?_; rintro e w2 ⟨rfl, hb2⟩; have hc2 := (hb2.cell hlt).trans hc)
    | (go_at_call 10; with_reducible refine (put_any m n true _ m0 m1 hn).mono ?_; rintro e w3 ⟨rfl, hb3⟩)
    | (go_at_call 10; with_reducible refine (put_any m n false _ m0 m1 hn).mono ?_; rintro e w4 ⟨rfl, hb4⟩)
    | (go_at_call 9; with_reducible refine (set_in m n _ m0 m1 hn).mono ?_; rintro e w' ⟨rfl, rfl⟩)
    | (go_at_call 11; with_reducible refine (clear_in m n _ m0 m1 hn).mono ?_; rintro e w' ⟨rfl, rfl⟩)
    | (go_at_call 12; with_reducible refine (has_in m n _ m0 m1 hn).mono ?_; rintro e w' ⟨rfl, rfl⟩)
    | (go_at_call 13; with_reducible refine (count_any m _ m0 m1).mono ?_; rintro e w' ⟨rfl, rfl⟩; rw [← HL.out])
    | (go_at_call 14; with_reducible refine (top_any m _ m0 m1).mono ?_; rintro e w' ⟨rfl, rfl⟩; rw [HT.out])
    | (go_at_call 15; with_reducible refine (awake_any _).mono ?_; rintro e w' ⟨rfl, rfl⟩))
  go_ret
  exact ⟨rfl, hb.trans ((hb2.trans ((hb3.trans (hb4.mono hb3.size)).mono hb2.size)).mono hb.size)⟩
set_option maxHeartbeats 800000 in
theorem tells_low (m i : Int) (w : World) (m0 : 0 ≤ m) (m1 : m ≤ 18446744073709551615) (hm : m ≠ 0) (h : i < 0) :
    Calls Try.prog 3 #[.int .u64 m, .int .i64 i] w fun e w' => e = .returned (.bool true) ∧ Below w.heap.size w w' := by
  have HO : Hid (i < 0 ∨ 63 < i) := .inl h
  have h0 : ¬ 0 ≤ i := by omega
  obtain ⟨k, hk, hk64, hbit, htop⟩ := top_bit m m0 m1 hm
  have hx := nums_top m k hk64 hbit htop
  have HX : Hid (nums (bit m) = (k : Int) :: nums (put (bit m) k false)) := hx
  obtain ⟨L, hL⟩ : ∃ L, L = (nums (bit m)).length := ⟨_, rfl⟩
  have HL := hide hL
  have L1 : 0 < L := by rw [hL, hx]; simp
  have HT := hide hk
  clear hx hL hk hbit htop hm
  go_enter Try.func3, Try.ntmps3
  go_wp2_with (first
    | (go_at_call 7; with_reducible refine (all_some m _ m0 m1 k _ HX.out L HL.out).mono ?_; rintro e w1 ⟨⟨b, off, c, rfl, hc⟩, hb⟩)
    | (go_at_call 10; with_reducible refine (put_out m i _ _ HO.out).mono ?_; rintro e w' ⟨rfl, rfl⟩)
    | (go_at_call 9; with_reducible refine (set_out m i _ HO.out).mono ?_; rintro e w' ⟨rfl, rfl⟩)
    | (go_at_call 11; with_reducible refine (clear_out m i _ HO.out).mono ?_; rintro e w' ⟨rfl, rfl⟩)
    | (go_at_call 12; with_reducible refine (has_out m i _ HO.out).mono ?_; rintro e w' ⟨rfl, rfl⟩)
    | (go_at_call 13; with_reducible refine (count_any m _ m0 m1).mono ?_; rintro e w' ⟨rfl, rfl⟩; rw [← HL.out])
    | (go_at_call 14; with_reducible refine (top_any m _ m0 m1).mono ?_; rintro e w' ⟨rfl, rfl⟩; rw [HT.out])
    | (go_at_call 15; with_reducible refine (awake_any _).mono ?_; rintro e w' ⟨rfl, rfl⟩))
  go_ret
  exact ⟨rfl, hb⟩
set_option maxHeartbeats 800000 in
theorem tells_high (m i : Int) (w : World) (m0 : 0 ≤ m) (m1 : m ≤ 18446744073709551615) (hm : m ≠ 0) (h : 63 < i) :
    Calls Try.prog 3 #[.int .u64 m, .int .i64 i] w fun e w' => e = .returned (.bool true) ∧ Below w.heap.size w w' := by
  have HO : Hid (i < 0 ∨ 63 < i) := .inr h
  have h0 : 0 ≤ i := by omega
  have h1 : ¬ i < 64 := by omega
  obtain ⟨k, hk, hk64, hbit, htop⟩ := top_bit m m0 m1 hm
  have hx := nums_top m k hk64 hbit htop
  have HX : Hid (nums (bit m) = (k : Int) :: nums (put (bit m) k false)) := hx
  obtain ⟨L, hL⟩ : ∃ L, L = (nums (bit m)).length := ⟨_, rfl⟩
  have HL := hide hL
  have L1 : 0 < L := by rw [hL, hx]; simp
  have HT := hide hk
  clear hx hL hk hbit htop hm
  go_enter Try.func3, Try.ntmps3
  go_wp2_with (first
    | (go_at_call 7; with_reducible refine (all_some m _ m0 m1 k _ HX.out L HL.out).mono ?_; rintro e w1 ⟨⟨b, off, c, rfl, hc⟩, hb⟩)
    | (go_at_call 10; with_reducible refine (put_out m i _ _ HO.out).mono ?_; rintro e w' ⟨rfl, rfl⟩)
    | (go_at_call 9; with_reducible refine (set_out m i _ HO.out).mono ?_; rintro e w' ⟨rfl, rfl⟩)
    | (go_at_call 11; with_reducible refine (clear_out m i _ HO.out).mono ?_; rintro e w' ⟨rfl, rfl⟩)
    | (go_at_call 12; with_reducible refine (has_out m i _ HO.out).mono ?_; rintro e w' ⟨rfl, rfl⟩)
    | (go_at_call 13; with_reducible refine (count_any m _ m0 m1).mono ?_; rintro e w' ⟨rfl, rfl⟩; rw [← HL.out])
    | (go_at_call 14; with_reducible refine (top_any m _ m0 m1).mono ?_; rintro e w' ⟨rfl, rfl⟩; rw [HT.out])
    | (go_at_call 15; with_reducible refine (awake_any _).mono ?_; rintro e w' ⟨rfl, rfl⟩))
  go_ret
  exact ⟨rfl, hb⟩
set_option maxHeartbeats 800000 in
theorem tells_low0 (i : Int) (w : World) (h : i < 0) :
    Calls Try.prog 3 #[.int .u64 0, .int .i64 i] w fun e w' => e = .returned (.bool true) ∧ Below w.heap.size w w' := by
  have HO : Hid (i < 0 ∨ 63 < i) := .inl h
  have h0 : ¬ 0 ≤ i := by omega
  have HL : Hid (0 = (nums (bit 0)).length) := by show _ = _; rw [nums_zero]; rfl
  have HT : Hid (topOf 0 = -1) := top_zero
  have m0 : (0 : Int) ≤ 0 := by omega
  have m1 : (0 : Int) ≤ 18446744073709551615 := by omega
  go_enter Try.func3, Try.ntmps3
  go_wp2_with (first
    | (go_at_call 7; with_reducible refine (all_none _).mono ?_; rintro e w1 ⟨⟨A, c, rfl⟩, hb⟩)
    | (go_at_call 10; with_reducible refine (put_out 0 i _ _ HO.out).mono ?_; rintro e w' ⟨rfl, rfl⟩)
    | (go_at_call 9; with_reducible refine (set_out 0 i _ HO.out).mono ?_; rintro e w' ⟨rfl, rfl⟩)
    | (go_at_call 11; with_reducible refine (clear_out 0 i _ HO.out).mono ?_; rintro e w' ⟨rfl, rfl⟩)
    | (go_at_call 12; with_reducible refine (has_out 0 i _ HO.out).mono ?_; rintro e w' ⟨rfl, rfl⟩)
    | (go_at_call 13; with_reducible refine (count_any 0 _ m0 m1).mono ?_; rintro e w' ⟨rfl, rfl⟩; rw [← HL.out])
    | (go_at_call 14; with_reducible refine (top_any 0 _ m0 m1).mono ?_; rintro e w' ⟨rfl, rfl⟩; rw [HT.out])
    | (go_at_call 15; with_reducible refine (awake_any _).mono ?_; rintro e w' ⟨rfl, rfl⟩))
  go_ret
  exact ⟨rfl, hb⟩
set_option maxHeartbeats 800000 in
theorem tells_high0 (i : Int) (w : World) (h : 63 < i) :
    Calls Try.prog 3 #[.int .u64 0, .int .i64 i] w fun e w' => e = .returned (.bool true) ∧ Below w.heap.size w w' := by
  have HO : Hid (i < 0 ∨ 63 < i) := .inr h
  have h0 : 0 ≤ i := by omega
  have h1 : ¬ i < 64 := by omega
  have HL : Hid (0 = (nums (bit 0)).length) := by show _ = _; rw [nums_zero]; rfl
  have HT : Hid (topOf 0 = -1) := top_zero
  have m0 : (0 : Int) ≤ 0 := by omega
  have m1 : (0 : Int) ≤ 18446744073709551615 := by omega
  go_enter Try.func3, Try.ntmps3
  go_wp2_with (first
    | (go_at_call 7; with_reducible refine (all_none _).mono ?_; rintro e w1 ⟨⟨A, c, rfl⟩, hb⟩)
    | (go_at_call 10; with_reducible refine (put_out 0 i _ _ HO.out).mono ?_; rintro e w' ⟨rfl, rfl⟩)
    | (go_at_call 9; with_reducible refine (set_out 0 i _ HO.out).mono ?_; rintro e w' ⟨rfl, rfl⟩)
    | (go_at_call 11; with_reducible refine (clear_out 0 i _ HO.out).mono ?_; rintro e w' ⟨rfl, rfl⟩)
    | (go_at_call 12; with_reducible refine (has_out 0 i _ HO.out).mono ?_; rintro e w' ⟨rfl, rfl⟩)
    | (go_at_call 13; with_reducible refine (count_any 0 _ m0 m1).mono ?_; rintro e w' ⟨rfl, rfl⟩; rw [← HL.out])
    | (go_at_call 14; with_reducible refine (top_any 0 _ m0 m1).mono ?_; rintro e w' ⟨rfl, rfl⟩; rw [HT.out])
    | (go_at_call 15; with_reducible refine (awake_any _).mono ?_; rintro e w' ⟨rfl, rfl⟩))
  go_ret
  exact ⟨rfl, hb⟩
theorem walk_bitsTells (w : World) (m : Int) (wm : (Lit.int .u64 m).wf = true) (i : Int) (wi : (Lit.int .i64 i).wf = true) :
    Calls Try.prog 3 #[.int .u64 m, .int .i64 i] w fun e w' => e = .returned (.bool true) ∧ Below w.heap.size w w' := by
  obtain ⟨m0, m1⟩ := u64_wf wm
  by_cases hm : m = 0
  · subst hm
    by_cases h0 : i < 0
    · exact tells_low0 i w h0
    by_cases h1 : 63 < i
    · exact tells_high0 i w h1
    obtain ⟨n, rfl⟩ := Int.eq_ofNat_of_zero_le (show 0 ≤ i by omega)
    exact tells_zero n w (by omega)
  · by_cases h0 : i < 0
    · exact tells_low m i w m0 m1 hm h0
    by_cases h1 : 63 < i
    · exact tells_high m i w m0 m1 hm h1
    obtain ⟨n, rfl⟩ := Int.eq_ofNat_of_zero_le (show 0 ≤ i by omega)
    exact tells_in m n w m0 m1 hm (by omega)
set_option maxHeartbeats 800000 in
theorem walk_bitsAll (w : World) (m : Int) (wm : (Lit.int .u64 m).wf = true) :
    Calls Try.prog 4 #[.int .u64 m] w fun e w' => e = .returned (.bool true) ∧ Below w.heap.size w w' := by
  obtain ⟨m0, m1⟩ := u64_wf wm
  clear wm
  have hl := nums_le (bit m)
  go_enter Try.func4, Try.ntmps4
  go_wp2_with fail
  go_at_call 16
  with_reducible refine (ball_any m _ m0 m1).mono ?_
  rintro e w1 ⟨v1, rfl, o1, b1⟩
  go_wp2_with fail
  go_at_call 7
  with_reducible refine (all_any m _ m0 m1).mono ?_
  rintro e w2 ⟨v2, rfl, o2, b2⟩
  have O1 := own_below o1 b2
  go_wp2_with (first
    | (go_at_call 17; with_reducible refine (same_own v1 v2 _ _ _ O1 o2 (by omega)).mono ?_; rintro e w3 ⟨rfl, b3⟩; have O3 := own_below O1 b3; have B3 := b1.trans ((b2.trans (b3.mono b2.size)).mono b1.size))
    | (go_at_call 18; with_reducible refine (over_any v1 _ _ _ O3 B3.size (by omega)).mono ?_; rintro e w4 ⟨rfl, b4⟩; have B4 := B3.trans b4; clear O1 O3 o1 o2 B3 b1 b2 b3 b4)
    | (go_at_call 16; with_reducible refine (ball_any m _ m0 m1).mono ?_; rintro e w5 ⟨v5, rfl, o5, b5⟩)
    | (go_at_call 7; with_reducible refine (all_any m _ m0 m1).mono ?_; rintro e w6 ⟨v6, rfl, o6, b6⟩; have O5 := own_below o5 b6)
    | (go_at_call 17; with_reducible refine (same_own v5 v6 _ _ _ O5 o6 (by omega)).mono ?_; rintro e w7 ⟨rfl, b7⟩)
    | (go_at_call 15; with_reducible refine (awake_any _).mono ?_; rintro e w' ⟨rfl, rfl⟩))
  go_ret
  exact ⟨rfl, B4.trans ((b5.trans ((b6.trans (b7.mono b6.size)).mono b5.size)).mono B4.size)⟩
end Go.Proofs.Ytjnmhnodfmmmeaa
