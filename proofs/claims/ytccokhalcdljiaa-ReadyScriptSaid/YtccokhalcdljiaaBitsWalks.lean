/-
  Contracts of package bits: sets of the numbers 0 to 63 as words.
-/
import Derived.Test.YtccokhalcdljiaaBitsRefs
import Derived.Test.YtccokhalcdljiaaBitsMore
namespace Go.Proofs.Ytccokhalcdljiaa
open Go.ChangeShapes Go.WideShapes Go.ChangeAt Go.RowKit
set_option linter.unusedVariables false
theorem fits_in (n : Nat) (w : World) (hn : n < 64) : Calls Try.prog 82 #[.int .i64 (n : Int)] w fun e w' => e = .returned (.bool true) ∧ w = w' := by
  have l0 : (0 : Int) ≤ (n : Int) := by omega
  have l1 : (n : Int) < 64 := by omega
  go_enter Try.func82, Try.ntmps82
  go_wp2_with fail
  go_ret
  exact ⟨rfl, rfl⟩
theorem fits_out (i : Int) (w : World) (h : i < 0 ∨ 63 < i) : Calls Try.prog 82 #[.int .i64 i] w fun e w' => e = .returned (.bool false) ∧ w = w' := by
  by_cases l0 : 0 ≤ i
  · have l1 : ¬ i < 64 := by omega
    go_enter Try.func82, Try.ntmps82
    go_wp2_with fail
    go_ret
    exact ⟨rfl, rfl⟩
  · go_enter Try.func82, Try.ntmps82
    go_wp2_with fail
    go_ret
    exact ⟨rfl, rfl⟩
theorem wset_any (m : Int) (n : Nat) (w : World) (m0 : 0 ≤ m) (m1 : m ≤ 18446744073709551615) (hn : n < 64) :
    Calls Try.prog 73 #[.int .u64 m, .int .i64 (n : Int)] w fun e w' => e = .returned (.int .u64 (word (put (bit m) n true))) ∧ w = w' := by
  go_enter Try.func73, Try.ntmps73
  go_wp2_with fail
  go_ret
  exact ⟨ret_int (or_set m n m0 m1 hn), rfl⟩
theorem wclear_any (m : Int) (n : Nat) (w : World) (m0 : 0 ≤ m) (m1 : m ≤ 18446744073709551615) (hn : n < 64) :
    Calls Try.prog 79 #[.int .u64 m, .int .i64 (n : Int)] w fun e w' => e = .returned (.int .u64 (word (put (bit m) n false))) ∧ w = w' := by
  go_enter Try.func79, Try.ntmps79
  go_wp2_with fail
  go_ret
  exact ⟨ret_int (andNot_clear m n m0 m1 hn), rfl⟩
theorem change_set (m : Int) (n : Nat) (w : World) (m0 : 0 ≤ m) (m1 : m ≤ 18446744073709551615) (hn : n < 64) :
    Calls Try.prog 72 #[.int .u64 m, .int .i64 (n : Int), .func (.func 73) #[] #[]] w fun e w' => e = .returned (.int .u64 (word (put (bit m) n true))) ∧ w = w' := by
  go_enter Try.func72, Try.ntmps72
  go_wp2_with (first
    | (go_at_call 82; refine (fits_in n _ hn).mono ?_; rintro e w' ⟨rfl, rfl⟩)
    | (go_at_call 73; refine (wset_any m n _ m0 m1 hn).mono ?_; rintro e w' ⟨rfl, rfl⟩))
  go_ret
  exact ⟨rfl, rfl⟩
theorem change_clear (m : Int) (n : Nat) (w : World) (m0 : 0 ≤ m) (m1 : m ≤ 18446744073709551615) (hn : n < 64) :
    Calls Try.prog 72 #[.int .u64 m, .int .i64 (n : Int), .func (.func 79) #[] #[]] w fun e w' => e = .returned (.int .u64 (word (put (bit m) n false))) ∧ w = w' := by
  go_enter Try.func72, Try.ntmps72
  go_wp2_with (first
    | (go_at_call 82; refine (fits_in n _ hn).mono ?_; rintro e w' ⟨rfl, rfl⟩)
    | (go_at_call 79; refine (wclear_any m n _ m0 m1 hn).mono ?_; rintro e w' ⟨rfl, rfl⟩))
  go_ret
  exact ⟨rfl, rfl⟩
theorem change_out (m i : Int) (F : Value) (w : World) (h : i < 0 ∨ 63 < i) :
    Calls Try.prog 72 #[.int .u64 m, .int .i64 i, F] w fun e w' => e = .returned (.int .u64 m) ∧ w = w' := by
  go_enter Try.func72, Try.ntmps72
  go_wp2_with (go_at_call 82; refine (fits_out i _ h).mono ?_; rintro e w' ⟨rfl, rfl⟩)
  go_ret
  exact ⟨rfl, rfl⟩
theorem set_in (m : Int) (n : Nat) (w : World) (m0 : 0 ≤ m) (m1 : m ≤ 18446744073709551615) (hn : n < 64) :
    Calls Try.prog 62 #[.int .u64 m, .int .i64 (n : Int)] w fun e w' => e = .returned (.int .u64 (word (put (bit m) n true))) ∧ w = w' := by
  go_enter Try.func62, Try.ntmps62
  go_wp2_with (go_at_call 72; refine (change_set m n _ m0 m1 hn).mono ?_; rintro e w' ⟨rfl, rfl⟩)
  go_ret
  exact ⟨rfl, rfl⟩
theorem set_out (m i : Int) (w : World) (h : i < 0 ∨ 63 < i) :
    Calls Try.prog 62 #[.int .u64 m, .int .i64 i] w fun e w' => e = .returned (.int .u64 m) ∧ w = w' := by
  go_enter Try.func62, Try.ntmps62
  go_wp2_with (go_at_call 72; refine (change_out m i _ _ h).mono ?_; rintro e w' ⟨rfl, rfl⟩)
  go_ret
  exact ⟨rfl, rfl⟩
theorem clear_in (m : Int) (n : Nat) (w : World) (m0 : 0 ≤ m) (m1 : m ≤ 18446744073709551615) (hn : n < 64) :
    Calls Try.prog 67 #[.int .u64 m, .int .i64 (n : Int)] w fun e w' => e = .returned (.int .u64 (word (put (bit m) n false))) ∧ w = w' := by
  go_enter Try.func67, Try.ntmps67
  go_wp2_with (go_at_call 72; refine (change_clear m n _ m0 m1 hn).mono ?_; rintro e w' ⟨rfl, rfl⟩)
  go_ret
  exact ⟨rfl, rfl⟩
theorem clear_out (m i : Int) (w : World) (h : i < 0 ∨ 63 < i) :
    Calls Try.prog 67 #[.int .u64 m, .int .i64 i] w fun e w' => e = .returned (.int .u64 m) ∧ w = w' := by
  go_enter Try.func67, Try.ntmps67
  go_wp2_with (go_at_call 72; refine (change_out m i _ _ h).mono ?_; rintro e w' ⟨rfl, rfl⟩)
  go_ret
  exact ⟨rfl, rfl⟩
theorem ones_any (x : Int) (w : World) (m0 : 0 ≤ x) (m1 : x ≤ 18446744073709551615) :
    Calls Try.prog 83 #[.int .u64 x] w fun e w' => e = .returned (.int .i64 (nums (bit x)).length) ∧ w = w' := by
  go_enter Try.func83, Try.ntmps83
  go_wp2_with fail
  go_ret
  exact ⟨ret_int (count_len x m0 m1), rfl⟩
theorem count_any (x : Int) (w : World) (m0 : 0 ≤ x) (m1 : x ≤ 18446744073709551615) :
    Calls Try.prog 74 #[.int .u64 x] w fun e w' => e = .returned (.int .i64 (nums (bit x)).length) ∧ w = w' := by
  go_enter Try.func74, Try.ntmps74
  go_wp2_with (go_at_call 83; refine (ones_any _ _ m0 m1).mono ?_; rintro e w' ⟨rfl, rfl⟩)
  go_ret
  exact ⟨rfl, rfl⟩
theorem table_any (t : TypeId) (ht : Try.prog.underlying t = some .string) (i : Int) (h0 : 0 ≤ i) (h1 : i ≤ 255) (w : World) : (Instr.index t (.string Lib.len8tab) (.int .u8 i)).run Try.prog w = .ok (.int .u8 (Lib.bitLen i.toNat)) w := by
  rw [Lib.run_index_len8tab w t .u8 i ht h0 h1, Lib.len8_of i h0 h1]
theorem len_le (x : Int) (h0 : 0 ≤ x) (h1 : x ≤ 255) : 0 ≤ (Lib.bitLen x.toNat : Int) ∧ (Lib.bitLen x.toNat : Int) ≤ 8 := by
  have := Lib.bitLen_le8' x h0 h1
  omega
set_option maxHeartbeats 4000000 in
set_option maxRecDepth 100000 in
theorem len64_any (x : Int) (w : World) (h0 : 0 ≤ x) (h1 : x ≤ 18446744073709551615) :
    Calls Try.prog 80 #[.int .u64 x] w fun e w' => e = .returned (.int .i64 (Lib.bitLen x.toNat)) ∧ w = w' := by
  by_cases a : 4294967296 ≤ x
  · by_cases b : 65536 ≤ x / 4294967296
    · by_cases c : 256 ≤ x / 4294967296 / 65536
      · have t := table_any _ Try.underlying9 (x / 4294967296 / 65536 / 256) (by omega) (by omega)
        have l := len_le (x / 4294967296 / 65536 / 256) (by omega) (by omega)
        have s := Lib.bitLen_shift56 x.toNat (by omega) (by omega)
        rw [show x.toNat / 72057594037927936 = (x / 4294967296 / 65536 / 256).toNat from by omega] at s
        have S := hide s
        clear s
        go_enter Try.func80, Try.ntmps80
        go_wp2_with fail
        go_ret
        exact ⟨ret_int (by rw [S.out]; omega), rfl⟩
      · have t := table_any _ Try.underlying9 (x / 4294967296 / 65536) (by omega) (by omega)
        have l := len_le (x / 4294967296 / 65536) (by omega) (by omega)
        have s := Lib.bitLen_shift48 x.toNat (by omega) (by omega)
        rw [show x.toNat / 281474976710656 = (x / 4294967296 / 65536).toNat from by omega] at s
        have S := hide s
        clear s
        go_enter Try.func80, Try.ntmps80
        go_wp2_with fail
        go_ret
        exact ⟨ret_int (by rw [S.out]; omega), rfl⟩
    · by_cases c : 256 ≤ x / 4294967296
      · have t := table_any _ Try.underlying9 (x / 4294967296 / 256) (by omega) (by omega)
        have l := len_le (x / 4294967296 / 256) (by omega) (by omega)
        have s := Lib.bitLen_shift40 x.toNat (by omega) (by omega)
        rw [show x.toNat / 1099511627776 = (x / 4294967296 / 256).toNat from by omega] at s
        have S := hide s
        clear s
        go_enter Try.func80, Try.ntmps80
        go_wp2_with fail
        go_ret
        exact ⟨ret_int (by rw [S.out]; omega), rfl⟩
      · have t := table_any _ Try.underlying9 (x / 4294967296) (by omega) (by omega)
        have l := len_le (x / 4294967296) (by omega) (by omega)
        have s := Lib.bitLen_shift32 x.toNat (by omega) (by omega)
        rw [show x.toNat / 4294967296 = (x / 4294967296).toNat from by omega] at s
        have S := hide s
        clear s
        go_enter Try.func80, Try.ntmps80
        go_wp2_with fail
        go_ret
        exact ⟨ret_int (by rw [S.out]; omega), rfl⟩
  · by_cases b : 65536 ≤ x
    · by_cases c : 256 ≤ x / 65536
      · have t := table_any _ Try.underlying9 (x / 65536 / 256) (by omega) (by omega)
        have l := len_le (x / 65536 / 256) (by omega) (by omega)
        have s := Lib.bitLen_shift24 x.toNat (by omega) (by omega)
        rw [show x.toNat / 16777216 = (x / 65536 / 256).toNat from by omega] at s
        have S := hide s
        clear s
        go_enter Try.func80, Try.ntmps80
        go_wp2_with fail
        go_ret
        exact ⟨ret_int (by rw [S.out]; omega), rfl⟩
      · have t := table_any _ Try.underlying9 (x / 65536) (by omega) (by omega)
        have l := len_le (x / 65536) (by omega) (by omega)
        have s := Lib.bitLen_shift16 x.toNat (by omega) (by omega)
        rw [show x.toNat / 65536 = (x / 65536).toNat from by omega] at s
        have S := hide s
        clear s
        go_enter Try.func80, Try.ntmps80
        go_wp2_with fail
        go_ret
        exact ⟨ret_int (by rw [S.out]; omega), rfl⟩
    · by_cases c : 256 ≤ x
      · have t := table_any _ Try.underlying9 (x / 256) (by omega) (by omega)
        have l := len_le (x / 256) (by omega) (by omega)
        have s := Lib.bitLen_shift8 x.toNat (by omega) (by omega)
        rw [show x.toNat / 256 = (x / 256).toNat from by omega] at s
        have S := hide s
        clear s
        go_enter Try.func80, Try.ntmps80
        go_wp2_with fail
        go_ret
        exact ⟨ret_int (by rw [S.out]; omega), rfl⟩
      · have t := table_any _ Try.underlying9 (x) (by omega) (by omega)
        have l := len_le (x) (by omega) (by omega)
        go_enter Try.func80, Try.ntmps80
        go_wp2_with fail
        go_ret
        exact ⟨rfl, rfl⟩
theorem top_any (x : Int) (w : World) (m0 : 0 ≤ x) (m1 : x ≤ 18446744073709551615) :
    Calls Try.prog 68 #[.int .u64 x] w fun e w' => e = .returned (.int .i64 (topOf x)) ∧ w = w' := by
  have l : Lib.bitLen x.toNat ≤ 64 := Lib.bitLen_le _ 64 (by omega) (by omega)
  go_enter Try.func68, Try.ntmps68
  go_wp2_with (go_at_call 80; refine (len64_any _ _ m0 m1).mono ?_; rintro e w' ⟨rfl, rfl⟩)
  go_ret
  exact ⟨rfl, rfl⟩
end Go.Proofs.Ytccokhalcdljiaa
