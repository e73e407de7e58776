/-
  The program's has: whether a call or a step is of a form.
-/
import Derived.Test.YthgoifmmnebkeaaPgMay
namespace Go.Proofs.Ythgoifmmnebkeaa
open Go.ChangeShapes Go.WideShapes Go.ChangeAt Go.RowKit
set_option linter.unusedVariables false
set_option maxRecDepth 10000 in
set_option maxHeartbeats 8000000 in
theorem has_open (w : World) (n a b : Int) (s t : ByteArray) (n' a' b' : Int) (s' t' : ByteArray) (ok : Bool)
    (K : Hid (∀ W : World, Below w.heap.size w W → Calls Try.prog 29 #[.agg #[.int .i64 n, .int .i64 a, .int .i64 b, .string s, .string t]] W fun e w' => e = .returned (.tuple #[.agg #[.int .i64 n', .int .i64 a', .int .i64 b', .string s', .string t'], .bool ok]) ∧ Below W.heap.size W w')) :
    Calls Try.prog 22 #[.agg #[.int .i64 n, .int .i64 a, .int .i64 b, .string s, .string t], .func (.func 29) #[] #[]] w fun e w' => e = .returned (.bool (ok && eqCl ⟨n', a', b', s', t'⟩ ⟨n, a, b, s, t⟩)) ∧ Below w.heap.size w w' := by
  obtain ⟨q, hq⟩ : ∃ q : Bool, q = eqCl ⟨n', a', b', s', t'⟩ ⟨n, a, b, s, t⟩ := ⟨_, rfl⟩
  rw [← hq]
  have E := hide (show ∀ W, (binOp .eql 23 (.agg #[.int .i64 n', .int .i64 a', .int .i64 b', .string s', .string t']) (.agg #[.int .i64 n, .int .i64 a, .int .i64 b, .string s, .string t])).run Try.prog W = .ok (.bool q) W from fun W => by rw [hq]; exact call_eql W ⟨n', a', b', s', t'⟩ ⟨n, a, b, s, t⟩)
  clear hq
  obtain ⟨w1, hw1⟩ : ∃ w1, w1 = w.alloc (.cells #[.int .i64 n, .int .i64 a, .int .i64 b, .string s, .string t] 23) := ⟨_, rfl⟩
  have X1 := hide (show ClAt w1 w.heap.size n a b s t from by rw [hw1]; exact heap_alloc_new w _)
  have B1 := hide (show Below w.heap.size w w1 from by rw [hw1]; exact (Below.refl w.heap.size w).alloc (Nat.le_refl _) _)
  have HW := hide hw1
  clear hw1
  go_enter Try.func22, Try.ntmps22
  go_upto_region 1 with fail
  rw [← HW.out]
  obtain ⟨X, hX⟩ : ∃ X, X = w.heap.size := ⟨_, rfl⟩
  rw [← hX] at X1 ⊢
  clear hX HW
  obtain ⟨c0, c1, c2, c3, c4⟩ := X1.out.cells
  go_upto_region 2 with (first | (go_at_call 29; refine (K.out _ B1.out).mono ?_; rintro e w2 ⟨rfl, b2⟩; have X2 := hide (show ClAt w2 X n a b s t from (b2.block X (lt_of_heap X1.out)).trans X1.out); have B2 := hide (show Below w.heap.size w w2 from B1.out.trans (b2.mono B1.out.size)); clear b2 c0 c1 c2 c3 c4))
  obtain ⟨w3, hw3⟩ : ∃ w3, w3 = w2.alloc (.cells #[.int .i64 n', .int .i64 a', .int .i64 b', .string s', .string t'] 23) := ⟨_, rfl⟩
  obtain ⟨Y, hY⟩ : ∃ Y, Y = w2.heap.size := ⟨_, rfl⟩
  rw [← hw3, ← hY]
  have Y3 := hide (show ClAt w3 Y n' a' b' s' t' from by rw [hw3, hY]; exact heap_alloc_new w2 _)
  have b3 : Below w2.heap.size w2 w3 := by rw [hw3]; exact (Below.refl _ w2).alloc (Nat.le_refl _) _
  have X3 := hide (show ClAt w3 X n a b s t from (b3.block X (lt_of_heap X2.out)).trans X2.out)
  have B3 := hide (B2.out.trans (b3.mono B2.out.size))
  clear hw3 hY b3
  obtain ⟨c0, c1, c2, c3, c4⟩ := X3.out.cells
  obtain ⟨d0, d1, d2, d3, d4⟩ := Y3.out.cells
  have e1 := E.out
  cases ok with
  | false =>
    go_wp2_with fail
    go_ret
    exact ⟨ret_bool (by simp), B3.out⟩
  | true =>
    go_wp2_with fail
    go_ret
    exact ⟨ret_bool (by simp), B3.out⟩
set_option maxRecDepth 10000 in
set_option maxHeartbeats 8000000 in
theorem has_number (w : World) (n a b : Int) (s t : ByteArray) (n' a' b' : Int) (s' t' : ByteArray) (ok : Bool) (hP : Addr)
    (K : Hid (∀ W : World, Below w.heap.size w W → Calls Try.prog 40 #[.agg #[.int .i64 n, .int .i64 a, .int .i64 b, .string s, .string t], .pointer (some hP)] W fun e w' => e = .returned (.tuple #[.agg #[.int .i64 n', .int .i64 a', .int .i64 b', .string s', .string t'], .bool ok]) ∧ Below W.heap.size W w')) :
    Calls Try.prog 22 #[.agg #[.int .i64 n, .int .i64 a, .int .i64 b, .string s, .string t], .func (.func 40) #[] #[.pointer (some hP)]] w fun e w' => e = .returned (.bool (ok && eqCl ⟨n', a', b', s', t'⟩ ⟨n, a, b, s, t⟩)) ∧ Below w.heap.size w w' := by
  obtain ⟨q, hq⟩ : ∃ q : Bool, q = eqCl ⟨n', a', b', s', t'⟩ ⟨n, a, b, s, t⟩ := ⟨_, rfl⟩
  rw [← hq]
  have E := hide (show ∀ W, (binOp .eql 23 (.agg #[.int .i64 n', .int .i64 a', .int .i64 b', .string s', .string t']) (.agg #[.int .i64 n, .int .i64 a, .int .i64 b, .string s, .string t])).run Try.prog W = .ok (.bool q) W from fun W => by rw [hq]; exact call_eql W ⟨n', a', b', s', t'⟩ ⟨n, a, b, s, t⟩)
  clear hq
  obtain ⟨w1, hw1⟩ : ∃ w1, w1 = w.alloc (.cells #[.int .i64 n, .int .i64 a, .int .i64 b, .string s, .string t] 23) := ⟨_, rfl⟩
  have X1 := hide (show ClAt w1 w.heap.size n a b s t from by rw [hw1]; exact heap_alloc_new w _)
  have B1 := hide (show Below w.heap.size w w1 from by rw [hw1]; exact (Below.refl w.heap.size w).alloc (Nat.le_refl _) _)
  have HW := hide hw1
  clear hw1
  go_enter Try.func22, Try.ntmps22
  go_upto_region 1 with fail
  rw [← HW.out]
  obtain ⟨X, hX⟩ : ∃ X, X = w.heap.size := ⟨_, rfl⟩
  rw [← hX] at X1 ⊢
  clear hX HW
  obtain ⟨c0, c1, c2, c3, c4⟩ := X1.out.cells
  go_upto_region 2 with (first | (go_at_call 40; refine (K.out _ B1.out).mono ?_; rintro e w2 ⟨rfl, b2⟩; have X2 := hide (show ClAt w2 X n a b s t from (b2.block X (lt_of_heap X1.out)).trans X1.out); have B2 := hide (show Below w.heap.size w w2 from B1.out.trans (b2.mono B1.out.size)); clear b2 c0 c1 c2 c3 c4))
  obtain ⟨w3, hw3⟩ : ∃ w3, w3 = w2.alloc (.cells #[.int .i64 n', .int .i64 a', .int .i64 b', .string s', .string t'] 23) := ⟨_, rfl⟩
  obtain ⟨Y, hY⟩ : ∃ Y, Y = w2.heap.size := ⟨_, rfl⟩
  rw [← hw3, ← hY]
  have Y3 := hide (show ClAt w3 Y n' a' b' s' t' from by rw [hw3, hY]; exact heap_alloc_new w2 _)
  have b3 : Below w2.heap.size w2 w3 := by rw [hw3]; exact (Below.refl _ w2).alloc (Nat.le_refl _) _
  have X3 := hide (show ClAt w3 X n a b s t from (b3.block X (lt_of_heap X2.out)).trans X2.out)
  have B3 := hide (B2.out.trans (b3.mono B2.out.size))
  clear hw3 hY b3
  obtain ⟨c0, c1, c2, c3, c4⟩ := X3.out.cells
  obtain ⟨d0, d1, d2, d3, d4⟩ := Y3.out.cells
  have e1 := E.out
  cases ok with
  | false =>
    go_wp2_with fail
    go_ret
    exact ⟨ret_bool (by simp), B3.out⟩
  | true =>
    go_wp2_with fail
    go_ret
    exact ⟨ret_bool (by simp), B3.out⟩
set_option maxRecDepth 10000 in
set_option maxHeartbeats 8000000 in
theorem has_span (w : World) (n a b : Int) (s t : ByteArray) (n' a' b' : Int) (s' t' : ByteArray) (ok : Bool)
    (K : Hid (∀ W : World, Below w.heap.size w W → Calls Try.prog 31 #[.agg #[.int .i64 n, .int .i64 a, .int .i64 b, .string s, .string t]] W fun e w' => e = .returned (.tuple #[.agg #[.int .i64 n', .int .i64 a', .int .i64 b', .string s', .string t'], .bool ok]) ∧ Below W.heap.size W w')) :
    Calls Try.prog 22 #[.agg #[.int .i64 n, .int .i64 a, .int .i64 b, .string s, .string t], .func (.func 31) #[] #[]] w fun e w' => e = .returned (.bool (ok && eqCl ⟨n', a', b', s', t'⟩ ⟨n, a, b, s, t⟩)) ∧ Below w.heap.size w w' := by
  obtain ⟨q, hq⟩ : ∃ q : Bool, q = eqCl ⟨n', a', b', s', t'⟩ ⟨n, a, b, s, t⟩ := ⟨_, rfl⟩
  rw [← hq]
  have E := hide (show ∀ W, (binOp .eql 23 (.agg #[.int .i64 n', .int .i64 a', .int .i64 b', .string s', .string t']) (.agg #[.int .i64 n, .int .i64 a, .int .i64 b, .string s, .string t])).run Try.prog W = .ok (.bool q) W from fun W => by rw [hq]; exact call_eql W ⟨n', a', b', s', t'⟩ ⟨n, a, b, s, t⟩)
  clear hq
  obtain ⟨w1, hw1⟩ : ∃ w1, w1 = w.alloc (.cells #[.int .i64 n, .int .i64 a, .int .i64 b, .string s, .string t] 23) := ⟨_, rfl⟩
  have X1 := hide (show ClAt w1 w.heap.size n a b s t from by rw [hw1]; exact heap_alloc_new w _)
  have B1 := hide (show Below w.heap.size w w1 from by rw [hw1]; exact (Below.refl w.heap.size w).alloc (Nat.le_refl _) _)
  have HW := hide hw1
  clear hw1
  go_enter Try.func22, Try.ntmps22
  go_upto_region 1 with fail
  rw [← HW.out]
  obtain ⟨X, hX⟩ : ∃ X, X = w.heap.size := ⟨_, rfl⟩
  rw [← hX] at X1 ⊢
  clear hX HW
  obtain ⟨c0, c1, c2, c3, c4⟩ := X1.out.cells
  go_upto_region 2 with (first | (go_at_call 31; refine (K.out _ B1.out).mono ?_; rintro e w2 ⟨rfl, b2⟩; have X2 := hide (show ClAt w2 X n a b s t from (b2.block X (lt_of_heap X1.out)).trans X1.out); have B2 := hide (show Below w.heap.size w w2 from B1.out.trans (b2.mono B1.out.size)); clear b2 c0 c1 c2 c3 c4))
  obtain ⟨w3, hw3⟩ : ∃ w3, w3 = w2.alloc (.cells #[.int .i64 n', .int .i64 a', .int .i64 b', .string s', .string t'] 23) := ⟨_, rfl⟩
  obtain ⟨Y, hY⟩ : ∃ Y, Y = w2.heap.size := ⟨_, rfl⟩
  rw [← hw3, ← hY]
  have Y3 := hide (show ClAt w3 Y n' a' b' s' t' from by rw [hw3, hY]; exact heap_alloc_new w2 _)
  have b3 : Below w2.heap.size w2 w3 := by rw [hw3]; exact (Below.refl _ w2).alloc (Nat.le_refl _) _
  have X3 := hide (show ClAt w3 X n a b s t from (b3.block X (lt_of_heap X2.out)).trans X2.out)
  have B3 := hide (B2.out.trans (b3.mono B2.out.size))
  clear hw3 hY b3
  obtain ⟨c0, c1, c2, c3, c4⟩ := X3.out.cells
  obtain ⟨d0, d1, d2, d3, d4⟩ := Y3.out.cells
  have e1 := E.out
  cases ok with
  | false =>
    go_wp2_with fail
    go_ret
    exact ⟨ret_bool (by simp), B3.out⟩
  | true =>
    go_wp2_with fail
    go_ret
    exact ⟨ret_bool (by simp), B3.out⟩
set_option maxRecDepth 10000 in
set_option maxHeartbeats 8000000 in
theorem has_write (w : World) (n a b : Int) (s t : ByteArray) (n' a' b' : Int) (s' t' : ByteArray) (ok : Bool)
    (K : Hid (∀ W : World, Below w.heap.size w W → Calls Try.prog 32 #[.agg #[.int .i64 n, .int .i64 a, .int .i64 b, .string s, .string t]] W fun e w' => e = .returned (.tuple #[.agg #[.int .i64 n', .int .i64 a', .int .i64 b', .string s', .string t'], .bool ok]) ∧ Below W.heap.size W w')) :
    Calls Try.prog 22 #[.agg #[.int .i64 n, .int .i64 a, .int .i64 b, .string s, .string t], .func (.func 32) #[] #[]] w fun e w' => e = .returned (.bool (ok && eqCl ⟨n', a', b', s', t'⟩ ⟨n, a, b, s, t⟩)) ∧ Below w.heap.size w w' := by
  obtain ⟨q, hq⟩ : ∃ q : Bool, q = eqCl ⟨n', a', b', s', t'⟩ ⟨n, a, b, s, t⟩ := ⟨_, rfl⟩
  rw [← hq]
  have E := hide (show ∀ W, (binOp .eql 23 (.agg #[.int .i64 n', .int .i64 a', .int .i64 b', .string s', .string t']) (.agg #[.int .i64 n, .int .i64 a, .int .i64 b, .string s, .string t])).run Try.prog W = .ok (.bool q) W from fun W => by rw [hq]; exact call_eql W ⟨n', a', b', s', t'⟩ ⟨n, a, b, s, t⟩)
  clear hq
  obtain ⟨w1, hw1⟩ : ∃ w1, w1 = w.alloc (.cells #[.int .i64 n, .int .i64 a, .int .i64 b, .string s, .string t] 23) := ⟨_, rfl⟩
  have X1 := hide (show ClAt w1 w.heap.size n a b s t from by rw [hw1]; exact heap_alloc_new w _)
  have B1 := hide (show Below w.heap.size w w1 from by rw [hw1]; exact (Below.refl w.heap.size w).alloc (Nat.le_refl _) _)
  have HW := hide hw1
  clear hw1
  go_enter Try.func22, Try.ntmps22
  go_upto_region 1 with fail
  rw [← HW.out]
  obtain ⟨X, hX⟩ : ∃ X, X = w.heap.size := ⟨_, rfl⟩
  rw [← hX] at X1 ⊢
  clear hX HW
  obtain ⟨c0, c1, c2, c3, c4⟩ := X1.out.cells
  go_upto_region 2 with (first | (go_at_call 32; refine (K.out _ B1.out).mono ?_; rintro e w2 ⟨rfl, b2⟩; have X2 := hide (show ClAt w2 X n a b s t from (b2.block X (lt_of_heap X1.out)).trans X1.out); have B2 := hide (show Below w.heap.size w w2 from B1.out.trans (b2.mono B1.out.size)); clear b2 c0 c1 c2 c3 c4))
  obtain ⟨w3, hw3⟩ : ∃ w3, w3 = w2.alloc (.cells #[.int .i64 n', .int .i64 a', .int .i64 b', .string s', .string t'] 23) := ⟨_, rfl⟩
  obtain ⟨Y, hY⟩ : ∃ Y, Y = w2.heap.size := ⟨_, rfl⟩
  rw [← hw3, ← hY]
  have Y3 := hide (show ClAt w3 Y n' a' b' s' t' from by rw [hw3, hY]; exact heap_alloc_new w2 _)
  have b3 : Below w2.heap.size w2 w3 := by rw [hw3]; exact (Below.refl _ w2).alloc (Nat.le_refl _) _
  have X3 := hide (show ClAt w3 X n a b s t from (b3.block X (lt_of_heap X2.out)).trans X2.out)
  have B3 := hide (B2.out.trans (b3.mono B2.out.size))
  clear hw3 hY b3
  obtain ⟨c0, c1, c2, c3, c4⟩ := X3.out.cells
  obtain ⟨d0, d1, d2, d3, d4⟩ := Y3.out.cells
  have e1 := E.out
  cases ok with
  | false =>
    go_wp2_with fail
    go_ret
    exact ⟨ret_bool (by simp), B3.out⟩
  | true =>
    go_wp2_with fail
    go_ret
    exact ⟨ret_bool (by simp), B3.out⟩
set_option maxRecDepth 10000 in
set_option maxHeartbeats 8000000 in
theorem has_link (w : World) (n a b : Int) (s t : ByteArray) (n' a' b' : Int) (s' t' : ByteArray) (ok : Bool)
    (K : Hid (∀ W : World, Below w.heap.size w W → Calls Try.prog 33 #[.agg #[.int .i64 n, .int .i64 a, .int .i64 b, .string s, .string t]] W fun e w' => e = .returned (.tuple #[.agg #[.int .i64 n', .int .i64 a', .int .i64 b', .string s', .string t'], .bool ok]) ∧ Below W.heap.size W w')) :
    Calls Try.prog 22 #[.agg #[.int .i64 n, .int .i64 a, .int .i64 b, .string s, .string t], .func (.func 33) #[] #[]] w fun e w' => e = .returned (.bool (ok && eqCl ⟨n', a', b', s', t'⟩ ⟨n, a, b, s, t⟩)) ∧ Below w.heap.size w w' := by
  obtain ⟨q, hq⟩ : ∃ q : Bool, q = eqCl ⟨n', a', b', s', t'⟩ ⟨n, a, b, s, t⟩ := ⟨_, rfl⟩
  rw [← hq]
  have E := hide (show ∀ W, (binOp .eql 23 (.agg #[.int .i64 n', .int .i64 a', .int .i64 b', .string s', .string t']) (.agg #[.int .i64 n, .int .i64 a, .int .i64 b, .string s, .string t])).run Try.prog W = .ok (.bool q) W from fun W => by rw [hq]; exact call_eql W ⟨n', a', b', s', t'⟩ ⟨n, a, b, s, t⟩)
  clear hq
  obtain ⟨w1, hw1⟩ : ∃ w1, w1 = w.alloc (.cells #[.int .i64 n, .int .i64 a, .int .i64 b, .string s, .string t] 23) := ⟨_, rfl⟩
  have X1 := hide (show ClAt w1 w.heap.size n a b s t from by rw [hw1]; exact heap_alloc_new w _)
  have B1 := hide (show Below w.heap.size w w1 from by rw [hw1]; exact (Below.refl w.heap.size w).alloc (Nat.le_refl _) _)
  have HW := hide hw1
  clear hw1
  go_enter Try.func22, Try.ntmps22
  go_upto_region 1 with fail
  rw [← HW.out]
  obtain ⟨X, hX⟩ : ∃ X, X = w.heap.size := ⟨_, rfl⟩
  rw [← hX] at X1 ⊢
  clear hX HW
  obtain ⟨c0, c1, c2, c3, c4⟩ := X1.out.cells
  go_upto_region 2 with (first | (go_at_call 33; refine (K.out _ B1.out).mono ?_; rintro e w2 ⟨rfl, b2⟩; have X2 := hide (show ClAt w2 X n a b s t from (b2.block X (lt_of_heap X1.out)).trans X1.out); have B2 := hide (show Below w.heap.size w w2 from B1.out.trans (b2.mono B1.out.size)); clear b2 c0 c1 c2 c3 c4))
  obtain ⟨w3, hw3⟩ : ∃ w3, w3 = w2.alloc (.cells #[.int .i64 n', .int .i64 a', .int .i64 b', .string s', .string t'] 23) := ⟨_, rfl⟩
  obtain ⟨Y, hY⟩ : ∃ Y, Y = w2.heap.size := ⟨_, rfl⟩
  rw [← hw3, ← hY]
  have Y3 := hide (show ClAt w3 Y n' a' b' s' t' from by rw [hw3, hY]; exact heap_alloc_new w2 _)
  have b3 : Below w2.heap.size w2 w3 := by rw [hw3]; exact (Below.refl _ w2).alloc (Nat.le_refl _) _
  have X3 := hide (show ClAt w3 X n a b s t from (b3.block X (lt_of_heap X2.out)).trans X2.out)
  have B3 := hide (B2.out.trans (b3.mono B2.out.size))
  clear hw3 hY b3
  obtain ⟨c0, c1, c2, c3, c4⟩ := X3.out.cells
  obtain ⟨d0, d1, d2, d3, d4⟩ := Y3.out.cells
  have e1 := E.out
  cases ok with
  | false =>
    go_wp2_with fail
    go_ret
    exact ⟨ret_bool (by simp), B3.out⟩
  | true =>
    go_wp2_with fail
    go_ret
    exact ⟨ret_bool (by simp), B3.out⟩
set_option maxRecDepth 10000 in
set_option maxHeartbeats 8000000 in
theorem has_path (w : World) (n a b : Int) (s t : ByteArray) (n' a' b' : Int) (s' t' : ByteArray) (ok : Bool)
    (K : Hid (∀ W : World, Below w.heap.size w W → Calls Try.prog 34 #[.agg #[.int .i64 n, .int .i64 a, .int .i64 b, .string s, .string t]] W fun e w' => e = .returned (.tuple #[.agg #[.int .i64 n', .int .i64 a', .int .i64 b', .string s', .string t'], .bool ok]) ∧ Below W.heap.size W w')) :
    Calls Try.prog 22 #[.agg #[.int .i64 n, .int .i64 a, .int .i64 b, .string s, .string t], .func (.func 34) #[] #[]] w fun e w' => e = .returned (.bool (ok && eqCl ⟨n', a', b', s', t'⟩ ⟨n, a, b, s, t⟩)) ∧ Below w.heap.size w w' := by
  obtain ⟨q, hq⟩ : ∃ q : Bool, q = eqCl ⟨n', a', b', s', t'⟩ ⟨n, a, b, s, t⟩ := ⟨_, rfl⟩
  rw [← hq]
  have E := hide (show ∀ W, (binOp .eql 23 (.agg #[.int .i64 n', .int .i64 a', .int .i64 b', .string s', .string t']) (.agg #[.int .i64 n, .int .i64 a, .int .i64 b, .string s, .string t])).run Try.prog W = .ok (.bool q) W from fun W => by rw [hq]; exact call_eql W ⟨n', a', b', s', t'⟩ ⟨n, a, b, s, t⟩)
  clear hq
  obtain ⟨w1, hw1⟩ : ∃ w1, w1 = w.alloc (.cells #[.int .i64 n, .int .i64 a, .int .i64 b, .string s, .string t] 23) := ⟨_, rfl⟩
  have X1 := hide (show ClAt w1 w.heap.size n a b s t from by rw [hw1]; exact heap_alloc_new w _)
  have B1 := hide (show Below w.heap.size w w1 from by rw [hw1]; exact (Below.refl w.heap.size w).alloc (Nat.le_refl _) _)
  have HW := hide hw1
  clear hw1
  go_enter Try.func22, Try.ntmps22
  go_upto_region 1 with fail
  rw [← HW.out]
  obtain ⟨X, hX⟩ : ∃ X, X = w.heap.size := ⟨_, rfl⟩
  rw [← hX] at X1 ⊢
  clear hX HW
  obtain ⟨c0, c1, c2, c3, c4⟩ := X1.out.cells
  go_upto_region 2 with (first | (go_at_call 34; refine (K.out _ B1.out).mono ?_; rintro e w2 ⟨rfl, b2⟩; have X2 := hide (show ClAt w2 X n a b s t from (b2.block X (lt_of_heap X1.out)).trans X1.out); have B2 := hide (show Below w.heap.size w w2 from B1.out.trans (b2.mono B1.out.size)); clear b2 c0 c1 c2 c3 c4))
  obtain ⟨w3, hw3⟩ : ∃ w3, w3 = w2.alloc (.cells #[.int .i64 n', .int .i64 a', .int .i64 b', .string s', .string t'] 23) := ⟨_, rfl⟩
  obtain ⟨Y, hY⟩ : ∃ Y, Y = w2.heap.size := ⟨_, rfl⟩
  rw [← hw3, ← hY]
  have Y3 := hide (show ClAt w3 Y n' a' b' s' t' from by rw [hw3, hY]; exact heap_alloc_new w2 _)
  have b3 : Below w2.heap.size w2 w3 := by rw [hw3]; exact (Below.refl _ w2).alloc (Nat.le_refl _) _
  have X3 := hide (show ClAt w3 X n a b s t from (b3.block X (lt_of_heap X2.out)).trans X2.out)
  have B3 := hide (B2.out.trans (b3.mono B2.out.size))
  clear hw3 hY b3
  obtain ⟨c0, c1, c2, c3, c4⟩ := X3.out.cells
  obtain ⟨d0, d1, d2, d3, d4⟩ := Y3.out.cells
  have e1 := E.out
  cases ok with
  | false =>
    go_wp2_with fail
    go_ret
    exact ⟨ret_bool (by simp), B3.out⟩
  | true =>
    go_wp2_with fail
    go_ret
    exact ⟨ret_bool (by simp), B3.out⟩
set_option maxRecDepth 10000 in
set_option maxHeartbeats 8000000 in
theorem has_bare (w : World) (n a b : Int) (s t : ByteArray) (n' a' b' : Int) (s' t' : ByteArray) (ok : Bool)
    (K : Hid (∀ W : World, Below w.heap.size w W → Calls Try.prog 35 #[.agg #[.int .i64 n, .int .i64 a, .int .i64 b, .string s, .string t]] W fun e w' => e = .returned (.tuple #[.agg #[.int .i64 n', .int .i64 a', .int .i64 b', .string s', .string t'], .bool ok]) ∧ Below W.heap.size W w')) :
    Calls Try.prog 22 #[.agg #[.int .i64 n, .int .i64 a, .int .i64 b, .string s, .string t], .func (.func 35) #[] #[]] w fun e w' => e = .returned (.bool (ok && eqCl ⟨n', a', b', s', t'⟩ ⟨n, a, b, s, t⟩)) ∧ Below w.heap.size w w' := by
  obtain ⟨q, hq⟩ : ∃ q : Bool, q = eqCl ⟨n', a', b', s', t'⟩ ⟨n, a, b, s, t⟩ := ⟨_, rfl⟩
  rw [← hq]
  have E := hide (show ∀ W, (binOp .eql 23 (.agg #[.int .i64 n', .int .i64 a', .int .i64 b', .string s', .string t']) (.agg #[.int .i64 n, .int .i64 a, .int .i64 b, .string s, .string t])).run Try.prog W = .ok (.bool q) W from fun W => by rw [hq]; exact call_eql W ⟨n', a', b', s', t'⟩ ⟨n, a, b, s, t⟩)
  clear hq
  obtain ⟨w1, hw1⟩ : ∃ w1, w1 = w.alloc (.cells #[.int .i64 n, .int .i64 a, .int .i64 b, .string s, .string t] 23) := ⟨_, rfl⟩
  have X1 := hide (show ClAt w1 w.heap.size n a b s t from by rw [hw1]; exact heap_alloc_new w _)
  have B1 := hide (show Below w.heap.size w w1 from by rw [hw1]; exact (Below.refl w.heap.size w).alloc (Nat.le_refl _) _)
  have HW := hide hw1
  clear hw1
  go_enter Try.func22, Try.ntmps22
  go_upto_region 1 with fail
  rw [← HW.out]
  obtain ⟨X, hX⟩ : ∃ X, X = w.heap.size := ⟨_, rfl⟩
  rw [← hX] at X1 ⊢
  clear hX HW
  obtain ⟨c0, c1, c2, c3, c4⟩ := X1.out.cells
  go_upto_region 2 with (first | (go_at_call 35; refine (K.out _ B1.out).mono ?_; rintro e w2 ⟨rfl, b2⟩; have X2 := hide (show ClAt w2 X n a b s t from (b2.block X (lt_of_heap X1.out)).trans X1.out); have B2 := hide (show Below w.heap.size w w2 from B1.out.trans (b2.mono B1.out.size)); clear b2 c0 c1 c2 c3 c4))
  obtain ⟨w3, hw3⟩ : ∃ w3, w3 = w2.alloc (.cells #[.int .i64 n', .int .i64 a', .int .i64 b', .string s', .string t'] 23) := ⟨_, rfl⟩
  obtain ⟨Y, hY⟩ : ∃ Y, Y = w2.heap.size := ⟨_, rfl⟩
  rw [← hw3, ← hY]
  have Y3 := hide (show ClAt w3 Y n' a' b' s' t' from by rw [hw3, hY]; exact heap_alloc_new w2 _)
  have b3 : Below w2.heap.size w2 w3 := by rw [hw3]; exact (Below.refl _ w2).alloc (Nat.le_refl _) _
  have X3 := hide (show ClAt w3 X n a b s t from (b3.block X (lt_of_heap X2.out)).trans X2.out)
  have B3 := hide (B2.out.trans (b3.mono B2.out.size))
  clear hw3 hY b3
  obtain ⟨c0, c1, c2, c3, c4⟩ := X3.out.cells
  obtain ⟨d0, d1, d2, d3, d4⟩ := Y3.out.cells
  have e1 := E.out
  cases ok with
  | false =>
    go_wp2_with fail
    go_ret
    exact ⟨ret_bool (by simp), B3.out⟩
  | true =>
    go_wp2_with fail
    go_ret
    exact ⟨ret_bool (by simp), B3.out⟩
set_option maxRecDepth 10000 in
set_option maxHeartbeats 8000000 in
theorem has_strange (w : World) (n a b : Int) (s t : ByteArray) (n' a' b' : Int) (s' t' : ByteArray) (ok : Bool)
    (K : Hid (∀ W : World, Below w.heap.size w W → Calls Try.prog 36 #[.agg #[.int .i64 n, .int .i64 a, .int .i64 b, .string s, .string t]] W fun e w' => e = .returned (.tuple #[.agg #[.int .i64 n', .int .i64 a', .int .i64 b', .string s', .string t'], .bool ok]) ∧ Below W.heap.size W w')) :
    Calls Try.prog 22 #[.agg #[.int .i64 n, .int .i64 a, .int .i64 b, .string s, .string t], .func (.func 36) #[] #[]] w fun e w' => e = .returned (.bool (ok && eqCl ⟨n', a', b', s', t'⟩ ⟨n, a, b, s, t⟩)) ∧ Below w.heap.size w w' := by
  obtain ⟨q, hq⟩ : ∃ q : Bool, q = eqCl ⟨n', a', b', s', t'⟩ ⟨n, a, b, s, t⟩ := ⟨_, rfl⟩
  rw [← hq]
  have E := hide (show ∀ W, (binOp .eql 23 (.agg #[.int .i64 n', .int .i64 a', .int .i64 b', .string s', .string t']) (.agg #[.int .i64 n, .int .i64 a, .int .i64 b, .string s, .string t])).run Try.prog W = .ok (.bool q) W from fun W => by rw [hq]; exact call_eql W ⟨n', a', b', s', t'⟩ ⟨n, a, b, s, t⟩)
  clear hq
  obtain ⟨w1, hw1⟩ : ∃ w1, w1 = w.alloc (.cells #[.int .i64 n, .int .i64 a, .int .i64 b, .string s, .string t] 23) := ⟨_, rfl⟩
  have X1 := hide (show ClAt w1 w.heap.size n a b s t from by rw [hw1]; exact heap_alloc_new w _)
  have B1 := hide (show Below w.heap.size w w1 from by rw [hw1]; exact (Below.refl w.heap.size w).alloc (Nat.le_refl _) _)
  have HW := hide hw1
  clear hw1
  go_enter Try.func22, Try.ntmps22
  go_upto_region 1 with fail
  rw [← HW.out]
  obtain ⟨X, hX⟩ : ∃ X, X = w.heap.size := ⟨_, rfl⟩
  rw [← hX] at X1 ⊢
  clear hX HW
  obtain ⟨c0, c1, c2, c3, c4⟩ := X1.out.cells
  go_upto_region 2 with (first | (go_at_call 36; refine (K.out _ B1.out).mono ?_; rintro e w2 ⟨rfl, b2⟩; have X2 := hide (show ClAt w2 X n a b s t from (b2.block X (lt_of_heap X1.out)).trans X1.out); have B2 := hide (show Below w.heap.size w w2 from B1.out.trans (b2.mono B1.out.size)); clear b2 c0 c1 c2 c3 c4))
  obtain ⟨w3, hw3⟩ : ∃ w3, w3 = w2.alloc (.cells #[.int .i64 n', .int .i64 a', .int .i64 b', .string s', .string t'] 23) := ⟨_, rfl⟩
  obtain ⟨Y, hY⟩ : ∃ Y, Y = w2.heap.size := ⟨_, rfl⟩
  rw [← hw3, ← hY]
  have Y3 := hide (show ClAt w3 Y n' a' b' s' t' from by rw [hw3, hY]; exact heap_alloc_new w2 _)
  have b3 : Below w2.heap.size w2 w3 := by rw [hw3]; exact (Below.refl _ w2).alloc (Nat.le_refl _) _
  have X3 := hide (show ClAt w3 X n a b s t from (b3.block X (lt_of_heap X2.out)).trans X2.out)
  have B3 := hide (B2.out.trans (b3.mono B2.out.size))
  clear hw3 hY b3
  obtain ⟨c0, c1, c2, c3, c4⟩ := X3.out.cells
  obtain ⟨d0, d1, d2, d3, d4⟩ := Y3.out.cells
  have e1 := E.out
  cases ok with
  | false =>
    go_wp2_with fail
    go_ret
    exact ⟨ret_bool (by simp), B3.out⟩
  | true =>
    go_wp2_with fail
    go_ret
    exact ⟨ret_bool (by simp), B3.out⟩
set_option maxRecDepth 10000 in
set_option maxHeartbeats 8000000 in
theorem has_bareS (w : World) (k a b c n x y : Int) (s t : ByteArray) (k' a' b' c' n' x' y' : Int) (s' t' : ByteArray) (ok : Bool)
    (K : Hid (∀ W : World, Below w.heap.size w W → Calls Try.prog 24 #[.agg #[.int .i64 k, .int .i64 a, .int .i64 b, .int .i64 c, .int .i64 n, .int .i64 x, .int .i64 y, .string s, .string t]] W fun e w' => e = .returned (.tuple #[.agg #[.int .i64 k', .int .i64 a', .int .i64 b', .int .i64 c', .int .i64 n', .int .i64 x', .int .i64 y', .string s', .string t'], .bool ok]) ∧ Below W.heap.size W w')) :
    Calls Try.prog 19 #[.agg #[.int .i64 k, .int .i64 a, .int .i64 b, .int .i64 c, .int .i64 n, .int .i64 x, .int .i64 y, .string s, .string t], .func (.func 24) #[] #[]] w fun e w' => e = .returned (.bool (ok && eqSt ⟨k', a', b', c', ⟨n', x', y', s', t'⟩⟩ ⟨k, a, b, c, ⟨n, x, y, s, t⟩⟩)) ∧ Below w.heap.size w w' := by
  obtain ⟨q, hq⟩ : ∃ q : Bool, q = eqSt ⟨k', a', b', c', ⟨n', x', y', s', t'⟩⟩ ⟨k, a, b, c, ⟨n, x, y, s, t⟩⟩ := ⟨_, rfl⟩
  rw [← hq]
  have E := hide (show ∀ W, (binOp .eql 25 (.agg #[.int .i64 k', .int .i64 a', .int .i64 b', .int .i64 c', .int .i64 n', .int .i64 x', .int .i64 y', .string s', .string t']) (.agg #[.int .i64 k, .int .i64 a, .int .i64 b, .int .i64 c, .int .i64 n, .int .i64 x, .int .i64 y, .string s, .string t])).run Try.prog W = .ok (.bool q) W from fun W => by rw [hq]; exact step_eql W ⟨k', a', b', c', ⟨n', x', y', s', t'⟩⟩ ⟨k, a, b, c, ⟨n, x, y, s, t⟩⟩)
  clear hq
  obtain ⟨w1, hw1⟩ : ∃ w1, w1 = w.alloc (.cells #[.int .i64 k, .int .i64 a, .int .i64 b, .int .i64 c, .int .i64 n, .int .i64 x, .int .i64 y, .string s, .string t] 25) := ⟨_, rfl⟩
  have X1 := hide (show StAt w1 w.heap.size k a b c n x y s t from by rw [hw1]; exact heap_alloc_new w _)
  have B1 := hide (show Below w.heap.size w w1 from by rw [hw1]; exact (Below.refl w.heap.size w).alloc (Nat.le_refl _) _)
  have HW := hide hw1
  clear hw1
  go_enter Try.func19, Try.ntmps19
  go_upto_region 1 with fail
  rw [← HW.out]
  obtain ⟨X, hX⟩ : ∃ X, X = w.heap.size := ⟨_, rfl⟩
  rw [← hX] at X1 ⊢
  clear hX HW
  obtain ⟨c0, c1, c2, c3, c4, c5, c6, c7, c8⟩ := X1.out.cells
  go_upto_region 2 with (first | (go_at_call 24; refine (K.out _ B1.out).mono ?_; rintro e w2 ⟨rfl, b2⟩; have X2 := hide (show StAt w2 X k a b c n x y s t from (b2.block X (lt_of_heap X1.out)).trans X1.out); have B2 := hide (show Below w.heap.size w w2 from B1.out.trans (b2.mono B1.out.size)); clear b2 c0 c1 c2 c3 c4 c5 c6 c7 c8))
  obtain ⟨w3, hw3⟩ : ∃ w3, w3 = w2.alloc (.cells #[.int .i64 k', .int .i64 a', .int .i64 b', .int .i64 c', .int .i64 n', .int .i64 x', .int .i64 y', .string s', .string t'] 25) := ⟨_, rfl⟩
  obtain ⟨Y, hY⟩ : ∃ Y, Y = w2.heap.size := ⟨_, rfl⟩
  rw [← hw3, ← hY]
  have Y3 := hide (show StAt w3 Y k' a' b' c' n' x' y' s' t' from by rw [hw3, hY]; exact heap_alloc_new w2 _)
  have b3 : Below w2.heap.size w2 w3 := by rw [hw3]; exact (Below.refl _ w2).alloc (Nat.le_refl _) _
  have X3 := hide (show StAt w3 X k a b c n x y s t from (b3.block X (lt_of_heap X2.out)).trans X2.out)
  have B3 := hide (B2.out.trans (b3.mono B2.out.size))
  clear hw3 hY b3
  obtain ⟨c0, c1, c2, c3, c4, c5, c6, c7, c8⟩ := X3.out.cells
  obtain ⟨d0, d1, d2, d3, d4, d5, d6, d7, d8⟩ := Y3.out.cells
  have e1 := E.out
  cases ok with
  | false =>
    go_wp2_with fail
    go_ret
    exact ⟨ret_bool (by simp), B3.out⟩
  | true =>
    go_wp2_with fail
    go_ret
    exact ⟨ret_bool (by simp), B3.out⟩
set_option maxRecDepth 10000 in
set_option maxHeartbeats 8000000 in
theorem has_numberS (w : World) (k a b c n x y : Int) (s t : ByteArray) (k' a' b' c' n' x' y' : Int) (s' t' : ByteArray) (ok : Bool) (lP : Addr) (hP : Addr)
    (K : Hid (∀ W : World, Below w.heap.size w W → Calls Try.prog 37 #[.agg #[.int .i64 k, .int .i64 a, .int .i64 b, .int .i64 c, .int .i64 n, .int .i64 x, .int .i64 y, .string s, .string t], .pointer (some lP), .pointer (some hP)] W fun e w' => e = .returned (.tuple #[.agg #[.int .i64 k', .int .i64 a', .int .i64 b', .int .i64 c', .int .i64 n', .int .i64 x', .int .i64 y', .string s', .string t'], .bool ok]) ∧ Below W.heap.size W w')) :
    Calls Try.prog 19 #[.agg #[.int .i64 k, .int .i64 a, .int .i64 b, .int .i64 c, .int .i64 n, .int .i64 x, .int .i64 y, .string s, .string t], .func (.func 37) #[] #[.pointer (some lP), .pointer (some hP)]] w fun e w' => e = .returned (.bool (ok && eqSt ⟨k', a', b', c', ⟨n', x', y', s', t'⟩⟩ ⟨k, a, b, c, ⟨n, x, y, s, t⟩⟩)) ∧ Below w.heap.size w w' := by
  obtain ⟨q, hq⟩ : ∃ q : Bool, q = eqSt ⟨k', a', b', c', ⟨n', x', y', s', t'⟩⟩ ⟨k, a, b, c, ⟨n, x, y, s, t⟩⟩ := ⟨_, rfl⟩
  rw [← hq]
  have E := hide (show ∀ W, (binOp .eql 25 (.agg #[.int .i64 k', .int .i64 a', .int .i64 b', .int .i64 c', .int .i64 n', .int .i64 x', .int .i64 y', .string s', .string t']) (.agg #[.int .i64 k, .int .i64 a, .int .i64 b, .int .i64 c, .int .i64 n, .int .i64 x, .int .i64 y, .string s, .string t])).run Try.prog W = .ok (.bool q) W from fun W => by rw [hq]; exact step_eql W ⟨k', a', b', c', ⟨n', x', y', s', t'⟩⟩ ⟨k, a, b, c, ⟨n, x, y, s, t⟩⟩)
  clear hq
  obtain ⟨w1, hw1⟩ : ∃ w1, w1 = w.alloc (.cells #[.int .i64 k, .int .i64 a, .int .i64 b, .int .i64 c, .int .i64 n, .int .i64 x, .int .i64 y, .string s, .string t] 25) := ⟨_, rfl⟩
  have X1 := hide (show StAt w1 w.heap.size k a b c n x y s t from by rw [hw1]; exact heap_alloc_new w _)
  have B1 := hide (show Below w.heap.size w w1 from by rw [hw1]; exact (Below.refl w.heap.size w).alloc (Nat.le_refl _) _)
  have HW := hide hw1
  clear hw1
  go_enter Try.func19, Try.ntmps19
  go_upto_region 1 with fail
  rw [← HW.out]
  obtain ⟨X, hX⟩ : ∃ X, X = w.heap.size := ⟨_, rfl⟩
  rw [← hX] at X1 ⊢
  clear hX HW
  obtain ⟨c0, c1, c2, c3, c4, c5, c6, c7, c8⟩ := X1.out.cells
  go_upto_region 2 with (first | (go_at_call 37; refine (K.out _ B1.out).mono ?_; rintro e w2 ⟨rfl, b2⟩; have X2 := hide (show StAt w2 X k a b c n x y s t from (b2.block X (lt_of_heap X1.out)).trans X1.out); have B2 := hide (show Below w.heap.size w w2 from B1.out.trans (b2.mono B1.out.size)); clear b2 c0 c1 c2 c3 c4 c5 c6 c7 c8))
  obtain ⟨w3, hw3⟩ : ∃ w3, w3 = w2.alloc (.cells #[.int .i64 k', .int .i64 a', .int .i64 b', .int .i64 c', .int .i64 n', .int .i64 x', .int .i64 y', .string s', .string t'] 25) := ⟨_, rfl⟩
  obtain ⟨Y, hY⟩ : ∃ Y, Y = w2.heap.size := ⟨_, rfl⟩
  rw [← hw3, ← hY]
  have Y3 := hide (show StAt w3 Y k' a' b' c' n' x' y' s' t' from by rw [hw3, hY]; exact heap_alloc_new w2 _)
  have b3 : Below w2.heap.size w2 w3 := by rw [hw3]; exact (Below.refl _ w2).alloc (Nat.le_refl _) _
  have X3 := hide (show StAt w3 X k a b c n x y s t from (b3.block X (lt_of_heap X2.out)).trans X2.out)
  have B3 := hide (B2.out.trans (b3.mono B2.out.size))
  clear hw3 hY b3
  obtain ⟨c0, c1, c2, c3, c4, c5, c6, c7, c8⟩ := X3.out.cells
  obtain ⟨d0, d1, d2, d3, d4, d5, d6, d7, d8⟩ := Y3.out.cells
  have e1 := E.out
  cases ok with
  | false =>
    go_wp2_with fail
    go_ret
    exact ⟨ret_bool (by simp), B3.out⟩
  | true =>
    go_wp2_with fail
    go_ret
    exact ⟨ret_bool (by simp), B3.out⟩
set_option maxRecDepth 10000 in
set_option maxHeartbeats 8000000 in
theorem has_waitS (w : World) (k a b c n x y : Int) (s t : ByteArray) (k' a' b' c' n' x' y' : Int) (s' t' : ByteArray) (ok : Bool)
    (K : Hid (∀ W : World, Below w.heap.size w W → Calls Try.prog 26 #[.agg #[.int .i64 k, .int .i64 a, .int .i64 b, .int .i64 c, .int .i64 n, .int .i64 x, .int .i64 y, .string s, .string t]] W fun e w' => e = .returned (.tuple #[.agg #[.int .i64 k', .int .i64 a', .int .i64 b', .int .i64 c', .int .i64 n', .int .i64 x', .int .i64 y', .string s', .string t'], .bool ok]) ∧ Below W.heap.size W w')) :
    Calls Try.prog 19 #[.agg #[.int .i64 k, .int .i64 a, .int .i64 b, .int .i64 c, .int .i64 n, .int .i64 x, .int .i64 y, .string s, .string t], .func (.func 26) #[] #[]] w fun e w' => e = .returned (.bool (ok && eqSt ⟨k', a', b', c', ⟨n', x', y', s', t'⟩⟩ ⟨k, a, b, c, ⟨n, x, y, s, t⟩⟩)) ∧ Below w.heap.size w w' := by
  obtain ⟨q, hq⟩ : ∃ q : Bool, q = eqSt ⟨k', a', b', c', ⟨n', x', y', s', t'⟩⟩ ⟨k, a, b, c, ⟨n, x, y, s, t⟩⟩ := ⟨_, rfl⟩
  rw [← hq]
  have E := hide (show ∀ W, (binOp .eql 25 (.agg #[.int .i64 k', .int .i64 a', .int .i64 b', .int .i64 c', .int .i64 n', .int .i64 x', .int .i64 y', .string s', .string t']) (.agg #[.int .i64 k, .int .i64 a, .int .i64 b, .int .i64 c, .int .i64 n, .int .i64 x, .int .i64 y, .string s, .string t])).run Try.prog W = .ok (.bool q) W from fun W => by rw [hq]; exact step_eql W ⟨k', a', b', c', ⟨n', x', y', s', t'⟩⟩ ⟨k, a, b, c, ⟨n, x, y, s, t⟩⟩)
  clear hq
  obtain ⟨w1, hw1⟩ : ∃ w1, w1 = w.alloc (.cells #[.int .i64 k, .int .i64 a, .int .i64 b, .int .i64 c, .int .i64 n, .int .i64 x, .int .i64 y, .string s, .string t] 25) := ⟨_, rfl⟩
  have X1 := hide (show StAt w1 w.heap.size k a b c n x y s t from by rw [hw1]; exact heap_alloc_new w _)
  have B1 := hide (show Below w.heap.size w w1 from by rw [hw1]; exact (Below.refl w.heap.size w).alloc (Nat.le_refl _) _)
  have HW := hide hw1
  clear hw1
  go_enter Try.func19, Try.ntmps19
  go_upto_region 1 with fail
  rw [← HW.out]
  obtain ⟨X, hX⟩ : ∃ X, X = w.heap.size := ⟨_, rfl⟩
  rw [← hX] at X1 ⊢
  clear hX HW
  obtain ⟨c0, c1, c2, c3, c4, c5, c6, c7, c8⟩ := X1.out.cells
  go_upto_region 2 with (first | (go_at_call 26; refine (K.out _ B1.out).mono ?_; rintro e w2 ⟨rfl, b2⟩; have X2 := hide (show StAt w2 X k a b c n x y s t from (b2.block X (lt_of_heap X1.out)).trans X1.out); have B2 := hide (show Below w.heap.size w w2 from B1.out.trans (b2.mono B1.out.size)); clear b2 c0 c1 c2 c3 c4 c5 c6 c7 c8))
  obtain ⟨w3, hw3⟩ : ∃ w3, w3 = w2.alloc (.cells #[.int .i64 k', .int .i64 a', .int .i64 b', .int .i64 c', .int .i64 n', .int .i64 x', .int .i64 y', .string s', .string t'] 25) := ⟨_, rfl⟩
  obtain ⟨Y, hY⟩ : ∃ Y, Y = w2.heap.size := ⟨_, rfl⟩
  rw [← hw3, ← hY]
  have Y3 := hide (show StAt w3 Y k' a' b' c' n' x' y' s' t' from by rw [hw3, hY]; exact heap_alloc_new w2 _)
  have b3 : Below w2.heap.size w2 w3 := by rw [hw3]; exact (Below.refl _ w2).alloc (Nat.le_refl _) _
  have X3 := hide (show StAt w3 X k a b c n x y s t from (b3.block X (lt_of_heap X2.out)).trans X2.out)
  have B3 := hide (B2.out.trans (b3.mono B2.out.size))
  clear hw3 hY b3
  obtain ⟨c0, c1, c2, c3, c4, c5, c6, c7, c8⟩ := X3.out.cells
  obtain ⟨d0, d1, d2, d3, d4, d5, d6, d7, d8⟩ := Y3.out.cells
  have e1 := E.out
  cases ok with
  | false =>
    go_wp2_with fail
    go_ret
    exact ⟨ret_bool (by simp), B3.out⟩
  | true =>
    go_wp2_with fail
    go_ret
    exact ⟨ret_bool (by simp), B3.out⟩
set_option maxRecDepth 10000 in
set_option maxHeartbeats 8000000 in
theorem has_callS (w : World) (k a b c n x y : Int) (s t : ByteArray) (k' a' b' c' n' x' y' : Int) (s' t' : ByteArray) (ok : Bool)
    (K : Hid (∀ W : World, Below w.heap.size w W → Calls Try.prog 27 #[.agg #[.int .i64 k, .int .i64 a, .int .i64 b, .int .i64 c, .int .i64 n, .int .i64 x, .int .i64 y, .string s, .string t]] W fun e w' => e = .returned (.tuple #[.agg #[.int .i64 k', .int .i64 a', .int .i64 b', .int .i64 c', .int .i64 n', .int .i64 x', .int .i64 y', .string s', .string t'], .bool ok]) ∧ Below W.heap.size W w')) :
    Calls Try.prog 19 #[.agg #[.int .i64 k, .int .i64 a, .int .i64 b, .int .i64 c, .int .i64 n, .int .i64 x, .int .i64 y, .string s, .string t], .func (.func 27) #[] #[]] w fun e w' => e = .returned (.bool (ok && eqSt ⟨k', a', b', c', ⟨n', x', y', s', t'⟩⟩ ⟨k, a, b, c, ⟨n, x, y, s, t⟩⟩)) ∧ Below w.heap.size w w' := by
  obtain ⟨q, hq⟩ : ∃ q : Bool, q = eqSt ⟨k', a', b', c', ⟨n', x', y', s', t'⟩⟩ ⟨k, a, b, c, ⟨n, x, y, s, t⟩⟩ := ⟨_, rfl⟩
  rw [← hq]
  have E := hide (show ∀ W, (binOp .eql 25 (.agg #[.int .i64 k', .int .i64 a', .int .i64 b', .int .i64 c', .int .i64 n', .int .i64 x', .int .i64 y', .string s', .string t']) (.agg #[.int .i64 k, .int .i64 a, .int .i64 b, .int .i64 c, .int .i64 n, .int .i64 x, .int .i64 y, .string s, .string t])).run Try.prog W = .ok (.bool q) W from fun W => by rw [hq]; exact step_eql W ⟨k', a', b', c', ⟨n', x', y', s', t'⟩⟩ ⟨k, a, b, c, ⟨n, x, y, s, t⟩⟩)
  clear hq
  obtain ⟨w1, hw1⟩ : ∃ w1, w1 = w.alloc (.cells #[.int .i64 k, .int .i64 a, .int .i64 b, .int .i64 c, .int .i64 n, .int .i64 x, .int .i64 y, .string s, .string t] 25) := ⟨_, rfl⟩
  have X1 := hide (show StAt w1 w.heap.size k a b c n x y s t from by rw [hw1]; exact heap_alloc_new w _)
  have B1 := hide (show Below w.heap.size w w1 from by rw [hw1]; exact (Below.refl w.heap.size w).alloc (Nat.le_refl _) _)
  have HW := hide hw1
  clear hw1
  go_enter Try.func19, Try.ntmps19
  go_upto_region 1 with fail
  rw [← HW.out]
  obtain ⟨X, hX⟩ : ∃ X, X = w.heap.size := ⟨_, rfl⟩
  rw [← hX] at X1 ⊢
  clear hX HW
  obtain ⟨c0, c1, c2, c3, c4, c5, c6, c7, c8⟩ := X1.out.cells
  go_upto_region 2 with (first | (go_at_call 27; refine (K.out _ B1.out).mono ?_; rintro e w2 ⟨rfl, b2⟩; have X2 := hide (show StAt w2 X k a b c n x y s t from (b2.block X (lt_of_heap X1.out)).trans X1.out); have B2 := hide (show Below w.heap.size w w2 from B1.out.trans (b2.mono B1.out.size)); clear b2 c0 c1 c2 c3 c4 c5 c6 c7 c8))
  obtain ⟨w3, hw3⟩ : ∃ w3, w3 = w2.alloc (.cells #[.int .i64 k', .int .i64 a', .int .i64 b', .int .i64 c', .int .i64 n', .int .i64 x', .int .i64 y', .string s', .string t'] 25) := ⟨_, rfl⟩
  obtain ⟨Y, hY⟩ : ∃ Y, Y = w2.heap.size := ⟨_, rfl⟩
  rw [← hw3, ← hY]
  have Y3 := hide (show StAt w3 Y k' a' b' c' n' x' y' s' t' from by rw [hw3, hY]; exact heap_alloc_new w2 _)
  have b3 : Below w2.heap.size w2 w3 := by rw [hw3]; exact (Below.refl _ w2).alloc (Nat.le_refl _) _
  have X3 := hide (show StAt w3 X k a b c n x y s t from (b3.block X (lt_of_heap X2.out)).trans X2.out)
  have B3 := hide (B2.out.trans (b3.mono B2.out.size))
  clear hw3 hY b3
  obtain ⟨c0, c1, c2, c3, c4, c5, c6, c7, c8⟩ := X3.out.cells
  obtain ⟨d0, d1, d2, d3, d4, d5, d6, d7, d8⟩ := Y3.out.cells
  have e1 := E.out
  cases ok with
  | false =>
    go_wp2_with fail
    go_ret
    exact ⟨ret_bool (by simp), B3.out⟩
  | true =>
    go_wp2_with fail
    go_ret
    exact ⟨ret_bool (by simp), B3.out⟩
set_option maxRecDepth 10000 in
set_option maxHeartbeats 8000000 in
theorem has_strangeS (w : World) (k a b c n x y : Int) (s t : ByteArray) (k' a' b' c' n' x' y' : Int) (s' t' : ByteArray) (ok : Bool)
    (K : Hid (∀ W : World, Below w.heap.size w W → Calls Try.prog 28 #[.agg #[.int .i64 k, .int .i64 a, .int .i64 b, .int .i64 c, .int .i64 n, .int .i64 x, .int .i64 y, .string s, .string t]] W fun e w' => e = .returned (.tuple #[.agg #[.int .i64 k', .int .i64 a', .int .i64 b', .int .i64 c', .int .i64 n', .int .i64 x', .int .i64 y', .string s', .string t'], .bool ok]) ∧ Below W.heap.size W w')) :
    Calls Try.prog 19 #[.agg #[.int .i64 k, .int .i64 a, .int .i64 b, .int .i64 c, .int .i64 n, .int .i64 x, .int .i64 y, .string s, .string t], .func (.func 28) #[] #[]] w fun e w' => e = .returned (.bool (ok && eqSt ⟨k', a', b', c', ⟨n', x', y', s', t'⟩⟩ ⟨k, a, b, c, ⟨n, x, y, s, t⟩⟩)) ∧ Below w.heap.size w w' := by
  obtain ⟨q, hq⟩ : ∃ q : Bool, q = eqSt ⟨k', a', b', c', ⟨n', x', y', s', t'⟩⟩ ⟨k, a, b, c, ⟨n, x, y, s, t⟩⟩ := ⟨_, rfl⟩
  rw [← hq]
  have E := hide (show ∀ W, (binOp .eql 25 (.agg #[.int .i64 k', .int .i64 a', .int .i64 b', .int .i64 c', .int .i64 n', .int .i64 x', .int .i64 y', .string s', .string t']) (.agg #[.int .i64 k, .int .i64 a, .int .i64 b, .int .i64 c, .int .i64 n, .int .i64 x, .int .i64 y, .string s, .string t])).run Try.prog W = .ok (.bool q) W from fun W => by rw [hq]; exact step_eql W ⟨k', a', b', c', ⟨n', x', y', s', t'⟩⟩ ⟨k, a, b, c, ⟨n, x, y, s, t⟩⟩)
  clear hq
  obtain ⟨w1, hw1⟩ : ∃ w1, w1 = w.alloc (.cells #[.int .i64 k, .int .i64 a, .int .i64 b, .int .i64 c, .int .i64 n, .int .i64 x, .int .i64 y, .string s, .string t] 25) := ⟨_, rfl⟩
  have X1 := hide (show StAt w1 w.heap.size k a b c n x y s t from by rw [hw1]; exact heap_alloc_new w _)
  have B1 := hide (show Below w.heap.size w w1 from by rw [hw1]; exact (Below.refl w.heap.size w).alloc (Nat.le_refl _) _)
  have HW := hide hw1
  clear hw1
  go_enter Try.func19, Try.ntmps19
  go_upto_region 1 with fail
  rw [← HW.out]
  obtain ⟨X, hX⟩ : ∃ X, X = w.heap.size := ⟨_, rfl⟩
  rw [← hX] at X1 ⊢
  clear hX HW
  obtain ⟨c0, c1, c2, c3, c4, c5, c6, c7, c8⟩ := X1.out.cells
  go_upto_region 2 with (first | (go_at_call 28; refine (K.out _ B1.out).mono ?_; rintro e w2 ⟨rfl, b2⟩; have X2 := hide (show StAt w2 X k a b c n x y s t from (b2.block X (lt_of_heap X1.out)).trans X1.out); have B2 := hide (show Below w.heap.size w w2 from B1.out.trans (b2.mono B1.out.size)); clear b2 c0 c1 c2 c3 c4 c5 c6 c7 c8))
  obtain ⟨w3, hw3⟩ : ∃ w3, w3 = w2.alloc (.cells #[.int .i64 k', .int .i64 a', .int .i64 b', .int .i64 c', .int .i64 n', .int .i64 x', .int .i64 y', .string s', .string t'] 25) := ⟨_, rfl⟩
  obtain ⟨Y, hY⟩ : ∃ Y, Y = w2.heap.size := ⟨_, rfl⟩
  rw [← hw3, ← hY]
  have Y3 := hide (show StAt w3 Y k' a' b' c' n' x' y' s' t' from by rw [hw3, hY]; exact heap_alloc_new w2 _)
  have b3 : Below w2.heap.size w2 w3 := by rw [hw3]; exact (Below.refl _ w2).alloc (Nat.le_refl _) _
  have X3 := hide (show StAt w3 X k a b c n x y s t from (b3.block X (lt_of_heap X2.out)).trans X2.out)
  have B3 := hide (B2.out.trans (b3.mono B2.out.size))
  clear hw3 hY b3
  obtain ⟨c0, c1, c2, c3, c4, c5, c6, c7, c8⟩ := X3.out.cells
  obtain ⟨d0, d1, d2, d3, d4, d5, d6, d7, d8⟩ := Y3.out.cells
  have e1 := E.out
  cases ok with
  | false =>
    go_wp2_with fail
    go_ret
    exact ⟨ret_bool (by simp), B3.out⟩
  | true =>
    go_wp2_with fail
    go_ret
    exact ⟨ret_bool (by simp), B3.out⟩
end Go.Proofs.Ythgoifmmnebkeaa
