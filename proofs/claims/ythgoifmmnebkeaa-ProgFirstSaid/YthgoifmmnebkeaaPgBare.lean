/-
  The law ProgBare, over the contracts of the program's prog.
-/
import Derived.Test.YthgoifmmnebkeaaPgLaws
namespace Go.Proofs.Ythgoifmmnebkeaa
open Go.ChangeShapes Go.WideShapes Go.ChangeAt Go.RowKit
set_option linter.unusedVariables false
theorem toList_nil {s : ByteArray} : s.toList = [] ↔ s = emp := by
  constructor
  · intro h; exact text_inj.1 (h.trans (by simp [emp, ByteArray.toList_eq]))
  · intro h; rw [h]; simp [emp, ByteArray.toList_eq]
theorem bare0 {A b c n x y : Int} {s t : ByteArray} (h : A ≠ 0) : maySt ⟨0, A, b, c, ⟨n, x, y, s, t⟩⟩ = false := by simp [maySt, eqSt, eqCl, clZ, h]
theorem bare1 {a A c n x y : Int} {s t : ByteArray} (h : A ≠ 0) : maySt ⟨1, a, A, c, ⟨n, x, y, s, t⟩⟩ = false := by simp [maySt, eqSt, eqCl, clZ, h]
theorem bare2 {a A c n x y : Int} {s t : ByteArray} (h : A ≠ 0) : maySt ⟨2, a, A, c, ⟨n, x, y, s, t⟩⟩ = false := by simp [maySt, eqSt, eqCl, clZ, h]
theorem bare3 {a A c n x y : Int} {s t : ByteArray} (h : A ≠ 0) : maySt ⟨3, a, A, c, ⟨n, x, y, s, t⟩⟩ = false := by simp [maySt, eqSt, eqCl, clZ, h]
theorem bare4 {A b c n x y : Int} {s t : ByteArray} (h : A ≠ 0) : maySt ⟨4, A, b, c, ⟨n, x, y, s, t⟩⟩ = false := by simp [maySt, eqSt, eqCl, clZ, h]
theorem bare5 {a A c n x y : Int} {s t : ByteArray} (h : A ≠ 0) : maySt ⟨5, a, A, c, ⟨n, x, y, s, t⟩⟩ = false := by simp [maySt, eqSt, eqCl, clZ, h]
theorem bare6 {A b c n x y : Int} {s t : ByteArray} (h : A ≠ 0) : maySt ⟨6, A, b, c, ⟨n, x, y, s, t⟩⟩ = false := by simp [maySt, eqSt, eqCl, clZ, h]
theorem bare7 {a A c n x y : Int} {s t : ByteArray} (h : A ≠ 0) : maySt ⟨7, a, A, c, ⟨n, x, y, s, t⟩⟩ = false := by simp [maySt, eqSt, eqCl, clZ, h]
theorem bare8 {a b c n x y : Int} {S t : ByteArray} (h : S ≠ emp) : maySt ⟨8, a, b, c, ⟨n, x, y, S, t⟩⟩ = false := by simp [maySt, eqSt, eqCl, clZ, h]
theorem bare9 {a A c n x y : Int} {s t : ByteArray} (h : A ≠ 0) : maySt ⟨9, a, A, c, ⟨n, x, y, s, t⟩⟩ = false := by simp [maySt, eqSt, eqCl, clZ, h]
theorem bare_other {A k a b n x y : Int} {s t : ByteArray} (h : A ≠ 0) (n0 : k ≠ 0) (n1 : k ≠ 1) (n2 : k ≠ 2) (n3 : k ≠ 3) (n4 : k ≠ 4) (n5 : k ≠ 5) (n6 : k ≠ 6) (n7 : k ≠ 7) (n8 : k ≠ 8) (n9 : k ≠ 9) : maySt ⟨k, a, b, A, ⟨n, x, y, s, t⟩⟩ = false := by simp [maySt, eqSt, h, n0, n1, n2, n3, n4, n5, n6, n7, n8, n9]
set_option maxRecDepth 10000 in
set_option maxHeartbeats 40000000 in
theorem walk_progBareC (C : PProg) (w : World) (o : Step) (ho : StWf w o) (A : Int) (hA : (Lit.int .i64 A).wf = true) (S : ByteArray) (hS : S.size ≤ maxLen) : Calls Try.prog 5 #[.agg (stVals o).toArray, .int .i64 A, .string S] w fun e w' => e = .returned (.bool true) ∧ Below w.heap.size w w' := by
  obtain ⟨k, a, b, c, ⟨n, x, y, s, t⟩⟩ := o
  obtain ⟨m, hm⟩ : ∃ m, m = maySt ⟨k, a, b, c, ⟨n, x, y, s, t⟩⟩ := ⟨_, rfl⟩
  have K1 := hide (fun (W : World) => show Calls Try.prog 8 #[.agg #[.int .i64 k, .int .i64 a, .int .i64 b, .int .i64 c, .int .i64 n, .int .i64 x, .int .i64 y, .string s, .string t]] W fun e w' => e = .returned (.bool m) ∧ Below W.heap.size W w' from by rw [hm]; exact C.may W ⟨k, a, b, c, ⟨n, x, y, s, t⟩⟩ ho)
  have HO := hide ho
  have HA := hide hA
  have HS := hide hS
  clear hm ho hA hS
  show Calls Try.prog 5 #[.agg #[.int .i64 k, .int .i64 a, .int .i64 b, .int .i64 c, .int .i64 n, .int .i64 x, .int .i64 y, .string s, .string t], .int .i64 A, .string S] w fun e w' => e = .returned (.bool true) ∧ Below w.heap.size w w'
  obtain ⟨w1, hw1⟩ : ∃ w1, w1 = w.alloc (.cells #[.int .i64 k, .int .i64 a, .int .i64 b, .int .i64 c, .int .i64 n, .int .i64 x, .int .i64 y, .string s, .string t] 25) := ⟨_, rfl⟩
  have B1 := hide (show Below w.heap.size w w1 from by rw [hw1]; exact (Below.refl w.heap.size w).alloc (Nat.le_refl _) _)
  have P1 := hide (show StAt w1 w.heap.size k a b c n x y s t from by rw [hw1]; exact heap_alloc_new w _)
  have HW := hide hw1
  clear hw1
  obtain ⟨X, hX⟩ : ∃ X, X = w.heap.size := ⟨_, rfl⟩
  rw [← hX] at P1
  have HX := hide hX
  clear hX
  obtain ⟨c0, c1, c2, c3, c4, c5, c6, c7, c8⟩ := P1.out.cells
  by_cases hs : (600 : Int) < (s.size : Int)
  · skip
    go_enter Try.func5, Try.ntmps5
    go_upto_region 1 with fail
    rw [← HW.out, ← HX.out]
    go_wp2_with (go_at_call 7; refine (pgawake_any C _).mono ?_; rintro e w9 ⟨rfl, b9⟩; have B9 := hide (B1.out.trans (b9.mono B1.out.size)); clear b9)
    go_ret
    exact ⟨rfl, B9.out⟩
  by_cases ht : (600 : Int) < (t.size : Int)
  · skip
    go_enter Try.func5, Try.ntmps5
    go_upto_region 1 with fail
    rw [← HW.out, ← HX.out]
    go_wp2_with (go_at_call 7; refine (pgawake_any C _).mono ?_; rintro e w9 ⟨rfl, b9⟩; have B9 := hide (B1.out.trans (b9.mono B1.out.size)); clear b9)
    go_ret
    exact ⟨rfl, B9.out⟩
  cases m with
  | false =>
    go_enter Try.func5, Try.ntmps5
    go_upto_region 1 with fail
    rw [← HW.out, ← HX.out]
    go_wp2_with (first | (go_at_call 8; with_reducible refine (K1.out _).mono ?_; rintro e w2 ⟨rfl, b2⟩; have B2 := hide (B1.out.trans (b2.mono B1.out.size)); have P2 := hide (P1.out.below b2); clear b2) | (go_at_call 7; refine (pgawake_any C _).mono ?_; rintro e w9 ⟨rfl, b9⟩; have B9 := hide (B2.out.trans (b9.mono B2.out.size)); clear b9))
    go_ret
    exact ⟨rfl, B9.out⟩
  | true =>
    by_cases ha : A = 0
    · subst ha
      go_enter Try.func5, Try.ntmps5
      go_upto_region 1 with fail
      rw [← HW.out, ← HX.out]
      go_wp2_with (first | (go_at_call 8; with_reducible refine (K1.out _).mono ?_; rintro e w2 ⟨rfl, b2⟩; have B2 := hide (B1.out.trans (b2.mono B1.out.size)); have P2 := hide (P1.out.below b2); clear b2) | (go_at_call 7; refine (pgawake_any C _).mono ?_; rintro e w9 ⟨rfl, b9⟩; have B9 := hide (B2.out.trans (b9.mono B2.out.size)); clear b9))
      go_ret
      exact ⟨rfl, B9.out⟩
    have ha2 : (A == 0) = false := by simpa using ha
    have HAN := hide ha
    clear ha
    by_cases hq : S.toList = []
    · have hq2 : (S.toList == []) = true := by simpa using hq
      go_enter Try.func5, Try.ntmps5
      go_upto_region 1 with fail
      rw [← HW.out, ← HX.out]
      go_wp2_with (first | (go_at_call 8; with_reducible refine (K1.out _).mono ?_; rintro e w2 ⟨rfl, b2⟩; have B2 := hide (B1.out.trans (b2.mono B1.out.size)); have P2 := hide (P1.out.below b2); clear b2) | (go_at_call 7; refine (pgawake_any C _).mono ?_; rintro e w9 ⟨rfl, b9⟩; have B9 := hide (B2.out.trans (b9.mono B2.out.size)); clear b9))
      go_ret
      exact ⟨rfl, B9.out⟩
    have hq2 : (S.toList == []) = false := by simpa using hq
    have HSN := hide (show S ≠ emp from fun e => hq (toList_nil.2 e))
    clear hq
    by_cases hz : (100 : Int) < (S.size : Int)
    · skip
      go_enter Try.func5, Try.ntmps5
      go_upto_region 1 with fail
      rw [← HW.out, ← HX.out]
      go_wp2_with (first | (go_at_call 8; with_reducible refine (K1.out _).mono ?_; rintro e w2 ⟨rfl, b2⟩; have B2 := hide (B1.out.trans (b2.mono B1.out.size)); have P2 := hide (P1.out.below b2); clear b2) | (go_at_call 7; refine (pgawake_any C _).mono ?_; rintro e w9 ⟨rfl, b9⟩; have B9 := hide (B2.out.trans (b9.mono B2.out.size)); clear b9))
      go_ret
      exact ⟨rfl, B9.out⟩
    go_enter Try.func5, Try.ntmps5
    go_upto_region 1 with fail
    rw [← HW.out, ← HX.out]
    go_upto_region 3 with (go_at_call 8; with_reducible refine (K1.out _).mono ?_; rintro e w2 ⟨rfl, b2⟩; have B2 := hide (B1.out.trans (b2.mono B1.out.size)); have P2 := hide (P1.out.below b2); clear b2)
    clear c0 c1 c2 c3 c4 c5 c6 c7 c8
    obtain ⟨c0, c1, c2, c3, c4, c5, c6, c7, c8⟩ := P2.out.cells
    obtain ⟨f0, f1, f2, f3, f4, f5, f6, f7, f8⟩ := P2.out.frozen
    by_cases n0 : k = 0
    · subst n0
      have KF := hide (fun (W : World) => show Calls Try.prog 8 #[.agg #[.int .i64 0, .int .i64 A, .int .i64 b, .int .i64 c, .int .i64 n, .int .i64 x, .int .i64 y, .string s, .string t]] W fun e w' => e = .returned (.bool false) ∧ Below W.heap.size W w' from by have := C.may W ⟨0, A, b, c, ⟨n, x, y, s, t⟩⟩ ⟨HO.out.1, HA.out, HO.out.2.2.1, HO.out.2.2.2.1, HO.out.2.2.2.2.1, HO.out.2.2.2.2.2.1, HO.out.2.2.2.2.2.2.1, HO.out.2.2.2.2.2.2.2.1, HO.out.2.2.2.2.2.2.2.2⟩; rw [bare0 HAN.out] at this; exact this)
      have P3 := hide (P2.out.set1 A)
      have T3 := hide ((Touch.refl (fun i => i = X) w2).setCell (p := ⟨X, 1, none⟩) rfl (.int .i64 A))
      have B3 := hide (B2.out.trans (T3.out.below B2.out.size (fun i e => by rw [e, HX.out]; exact Nat.le_refl _)))
      go_upto_region 18 with fail
      obtain ⟨w3, hw3⟩ : ∃ w3, w3 = w2.setCell ⟨X, 1, none⟩ (.int .i64 A) := ⟨_, rfl⟩
      rw [← hw3] at P3 B3 ⊢
      clear hw3 T3 c0 c1 c2 c3 c4 c5 c6 c7 c8 f0 f1 f2 f3 f4 f5 f6 f7 f8
      obtain ⟨d0, d1, d2, d3, d4, d5, d6, d7, d8⟩ := P3.out.cells
      go_wp2_with (first | (go_at_call 8; with_reducible refine (KF.out _).mono ?_; rintro e w4 ⟨rfl, b4⟩; have B4 := hide (B3.out.trans (b4.mono B3.out.size)); clear b4) | (go_at_call 7; refine (pgawake_any C _).mono ?_; rintro e w9 ⟨rfl, b9⟩; have B9 := hide (B4.out.trans (b9.mono B4.out.size)); clear b9))
      go_ret
      exact ⟨rfl, B9.out⟩
    by_cases n1 : k = 1
    · subst n1
      have KF := hide (fun (W : World) => show Calls Try.prog 8 #[.agg #[.int .i64 1, .int .i64 a, .int .i64 A, .int .i64 c, .int .i64 n, .int .i64 x, .int .i64 y, .string s, .string t]] W fun e w' => e = .returned (.bool false) ∧ Below W.heap.size W w' from by have := C.may W ⟨1, a, A, c, ⟨n, x, y, s, t⟩⟩ ⟨HO.out.1, HO.out.2.1, HA.out, HO.out.2.2.2.1, HO.out.2.2.2.2.1, HO.out.2.2.2.2.2.1, HO.out.2.2.2.2.2.2.1, HO.out.2.2.2.2.2.2.2.1, HO.out.2.2.2.2.2.2.2.2⟩; rw [bare1 HAN.out] at this; exact this)
      have P3 := hide (P2.out.set2 A)
      have T3 := hide ((Touch.refl (fun i => i = X) w2).setCell (p := ⟨X, 2, none⟩) rfl (.int .i64 A))
      have B3 := hide (B2.out.trans (T3.out.below B2.out.size (fun i e => by rw [e, HX.out]; exact Nat.le_refl _)))
      go_upto_region 18 with fail
      obtain ⟨w3, hw3⟩ : ∃ w3, w3 = w2.setCell ⟨X, 2, none⟩ (.int .i64 A) := ⟨_, rfl⟩
      rw [← hw3] at P3 B3 ⊢
      clear hw3 T3 c0 c1 c2 c3 c4 c5 c6 c7 c8 f0 f1 f2 f3 f4 f5 f6 f7 f8
      obtain ⟨d0, d1, d2, d3, d4, d5, d6, d7, d8⟩ := P3.out.cells
      go_wp2_with (first | (go_at_call 8; with_reducible refine (KF.out _).mono ?_; rintro e w4 ⟨rfl, b4⟩; have B4 := hide (B3.out.trans (b4.mono B3.out.size)); clear b4) | (go_at_call 7; refine (pgawake_any C _).mono ?_; rintro e w9 ⟨rfl, b9⟩; have B9 := hide (B4.out.trans (b9.mono B4.out.size)); clear b9))
      go_ret
      exact ⟨rfl, B9.out⟩
    by_cases n2 : k = 2
    · subst n2
      have KF := hide (fun (W : World) => show Calls Try.prog 8 #[.agg #[.int .i64 2, .int .i64 a, .int .i64 A, .int .i64 c, .int .i64 n, .int .i64 x, .int .i64 y, .string s, .string t]] W fun e w' => e = .returned (.bool false) ∧ Below W.heap.size W w' from by have := C.may W ⟨2, a, A, c, ⟨n, x, y, s, t⟩⟩ ⟨HO.out.1, HO.out.2.1, HA.out, HO.out.2.2.2.1, HO.out.2.2.2.2.1, HO.out.2.2.2.2.2.1, HO.out.2.2.2.2.2.2.1, HO.out.2.2.2.2.2.2.2.1, HO.out.2.2.2.2.2.2.2.2⟩; rw [bare2 HAN.out] at this; exact this)
      have P3 := hide (P2.out.set2 A)
      have T3 := hide ((Touch.refl (fun i => i = X) w2).setCell (p := ⟨X, 2, none⟩) rfl (.int .i64 A))
      have B3 := hide (B2.out.trans (T3.out.below B2.out.size (fun i e => by rw [e, HX.out]; exact Nat.le_refl _)))
      go_upto_region 18 with fail
      obtain ⟨w3, hw3⟩ : ∃ w3, w3 = w2.setCell ⟨X, 2, none⟩ (.int .i64 A) := ⟨_, rfl⟩
      rw [← hw3] at P3 B3 ⊢
      clear hw3 T3 c0 c1 c2 c3 c4 c5 c6 c7 c8 f0 f1 f2 f3 f4 f5 f6 f7 f8
      obtain ⟨d0, d1, d2, d3, d4, d5, d6, d7, d8⟩ := P3.out.cells
      go_wp2_with (first | (go_at_call 8; with_reducible refine (KF.out _).mono ?_; rintro e w4 ⟨rfl, b4⟩; have B4 := hide (B3.out.trans (b4.mono B3.out.size)); clear b4) | (go_at_call 7; refine (pgawake_any C _).mono ?_; rintro e w9 ⟨rfl, b9⟩; have B9 := hide (B4.out.trans (b9.mono B4.out.size)); clear b9))
      go_ret
      exact ⟨rfl, B9.out⟩
    by_cases n3 : k = 3
    · subst n3
      have KF := hide (fun (W : World) => show Calls Try.prog 8 #[.agg #[.int .i64 3, .int .i64 a, .int .i64 A, .int .i64 c, .int .i64 n, .int .i64 x, .int .i64 y, .string s, .string t]] W fun e w' => e = .returned (.bool false) ∧ Below W.heap.size W w' from by have := C.may W ⟨3, a, A, c, ⟨n, x, y, s, t⟩⟩ ⟨HO.out.1, HO.out.2.1, HA.out, HO.out.2.2.2.1, HO.out.2.2.2.2.1, HO.out.2.2.2.2.2.1, HO.out.2.2.2.2.2.2.1, HO.out.2.2.2.2.2.2.2.1, HO.out.2.2.2.2.2.2.2.2⟩; rw [bare3 HAN.out] at this; exact this)
      have P3 := hide (P2.out.set2 A)
      have T3 := hide ((Touch.refl (fun i => i = X) w2).setCell (p := ⟨X, 2, none⟩) rfl (.int .i64 A))
      have B3 := hide (B2.out.trans (T3.out.below B2.out.size (fun i e => by rw [e, HX.out]; exact Nat.le_refl _)))
      go_upto_region 18 with fail
      obtain ⟨w3, hw3⟩ : ∃ w3, w3 = w2.setCell ⟨X, 2, none⟩ (.int .i64 A) := ⟨_, rfl⟩
      rw [← hw3] at P3 B3 ⊢
      clear hw3 T3 c0 c1 c2 c3 c4 c5 c6 c7 c8 f0 f1 f2 f3 f4 f5 f6 f7 f8
      obtain ⟨d0, d1, d2, d3, d4, d5, d6, d7, d8⟩ := P3.out.cells
      go_wp2_with (first | (go_at_call 8; with_reducible refine (KF.out _).mono ?_; rintro e w4 ⟨rfl, b4⟩; have B4 := hide (B3.out.trans (b4.mono B3.out.size)); clear b4) | (go_at_call 7; refine (pgawake_any C _).mono ?_; rintro e w9 ⟨rfl, b9⟩; have B9 := hide (B4.out.trans (b9.mono B4.out.size)); clear b9))
      go_ret
      exact ⟨rfl, B9.out⟩
    by_cases n4 : k = 4
    · subst n4
      have KF := hide (fun (W : World) => show Calls Try.prog 8 #[.agg #[.int .i64 4, .int .i64 A, .int .i64 b, .int .i64 c, .int .i64 n, .int .i64 x, .int .i64 y, .string s, .string t]] W fun e w' => e = .returned (.bool false) ∧ Below W.heap.size W w' from by have := C.may W ⟨4, A, b, c, ⟨n, x, y, s, t⟩⟩ ⟨HO.out.1, HA.out, HO.out.2.2.1, HO.out.2.2.2.1, HO.out.2.2.2.2.1, HO.out.2.2.2.2.2.1, HO.out.2.2.2.2.2.2.1, HO.out.2.2.2.2.2.2.2.1, HO.out.2.2.2.2.2.2.2.2⟩; rw [bare4 HAN.out] at this; exact this)
      have P3 := hide (P2.out.set1 A)
      have T3 := hide ((Touch.refl (fun i => i = X) w2).setCell (p := ⟨X, 1, none⟩) rfl (.int .i64 A))
      have B3 := hide (B2.out.trans (T3.out.below B2.out.size (fun i e => by rw [e, HX.out]; exact Nat.le_refl _)))
      go_upto_region 18 with fail
      obtain ⟨w3, hw3⟩ : ∃ w3, w3 = w2.setCell ⟨X, 1, none⟩ (.int .i64 A) := ⟨_, rfl⟩
      rw [← hw3] at P3 B3 ⊢
      clear hw3 T3 c0 c1 c2 c3 c4 c5 c6 c7 c8 f0 f1 f2 f3 f4 f5 f6 f7 f8
      obtain ⟨d0, d1, d2, d3, d4, d5, d6, d7, d8⟩ := P3.out.cells
      go_wp2_with (first | (go_at_call 8; with_reducible refine (KF.out _).mono ?_; rintro e w4 ⟨rfl, b4⟩; have B4 := hide (B3.out.trans (b4.mono B3.out.size)); clear b4) | (go_at_call 7; refine (pgawake_any C _).mono ?_; rintro e w9 ⟨rfl, b9⟩; have B9 := hide (B4.out.trans (b9.mono B4.out.size)); clear b9))
      go_ret
      exact ⟨rfl, B9.out⟩
    by_cases n5 : k = 5
    · subst n5
      have KF := hide (fun (W : World) => show Calls Try.prog 8 #[.agg #[.int .i64 5, .int .i64 a, .int .i64 A, .int .i64 c, .int .i64 n, .int .i64 x, .int .i64 y, .string s, .string t]] W fun e w' => e = .returned (.bool false) ∧ Below W.heap.size W w' from by have := C.may W ⟨5, a, A, c, ⟨n, x, y, s, t⟩⟩ ⟨HO.out.1, HO.out.2.1, HA.out, HO.out.2.2.2.1, HO.out.2.2.2.2.1, HO.out.2.2.2.2.2.1, HO.out.2.2.2.2.2.2.1, HO.out.2.2.2.2.2.2.2.1, HO.out.2.2.2.2.2.2.2.2⟩; rw [bare5 HAN.out] at this; exact this)
      have P3 := hide (P2.out.set2 A)
      have T3 := hide ((Touch.refl (fun i => i = X) w2).setCell (p := ⟨X, 2, none⟩) rfl (.int .i64 A))
      have B3 := hide (B2.out.trans (T3.out.below B2.out.size (fun i e => by rw [e, HX.out]; exact Nat.le_refl _)))
      go_upto_region 18 with fail
      obtain ⟨w3, hw3⟩ : ∃ w3, w3 = w2.setCell ⟨X, 2, none⟩ (.int .i64 A) := ⟨_, rfl⟩
      rw [← hw3] at P3 B3 ⊢
      clear hw3 T3 c0 c1 c2 c3 c4 c5 c6 c7 c8 f0 f1 f2 f3 f4 f5 f6 f7 f8
      obtain ⟨d0, d1, d2, d3, d4, d5, d6, d7, d8⟩ := P3.out.cells
      go_wp2_with (first | (go_at_call 8; with_reducible refine (KF.out _).mono ?_; rintro e w4 ⟨rfl, b4⟩; have B4 := hide (B3.out.trans (b4.mono B3.out.size)); clear b4) | (go_at_call 7; refine (pgawake_any C _).mono ?_; rintro e w9 ⟨rfl, b9⟩; have B9 := hide (B4.out.trans (b9.mono B4.out.size)); clear b9))
      go_ret
      exact ⟨rfl, B9.out⟩
    by_cases n6 : k = 6
    · subst n6
      have KF := hide (fun (W : World) => show Calls Try.prog 8 #[.agg #[.int .i64 6, .int .i64 A, .int .i64 b, .int .i64 c, .int .i64 n, .int .i64 x, .int .i64 y, .string s, .string t]] W fun e w' => e = .returned (.bool false) ∧ Below W.heap.size W w' from by have := C.may W ⟨6, A, b, c, ⟨n, x, y, s, t⟩⟩ ⟨HO.out.1, HA.out, HO.out.2.2.1, HO.out.2.2.2.1, HO.out.2.2.2.2.1, HO.out.2.2.2.2.2.1, HO.out.2.2.2.2.2.2.1, HO.out.2.2.2.2.2.2.2.1, HO.out.2.2.2.2.2.2.2.2⟩; rw [bare6 HAN.out] at this; exact this)
      have P3 := hide (P2.out.set1 A)
      have T3 := hide ((Touch.refl (fun i => i = X) w2).setCell (p := ⟨X, 1, none⟩) rfl (.int .i64 A))
      have B3 := hide (B2.out.trans (T3.out.below B2.out.size (fun i e => by rw [e, HX.out]; exact Nat.le_refl _)))
      go_upto_region 18 with fail
      obtain ⟨w3, hw3⟩ : ∃ w3, w3 = w2.setCell ⟨X, 1, none⟩ (.int .i64 A) := ⟨_, rfl⟩
      rw [← hw3] at P3 B3 ⊢
      clear hw3 T3 c0 c1 c2 c3 c4 c5 c6 c7 c8 f0 f1 f2 f3 f4 f5 f6 f7 f8
      obtain ⟨d0, d1, d2, d3, d4, d5, d6, d7, d8⟩ := P3.out.cells
      go_wp2_with (first | (go_at_call 8; with_reducible refine (KF.out _).mono ?_; rintro e w4 ⟨rfl, b4⟩; have B4 := hide (B3.out.trans (b4.mono B3.out.size)); clear b4) | (go_at_call 7; refine (pgawake_any C _).mono ?_; rintro e w9 ⟨rfl, b9⟩; have B9 := hide (B4.out.trans (b9.mono B4.out.size)); clear b9))
      go_ret
      exact ⟨rfl, B9.out⟩
    by_cases n7 : k = 7
    · subst n7
      have KF := hide (fun (W : World) => show Calls Try.prog 8 #[.agg #[.int .i64 7, .int .i64 a, .int .i64 A, .int .i64 c, .int .i64 n, .int .i64 x, .int .i64 y, .string s, .string t]] W fun e w' => e = .returned (.bool false) ∧ Below W.heap.size W w' from by have := C.may W ⟨7, a, A, c, ⟨n, x, y, s, t⟩⟩ ⟨HO.out.1, HO.out.2.1, HA.out, HO.out.2.2.2.1, HO.out.2.2.2.2.1, HO.out.2.2.2.2.2.1, HO.out.2.2.2.2.2.2.1, HO.out.2.2.2.2.2.2.2.1, HO.out.2.2.2.2.2.2.2.2⟩; rw [bare7 HAN.out] at this; exact this)
      have P3 := hide (P2.out.set2 A)
      have T3 := hide ((Touch.refl (fun i => i = X) w2).setCell (p := ⟨X, 2, none⟩) rfl (.int .i64 A))
      have B3 := hide (B2.out.trans (T3.out.below B2.out.size (fun i e => by rw [e, HX.out]; exact Nat.le_refl _)))
      go_upto_region 18 with fail
      obtain ⟨w3, hw3⟩ : ∃ w3, w3 = w2.setCell ⟨X, 2, none⟩ (.int .i64 A) := ⟨_, rfl⟩
      rw [← hw3] at P3 B3 ⊢
      clear hw3 T3 c0 c1 c2 c3 c4 c5 c6 c7 c8 f0 f1 f2 f3 f4 f5 f6 f7 f8
      obtain ⟨d0, d1, d2, d3, d4, d5, d6, d7, d8⟩ := P3.out.cells
      go_wp2_with (first | (go_at_call 8; with_reducible refine (KF.out _).mono ?_; rintro e w4 ⟨rfl, b4⟩; have B4 := hide (B3.out.trans (b4.mono B3.out.size)); clear b4) | (go_at_call 7; refine (pgawake_any C _).mono ?_; rintro e w9 ⟨rfl, b9⟩; have B9 := hide (B4.out.trans (b9.mono B4.out.size)); clear b9))
      go_ret
      exact ⟨rfl, B9.out⟩
    by_cases n8 : k = 8
    · subst n8
      have KF := hide (fun (W : World) => show Calls Try.prog 8 #[.agg #[.int .i64 8, .int .i64 a, .int .i64 b, .int .i64 c, .int .i64 n, .int .i64 x, .int .i64 y, .string S, .string t]] W fun e w' => e = .returned (.bool false) ∧ Below W.heap.size W w' from by have := C.may W ⟨8, a, b, c, ⟨n, x, y, S, t⟩⟩ ⟨HO.out.1, HO.out.2.1, HO.out.2.2.1, HO.out.2.2.2.1, HO.out.2.2.2.2.1, HO.out.2.2.2.2.2.1, HO.out.2.2.2.2.2.2.1, HS.out, HO.out.2.2.2.2.2.2.2.2⟩; rw [bare8 HSN.out] at this; exact this)
      have P3 := hide (P2.out.set7 S)
      have T3 := hide ((Touch.refl (fun i => i = X) w2).setCell (p := ⟨X, 7, none⟩) rfl (.string S))
      have B3 := hide (B2.out.trans (T3.out.below B2.out.size (fun i e => by rw [e, HX.out]; exact Nat.le_refl _)))
      go_upto_region 18 with fail
      obtain ⟨w3, hw3⟩ : ∃ w3, w3 = w2.setCell ⟨X, 7, none⟩ (.string S) := ⟨_, rfl⟩
      rw [← hw3] at P3 B3 ⊢
      clear hw3 T3 c0 c1 c2 c3 c4 c5 c6 c7 c8 f0 f1 f2 f3 f4 f5 f6 f7 f8
      obtain ⟨d0, d1, d2, d3, d4, d5, d6, d7, d8⟩ := P3.out.cells
      go_wp2_with (first | (go_at_call 8; with_reducible refine (KF.out _).mono ?_; rintro e w4 ⟨rfl, b4⟩; have B4 := hide (B3.out.trans (b4.mono B3.out.size)); clear b4) | (go_at_call 7; refine (pgawake_any C _).mono ?_; rintro e w9 ⟨rfl, b9⟩; have B9 := hide (B4.out.trans (b9.mono B4.out.size)); clear b9))
      go_ret
      exact ⟨rfl, B9.out⟩
    by_cases n9 : k = 9
    · subst n9
      have KF := hide (fun (W : World) => show Calls Try.prog 8 #[.agg #[.int .i64 9, .int .i64 a, .int .i64 A, .int .i64 c, .int .i64 n, .int .i64 x, .int .i64 y, .string s, .string t]] W fun e w' => e = .returned (.bool false) ∧ Below W.heap.size W w' from by have := C.may W ⟨9, a, A, c, ⟨n, x, y, s, t⟩⟩ ⟨HO.out.1, HO.out.2.1, HA.out, HO.out.2.2.2.1, HO.out.2.2.2.2.1, HO.out.2.2.2.2.2.1, HO.out.2.2.2.2.2.2.1, HO.out.2.2.2.2.2.2.2.1, HO.out.2.2.2.2.2.2.2.2⟩; rw [bare9 HAN.out] at this; exact this)
      have P3 := hide (P2.out.set2 A)
      have T3 := hide ((Touch.refl (fun i => i = X) w2).setCell (p := ⟨X, 2, none⟩) rfl (.int .i64 A))
      have B3 := hide (B2.out.trans (T3.out.below B2.out.size (fun i e => by rw [e, HX.out]; exact Nat.le_refl _)))
      go_upto_region 18 with fail
      obtain ⟨w3, hw3⟩ : ∃ w3, w3 = w2.setCell ⟨X, 2, none⟩ (.int .i64 A) := ⟨_, rfl⟩
      rw [← hw3] at P3 B3 ⊢
      clear hw3 T3 c0 c1 c2 c3 c4 c5 c6 c7 c8 f0 f1 f2 f3 f4 f5 f6 f7 f8
      obtain ⟨d0, d1, d2, d3, d4, d5, d6, d7, d8⟩ := P3.out.cells
      go_wp2_with (first | (go_at_call 8; with_reducible refine (KF.out _).mono ?_; rintro e w4 ⟨rfl, b4⟩; have B4 := hide (B3.out.trans (b4.mono B3.out.size)); clear b4) | (go_at_call 7; refine (pgawake_any C _).mono ?_; rintro e w9 ⟨rfl, b9⟩; have B9 := hide (B4.out.trans (b9.mono B4.out.size)); clear b9))
      go_ret
      exact ⟨rfl, B9.out⟩
    have KF := hide (fun (W : World) => show Calls Try.prog 8 #[.agg #[.int .i64 k, .int .i64 a, .int .i64 b, .int .i64 A, .int .i64 n, .int .i64 x, .int .i64 y, .string s, .string t]] W fun e w' => e = .returned (.bool false) ∧ Below W.heap.size W w' from by have := C.may W ⟨k, a, b, A, ⟨n, x, y, s, t⟩⟩ ⟨HO.out.1, HO.out.2.1, HO.out.2.2.1, HA.out, HO.out.2.2.2.2.1, HO.out.2.2.2.2.2.1, HO.out.2.2.2.2.2.2.1, HO.out.2.2.2.2.2.2.2.1, HO.out.2.2.2.2.2.2.2.2⟩; rw [bare_other HAN.out n0 n1 n2 n3 n4 n5 n6 n7 n8 n9] at this; exact this)
    have g0 : (k == 0) = false := by simpa using n0
    have g1 : (k == 1) = false := by simpa using n1
    have g2 : (k == 2) = false := by simpa using n2
    have g3 : (k == 3) = false := by simpa using n3
    have g4 : (k == 4) = false := by simpa using n4
    have g5 : (k == 5) = false := by simpa using n5
    have g6 : (k == 6) = false := by simpa using n6
    have g7 : (k == 7) = false := by simpa using n7
    have g8 : (k == 8) = false := by simpa using n8
    have g9 : (k == 9) = false := by simpa using n9
    clear n0 n1 n2 n3 n4 n5 n6 n7 n8 n9
    have P3 := hide (P2.out.set3 A)
    have T3 := hide ((Touch.refl (fun i => i = X) w2).setCell (p := ⟨X, 3, none⟩) rfl (.int .i64 A))
    have B3 := hide (B2.out.trans (T3.out.below B2.out.size (fun i e => by rw [e, HX.out]; exact Nat.le_refl _)))
    go_upto_region 18 with fail
    obtain ⟨w3, hw3⟩ : ∃ w3, w3 = w2.setCell ⟨X, 3, none⟩ (.int .i64 A) := ⟨_, rfl⟩
    rw [← hw3] at P3 B3 ⊢
    clear hw3 T3 c0 c1 c2 c3 c4 c5 c6 c7 c8 f0 f1 f2 f3 f4 f5 f6 f7 f8
    obtain ⟨d0, d1, d2, d3, d4, d5, d6, d7, d8⟩ := P3.out.cells
    go_wp2_with (first | (go_at_call 8; with_reducible refine (KF.out _).mono ?_; rintro e w4 ⟨rfl, b4⟩; have B4 := hide (B3.out.trans (b4.mono B3.out.size)); clear b4) | (go_at_call 7; refine (pgawake_any C _).mono ?_; rintro e w9 ⟨rfl, b9⟩; have B9 := hide (B4.out.trans (b9.mono B4.out.size)); clear b9))
    go_ret
    exact ⟨rfl, B9.out⟩
end Go.Proofs.Ythgoifmmnebkeaa
