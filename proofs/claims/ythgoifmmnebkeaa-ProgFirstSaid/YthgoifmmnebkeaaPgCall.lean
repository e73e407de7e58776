/-
  The document's own in, MayCall (coxswainref9).
-/
import Derived.Test.YthgoifmmnebkeaaPgPlain
import Derived.Test.YthgoifmmnebkeaaTouch
import Derived.Deep.DeepCutAuto
namespace Go.Proofs.Ythgoifmmnebkeaa
open Go.ChangeShapes Go.WideShapes Go.ChangeAt Go.RowKit
set_option linter.unusedVariables false
def emp : ByteArray := ByteArray.empty
def inB (n m : Int) : Bool := decide (0 ≤ n ∧ n ≤ m)
def paths (c : Cl) : Bool := decide (c.s.size ≤ 100) && decide (c.t.size ≤ 100)
/-- May a call be? -/
def mayCl (c : Cl) : Bool :=
  if c.sys = 1 then eqCl c ⟨1, c.a, 0, c.s, emp⟩ && paths c && inB c.a 7
  else if c.sys = 2 ∨ c.sys = 6 then eqCl c ⟨c.sys, c.a, 0, emp, emp⟩ && inB c.a 7
  else if c.sys = 3 ∨ c.sys = 5 then eqCl c ⟨c.sys, c.a, c.b, emp, emp⟩ && inB c.a 7 && inB c.b 512
  else if c.sys = 4 then eqCl c ⟨4, c.a, 0, c.s, emp⟩ && inB c.a 7 && decide (c.s.size ≤ 512)
  else if c.sys = 7 then eqCl c ⟨7, 0, 0, c.s, c.t⟩ && paths c
  else if c.sys = 8 ∨ c.sys = 9 ∨ c.sys = 10 ∨ c.sys = 12 ∨ c.sys = 13 then eqCl c ⟨c.sys, 0, 0, c.s, emp⟩ && paths c
  else if c.sys = 11 ∨ c.sys = 16 ∨ c.sys = 17 then eqCl c ⟨c.sys, 0, 0, emp, emp⟩
  else if c.sys = 14 then eqCl c ⟨14, c.a, 0, emp, emp⟩ && inB c.a 39
  else if c.sys = 15 then eqCl c ⟨15, c.a, 0, emp, emp⟩ && inB c.a 255
  else false
theorem rin_any (w : World) (n m : Int) : Calls Try.prog 21 #[.int .i64 n, .int .i64 m] w fun e w' => e = .returned (.bool (inB n m)) ∧ w = w' := by
  by_cases h : 0 ≤ n
  · go_enter Try.func21, Try.ntmps21
    go_wp2_with fail
    go_ret
    exact ⟨ret_bool (by rw [Bool.eq_iff_iff]; simp [inB]; omega), rfl⟩
  · go_enter Try.func21, Try.ntmps21
    go_wp2_with fail
    go_ret
    exact ⟨ret_bool (by rw [Bool.eq_iff_iff]; simp [inB]; omega), rfl⟩
theorem built_call (n : Int) : Try.prog.built 23 [(0, .int .i64 n)] = some #[.int .i64 n, .int .i64 0, .int .i64 0, .string ByteArray.empty, .string ByteArray.empty] := by kernel_rfl
attribute [local go_sem] built_call
theorem two_blocks (w : World) (o1 o2 : Obj) : ((w.alloc o1).alloc o2).heap[w.heap.size]? = some o1 ∧ ((w.alloc o1).alloc o2).heap[w.heap.size + 1]? = some o2 := by
  refine ⟨?_, ?_⟩
  · exact (((Below.refl (w.alloc o1).heap.size (w.alloc o1)).alloc (Nat.le_refl _) o2).block w.heap.size (by simp)).trans (heap_alloc_new w o1)
  · have := heap_alloc_new (w.alloc o1) o2
    simpa using this
/-- A call's block. -/
def ClAt (w : World) (X : Nat) (n a b : Int) (s t : ByteArray) : Prop := w.heap[X]? = some (.cells #[.int .i64 n, .int .i64 a, .int .i64 b, .string s, .string t] 23 (0, 0))
theorem ClAt.cells {w : World} {X : Nat} {n a b : Int} {s t : ByteArray} (h : ClAt w X n a b s t) : w.cell? ⟨X, 0, none⟩ = some (.int .i64 n) ∧ w.cell? ⟨X, 1, none⟩ = some (.int .i64 a) ∧ w.cell? ⟨X, 2, none⟩ = some (.int .i64 b) ∧ w.cell? ⟨X, 3, none⟩ = some (.string s) ∧ w.cell? ⟨X, 4, none⟩ = some (.string t) := by
  refine ⟨?_, ?_, ?_, ?_, ?_⟩ <;> (rw [cell_of_row _ _ _ _ _ _ h]; rfl)
theorem ClAt.frozen {w : World} {X : Nat} {n a b : Int} {s t : ByteArray} (h : ClAt w X n a b s t) : w.frozen? ⟨X, 0, none⟩ = false ∧ w.frozen? ⟨X, 1, none⟩ = false ∧ w.frozen? ⟨X, 2, none⟩ = false ∧ w.frozen? ⟨X, 3, none⟩ = false ∧ w.frozen? ⟨X, 4, none⟩ = false :=
  ⟨frozen_of_row _ _ _ _ _ h, frozen_of_row _ _ _ _ _ h, frozen_of_row _ _ _ _ _ h, frozen_of_row _ _ _ _ _ h, frozen_of_row _ _ _ _ _ h⟩
theorem ClAt.set1 {w : World} {X : Nat} {n a b : Int} {s t : ByteArray} (h : ClAt w X n a b s t) (y : Int) : ClAt (w.setCell ⟨X, 1, none⟩ (.int .i64 y)) X n y b s t := by unfold ClAt; rw [heap_setCell_same _ _ _ _ _ _ h]; rfl
theorem ClAt.set2 {w : World} {X : Nat} {n a b : Int} {s t : ByteArray} (h : ClAt w X n a b s t) (y : Int) : ClAt (w.setCell ⟨X, 2, none⟩ (.int .i64 y)) X n a y s t := by unfold ClAt; rw [heap_setCell_same _ _ _ _ _ _ h]; rfl
theorem ClAt.set3 {w : World} {X : Nat} {n a b : Int} {s t : ByteArray} (h : ClAt w X n a b s t) (y : ByteArray) : ClAt (w.setCell ⟨X, 3, none⟩ (.string y)) X n a b y t := by unfold ClAt; rw [heap_setCell_same _ _ _ _ _ _ h]; rfl
theorem ClAt.set4 {w : World} {X : Nat} {n a b : Int} {s t : ByteArray} (h : ClAt w X n a b s t) (y : ByteArray) : ClAt (w.setCell ⟨X, 4, none⟩ (.string y)) X n a b s y := by unfold ClAt; rw [heap_setCell_same _ _ _ _ _ _ h]; rfl
set_option maxRecDepth 10000 in
set_option maxHeartbeats 40000000 in
theorem rmaycall_any (w : World) (n a b : Int) (s t : ByteArray) : Calls Try.prog 11 #[.agg #[.int .i64 n, .int .i64 a, .int .i64 b, .string s, .string t]] w fun e w' => e = .returned (.bool (mayCl ⟨n, a, b, s, t⟩)) ∧ Below w.heap.size w w' := by
  obtain ⟨w1, hw1⟩ : ∃ w1, w1 = (w.alloc (.cells #[.int .i64 n, .int .i64 a, .int .i64 b, .string s, .string t] 23)).alloc (.cells #[.int .i64 n, .int .i64 0, .int .i64 0, .string ByteArray.empty, .string ByteArray.empty] 23) := ⟨_, rfl⟩
  have HW := hide hw1
  clear hw1
  obtain ⟨M, hM⟩ : ∃ M, M = mayCl ⟨n, a, b, s, t⟩ := ⟨_, rfl⟩
  rw [← hM]
  have HM := hide hM
  clear hM
  go_enter Try.func11, Try.ntmps11
  go_upto_region 2 with (refine wpList_build rfl 23 _ rfl (by kernel_rfl) ?_)
  rw [← HW.out]
  have X1 := hide (show ClAt w1 w.heap.size n a b s t from by rw [HW.out]; exact (two_blocks w _ _).1)
  have Y1 := hide (show ClAt w1 (w.heap.size + 1) n 0 0 ByteArray.empty ByteArray.empty from by rw [HW.out]; exact (two_blocks w _ _).2)
  have B1 := hide (show Below w.heap.size w w1 from by rw [HW.out]; exact (((Below.refl w.heap.size w).alloc (Nat.le_refl _) _).alloc (by simp) _))
  obtain ⟨Y, hY⟩ : ∃ Y, Y = w.heap.size + 1 := ⟨_, rfl⟩
  obtain ⟨X, hX⟩ : ∃ X, X = w.heap.size := ⟨_, rfl⟩
  rw [← hY, ← hX]
  rw [← hX] at X1
  rw [← hY] at Y1
  have NE := hide (show X ≠ Y from by omega)
  have LY := hide (show w.heap.size ≤ Y from by omega)
  clear hX hY HW
  obtain ⟨c0, c1, c2, c3, c4⟩ := X1.out.cells
  obtain ⟨p, hp⟩ : ∃ p : Bool, p = (decide (s.size ≤ 100) && decide (t.size ≤ 100)) := ⟨_, rfl⟩
  have HP := hide hp
  clear hp
  go_cut [4] (fun v wx => v = .bool p ∧ wx = w1)
  case first =>
    by_cases hs : (s.size : Int) ≤ 100
    · go_wp2_with fail
      go_meet
      case rel => exact ⟨congrArg Value.bool (by rw [HP.out, Bool.eq_iff_iff]; simp; omega), rfl⟩
    · go_wp2_with fail
      go_meet
      case rel => exact ⟨congrArg Value.bool (by rw [HP.out, Bool.eq_iff_iff]; simp; omega), rfl⟩
  case rest =>
    obtain ⟨rfl, rfl⟩ := hcut
    obtain ⟨d0, d1, d2, d3, d4⟩ := Y1.out.cells
    obtain ⟨f0, f1, f2, f3, f4⟩ := Y1.out.frozen
    by_cases n1 : n = 1
    · subst n1
      obtain ⟨e, he⟩ : ∃ e, e = eqCl ⟨1, a, b, s, t⟩ ⟨1, a, 0, s, emp⟩ := ⟨_, rfl⟩
      have E := hide (show ∀ W, (binOp .eql 23 (.agg #[.int .i64 1, .int .i64 a, .int .i64 b, .string s, .string t]) (.agg #[.int .i64 1, .int .i64 a, .int .i64 0, .string s, .string ByteArray.empty])).run Try.prog W = .ok (.bool e) W from fun W => by rw [he]; exact call_eql W ⟨1, a, b, s, t⟩ ⟨1, a, 0, s, emp⟩)
      obtain ⟨i1, hi1⟩ : ∃ i, i = inB a 7 := ⟨_, rfl⟩
      have K1 := hide (show ∀ W, Calls Try.prog 21 #[.int .i64 a, .int .i64 7] W fun e w' => e = .returned (.bool i1) ∧ W = w' from fun W => by rw [hi1]; exact rin_any W a 7)
      have HM2 := hide (show M = (e && p && i1) from by rw [HM.out, he, hi1, HP.out]; simp [mayCl, paths])
      clear he hi1
      have Y2 := hide ((Y1.out.set3 s).set1 a)
      have T2 := hide (((Touch.refl (fun i => i = Y) wc).setCell (p := ⟨Y, 3, none⟩) rfl (.string s)).setCell (p := ⟨Y, 1, none⟩) rfl (.int .i64 a))
      have X2 := hide (show ClAt ((wc.setCell ⟨Y, 3, none⟩ (.string s)).setCell ⟨Y, 1, none⟩ (.int .i64 a)) X 1 a b s t from (T2.out.block X (lt_of_heap X1.out) (fun q => NE.out q)).trans X1.out)
      have B2 := hide (B1.out.trans (T2.out.below B1.out.size (fun i q => by rw [q]; exact LY.out)))
      go_upto_region 5 with fail
      go_region
      go_upto_region 6 with fail
      obtain ⟨w2, hw2⟩ : ∃ w2, w2 = ((wc.setCell ⟨Y, 3, none⟩ (.string s)).setCell ⟨Y, 1, none⟩ (.int .i64 a)).drew := ⟨_, rfl⟩
      rw [← hw2]
      have X3 := hide (show ClAt w2 X 1 a b s t from by rw [hw2]; exact X2.out)
      have Y3 := hide (show ClAt w2 Y 1 a 0 s ByteArray.empty from by rw [hw2]; exact Y2.out)
      have B3 := hide (show Below w.heap.size w w2 from by rw [hw2]; exact below_drewN B2.out 1)
      clear hw2 X2 Y2 T2 B2 c0 c1 c2 c3 c4 d0 d1 d2 d3 d4 f0 f1 f2 f3 f4
      obtain ⟨c0, c1, c2, c3, c4⟩ := X3.out.cells
      obtain ⟨d0, d1, d2, d3, d4⟩ := Y3.out.cells
      have e2 := E.out
      cases e with
      | false =>
        go_wp2_with (first | (go_at_call 21; with_reducible refine (K1.out _).mono ?_; rintro e w' ⟨rfl, rfl⟩))
        go_ret
        exact ⟨ret_bool (by first | exact HM2.out.symm | (rw [HM2.out]; simp)), B3.out⟩
      | true =>
        cases p with
        | false =>
          go_wp2_with (first | (go_at_call 21; with_reducible refine (K1.out _).mono ?_; rintro e w' ⟨rfl, rfl⟩))
          go_ret
          exact ⟨ret_bool (by first | exact HM2.out.symm | (rw [HM2.out]; simp)), B3.out⟩
        | true =>
          go_wp2_with (first | (go_at_call 21; with_reducible refine (K1.out _).mono ?_; rintro e w' ⟨rfl, rfl⟩))
          go_ret
          exact ⟨ret_bool (by first | exact HM2.out.symm | (rw [HM2.out]; simp)), B3.out⟩
    by_cases n2 : n = 2
    · subst n2
      obtain ⟨e, he⟩ : ∃ e, e = eqCl ⟨2, a, b, s, t⟩ ⟨2, a, 0, emp, emp⟩ := ⟨_, rfl⟩
      have E := hide (show ∀ W, (binOp .eql 23 (.agg #[.int .i64 2, .int .i64 a, .int .i64 b, .string s, .string t]) (.agg #[.int .i64 2, .int .i64 a, .int .i64 0, .string ByteArray.empty, .string ByteArray.empty])).run Try.prog W = .ok (.bool e) W from fun W => by rw [he]; exact call_eql W ⟨2, a, b, s, t⟩ ⟨2, a, 0, emp, emp⟩)
      obtain ⟨i0, hi0⟩ : ∃ i, i = inB a 7 := ⟨_, rfl⟩
      have K0 := hide (show ∀ W, Calls Try.prog 21 #[.int .i64 a, .int .i64 7] W fun e w' => e = .returned (.bool i0) ∧ W = w' from fun W => by rw [hi0]; exact rin_any W a 7)
      have HM2 := hide (show M = (e && i0) from by rw [HM.out, he, hi0]; simp [mayCl])
      clear he hi0
      have Y2 := hide (Y1.out.set1 a)
      have T2 := hide ((Touch.refl (fun i => i = Y) wc).setCell (p := ⟨Y, 1, none⟩) rfl (.int .i64 a))
      have X2 := hide (show ClAt (wc.setCell ⟨Y, 1, none⟩ (.int .i64 a)) X 2 a b s t from (T2.out.block X (lt_of_heap X1.out) (fun q => NE.out q)).trans X1.out)
      have B2 := hide (B1.out.trans (T2.out.below B1.out.size (fun i q => by rw [q]; exact LY.out)))
      go_upto_region 10 with fail
      obtain ⟨w2, hw2⟩ : ∃ w2, w2 = (wc.setCell ⟨Y, 1, none⟩ (.int .i64 a)) := ⟨_, rfl⟩
      rw [← hw2]
      have X3 := hide (show ClAt w2 X 2 a b s t from by rw [hw2]; exact X2.out)
      have Y3 := hide (show ClAt w2 Y 2 a 0 ByteArray.empty ByteArray.empty from by rw [hw2]; exact Y2.out)
      have B3 := hide (show Below w.heap.size w w2 from by rw [hw2]; exact B2.out)
      clear hw2 X2 Y2 T2 B2 c0 c1 c2 c3 c4 d0 d1 d2 d3 d4 f0 f1 f2 f3 f4
      obtain ⟨c0, c1, c2, c3, c4⟩ := X3.out.cells
      obtain ⟨d0, d1, d2, d3, d4⟩ := Y3.out.cells
      have e2 := E.out
      cases e with
      | false =>
        go_wp2_with (first | (go_at_call 21; with_reducible refine (K0.out _).mono ?_; rintro e w' ⟨rfl, rfl⟩))
        go_ret
        exact ⟨ret_bool (by first | exact HM2.out.symm | (rw [HM2.out]; simp)), B3.out⟩
      | true =>
        go_wp2_with (first | (go_at_call 21; with_reducible refine (K0.out _).mono ?_; rintro e w' ⟨rfl, rfl⟩))
        go_ret
        exact ⟨ret_bool (by first | exact HM2.out.symm | (rw [HM2.out]; simp)), B3.out⟩
    by_cases n3 : n = 3
    · subst n3
      obtain ⟨e, he⟩ : ∃ e, e = eqCl ⟨3, a, b, s, t⟩ ⟨3, a, b, emp, emp⟩ := ⟨_, rfl⟩
      have E := hide (show ∀ W, (binOp .eql 23 (.agg #[.int .i64 3, .int .i64 a, .int .i64 b, .string s, .string t]) (.agg #[.int .i64 3, .int .i64 a, .int .i64 b, .string ByteArray.empty, .string ByteArray.empty])).run Try.prog W = .ok (.bool e) W from fun W => by rw [he]; exact call_eql W ⟨3, a, b, s, t⟩ ⟨3, a, b, emp, emp⟩)
      obtain ⟨i0, hi0⟩ : ∃ i, i = inB a 7 := ⟨_, rfl⟩
      have K0 := hide (show ∀ W, Calls Try.prog 21 #[.int .i64 a, .int .i64 7] W fun e w' => e = .returned (.bool i0) ∧ W = w' from fun W => by rw [hi0]; exact rin_any W a 7)
      obtain ⟨i1, hi1⟩ : ∃ i, i = inB b 512 := ⟨_, rfl⟩
      have K1 := hide (show ∀ W, Calls Try.prog 21 #[.int .i64 b, .int .i64 512] W fun e w' => e = .returned (.bool i1) ∧ W = w' from fun W => by rw [hi1]; exact rin_any W b 512)
      have HM2 := hide (show M = (e && i0 && i1) from by rw [HM.out, he, hi0, hi1]; simp [mayCl])
      clear he hi0 hi1
      have Y2 := hide ((Y1.out.set1 a).set2 b)
      have T2 := hide (((Touch.refl (fun i => i = Y) wc).setCell (p := ⟨Y, 1, none⟩) rfl (.int .i64 a)).setCell (p := ⟨Y, 2, none⟩) rfl (.int .i64 b))
      have X2 := hide (show ClAt ((wc.setCell ⟨Y, 1, none⟩ (.int .i64 a)).setCell ⟨Y, 2, none⟩ (.int .i64 b)) X 3 a b s t from (T2.out.block X (lt_of_heap X1.out) (fun q => NE.out q)).trans X1.out)
      have B2 := hide (B1.out.trans (T2.out.below B1.out.size (fun i q => by rw [q]; exact LY.out)))
      go_upto_region 13 with fail
      go_region
      go_upto_region 14 with fail
      obtain ⟨w2, hw2⟩ : ∃ w2, w2 = ((wc.setCell ⟨Y, 1, none⟩ (.int .i64 a)).setCell ⟨Y, 2, none⟩ (.int .i64 b)).drew := ⟨_, rfl⟩
      rw [← hw2]
      have X3 := hide (show ClAt w2 X 3 a b s t from by rw [hw2]; exact X2.out)
      have Y3 := hide (show ClAt w2 Y 3 a b ByteArray.empty ByteArray.empty from by rw [hw2]; exact Y2.out)
      have B3 := hide (show Below w.heap.size w w2 from by rw [hw2]; exact below_drewN B2.out 1)
      clear hw2 X2 Y2 T2 B2 c0 c1 c2 c3 c4 d0 d1 d2 d3 d4 f0 f1 f2 f3 f4
      obtain ⟨c0, c1, c2, c3, c4⟩ := X3.out.cells
      obtain ⟨d0, d1, d2, d3, d4⟩ := Y3.out.cells
      have e2 := E.out
      cases e with
      | false =>
        go_wp2_with (first | (go_at_call 21; with_reducible refine (K0.out _).mono ?_; rintro e w' ⟨rfl, rfl⟩) | (go_at_call 21; with_reducible refine (K1.out _).mono ?_; rintro e w' ⟨rfl, rfl⟩))
        go_ret
        exact ⟨ret_bool (by first | exact HM2.out.symm | (rw [HM2.out]; simp)), B3.out⟩
      | true =>
        cases i0 with
        | false =>
          go_wp2_with (first | (go_at_call 21; with_reducible refine (K0.out _).mono ?_; rintro e w' ⟨rfl, rfl⟩) | (go_at_call 21; with_reducible refine (K1.out _).mono ?_; rintro e w' ⟨rfl, rfl⟩))
          go_ret
          exact ⟨ret_bool (by first | exact HM2.out.symm | (rw [HM2.out]; simp)), B3.out⟩
        | true =>
          go_wp2_with (first | (go_at_call 21; with_reducible refine (K0.out _).mono ?_; rintro e w' ⟨rfl, rfl⟩) | (go_at_call 21; with_reducible refine (K1.out _).mono ?_; rintro e w' ⟨rfl, rfl⟩))
          go_ret
          exact ⟨ret_bool (by first | exact HM2.out.symm | (rw [HM2.out]; simp)), B3.out⟩
    by_cases n4 : n = 4
    · subst n4
      obtain ⟨e, he⟩ : ∃ e, e = eqCl ⟨4, a, b, s, t⟩ ⟨4, a, 0, s, emp⟩ := ⟨_, rfl⟩
      have E := hide (show ∀ W, (binOp .eql 23 (.agg #[.int .i64 4, .int .i64 a, .int .i64 b, .string s, .string t]) (.agg #[.int .i64 4, .int .i64 a, .int .i64 0, .string s, .string ByteArray.empty])).run Try.prog W = .ok (.bool e) W from fun W => by rw [he]; exact call_eql W ⟨4, a, b, s, t⟩ ⟨4, a, 0, s, emp⟩)
      obtain ⟨i0, hi0⟩ : ∃ i, i = inB a 7 := ⟨_, rfl⟩
      have K0 := hide (show ∀ W, Calls Try.prog 21 #[.int .i64 a, .int .i64 7] W fun e w' => e = .returned (.bool i0) ∧ W = w' from fun W => by rw [hi0]; exact rin_any W a 7)
      obtain ⟨i1, hi1⟩ : ∃ i, i = decide (s.size ≤ 512) := ⟨_, rfl⟩
      have HM2 := hide (show M = (e && i0 && i1) from by rw [HM.out, he, hi0, hi1]; simp [mayCl])
      have HS := hide hi1
      clear he hi0 hi1
      have Y2 := hide ((Y1.out.set1 a).set3 s)
      have T2 := hide (((Touch.refl (fun i => i = Y) wc).setCell (p := ⟨Y, 1, none⟩) rfl (.int .i64 a)).setCell (p := ⟨Y, 3, none⟩) rfl (.string s))
      have X2 := hide (show ClAt ((wc.setCell ⟨Y, 1, none⟩ (.int .i64 a)).setCell ⟨Y, 3, none⟩ (.string s)) X 4 a b s t from (T2.out.block X (lt_of_heap X1.out) (fun q => NE.out q)).trans X1.out)
      have B2 := hide (B1.out.trans (T2.out.below B1.out.size (fun i q => by rw [q]; exact LY.out)))
      go_upto_region 16 with fail
      go_region
      go_upto_region 17 with fail
      obtain ⟨w2, hw2⟩ : ∃ w2, w2 = ((wc.setCell ⟨Y, 1, none⟩ (.int .i64 a)).setCell ⟨Y, 3, none⟩ (.string s)).drew := ⟨_, rfl⟩
      rw [← hw2]
      have X3 := hide (show ClAt w2 X 4 a b s t from by rw [hw2]; exact X2.out)
      have Y3 := hide (show ClAt w2 Y 4 a 0 s ByteArray.empty from by rw [hw2]; exact Y2.out)
      have B3 := hide (show Below w.heap.size w w2 from by rw [hw2]; exact below_drewN B2.out 1)
      clear hw2 X2 Y2 T2 B2 c0 c1 c2 c3 c4 d0 d1 d2 d3 d4 f0 f1 f2 f3 f4
      obtain ⟨c0, c1, c2, c3, c4⟩ := X3.out.cells
      obtain ⟨d0, d1, d2, d3, d4⟩ := Y3.out.cells
      have e2 := E.out
      cases e with
      | false =>
        go_wp2_with (first | (go_at_call 21; with_reducible refine (K0.out _).mono ?_; rintro e w' ⟨rfl, rfl⟩))
        go_ret
        exact ⟨ret_bool (by rw [HM2.out, HS.out, Bool.eq_iff_iff]; first | (simp; done) | (simp; omega)), B3.out⟩
      | true =>
        cases i0 with
        | false =>
          go_wp2_with (first | (go_at_call 21; with_reducible refine (K0.out _).mono ?_; rintro e w' ⟨rfl, rfl⟩))
          go_ret
          exact ⟨ret_bool (by rw [HM2.out, HS.out, Bool.eq_iff_iff]; first | (simp; done) | (simp; omega)), B3.out⟩
        | true =>
          go_wp2_with (first | (go_at_call 21; with_reducible refine (K0.out _).mono ?_; rintro e w' ⟨rfl, rfl⟩))
          go_ret
          exact ⟨ret_bool (by rw [HM2.out, HS.out, Bool.eq_iff_iff]; first | (simp; done) | (simp; omega)), B3.out⟩
    by_cases n5 : n = 5
    · subst n5
      obtain ⟨e, he⟩ : ∃ e, e = eqCl ⟨5, a, b, s, t⟩ ⟨5, a, b, emp, emp⟩ := ⟨_, rfl⟩
      have E := hide (show ∀ W, (binOp .eql 23 (.agg #[.int .i64 5, .int .i64 a, .int .i64 b, .string s, .string t]) (.agg #[.int .i64 5, .int .i64 a, .int .i64 b, .string ByteArray.empty, .string ByteArray.empty])).run Try.prog W = .ok (.bool e) W from fun W => by rw [he]; exact call_eql W ⟨5, a, b, s, t⟩ ⟨5, a, b, emp, emp⟩)
      obtain ⟨i0, hi0⟩ : ∃ i, i = inB a 7 := ⟨_, rfl⟩
      have K0 := hide (show ∀ W, Calls Try.prog 21 #[.int .i64 a, .int .i64 7] W fun e w' => e = .returned (.bool i0) ∧ W = w' from fun W => by rw [hi0]; exact rin_any W a 7)
      obtain ⟨i1, hi1⟩ : ∃ i, i = inB b 512 := ⟨_, rfl⟩
      have K1 := hide (show ∀ W, Calls Try.prog 21 #[.int .i64 b, .int .i64 512] W fun e w' => e = .returned (.bool i1) ∧ W = w' from fun W => by rw [hi1]; exact rin_any W b 512)
      have HM2 := hide (show M = (e && i0 && i1) from by rw [HM.out, he, hi0, hi1]; simp [mayCl])
      clear he hi0 hi1
      have Y2 := hide ((Y1.out.set1 a).set2 b)
      have T2 := hide (((Touch.refl (fun i => i = Y) wc).setCell (p := ⟨Y, 1, none⟩) rfl (.int .i64 a)).setCell (p := ⟨Y, 2, none⟩) rfl (.int .i64 b))
      have X2 := hide (show ClAt ((wc.setCell ⟨Y, 1, none⟩ (.int .i64 a)).setCell ⟨Y, 2, none⟩ (.int .i64 b)) X 5 a b s t from (T2.out.block X (lt_of_heap X1.out) (fun q => NE.out q)).trans X1.out)
      have B2 := hide (B1.out.trans (T2.out.below B1.out.size (fun i q => by rw [q]; exact LY.out)))
      go_upto_region 13 with fail
      go_region
      go_upto_region 14 with fail
      obtain ⟨w2, hw2⟩ : ∃ w2, w2 = ((wc.setCell ⟨Y, 1, none⟩ (.int .i64 a)).setCell ⟨Y, 2, none⟩ (.int .i64 b)).drew := ⟨_, rfl⟩
      rw [← hw2]
      have X3 := hide (show ClAt w2 X 5 a b s t from by rw [hw2]; exact X2.out)
      have Y3 := hide (show ClAt w2 Y 5 a b ByteArray.empty ByteArray.empty from by rw [hw2]; exact Y2.out)
      have B3 := hide (show Below w.heap.size w w2 from by rw [hw2]; exact below_drewN B2.out 1)
      clear hw2 X2 Y2 T2 B2 c0 c1 c2 c3 c4 d0 d1 d2 d3 d4 f0 f1 f2 f3 f4
      obtain ⟨c0, c1, c2, c3, c4⟩ := X3.out.cells
      obtain ⟨d0, d1, d2, d3, d4⟩ := Y3.out.cells
      have e2 := E.out
      cases e with
      | false =>
        go_wp2_with (first | (go_at_call 21; with_reducible refine (K0.out _).mono ?_; rintro e w' ⟨rfl, rfl⟩) | (go_at_call 21; with_reducible refine (K1.out _).mono ?_; rintro e w' ⟨rfl, rfl⟩))
        go_ret
        exact ⟨ret_bool (by first | exact HM2.out.symm | (rw [HM2.out]; simp)), B3.out⟩
      | true =>
        cases i0 with
        | false =>
          go_wp2_with (first | (go_at_call 21; with_reducible refine (K0.out _).mono ?_; rintro e w' ⟨rfl, rfl⟩) | (go_at_call 21; with_reducible refine (K1.out _).mono ?_; rintro e w' ⟨rfl, rfl⟩))
          go_ret
          exact ⟨ret_bool (by first | exact HM2.out.symm | (rw [HM2.out]; simp)), B3.out⟩
        | true =>
          go_wp2_with (first | (go_at_call 21; with_reducible refine (K0.out _).mono ?_; rintro e w' ⟨rfl, rfl⟩) | (go_at_call 21; with_reducible refine (K1.out _).mono ?_; rintro e w' ⟨rfl, rfl⟩))
          go_ret
          exact ⟨ret_bool (by first | exact HM2.out.symm | (rw [HM2.out]; simp)), B3.out⟩
    by_cases n6 : n = 6
    · subst n6
      obtain ⟨e, he⟩ : ∃ e, e = eqCl ⟨6, a, b, s, t⟩ ⟨6, a, 0, emp, emp⟩ := ⟨_, rfl⟩
      have E := hide (show ∀ W, (binOp .eql 23 (.agg #[.int .i64 6, .int .i64 a, .int .i64 b, .string s, .string t]) (.agg #[.int .i64 6, .int .i64 a, .int .i64 0, .string ByteArray.empty, .string ByteArray.empty])).run Try.prog W = .ok (.bool e) W from fun W => by rw [he]; exact call_eql W ⟨6, a, b, s, t⟩ ⟨6, a, 0, emp, emp⟩)
      obtain ⟨i0, hi0⟩ : ∃ i, i = inB a 7 := ⟨_, rfl⟩
      have K0 := hide (show ∀ W, Calls Try.prog 21 #[.int .i64 a, .int .i64 7] W fun e w' => e = .returned (.bool i0) ∧ W = w' from fun W => by rw [hi0]; exact rin_any W a 7)
      have HM2 := hide (show M = (e && i0) from by rw [HM.out, he, hi0]; simp [mayCl])
      clear he hi0
      have Y2 := hide (Y1.out.set1 a)
      have T2 := hide ((Touch.refl (fun i => i = Y) wc).setCell (p := ⟨Y, 1, none⟩) rfl (.int .i64 a))
      have X2 := hide (show ClAt (wc.setCell ⟨Y, 1, none⟩ (.int .i64 a)) X 6 a b s t from (T2.out.block X (lt_of_heap X1.out) (fun q => NE.out q)).trans X1.out)
      have B2 := hide (B1.out.trans (T2.out.below B1.out.size (fun i q => by rw [q]; exact LY.out)))
      go_upto_region 10 with fail
      obtain ⟨w2, hw2⟩ : ∃ w2, w2 = (wc.setCell ⟨Y, 1, none⟩ (.int .i64 a)) := ⟨_, rfl⟩
      rw [← hw2]
      have X3 := hide (show ClAt w2 X 6 a b s t from by rw [hw2]; exact X2.out)
      have Y3 := hide (show ClAt w2 Y 6 a 0 ByteArray.empty ByteArray.empty from by rw [hw2]; exact Y2.out)
      have B3 := hide (show Below w.heap.size w w2 from by rw [hw2]; exact B2.out)
      clear hw2 X2 Y2 T2 B2 c0 c1 c2 c3 c4 d0 d1 d2 d3 d4 f0 f1 f2 f3 f4
      obtain ⟨c0, c1, c2, c3, c4⟩ := X3.out.cells
      obtain ⟨d0, d1, d2, d3, d4⟩ := Y3.out.cells
      have e2 := E.out
      cases e with
      | false =>
        go_wp2_with (first | (go_at_call 21; with_reducible refine (K0.out _).mono ?_; rintro e w' ⟨rfl, rfl⟩))
        go_ret
        exact ⟨ret_bool (by first | exact HM2.out.symm | (rw [HM2.out]; simp)), B3.out⟩
      | true =>
        go_wp2_with (first | (go_at_call 21; with_reducible refine (K0.out _).mono ?_; rintro e w' ⟨rfl, rfl⟩))
        go_ret
        exact ⟨ret_bool (by first | exact HM2.out.symm | (rw [HM2.out]; simp)), B3.out⟩
    by_cases n7 : n = 7
    · subst n7
      obtain ⟨e, he⟩ : ∃ e, e = eqCl ⟨7, a, b, s, t⟩ ⟨7, 0, 0, s, t⟩ := ⟨_, rfl⟩
      have E := hide (show ∀ W, (binOp .eql 23 (.agg #[.int .i64 7, .int .i64 a, .int .i64 b, .string s, .string t]) (.agg #[.int .i64 7, .int .i64 0, .int .i64 0, .string s, .string t])).run Try.prog W = .ok (.bool e) W from fun W => by rw [he]; exact call_eql W ⟨7, a, b, s, t⟩ ⟨7, 0, 0, s, t⟩)
      have HM2 := hide (show M = (e && p) from by rw [HM.out, he, HP.out]; simp [mayCl, paths])
      clear he
      have Y2 := hide ((Y1.out.set3 s).set4 t)
      have T2 := hide (((Touch.refl (fun i => i = Y) wc).setCell (p := ⟨Y, 3, none⟩) rfl (.string s)).setCell (p := ⟨Y, 4, none⟩) rfl (.string t))
      have X2 := hide (show ClAt ((wc.setCell ⟨Y, 3, none⟩ (.string s)).setCell ⟨Y, 4, none⟩ (.string t)) X 7 a b s t from (T2.out.block X (lt_of_heap X1.out) (fun q => NE.out q)).trans X1.out)
      have B2 := hide (B1.out.trans (T2.out.below B1.out.size (fun i q => by rw [q]; exact LY.out)))
      go_upto_region 19 with fail
      go_region
      go_upto_region 20 with fail
      obtain ⟨w2, hw2⟩ : ∃ w2, w2 = ((wc.setCell ⟨Y, 3, none⟩ (.string s)).setCell ⟨Y, 4, none⟩ (.string t)).drew := ⟨_, rfl⟩
      rw [← hw2]
      have X3 := hide (show ClAt w2 X 7 a b s t from by rw [hw2]; exact X2.out)
      have Y3 := hide (show ClAt w2 Y 7 0 0 s t from by rw [hw2]; exact Y2.out)
      have B3 := hide (show Below w.heap.size w w2 from by rw [hw2]; exact below_drewN B2.out 1)
      clear hw2 X2 Y2 T2 B2 c0 c1 c2 c3 c4 d0 d1 d2 d3 d4 f0 f1 f2 f3 f4
      obtain ⟨c0, c1, c2, c3, c4⟩ := X3.out.cells
      obtain ⟨d0, d1, d2, d3, d4⟩ := Y3.out.cells
      have e2 := E.out
      cases e with
      | false =>
        go_wp2_with fail
        go_ret
        exact ⟨ret_bool (by first | exact HM2.out.symm | (rw [HM2.out]; simp)), B3.out⟩
      | true =>
        go_wp2_with fail
        go_ret
        exact ⟨ret_bool (by first | exact HM2.out.symm | (rw [HM2.out]; simp)), B3.out⟩
    by_cases n8 : n = 8
    · subst n8
      obtain ⟨e, he⟩ : ∃ e, e = eqCl ⟨8, a, b, s, t⟩ ⟨8, 0, 0, s, emp⟩ := ⟨_, rfl⟩
      have E := hide (show ∀ W, (binOp .eql 23 (.agg #[.int .i64 8, .int .i64 a, .int .i64 b, .string s, .string t]) (.agg #[.int .i64 8, .int .i64 0, .int .i64 0, .string s, .string ByteArray.empty])).run Try.prog W = .ok (.bool e) W from fun W => by rw [he]; exact call_eql W ⟨8, a, b, s, t⟩ ⟨8, 0, 0, s, emp⟩)
      have HM2 := hide (show M = (e && p) from by rw [HM.out, he, HP.out]; simp [mayCl, paths])
      clear he
      have Y2 := hide (Y1.out.set3 s)
      have T2 := hide ((Touch.refl (fun i => i = Y) wc).setCell (p := ⟨Y, 3, none⟩) rfl (.string s))
      have X2 := hide (show ClAt (wc.setCell ⟨Y, 3, none⟩ (.string s)) X 8 a b s t from (T2.out.block X (lt_of_heap X1.out) (fun q => NE.out q)).trans X1.out)
      have B2 := hide (B1.out.trans (T2.out.below B1.out.size (fun i q => by rw [q]; exact LY.out)))
      go_upto_region 27 with fail
      obtain ⟨w2, hw2⟩ : ∃ w2, w2 = (wc.setCell ⟨Y, 3, none⟩ (.string s)) := ⟨_, rfl⟩
      rw [← hw2]
      have X3 := hide (show ClAt w2 X 8 a b s t from by rw [hw2]; exact X2.out)
      have Y3 := hide (show ClAt w2 Y 8 0 0 s ByteArray.empty from by rw [hw2]; exact Y2.out)
      have B3 := hide (show Below w.heap.size w w2 from by rw [hw2]; exact B2.out)
      clear hw2 X2 Y2 T2 B2 c0 c1 c2 c3 c4 d0 d1 d2 d3 d4 f0 f1 f2 f3 f4
      obtain ⟨c0, c1, c2, c3, c4⟩ := X3.out.cells
      obtain ⟨d0, d1, d2, d3, d4⟩ := Y3.out.cells
      have e2 := E.out
      cases e with
      | false =>
        go_wp2_with fail
        go_ret
        exact ⟨ret_bool (by first | exact HM2.out.symm | (rw [HM2.out]; simp)), B3.out⟩
      | true =>
        go_wp2_with fail
        go_ret
        exact ⟨ret_bool (by first | exact HM2.out.symm | (rw [HM2.out]; simp)), B3.out⟩
    by_cases n9 : n = 9
    · subst n9
      obtain ⟨e, he⟩ : ∃ e, e = eqCl ⟨9, a, b, s, t⟩ ⟨9, 0, 0, s, emp⟩ := ⟨_, rfl⟩
      have E := hide (show ∀ W, (binOp .eql 23 (.agg #[.int .i64 9, .int .i64 a, .int .i64 b, .string s, .string t]) (.agg #[.int .i64 9, .int .i64 0, .int .i64 0, .string s, .string ByteArray.empty])).run Try.prog W = .ok (.bool e) W from fun W => by rw [he]; exact call_eql W ⟨9, a, b, s, t⟩ ⟨9, 0, 0, s, emp⟩)
      have HM2 := hide (show M = (e && p) from by rw [HM.out, he, HP.out]; simp [mayCl, paths])
      clear he
      have Y2 := hide (Y1.out.set3 s)
      have T2 := hide ((Touch.refl (fun i => i = Y) wc).setCell (p := ⟨Y, 3, none⟩) rfl (.string s))
      have X2 := hide (show ClAt (wc.setCell ⟨Y, 3, none⟩ (.string s)) X 9 a b s t from (T2.out.block X (lt_of_heap X1.out) (fun q => NE.out q)).trans X1.out)
      have B2 := hide (B1.out.trans (T2.out.below B1.out.size (fun i q => by rw [q]; exact LY.out)))
      go_upto_region 27 with fail
      obtain ⟨w2, hw2⟩ : ∃ w2, w2 = (wc.setCell ⟨Y, 3, none⟩ (.string s)) := ⟨_, rfl⟩
      rw [← hw2]
      have X3 := hide (show ClAt w2 X 9 a b s t from by rw [hw2]; exact X2.out)
      have Y3 := hide (show ClAt w2 Y 9 0 0 s ByteArray.empty from by rw [hw2]; exact Y2.out)
      have B3 := hide (show Below w.heap.size w w2 from by rw [hw2]; exact B2.out)
      clear hw2 X2 Y2 T2 B2 c0 c1 c2 c3 c4 d0 d1 d2 d3 d4 f0 f1 f2 f3 f4
      obtain ⟨c0, c1, c2, c3, c4⟩ := X3.out.cells
      obtain ⟨d0, d1, d2, d3, d4⟩ := Y3.out.cells
      have e2 := E.out
      cases e with
      | false =>
        go_wp2_with fail
        go_ret
        exact ⟨ret_bool (by first | exact HM2.out.symm | (rw [HM2.out]; simp)), B3.out⟩
      | true =>
        go_wp2_with fail
        go_ret
        exact ⟨ret_bool (by first | exact HM2.out.symm | (rw [HM2.out]; simp)), B3.out⟩
    by_cases n10 : n = 10
    · subst n10
      obtain ⟨e, he⟩ : ∃ e, e = eqCl ⟨10, a, b, s, t⟩ ⟨10, 0, 0, s, emp⟩ := ⟨_, rfl⟩
      have E := hide (show ∀ W, (binOp .eql 23 (.agg #[.int .i64 10, .int .i64 a, .int .i64 b, .string s, .string t]) (.agg #[.int .i64 10, .int .i64 0, .int .i64 0, .string s, .string ByteArray.empty])).run Try.prog W = .ok (.bool e) W from fun W => by rw [he]; exact call_eql W ⟨10, a, b, s, t⟩ ⟨10, 0, 0, s, emp⟩)
      have HM2 := hide (show M = (e && p) from by rw [HM.out, he, HP.out]; simp [mayCl, paths])
      clear he
      have Y2 := hide (Y1.out.set3 s)
      have T2 := hide ((Touch.refl (fun i => i = Y) wc).setCell (p := ⟨Y, 3, none⟩) rfl (.string s))
      have X2 := hide (show ClAt (wc.setCell ⟨Y, 3, none⟩ (.string s)) X 10 a b s t from (T2.out.block X (lt_of_heap X1.out) (fun q => NE.out q)).trans X1.out)
      have B2 := hide (B1.out.trans (T2.out.below B1.out.size (fun i q => by rw [q]; exact LY.out)))
      go_upto_region 27 with fail
      obtain ⟨w2, hw2⟩ : ∃ w2, w2 = (wc.setCell ⟨Y, 3, none⟩ (.string s)) := ⟨_, rfl⟩
      rw [← hw2]
      have X3 := hide (show ClAt w2 X 10 a b s t from by rw [hw2]; exact X2.out)
      have Y3 := hide (show ClAt w2 Y 10 0 0 s ByteArray.empty from by rw [hw2]; exact Y2.out)
      have B3 := hide (show Below w.heap.size w w2 from by rw [hw2]; exact B2.out)
      clear hw2 X2 Y2 T2 B2 c0 c1 c2 c3 c4 d0 d1 d2 d3 d4 f0 f1 f2 f3 f4
      obtain ⟨c0, c1, c2, c3, c4⟩ := X3.out.cells
      obtain ⟨d0, d1, d2, d3, d4⟩ := Y3.out.cells
      have e2 := E.out
      cases e with
      | false =>
        go_wp2_with fail
        go_ret
        exact ⟨ret_bool (by first | exact HM2.out.symm | (rw [HM2.out]; simp)), B3.out⟩
      | true =>
        go_wp2_with fail
        go_ret
        exact ⟨ret_bool (by first | exact HM2.out.symm | (rw [HM2.out]; simp)), B3.out⟩
    by_cases n11 : n = 11
    · subst n11
      obtain ⟨e, he⟩ : ∃ e, e = eqCl ⟨11, a, b, s, t⟩ ⟨11, 0, 0, emp, emp⟩ := ⟨_, rfl⟩
      have E := hide (show ∀ W, (binOp .eql 23 (.agg #[.int .i64 11, .int .i64 a, .int .i64 b, .string s, .string t]) (.agg #[.int .i64 11, .int .i64 0, .int .i64 0, .string ByteArray.empty, .string ByteArray.empty])).run Try.prog W = .ok (.bool e) W from fun W => by rw [he]; exact call_eql W ⟨11, a, b, s, t⟩ ⟨11, 0, 0, emp, emp⟩)
      have HM2 := hide (show M = (e) from by rw [HM.out, he]; simp [mayCl])
      clear he
      have e2 := E.out
      go_wp2_with fail
      go_ret
      exact ⟨ret_bool (by first | exact HM2.out.symm | (rw [HM2.out]; simp)), B1.out⟩
    by_cases n12 : n = 12
    · subst n12
      obtain ⟨e, he⟩ : ∃ e, e = eqCl ⟨12, a, b, s, t⟩ ⟨12, 0, 0, s, emp⟩ := ⟨_, rfl⟩
      have E := hide (show ∀ W, (binOp .eql 23 (.agg #[.int .i64 12, .int .i64 a, .int .i64 b, .string s, .string t]) (.agg #[.int .i64 12, .int .i64 0, .int .i64 0, .string s, .string ByteArray.empty])).run Try.prog W = .ok (.bool e) W from fun W => by rw [he]; exact call_eql W ⟨12, a, b, s, t⟩ ⟨12, 0, 0, s, emp⟩)
      have HM2 := hide (show M = (e && p) from by rw [HM.out, he, HP.out]; simp [mayCl, paths])
      clear he
      have Y2 := hide (Y1.out.set3 s)
      have T2 := hide ((Touch.refl (fun i => i = Y) wc).setCell (p := ⟨Y, 3, none⟩) rfl (.string s))
      have X2 := hide (show ClAt (wc.setCell ⟨Y, 3, none⟩ (.string s)) X 12 a b s t from (T2.out.block X (lt_of_heap X1.out) (fun q => NE.out q)).trans X1.out)
      have B2 := hide (B1.out.trans (T2.out.below B1.out.size (fun i q => by rw [q]; exact LY.out)))
      go_upto_region 27 with fail
      obtain ⟨w2, hw2⟩ : ∃ w2, w2 = (wc.setCell ⟨Y, 3, none⟩ (.string s)) := ⟨_, rfl⟩
      rw [← hw2]
      have X3 := hide (show ClAt w2 X 12 a b s t from by rw [hw2]; exact X2.out)
      have Y3 := hide (show ClAt w2 Y 12 0 0 s ByteArray.empty from by rw [hw2]; exact Y2.out)
      have B3 := hide (show Below w.heap.size w w2 from by rw [hw2]; exact B2.out)
      clear hw2 X2 Y2 T2 B2 c0 c1 c2 c3 c4 d0 d1 d2 d3 d4 f0 f1 f2 f3 f4
      obtain ⟨c0, c1, c2, c3, c4⟩ := X3.out.cells
      obtain ⟨d0, d1, d2, d3, d4⟩ := Y3.out.cells
      have e2 := E.out
      cases e with
      | false =>
        go_wp2_with fail
        go_ret
        exact ⟨ret_bool (by first | exact HM2.out.symm | (rw [HM2.out]; simp)), B3.out⟩
      | true =>
        go_wp2_with fail
        go_ret
        exact ⟨ret_bool (by first | exact HM2.out.symm | (rw [HM2.out]; simp)), B3.out⟩
    by_cases n13 : n = 13
    · subst n13
      obtain ⟨e, he⟩ : ∃ e, e = eqCl ⟨13, a, b, s, t⟩ ⟨13, 0, 0, s, emp⟩ := ⟨_, rfl⟩
      have E := hide (show ∀ W, (binOp .eql 23 (.agg #[.int .i64 13, .int .i64 a, .int .i64 b, .string s, .string t]) (.agg #[.int .i64 13, .int .i64 0, .int .i64 0, .string s, .string ByteArray.empty])).run Try.prog W = .ok (.bool e) W from fun W => by rw [he]; exact call_eql W ⟨13, a, b, s, t⟩ ⟨13, 0, 0, s, emp⟩)
      have HM2 := hide (show M = (e && p) from by rw [HM.out, he, HP.out]; simp [mayCl, paths])
      clear he
      have Y2 := hide (Y1.out.set3 s)
      have T2 := hide ((Touch.refl (fun i => i = Y) wc).setCell (p := ⟨Y, 3, none⟩) rfl (.string s))
      have X2 := hide (show ClAt (wc.setCell ⟨Y, 3, none⟩ (.string s)) X 13 a b s t from (T2.out.block X (lt_of_heap X1.out) (fun q => NE.out q)).trans X1.out)
      have B2 := hide (B1.out.trans (T2.out.below B1.out.size (fun i q => by rw [q]; exact LY.out)))
      go_upto_region 27 with fail
      obtain ⟨w2, hw2⟩ : ∃ w2, w2 = (wc.setCell ⟨Y, 3, none⟩ (.string s)) := ⟨_, rfl⟩
      rw [← hw2]
      have X3 := hide (show ClAt w2 X 13 a b s t from by rw [hw2]; exact X2.out)
      have Y3 := hide (show ClAt w2 Y 13 0 0 s ByteArray.empty from by rw [hw2]; exact Y2.out)
      have B3 := hide (show Below w.heap.size w w2 from by rw [hw2]; exact B2.out)
      clear hw2 X2 Y2 T2 B2 c0 c1 c2 c3 c4 d0 d1 d2 d3 d4 f0 f1 f2 f3 f4
      obtain ⟨c0, c1, c2, c3, c4⟩ := X3.out.cells
      obtain ⟨d0, d1, d2, d3, d4⟩ := Y3.out.cells
      have e2 := E.out
      cases e with
      | false =>
        go_wp2_with fail
        go_ret
        exact ⟨ret_bool (by first | exact HM2.out.symm | (rw [HM2.out]; simp)), B3.out⟩
      | true =>
        go_wp2_with fail
        go_ret
        exact ⟨ret_bool (by first | exact HM2.out.symm | (rw [HM2.out]; simp)), B3.out⟩
    by_cases n14 : n = 14
    · subst n14
      obtain ⟨e, he⟩ : ∃ e, e = eqCl ⟨14, a, b, s, t⟩ ⟨14, a, 0, emp, emp⟩ := ⟨_, rfl⟩
      have E := hide (show ∀ W, (binOp .eql 23 (.agg #[.int .i64 14, .int .i64 a, .int .i64 b, .string s, .string t]) (.agg #[.int .i64 14, .int .i64 a, .int .i64 0, .string ByteArray.empty, .string ByteArray.empty])).run Try.prog W = .ok (.bool e) W from fun W => by rw [he]; exact call_eql W ⟨14, a, b, s, t⟩ ⟨14, a, 0, emp, emp⟩)
      obtain ⟨i0, hi0⟩ : ∃ i, i = inB a 39 := ⟨_, rfl⟩
      have K0 := hide (show ∀ W, Calls Try.prog 21 #[.int .i64 a, .int .i64 39] W fun e w' => e = .returned (.bool i0) ∧ W = w' from fun W => by rw [hi0]; exact rin_any W a 39)
      have HM2 := hide (show M = (e && i0) from by rw [HM.out, he, hi0]; simp [mayCl])
      clear he hi0
      have Y2 := hide (Y1.out.set1 a)
      have T2 := hide ((Touch.refl (fun i => i = Y) wc).setCell (p := ⟨Y, 1, none⟩) rfl (.int .i64 a))
      have X2 := hide (show ClAt (wc.setCell ⟨Y, 1, none⟩ (.int .i64 a)) X 14 a b s t from (T2.out.block X (lt_of_heap X1.out) (fun q => NE.out q)).trans X1.out)
      have B2 := hide (B1.out.trans (T2.out.below B1.out.size (fun i q => by rw [q]; exact LY.out)))
      go_upto_region 34 with fail
      obtain ⟨w2, hw2⟩ : ∃ w2, w2 = (wc.setCell ⟨Y, 1, none⟩ (.int .i64 a)) := ⟨_, rfl⟩
      rw [← hw2]
      have X3 := hide (show ClAt w2 X 14 a b s t from by rw [hw2]; exact X2.out)
      have Y3 := hide (show ClAt w2 Y 14 a 0 ByteArray.empty ByteArray.empty from by rw [hw2]; exact Y2.out)
      have B3 := hide (show Below w.heap.size w w2 from by rw [hw2]; exact B2.out)
      clear hw2 X2 Y2 T2 B2 c0 c1 c2 c3 c4 d0 d1 d2 d3 d4 f0 f1 f2 f3 f4
      obtain ⟨c0, c1, c2, c3, c4⟩ := X3.out.cells
      obtain ⟨d0, d1, d2, d3, d4⟩ := Y3.out.cells
      have e2 := E.out
      cases e with
      | false =>
        go_wp2_with (first | (go_at_call 21; with_reducible refine (K0.out _).mono ?_; rintro e w' ⟨rfl, rfl⟩))
        go_ret
        exact ⟨ret_bool (by first | exact HM2.out.symm | (rw [HM2.out]; simp)), B3.out⟩
      | true =>
        go_wp2_with (first | (go_at_call 21; with_reducible refine (K0.out _).mono ?_; rintro e w' ⟨rfl, rfl⟩))
        go_ret
        exact ⟨ret_bool (by first | exact HM2.out.symm | (rw [HM2.out]; simp)), B3.out⟩
    by_cases n15 : n = 15
    · subst n15
      obtain ⟨e, he⟩ : ∃ e, e = eqCl ⟨15, a, b, s, t⟩ ⟨15, a, 0, emp, emp⟩ := ⟨_, rfl⟩
      have E := hide (show ∀ W, (binOp .eql 23 (.agg #[.int .i64 15, .int .i64 a, .int .i64 b, .string s, .string t]) (.agg #[.int .i64 15, .int .i64 a, .int .i64 0, .string ByteArray.empty, .string ByteArray.empty])).run Try.prog W = .ok (.bool e) W from fun W => by rw [he]; exact call_eql W ⟨15, a, b, s, t⟩ ⟨15, a, 0, emp, emp⟩)
      obtain ⟨i0, hi0⟩ : ∃ i, i = inB a 255 := ⟨_, rfl⟩
      have K0 := hide (show ∀ W, Calls Try.prog 21 #[.int .i64 a, .int .i64 255] W fun e w' => e = .returned (.bool i0) ∧ W = w' from fun W => by rw [hi0]; exact rin_any W a 255)
      have HM2 := hide (show M = (e && i0) from by rw [HM.out, he, hi0]; simp [mayCl])
      clear he hi0
      have Y2 := hide (Y1.out.set1 a)
      have T2 := hide ((Touch.refl (fun i => i = Y) wc).setCell (p := ⟨Y, 1, none⟩) rfl (.int .i64 a))
      have X2 := hide (show ClAt (wc.setCell ⟨Y, 1, none⟩ (.int .i64 a)) X 15 a b s t from (T2.out.block X (lt_of_heap X1.out) (fun q => NE.out q)).trans X1.out)
      have B2 := hide (B1.out.trans (T2.out.below B1.out.size (fun i q => by rw [q]; exact LY.out)))
      go_upto_region 37 with fail
      obtain ⟨w2, hw2⟩ : ∃ w2, w2 = (wc.setCell ⟨Y, 1, none⟩ (.int .i64 a)) := ⟨_, rfl⟩
      rw [← hw2]
      have X3 := hide (show ClAt w2 X 15 a b s t from by rw [hw2]; exact X2.out)
      have Y3 := hide (show ClAt w2 Y 15 a 0 ByteArray.empty ByteArray.empty from by rw [hw2]; exact Y2.out)
      have B3 := hide (show Below w.heap.size w w2 from by rw [hw2]; exact B2.out)
      clear hw2 X2 Y2 T2 B2 c0 c1 c2 c3 c4 d0 d1 d2 d3 d4 f0 f1 f2 f3 f4
      obtain ⟨c0, c1, c2, c3, c4⟩ := X3.out.cells
      obtain ⟨d0, d1, d2, d3, d4⟩ := Y3.out.cells
      have e2 := E.out
      cases e with
      | false =>
        go_wp2_with (first | (go_at_call 21; with_reducible refine (K0.out _).mono ?_; rintro e w' ⟨rfl, rfl⟩))
        go_ret
        exact ⟨ret_bool (by first | exact HM2.out.symm | (rw [HM2.out]; simp)), B3.out⟩
      | true =>
        go_wp2_with (first | (go_at_call 21; with_reducible refine (K0.out _).mono ?_; rintro e w' ⟨rfl, rfl⟩))
        go_ret
        exact ⟨ret_bool (by first | exact HM2.out.symm | (rw [HM2.out]; simp)), B3.out⟩
    by_cases n16 : n = 16
    · subst n16
      obtain ⟨e, he⟩ : ∃ e, e = eqCl ⟨16, a, b, s, t⟩ ⟨16, 0, 0, emp, emp⟩ := ⟨_, rfl⟩
      have E := hide (show ∀ W, (binOp .eql 23 (.agg #[.int .i64 16, .int .i64 a, .int .i64 b, .string s, .string t]) (.agg #[.int .i64 16, .int .i64 0, .int .i64 0, .string ByteArray.empty, .string ByteArray.empty])).run Try.prog W = .ok (.bool e) W from fun W => by rw [he]; exact call_eql W ⟨16, a, b, s, t⟩ ⟨16, 0, 0, emp, emp⟩)
      have HM2 := hide (show M = (e) from by rw [HM.out, he]; simp [mayCl])
      clear he
      have e2 := E.out
      go_wp2_with fail
      go_ret
      exact ⟨ret_bool (by first | exact HM2.out.symm | (rw [HM2.out]; simp)), B1.out⟩
    by_cases n17 : n = 17
    · subst n17
      obtain ⟨e, he⟩ : ∃ e, e = eqCl ⟨17, a, b, s, t⟩ ⟨17, 0, 0, emp, emp⟩ := ⟨_, rfl⟩
      have E := hide (show ∀ W, (binOp .eql 23 (.agg #[.int .i64 17, .int .i64 a, .int .i64 b, .string s, .string t]) (.agg #[.int .i64 17, .int .i64 0, .int .i64 0, .string ByteArray.empty, .string ByteArray.empty])).run Try.prog W = .ok (.bool e) W from fun W => by rw [he]; exact call_eql W ⟨17, a, b, s, t⟩ ⟨17, 0, 0, emp, emp⟩)
      have HM2 := hide (show M = (e) from by rw [HM.out, he]; simp [mayCl])
      clear he
      have e2 := E.out
      go_wp2_with fail
      go_ret
      exact ⟨ret_bool (by first | exact HM2.out.symm | (rw [HM2.out]; simp)), B1.out⟩
    have g1 : (n == 1) = false := by simpa using n1
    have g2 : (n == 2) = false := by simpa using n2
    have g3 : (n == 3) = false := by simpa using n3
    have g4 : (n == 4) = false := by simpa using n4
    have g5 : (n == 5) = false := by simpa using n5
    have g6 : (n == 6) = false := by simpa using n6
    have g7 : (n == 7) = false := by simpa using n7
    have g8 : (n == 8) = false := by simpa using n8
    have g9 : (n == 9) = false := by simpa using n9
    have g10 : (n == 10) = false := by simpa using n10
    have g11 : (n == 11) = false := by simpa using n11
    have g12 : (n == 12) = false := by simpa using n12
    have g13 : (n == 13) = false := by simpa using n13
    have g14 : (n == 14) = false := by simpa using n14
    have g15 : (n == 15) = false := by simpa using n15
    have g16 : (n == 16) = false := by simpa using n16
    have g17 : (n == 17) = false := by simpa using n17
    have HM2 := hide (show M = false from by rw [HM.out]; simp [mayCl, n1, n2, n3, n4, n5, n6, n7, n8, n9, n10, n11, n12, n13, n14, n15, n16, n17])
    clear n1 n2 n3 n4 n5 n6 n7 n8 n9 n10 n11 n12 n13 n14 n15 n16 n17
    go_wp2_with fail
    go_ret
    exact ⟨ret_bool HM2.out.symm, B1.out⟩
end Go.Proofs.Ythgoifmmnebkeaa
