/-
  The document's own May (coxswainref9).
-/
import Derived.Test.YthgoifmmnebkeaaPgCall
namespace Go.Proofs.Ythgoifmmnebkeaa
open Go.ChangeShapes Go.WideShapes Go.ChangeAt Go.RowKit
set_option linter.unusedVariables false
def clZ : Cl := ⟨0, 0, 0, emp, emp⟩
/-- May a step be? -/
def maySt (o : Step) : Bool :=
  if o.k = 0 ∨ o.k = 4 ∨ o.k = 6 then eqSt o ⟨o.k, 0, 0, 0, clZ⟩
  else if o.k = 1 ∨ o.k = 7 then eqSt o ⟨o.k, o.a, 0, 0, clZ⟩ && decide (1 ≤ o.a) && decide (o.a ≤ 1000)
  else if o.k = 2 ∨ o.k = 3 then eqSt o ⟨o.k, o.a, 0, 0, clZ⟩ && inB o.a 5
  else if o.k = 5 then eqSt o ⟨5, o.a, 0, 0, clZ⟩ && inB o.a 39
  else if o.k = 8 then eqSt o ⟨8, o.a, o.b, o.c, clZ⟩ && inB o.a 3 && inB o.b 5 && inB o.c 1000
  else if o.k = 9 then eqSt o ⟨9, o.a, 0, 0, clZ⟩ && inB o.a 3
  else if o.k = 10 then eqSt o ⟨10, 0, 0, 0, o.cl⟩ && mayCl o.cl
  else false
theorem built_step (n : Int) : Try.prog.built 25 [(0, .int .i64 n)] = some #[.int .i64 n, .int .i64 0, .int .i64 0, .int .i64 0, .int .i64 0, .int .i64 0, .int .i64 0, .string ByteArray.empty, .string ByteArray.empty] := by kernel_rfl
attribute [local go_sem] built_step
/-- A step's block. -/
def StAt (w : World) (X : Nat) (k a b c n x y : Int) (s t : ByteArray) : Prop := w.heap[X]? = some (.cells #[.int .i64 k, .int .i64 a, .int .i64 b, .int .i64 c, .int .i64 n, .int .i64 x, .int .i64 y, .string s, .string t] 25 (0, 0))
theorem StAt.cells {w : World} {X : Nat} {k a b c n x y : Int} {s t : ByteArray} (h : StAt w X k a b c n x y s t) : w.cell? ⟨X, 0, none⟩ = some (.int .i64 k) ∧ w.cell? ⟨X, 1, none⟩ = some (.int .i64 a) ∧ w.cell? ⟨X, 2, none⟩ = some (.int .i64 b) ∧ w.cell? ⟨X, 3, none⟩ = some (.int .i64 c) ∧ w.cell? ⟨X, 4, none⟩ = some (.int .i64 n) ∧ w.cell? ⟨X, 5, none⟩ = some (.int .i64 x) ∧ w.cell? ⟨X, 6, none⟩ = some (.int .i64 y) ∧ w.cell? ⟨X, 7, none⟩ = some (.string s) ∧ w.cell? ⟨X, 8, none⟩ = some (.string t) := by
  refine ⟨?_, ?_, ?_, ?_, ?_, ?_, ?_, ?_, ?_⟩ <;> (rw [cell_of_row _ _ _ _ _ _ h]; rfl)
theorem StAt.frozen {w : World} {X : Nat} {k a b c n x y : Int} {s t : ByteArray} (h : StAt w X k a b c n x y s t) : w.frozen? ⟨X, 0, none⟩ = false ∧ w.frozen? ⟨X, 1, none⟩ = false ∧ w.frozen? ⟨X, 2, none⟩ = false ∧ w.frozen? ⟨X, 3, none⟩ = false ∧ w.frozen? ⟨X, 4, none⟩ = false ∧ w.frozen? ⟨X, 5, none⟩ = false ∧ w.frozen? ⟨X, 6, none⟩ = false ∧ w.frozen? ⟨X, 7, none⟩ = false ∧ w.frozen? ⟨X, 8, none⟩ = false :=
  ⟨frozen_of_row _ _ _ _ _ h, frozen_of_row _ _ _ _ _ h, frozen_of_row _ _ _ _ _ h, frozen_of_row _ _ _ _ _ h, frozen_of_row _ _ _ _ _ h, frozen_of_row _ _ _ _ _ h, frozen_of_row _ _ _ _ _ h, frozen_of_row _ _ _ _ _ h, frozen_of_row _ _ _ _ _ h⟩
theorem StAt.set1 {w : World} {X : Nat} {k a b c n x y : Int} {s t : ByteArray} (h : StAt w X k a b c n x y s t) (q : Int) : StAt (w.setCell ⟨X, 1, none⟩ (.int .i64 q)) X k q b c n x y s t := by unfold StAt; rw [heap_setCell_same _ _ _ _ _ _ h]; rfl
theorem StAt.set2 {w : World} {X : Nat} {k a b c n x y : Int} {s t : ByteArray} (h : StAt w X k a b c n x y s t) (q : Int) : StAt (w.setCell ⟨X, 2, none⟩ (.int .i64 q)) X k a q c n x y s t := by unfold StAt; rw [heap_setCell_same _ _ _ _ _ _ h]; rfl
theorem StAt.set3 {w : World} {X : Nat} {k a b c n x y : Int} {s t : ByteArray} (h : StAt w X k a b c n x y s t) (q : Int) : StAt (w.setCell ⟨X, 3, none⟩ (.int .i64 q)) X k a b q n x y s t := by unfold StAt; rw [heap_setCell_same _ _ _ _ _ _ h]; rfl
theorem StAt.set4 {w : World} {X : Nat} {k a b c n x y : Int} {s t : ByteArray} (h : StAt w X k a b c n x y s t) (q : Int) : StAt (w.setCell ⟨X, 4, none⟩ (.int .i64 q)) X k a b c q x y s t := by unfold StAt; rw [heap_setCell_same _ _ _ _ _ _ h]; rfl
theorem StAt.set5 {w : World} {X : Nat} {k a b c n x y : Int} {s t : ByteArray} (h : StAt w X k a b c n x y s t) (q : Int) : StAt (w.setCell ⟨X, 5, none⟩ (.int .i64 q)) X k a b c n q y s t := by unfold StAt; rw [heap_setCell_same _ _ _ _ _ _ h]; rfl
theorem StAt.set6 {w : World} {X : Nat} {k a b c n x y : Int} {s t : ByteArray} (h : StAt w X k a b c n x y s t) (q : Int) : StAt (w.setCell ⟨X, 6, none⟩ (.int .i64 q)) X k a b c n x q s t := by unfold StAt; rw [heap_setCell_same _ _ _ _ _ _ h]; rfl
theorem StAt.set7 {w : World} {X : Nat} {k a b c n x y : Int} {s t : ByteArray} (h : StAt w X k a b c n x y s t) (q : ByteArray) : StAt (w.setCell ⟨X, 7, none⟩ (.string q)) X k a b c n x y q t := by unfold StAt; rw [heap_setCell_same _ _ _ _ _ _ h]; rfl
theorem StAt.set8 {w : World} {X : Nat} {k a b c n x y : Int} {s t : ByteArray} (h : StAt w X k a b c n x y s t) (q : ByteArray) : StAt (w.setCell ⟨X, 8, none⟩ (.string q)) X k a b c n x y s q := by unfold StAt; rw [heap_setCell_same _ _ _ _ _ _ h]; rfl
set_option maxRecDepth 10000 in
set_option maxHeartbeats 40000000 in
theorem rmay9_any (w : World) (k a b c n x y : Int) (s t : ByteArray) : Calls Try.prog 9 #[.agg #[.int .i64 k, .int .i64 a, .int .i64 b, .int .i64 c, .int .i64 n, .int .i64 x, .int .i64 y, .string s, .string t]] w fun e w' => e = .returned (.bool (maySt ⟨k, a, b, c, ⟨n, x, y, s, t⟩⟩)) ∧ Below w.heap.size w w' := by
  obtain ⟨w1, hw1⟩ : ∃ w1, w1 = (w.alloc (.cells #[.int .i64 k, .int .i64 a, .int .i64 b, .int .i64 c, .int .i64 n, .int .i64 x, .int .i64 y, .string s, .string t] 25)).alloc (.cells #[.int .i64 k, .int .i64 0, .int .i64 0, .int .i64 0, .int .i64 0, .int .i64 0, .int .i64 0, .string ByteArray.empty, .string ByteArray.empty] 25) := ⟨_, rfl⟩
  have HW := hide hw1
  clear hw1
  obtain ⟨M, hM⟩ : ∃ M, M = maySt ⟨k, a, b, c, ⟨n, x, y, s, t⟩⟩ := ⟨_, rfl⟩
  rw [← hM]
  have HM := hide hM
  clear hM
  go_enter Try.func9, Try.ntmps9
  go_upto_region 2 with (refine wpList_build rfl 25 _ rfl (by kernel_rfl) ?_)
  rw [← HW.out]
  have X1 := hide (show StAt w1 w.heap.size k a b c n x y s t from by rw [HW.out]; exact (two_blocks w _ _).1)
  have Y1 := hide (show StAt w1 (w.heap.size + 1) k 0 0 0 0 0 0 ByteArray.empty ByteArray.empty from by rw [HW.out]; exact (two_blocks w _ _).2)
  have B1 := hide (show Below w.heap.size w w1 from by rw [HW.out]; exact (((Below.refl w.heap.size w).alloc (Nat.le_refl _) _).alloc (by simp) _))
  obtain ⟨Y, hY⟩ : ∃ Y, Y = w.heap.size + 1 := ⟨_, rfl⟩
  obtain ⟨X, hX⟩ : ∃ X, X = w.heap.size := ⟨_, rfl⟩
  rw [← hY, ← hX]
  rw [← hX] at X1
  rw [← hY] at Y1
  have NE := hide (show X ≠ Y from by omega)
  have LY := hide (show w.heap.size ≤ Y from by omega)
  clear hX hY HW
  obtain ⟨c0, c1, c2, c3, c4, c5, c6, c7, c8⟩ := X1.out.cells
  obtain ⟨d0, d1, d2, d3, d4, d5, d6, d7, d8⟩ := Y1.out.cells
  obtain ⟨f0, f1, f2, f3, f4, f5, f6, f7, f8⟩ := Y1.out.frozen
  by_cases n0 : k = 0
  · subst n0
    obtain ⟨e, he⟩ : ∃ e, e = eqSt ⟨0, a, b, c, ⟨n, x, y, s, t⟩⟩ ⟨0, 0, 0, 0, ⟨0, 0, 0, emp, emp⟩⟩ := ⟨_, rfl⟩
    have E := hide (show ∀ W, (binOp .eql 25 (.agg #[.int .i64 0, .int .i64 a, .int .i64 b, .int .i64 c, .int .i64 n, .int .i64 x, .int .i64 y, .string s, .string t]) (.agg #[.int .i64 0, .int .i64 0, .int .i64 0, .int .i64 0, .int .i64 0, .int .i64 0, .int .i64 0, .string ByteArray.empty, .string ByteArray.empty])).run Try.prog W = .ok (.bool e) W from fun W => by rw [he]; exact step_eql W ⟨0, a, b, c, ⟨n, x, y, s, t⟩⟩ ⟨0, 0, 0, 0, ⟨0, 0, 0, emp, emp⟩⟩)
    have HM2 := hide (show M = (e) from by rw [HM.out, he]; simp [maySt, clZ])
    clear he 
    have e2 := E.out
    go_wp2_with fail
    go_ret
    exact ⟨ret_bool (by first | exact HM2.out.symm | (rw [HM2.out]; simp; done) | (rw [HM2.out, Bool.eq_iff_iff]; simp; omega)), B1.out⟩
  by_cases n1 : k = 1
  · subst n1
    obtain ⟨e, he⟩ : ∃ e, e = eqSt ⟨1, a, b, c, ⟨n, x, y, s, t⟩⟩ ⟨1, a, 0, 0, ⟨0, 0, 0, emp, emp⟩⟩ := ⟨_, rfl⟩
    have E := hide (show ∀ W, (binOp .eql 25 (.agg #[.int .i64 1, .int .i64 a, .int .i64 b, .int .i64 c, .int .i64 n, .int .i64 x, .int .i64 y, .string s, .string t]) (.agg #[.int .i64 1, .int .i64 a, .int .i64 0, .int .i64 0, .int .i64 0, .int .i64 0, .int .i64 0, .string ByteArray.empty, .string ByteArray.empty])).run Try.prog W = .ok (.bool e) W from fun W => by rw [he]; exact step_eql W ⟨1, a, b, c, ⟨n, x, y, s, t⟩⟩ ⟨1, a, 0, 0, ⟨0, 0, 0, emp, emp⟩⟩)
    have HM2 := hide (show M = (e && decide (1 ≤ a) && decide (a ≤ 1000)) from by rw [HM.out, he]; simp [maySt, clZ])
    clear he 
    have Y2 := hide (Y1.out.set1 a)
    have T2 := hide ((Touch.refl (fun i => i = Y) w1).setCell (p := ⟨Y, 1, none⟩) rfl (.int .i64 a))
    have X2 := hide (show StAt (w1.setCell ⟨Y, 1, none⟩ (.int .i64 a)) X 1 a b c n x y s t from (T2.out.block X (lt_of_heap X1.out) (fun q => NE.out q)).trans X1.out)
    have B2 := hide (B1.out.trans (T2.out.below B1.out.size (fun i q => by rw [q]; exact LY.out)))
    go_upto_region 10 with fail
    obtain ⟨w2, hw2⟩ : ∃ w2, w2 = (w1.setCell ⟨Y, 1, none⟩ (.int .i64 a)) := ⟨_, rfl⟩
    rw [← hw2]
    have X3 := hide (show StAt w2 X 1 a b c n x y s t from by rw [hw2]; exact X2.out)
    have Y3 := hide (show StAt w2 Y 1 a 0 0 0 0 0 ByteArray.empty ByteArray.empty from by rw [hw2]; exact Y2.out)
    have B3 := hide (show Below w.heap.size w w2 from by rw [hw2]; exact B2.out)
    clear hw2 X2 Y2 T2 B2 c0 c1 c2 c3 c4 c5 c6 c7 c8 d0 d1 d2 d3 d4 d5 d6 d7 d8 f0 f1 f2 f3 f4 f5 f6 f7 f8
    obtain ⟨c0, c1, c2, c3, c4, c5, c6, c7, c8⟩ := X3.out.cells
    obtain ⟨d0, d1, d2, d3, d4, d5, d6, d7, d8⟩ := Y3.out.cells
    have e2 := E.out
    cases e with
    | false =>
      go_wp2_with fail
      go_ret
      exact ⟨ret_bool (by first | exact HM2.out.symm | (rw [HM2.out]; simp; done) | (rw [HM2.out, Bool.eq_iff_iff]; simp; omega)), B3.out⟩
    | true =>
      by_cases hc1 : 1 ≤ a
      · skip
        go_wp2_with fail
        go_ret
        exact ⟨ret_bool (by first | exact HM2.out.symm | (rw [HM2.out]; simp; done) | (rw [HM2.out, Bool.eq_iff_iff]; simp; omega)), B3.out⟩
      · skip
        go_wp2_with fail
        go_ret
        exact ⟨ret_bool (by first | exact HM2.out.symm | (rw [HM2.out]; simp; done) | (rw [HM2.out, Bool.eq_iff_iff]; simp; omega)), B3.out⟩
  by_cases n2 : k = 2
  · subst n2
    obtain ⟨e, he⟩ : ∃ e, e = eqSt ⟨2, a, b, c, ⟨n, x, y, s, t⟩⟩ ⟨2, a, 0, 0, ⟨0, 0, 0, emp, emp⟩⟩ := ⟨_, rfl⟩
    have E := hide (show ∀ W, (binOp .eql 25 (.agg #[.int .i64 2, .int .i64 a, .int .i64 b, .int .i64 c, .int .i64 n, .int .i64 x, .int .i64 y, .string s, .string t]) (.agg #[.int .i64 2, .int .i64 a, .int .i64 0, .int .i64 0, .int .i64 0, .int .i64 0, .int .i64 0, .string ByteArray.empty, .string ByteArray.empty])).run Try.prog W = .ok (.bool e) W from fun W => by rw [he]; exact step_eql W ⟨2, a, b, c, ⟨n, x, y, s, t⟩⟩ ⟨2, a, 0, 0, ⟨0, 0, 0, emp, emp⟩⟩)
    obtain ⟨i0, hi0⟩ : ∃ i, i = inB a 5 := ⟨_, rfl⟩
    have K0 := hide (show ∀ W, Calls Try.prog 21 #[.int .i64 a, .int .i64 5] W fun e w' => e = .returned (.bool i0) ∧ W = w' from fun W => by rw [hi0]; exact rin_any W a 5)
    have HM2 := hide (show M = (e && i0) from by rw [HM.out, he, hi0]; simp [maySt, clZ])
    clear he hi0
    have Y2 := hide (Y1.out.set1 a)
    have T2 := hide ((Touch.refl (fun i => i = Y) w1).setCell (p := ⟨Y, 1, none⟩) rfl (.int .i64 a))
    have X2 := hide (show StAt (w1.setCell ⟨Y, 1, none⟩ (.int .i64 a)) X 2 a b c n x y s t from (T2.out.block X (lt_of_heap X1.out) (fun q => NE.out q)).trans X1.out)
    have B2 := hide (B1.out.trans (T2.out.below B1.out.size (fun i q => by rw [q]; exact LY.out)))
    go_upto_region 14 with fail
    obtain ⟨w2, hw2⟩ : ∃ w2, w2 = (w1.setCell ⟨Y, 1, none⟩ (.int .i64 a)) := ⟨_, rfl⟩
    rw [← hw2]
    have X3 := hide (show StAt w2 X 2 a b c n x y s t from by rw [hw2]; exact X2.out)
    have Y3 := hide (show StAt w2 Y 2 a 0 0 0 0 0 ByteArray.empty ByteArray.empty from by rw [hw2]; exact Y2.out)
    have B3 := hide (show Below w.heap.size w w2 from by rw [hw2]; exact B2.out)
    clear hw2 X2 Y2 T2 B2 c0 c1 c2 c3 c4 c5 c6 c7 c8 d0 d1 d2 d3 d4 d5 d6 d7 d8 f0 f1 f2 f3 f4 f5 f6 f7 f8
    obtain ⟨c0, c1, c2, c3, c4, c5, c6, c7, c8⟩ := X3.out.cells
    obtain ⟨d0, d1, d2, d3, d4, d5, d6, d7, d8⟩ := Y3.out.cells
    have e2 := E.out
    cases e with
    | false =>
      go_wp2_with (first | (go_at_call 21; with_reducible refine (K0.out _).mono ?_; rintro e w' ⟨rfl, rfl⟩))
      go_ret
      exact ⟨ret_bool (by first | exact HM2.out.symm | (rw [HM2.out]; simp; done) | (rw [HM2.out, Bool.eq_iff_iff]; simp; omega)), B3.out⟩
    | true =>
      go_wp2_with (first | (go_at_call 21; with_reducible refine (K0.out _).mono ?_; rintro e w' ⟨rfl, rfl⟩))
      go_ret
      exact ⟨ret_bool (by first | exact HM2.out.symm | (rw [HM2.out]; simp; done) | (rw [HM2.out, Bool.eq_iff_iff]; simp; omega)), B3.out⟩
  by_cases n3 : k = 3
  · subst n3
    obtain ⟨e, he⟩ : ∃ e, e = eqSt ⟨3, a, b, c, ⟨n, x, y, s, t⟩⟩ ⟨3, a, 0, 0, ⟨0, 0, 0, emp, emp⟩⟩ := ⟨_, rfl⟩
    have E := hide (show ∀ W, (binOp .eql 25 (.agg #[.int .i64 3, .int .i64 a, .int .i64 b, .int .i64 c, .int .i64 n, .int .i64 x, .int .i64 y, .string s, .string t]) (.agg #[.int .i64 3, .int .i64 a, .int .i64 0, .int .i64 0, .int .i64 0, .int .i64 0, .int .i64 0, .string ByteArray.empty, .string ByteArray.empty])).run Try.prog W = .ok (.bool e) W from fun W => by rw [he]; exact step_eql W ⟨3, a, b, c, ⟨n, x, y, s, t⟩⟩ ⟨3, a, 0, 0, ⟨0, 0, 0, emp, emp⟩⟩)
    obtain ⟨i0, hi0⟩ : ∃ i, i = inB a 5 := ⟨_, rfl⟩
    have K0 := hide (show ∀ W, Calls Try.prog 21 #[.int .i64 a, .int .i64 5] W fun e w' => e = .returned (.bool i0) ∧ W = w' from fun W => by rw [hi0]; exact rin_any W a 5)
    have HM2 := hide (show M = (e && i0) from by rw [HM.out, he, hi0]; simp [maySt, clZ])
    clear he hi0
    have Y2 := hide (Y1.out.set1 a)
    have T2 := hide ((Touch.refl (fun i => i = Y) w1).setCell (p := ⟨Y, 1, none⟩) rfl (.int .i64 a))
    have X2 := hide (show StAt (w1.setCell ⟨Y, 1, none⟩ (.int .i64 a)) X 3 a b c n x y s t from (T2.out.block X (lt_of_heap X1.out) (fun q => NE.out q)).trans X1.out)
    have B2 := hide (B1.out.trans (T2.out.below B1.out.size (fun i q => by rw [q]; exact LY.out)))
    go_upto_region 14 with fail
    obtain ⟨w2, hw2⟩ : ∃ w2, w2 = (w1.setCell ⟨Y, 1, none⟩ (.int .i64 a)) := ⟨_, rfl⟩
    rw [← hw2]
    have X3 := hide (show StAt w2 X 3 a b c n x y s t from by rw [hw2]; exact X2.out)
    have Y3 := hide (show StAt w2 Y 3 a 0 0 0 0 0 ByteArray.empty ByteArray.empty from by rw [hw2]; exact Y2.out)
    have B3 := hide (show Below w.heap.size w w2 from by rw [hw2]; exact B2.out)
    clear hw2 X2 Y2 T2 B2 c0 c1 c2 c3 c4 c5 c6 c7 c8 d0 d1 d2 d3 d4 d5 d6 d7 d8 f0 f1 f2 f3 f4 f5 f6 f7 f8
    obtain ⟨c0, c1, c2, c3, c4, c5, c6, c7, c8⟩ := X3.out.cells
    obtain ⟨d0, d1, d2, d3, d4, d5, d6, d7, d8⟩ := Y3.out.cells
    have e2 := E.out
    cases e with
    | false =>
      go_wp2_with (first | (go_at_call 21; with_reducible refine (K0.out _).mono ?_; rintro e w' ⟨rfl, rfl⟩))
      go_ret
      exact ⟨ret_bool (by first | exact HM2.out.symm | (rw [HM2.out]; simp; done) | (rw [HM2.out, Bool.eq_iff_iff]; simp; omega)), B3.out⟩
    | true =>
      go_wp2_with (first | (go_at_call 21; with_reducible refine (K0.out _).mono ?_; rintro e w' ⟨rfl, rfl⟩))
      go_ret
      exact ⟨ret_bool (by first | exact HM2.out.symm | (rw [HM2.out]; simp; done) | (rw [HM2.out, Bool.eq_iff_iff]; simp; omega)), B3.out⟩
  by_cases n4 : k = 4
  · subst n4
    obtain ⟨e, he⟩ : ∃ e, e = eqSt ⟨4, a, b, c, ⟨n, x, y, s, t⟩⟩ ⟨4, 0, 0, 0, ⟨0, 0, 0, emp, emp⟩⟩ := ⟨_, rfl⟩
    have E := hide (show ∀ W, (binOp .eql 25 (.agg #[.int .i64 4, .int .i64 a, .int .i64 b, .int .i64 c, .int .i64 n, .int .i64 x, .int .i64 y, .string s, .string t]) (.agg #[.int .i64 4, .int .i64 0, .int .i64 0, .int .i64 0, .int .i64 0, .int .i64 0, .int .i64 0, .string ByteArray.empty, .string ByteArray.empty])).run Try.prog W = .ok (.bool e) W from fun W => by rw [he]; exact step_eql W ⟨4, a, b, c, ⟨n, x, y, s, t⟩⟩ ⟨4, 0, 0, 0, ⟨0, 0, 0, emp, emp⟩⟩)
    have HM2 := hide (show M = (e) from by rw [HM.out, he]; simp [maySt, clZ])
    clear he 
    have e2 := E.out
    go_wp2_with fail
    go_ret
    exact ⟨ret_bool (by first | exact HM2.out.symm | (rw [HM2.out]; simp; done) | (rw [HM2.out, Bool.eq_iff_iff]; simp; omega)), B1.out⟩
  by_cases n5 : k = 5
  · subst n5
    obtain ⟨e, he⟩ : ∃ e, e = eqSt ⟨5, a, b, c, ⟨n, x, y, s, t⟩⟩ ⟨5, a, 0, 0, ⟨0, 0, 0, emp, emp⟩⟩ := ⟨_, rfl⟩
    have E := hide (show ∀ W, (binOp .eql 25 (.agg #[.int .i64 5, .int .i64 a, .int .i64 b, .int .i64 c, .int .i64 n, .int .i64 x, .int .i64 y, .string s, .string t]) (.agg #[.int .i64 5, .int .i64 a, .int .i64 0, .int .i64 0, .int .i64 0, .int .i64 0, .int .i64 0, .string ByteArray.empty, .string ByteArray.empty])).run Try.prog W = .ok (.bool e) W from fun W => by rw [he]; exact step_eql W ⟨5, a, b, c, ⟨n, x, y, s, t⟩⟩ ⟨5, a, 0, 0, ⟨0, 0, 0, emp, emp⟩⟩)
    obtain ⟨i0, hi0⟩ : ∃ i, i = inB a 39 := ⟨_, rfl⟩
    have K0 := hide (show ∀ W, Calls Try.prog 21 #[.int .i64 a, .int .i64 39] W fun e w' => e = .returned (.bool i0) ∧ W = w' from fun W => by rw [hi0]; exact rin_any W a 39)
    have HM2 := hide (show M = (e && i0) from by rw [HM.out, he, hi0]; simp [maySt, clZ])
    clear he hi0
    have Y2 := hide (Y1.out.set1 a)
    have T2 := hide ((Touch.refl (fun i => i = Y) w1).setCell (p := ⟨Y, 1, none⟩) rfl (.int .i64 a))
    have X2 := hide (show StAt (w1.setCell ⟨Y, 1, none⟩ (.int .i64 a)) X 5 a b c n x y s t from (T2.out.block X (lt_of_heap X1.out) (fun q => NE.out q)).trans X1.out)
    have B2 := hide (B1.out.trans (T2.out.below B1.out.size (fun i q => by rw [q]; exact LY.out)))
    go_upto_region 17 with fail
    obtain ⟨w2, hw2⟩ : ∃ w2, w2 = (w1.setCell ⟨Y, 1, none⟩ (.int .i64 a)) := ⟨_, rfl⟩
    rw [← hw2]
    have X3 := hide (show StAt w2 X 5 a b c n x y s t from by rw [hw2]; exact X2.out)
    have Y3 := hide (show StAt w2 Y 5 a 0 0 0 0 0 ByteArray.empty ByteArray.empty from by rw [hw2]; exact Y2.out)
    have B3 := hide (show Below w.heap.size w w2 from by rw [hw2]; exact B2.out)
    clear hw2 X2 Y2 T2 B2 c0 c1 c2 c3 c4 c5 c6 c7 c8 d0 d1 d2 d3 d4 d5 d6 d7 d8 f0 f1 f2 f3 f4 f5 f6 f7 f8
    obtain ⟨c0, c1, c2, c3, c4, c5, c6, c7, c8⟩ := X3.out.cells
    obtain ⟨d0, d1, d2, d3, d4, d5, d6, d7, d8⟩ := Y3.out.cells
    have e2 := E.out
    cases e with
    | false =>
      go_wp2_with (first | (go_at_call 21; with_reducible refine (K0.out _).mono ?_; rintro e w' ⟨rfl, rfl⟩))
      go_ret
      exact ⟨ret_bool (by first | exact HM2.out.symm | (rw [HM2.out]; simp; done) | (rw [HM2.out, Bool.eq_iff_iff]; simp; omega)), B3.out⟩
    | true =>
      go_wp2_with (first | (go_at_call 21; with_reducible refine (K0.out _).mono ?_; rintro e w' ⟨rfl, rfl⟩))
      go_ret
      exact ⟨ret_bool (by first | exact HM2.out.symm | (rw [HM2.out]; simp; done) | (rw [HM2.out, Bool.eq_iff_iff]; simp; omega)), B3.out⟩
  by_cases n6 : k = 6
  · subst n6
    obtain ⟨e, he⟩ : ∃ e, e = eqSt ⟨6, a, b, c, ⟨n, x, y, s, t⟩⟩ ⟨6, 0, 0, 0, ⟨0, 0, 0, emp, emp⟩⟩ := ⟨_, rfl⟩
    have E := hide (show ∀ W, (binOp .eql 25 (.agg #[.int .i64 6, .int .i64 a, .int .i64 b, .int .i64 c, .int .i64 n, .int .i64 x, .int .i64 y, .string s, .string t]) (.agg #[.int .i64 6, .int .i64 0, .int .i64 0, .int .i64 0, .int .i64 0, .int .i64 0, .int .i64 0, .string ByteArray.empty, .string ByteArray.empty])).run Try.prog W = .ok (.bool e) W from fun W => by rw [he]; exact step_eql W ⟨6, a, b, c, ⟨n, x, y, s, t⟩⟩ ⟨6, 0, 0, 0, ⟨0, 0, 0, emp, emp⟩⟩)
    have HM2 := hide (show M = (e) from by rw [HM.out, he]; simp [maySt, clZ])
    clear he 
    have e2 := E.out
    go_wp2_with fail
    go_ret
    exact ⟨ret_bool (by first | exact HM2.out.symm | (rw [HM2.out]; simp; done) | (rw [HM2.out, Bool.eq_iff_iff]; simp; omega)), B1.out⟩
  by_cases n7 : k = 7
  · subst n7
    obtain ⟨e, he⟩ : ∃ e, e = eqSt ⟨7, a, b, c, ⟨n, x, y, s, t⟩⟩ ⟨7, a, 0, 0, ⟨0, 0, 0, emp, emp⟩⟩ := ⟨_, rfl⟩
    have E := hide (show ∀ W, (binOp .eql 25 (.agg #[.int .i64 7, .int .i64 a, .int .i64 b, .int .i64 c, .int .i64 n, .int .i64 x, .int .i64 y, .string s, .string t]) (.agg #[.int .i64 7, .int .i64 a, .int .i64 0, .int .i64 0, .int .i64 0, .int .i64 0, .int .i64 0, .string ByteArray.empty, .string ByteArray.empty])).run Try.prog W = .ok (.bool e) W from fun W => by rw [he]; exact step_eql W ⟨7, a, b, c, ⟨n, x, y, s, t⟩⟩ ⟨7, a, 0, 0, ⟨0, 0, 0, emp, emp⟩⟩)
    have HM2 := hide (show M = (e && decide (1 ≤ a) && decide (a ≤ 1000)) from by rw [HM.out, he]; simp [maySt, clZ])
    clear he 
    have Y2 := hide (Y1.out.set1 a)
    have T2 := hide ((Touch.refl (fun i => i = Y) w1).setCell (p := ⟨Y, 1, none⟩) rfl (.int .i64 a))
    have X2 := hide (show StAt (w1.setCell ⟨Y, 1, none⟩ (.int .i64 a)) X 7 a b c n x y s t from (T2.out.block X (lt_of_heap X1.out) (fun q => NE.out q)).trans X1.out)
    have B2 := hide (B1.out.trans (T2.out.below B1.out.size (fun i q => by rw [q]; exact LY.out)))
    go_upto_region 10 with fail
    obtain ⟨w2, hw2⟩ : ∃ w2, w2 = (w1.setCell ⟨Y, 1, none⟩ (.int .i64 a)) := ⟨_, rfl⟩
    rw [← hw2]
    have X3 := hide (show StAt w2 X 7 a b c n x y s t from by rw [hw2]; exact X2.out)
    have Y3 := hide (show StAt w2 Y 7 a 0 0 0 0 0 ByteArray.empty ByteArray.empty from by rw [hw2]; exact Y2.out)
    have B3 := hide (show Below w.heap.size w w2 from by rw [hw2]; exact B2.out)
    clear hw2 X2 Y2 T2 B2 c0 c1 c2 c3 c4 c5 c6 c7 c8 d0 d1 d2 d3 d4 d5 d6 d7 d8 f0 f1 f2 f3 f4 f5 f6 f7 f8
    obtain ⟨c0, c1, c2, c3, c4, c5, c6, c7, c8⟩ := X3.out.cells
    obtain ⟨d0, d1, d2, d3, d4, d5, d6, d7, d8⟩ := Y3.out.cells
    have e2 := E.out
    cases e with
    | false =>
      go_wp2_with fail
      go_ret
      exact ⟨ret_bool (by first | exact HM2.out.symm | (rw [HM2.out]; simp; done) | (rw [HM2.out, Bool.eq_iff_iff]; simp; omega)), B3.out⟩
    | true =>
      by_cases hc1 : 1 ≤ a
      · skip
        go_wp2_with fail
        go_ret
        exact ⟨ret_bool (by first | exact HM2.out.symm | (rw [HM2.out]; simp; done) | (rw [HM2.out, Bool.eq_iff_iff]; simp; omega)), B3.out⟩
      · skip
        go_wp2_with fail
        go_ret
        exact ⟨ret_bool (by first | exact HM2.out.symm | (rw [HM2.out]; simp; done) | (rw [HM2.out, Bool.eq_iff_iff]; simp; omega)), B3.out⟩
  by_cases n8 : k = 8
  · subst n8
    obtain ⟨e, he⟩ : ∃ e, e = eqSt ⟨8, a, b, c, ⟨n, x, y, s, t⟩⟩ ⟨8, a, b, c, ⟨0, 0, 0, emp, emp⟩⟩ := ⟨_, rfl⟩
    have E := hide (show ∀ W, (binOp .eql 25 (.agg #[.int .i64 8, .int .i64 a, .int .i64 b, .int .i64 c, .int .i64 n, .int .i64 x, .int .i64 y, .string s, .string t]) (.agg #[.int .i64 8, .int .i64 a, .int .i64 b, .int .i64 c, .int .i64 0, .int .i64 0, .int .i64 0, .string ByteArray.empty, .string ByteArray.empty])).run Try.prog W = .ok (.bool e) W from fun W => by rw [he]; exact step_eql W ⟨8, a, b, c, ⟨n, x, y, s, t⟩⟩ ⟨8, a, b, c, ⟨0, 0, 0, emp, emp⟩⟩)
    obtain ⟨i0, hi0⟩ : ∃ i, i = inB a 3 := ⟨_, rfl⟩
    have K0 := hide (show ∀ W, Calls Try.prog 21 #[.int .i64 a, .int .i64 3] W fun e w' => e = .returned (.bool i0) ∧ W = w' from fun W => by rw [hi0]; exact rin_any W a 3)
    obtain ⟨i1, hi1⟩ : ∃ i, i = inB b 5 := ⟨_, rfl⟩
    have K1 := hide (show ∀ W, Calls Try.prog 21 #[.int .i64 b, .int .i64 5] W fun e w' => e = .returned (.bool i1) ∧ W = w' from fun W => by rw [hi1]; exact rin_any W b 5)
    obtain ⟨i2, hi2⟩ : ∃ i, i = inB c 1000 := ⟨_, rfl⟩
    have K2 := hide (show ∀ W, Calls Try.prog 21 #[.int .i64 c, .int .i64 1000] W fun e w' => e = .returned (.bool i2) ∧ W = w' from fun W => by rw [hi2]; exact rin_any W c 1000)
    have HM2 := hide (show M = (e && i0 && i1 && i2) from by rw [HM.out, he, hi0, hi1, hi2]; simp [maySt, clZ])
    clear he hi0 hi1 hi2
    have Y2 := hide (((Y1.out.set1 a).set2 b).set3 c)
    have T2 := hide ((((Touch.refl (fun i => i = Y) w1).setCell (p := ⟨Y, 1, none⟩) rfl (.int .i64 a)).setCell (p := ⟨Y, 2, none⟩) rfl (.int .i64 b)).setCell (p := ⟨Y, 3, none⟩) rfl (.int .i64 c))
    have X2 := hide (show StAt (((w1.setCell ⟨Y, 1, none⟩ (.int .i64 a)).setCell ⟨Y, 2, none⟩ (.int .i64 b)).setCell ⟨Y, 3, none⟩ (.int .i64 c)) X 8 a b c n x y s t from (T2.out.block X (lt_of_heap X1.out) (fun q => NE.out q)).trans X1.out)
    have B2 := hide (B1.out.trans (T2.out.below B1.out.size (fun i q => by rw [q]; exact LY.out)))
    go_upto_region 19 with fail
    go_region
    go_upto_region 20 with fail
    obtain ⟨w2, hw2⟩ : ∃ w2, w2 = (((w1.setCell ⟨Y, 1, none⟩ (.int .i64 a)).setCell ⟨Y, 2, none⟩ (.int .i64 b)).setCell ⟨Y, 3, none⟩ (.int .i64 c)).drew := ⟨_, rfl⟩
    rw [← hw2]
    have X3 := hide (show StAt w2 X 8 a b c n x y s t from by rw [hw2]; exact X2.out)
    have Y3 := hide (show StAt w2 Y 8 a b c 0 0 0 ByteArray.empty ByteArray.empty from by rw [hw2]; exact Y2.out)
    have B3 := hide (show Below w.heap.size w w2 from by rw [hw2]; exact below_drewN B2.out 1)
    clear hw2 X2 Y2 T2 B2 c0 c1 c2 c3 c4 c5 c6 c7 c8 d0 d1 d2 d3 d4 d5 d6 d7 d8 f0 f1 f2 f3 f4 f5 f6 f7 f8
    obtain ⟨c0, c1, c2, c3, c4, c5, c6, c7, c8⟩ := X3.out.cells
    obtain ⟨d0, d1, d2, d3, d4, d5, d6, d7, d8⟩ := Y3.out.cells
    have e2 := E.out
    cases e with
    | false =>
      go_wp2_with (first | (go_at_call 21; with_reducible refine (K0.out _).mono ?_; rintro e w' ⟨rfl, rfl⟩) | (go_at_call 21; with_reducible refine (K1.out _).mono ?_; rintro e w' ⟨rfl, rfl⟩) | (go_at_call 21; with_reducible refine (K2.out _).mono ?_; rintro e w' ⟨rfl, rfl⟩))
      go_ret
      exact ⟨ret_bool (by first | exact HM2.out.symm | (rw [HM2.out]; simp; done) | (rw [HM2.out, Bool.eq_iff_iff]; simp; omega)), B3.out⟩
    | true =>
      cases i0 with
      | false =>
        go_wp2_with (first | (go_at_call 21; with_reducible refine (K0.out _).mono ?_; rintro e w' ⟨rfl, rfl⟩) | (go_at_call 21; with_reducible refine (K1.out _).mono ?_; rintro e w' ⟨rfl, rfl⟩) | (go_at_call 21; with_reducible refine (K2.out _).mono ?_; rintro e w' ⟨rfl, rfl⟩))
        go_ret
        exact ⟨ret_bool (by first | exact HM2.out.symm | (rw [HM2.out]; simp; done) | (rw [HM2.out, Bool.eq_iff_iff]; simp; omega)), B3.out⟩
      | true =>
        cases i1 with
        | false =>
          go_wp2_with (first | (go_at_call 21; with_reducible refine (K0.out _).mono ?_; rintro e w' ⟨rfl, rfl⟩) | (go_at_call 21; with_reducible refine (K1.out _).mono ?_; rintro e w' ⟨rfl, rfl⟩) | (go_at_call 21; with_reducible refine (K2.out _).mono ?_; rintro e w' ⟨rfl, rfl⟩))
          go_ret
          exact ⟨ret_bool (by first | exact HM2.out.symm | (rw [HM2.out]; simp; done) | (rw [HM2.out, Bool.eq_iff_iff]; simp; omega)), B3.out⟩
        | true =>
          go_wp2_with (first | (go_at_call 21; with_reducible refine (K0.out _).mono ?_; rintro e w' ⟨rfl, rfl⟩) | (go_at_call 21; with_reducible refine (K1.out _).mono ?_; rintro e w' ⟨rfl, rfl⟩) | (go_at_call 21; with_reducible refine (K2.out _).mono ?_; rintro e w' ⟨rfl, rfl⟩))
          go_ret
          exact ⟨ret_bool (by first | exact HM2.out.symm | (rw [HM2.out]; simp; done) | (rw [HM2.out, Bool.eq_iff_iff]; simp; omega)), B3.out⟩
  by_cases n9 : k = 9
  · subst n9
    obtain ⟨e, he⟩ : ∃ e, e = eqSt ⟨9, a, b, c, ⟨n, x, y, s, t⟩⟩ ⟨9, a, 0, 0, ⟨0, 0, 0, emp, emp⟩⟩ := ⟨_, rfl⟩
    have E := hide (show ∀ W, (binOp .eql 25 (.agg #[.int .i64 9, .int .i64 a, .int .i64 b, .int .i64 c, .int .i64 n, .int .i64 x, .int .i64 y, .string s, .string t]) (.agg #[.int .i64 9, .int .i64 a, .int .i64 0, .int .i64 0, .int .i64 0, .int .i64 0, .int .i64 0, .string ByteArray.empty, .string ByteArray.empty])).run Try.prog W = .ok (.bool e) W from fun W => by rw [he]; exact step_eql W ⟨9, a, b, c, ⟨n, x, y, s, t⟩⟩ ⟨9, a, 0, 0, ⟨0, 0, 0, emp, emp⟩⟩)
    obtain ⟨i0, hi0⟩ : ∃ i, i = inB a 3 := ⟨_, rfl⟩
    have K0 := hide (show ∀ W, Calls Try.prog 21 #[.int .i64 a, .int .i64 3] W fun e w' => e = .returned (.bool i0) ∧ W = w' from fun W => by rw [hi0]; exact rin_any W a 3)
    have HM2 := hide (show M = (e && i0) from by rw [HM.out, he, hi0]; simp [maySt, clZ])
    clear he hi0
    have Y2 := hide (Y1.out.set1 a)
    have T2 := hide ((Touch.refl (fun i => i = Y) w1).setCell (p := ⟨Y, 1, none⟩) rfl (.int .i64 a))
    have X2 := hide (show StAt (w1.setCell ⟨Y, 1, none⟩ (.int .i64 a)) X 9 a b c n x y s t from (T2.out.block X (lt_of_heap X1.out) (fun q => NE.out q)).trans X1.out)
    have B2 := hide (B1.out.trans (T2.out.below B1.out.size (fun i q => by rw [q]; exact LY.out)))
    go_upto_region 23 with fail
    obtain ⟨w2, hw2⟩ : ∃ w2, w2 = (w1.setCell ⟨Y, 1, none⟩ (.int .i64 a)) := ⟨_, rfl⟩
    rw [← hw2]
    have X3 := hide (show StAt w2 X 9 a b c n x y s t from by rw [hw2]; exact X2.out)
    have Y3 := hide (show StAt w2 Y 9 a 0 0 0 0 0 ByteArray.empty ByteArray.empty from by rw [hw2]; exact Y2.out)
    have B3 := hide (show Below w.heap.size w w2 from by rw [hw2]; exact B2.out)
    clear hw2 X2 Y2 T2 B2 c0 c1 c2 c3 c4 c5 c6 c7 c8 d0 d1 d2 d3 d4 d5 d6 d7 d8 f0 f1 f2 f3 f4 f5 f6 f7 f8
    obtain ⟨c0, c1, c2, c3, c4, c5, c6, c7, c8⟩ := X3.out.cells
    obtain ⟨d0, d1, d2, d3, d4, d5, d6, d7, d8⟩ := Y3.out.cells
    have e2 := E.out
    cases e with
    | false =>
      go_wp2_with (first | (go_at_call 21; with_reducible refine (K0.out _).mono ?_; rintro e w' ⟨rfl, rfl⟩))
      go_ret
      exact ⟨ret_bool (by first | exact HM2.out.symm | (rw [HM2.out]; simp; done) | (rw [HM2.out, Bool.eq_iff_iff]; simp; omega)), B3.out⟩
    | true =>
      go_wp2_with (first | (go_at_call 21; with_reducible refine (K0.out _).mono ?_; rintro e w' ⟨rfl, rfl⟩))
      go_ret
      exact ⟨ret_bool (by first | exact HM2.out.symm | (rw [HM2.out]; simp; done) | (rw [HM2.out, Bool.eq_iff_iff]; simp; omega)), B3.out⟩
  by_cases n10 : k = 10
  · subst n10
    obtain ⟨e, he⟩ : ∃ e, e = eqSt ⟨10, a, b, c, ⟨n, x, y, s, t⟩⟩ ⟨10, 0, 0, 0, ⟨n, x, y, s, t⟩⟩ := ⟨_, rfl⟩
    have E := hide (show ∀ W, (binOp .eql 25 (.agg #[.int .i64 10, .int .i64 a, .int .i64 b, .int .i64 c, .int .i64 n, .int .i64 x, .int .i64 y, .string s, .string t]) (.agg #[.int .i64 10, .int .i64 0, .int .i64 0, .int .i64 0, .int .i64 n, .int .i64 x, .int .i64 y, .string s, .string t])).run Try.prog W = .ok (.bool e) W from fun W => by rw [he]; exact step_eql W ⟨10, a, b, c, ⟨n, x, y, s, t⟩⟩ ⟨10, 0, 0, 0, ⟨n, x, y, s, t⟩⟩)
    obtain ⟨i0, hi0⟩ : ∃ i, i = mayCl ⟨n, x, y, s, t⟩ := ⟨_, rfl⟩
    have K0 := hide (show ∀ W, Calls Try.prog 11 #[.agg #[.int .i64 n, .int .i64 x, .int .i64 y, .string s, .string t]] W fun e w' => e = .returned (.bool i0) ∧ Below W.heap.size W w' from fun W => by rw [hi0]; exact rmaycall_any W n x y s t)
    have HM2 := hide (show M = (e && i0) from by rw [HM.out, he, hi0]; simp [maySt])
    clear he hi0
    have Y2 := hide (((((Y1.out.set4 n).set5 x).set6 y).set7 s).set8 t)
    have T2 := hide ((((((Touch.refl (fun i => i = Y) w1).setCell (p := ⟨Y, 4, none⟩) rfl (.int .i64 n)).setCell (p := ⟨Y, 5, none⟩) rfl (.int .i64 x)).setCell (p := ⟨Y, 6, none⟩) rfl (.int .i64 y)).setCell (p := ⟨Y, 7, none⟩) rfl (.string s)).setCell (p := ⟨Y, 8, none⟩) rfl (.string t))
    have X2 := hide (show StAt (((((w1.setCell ⟨Y, 4, none⟩ (.int .i64 n)).setCell ⟨Y, 5, none⟩ (.int .i64 x)).setCell ⟨Y, 6, none⟩ (.int .i64 y)).setCell ⟨Y, 7, none⟩ (.string s)).setCell ⟨Y, 8, none⟩ (.string t)) X 10 a b c n x y s t from (T2.out.block X (lt_of_heap X1.out) (fun q => NE.out q)).trans X1.out)
    have B2 := hide (B1.out.trans (T2.out.below B1.out.size (fun i q => by rw [q]; exact LY.out)))
    go_upto_region 26 with fail
    obtain ⟨w2, hw2⟩ : ∃ w2, w2 = (((((w1.setCell ⟨Y, 4, none⟩ (.int .i64 n)).setCell ⟨Y, 5, none⟩ (.int .i64 x)).setCell ⟨Y, 6, none⟩ (.int .i64 y)).setCell ⟨Y, 7, none⟩ (.string s)).setCell ⟨Y, 8, none⟩ (.string t)) := ⟨_, rfl⟩
    rw [← hw2]
    have X3 := hide (show StAt w2 X 10 a b c n x y s t from by rw [hw2]; exact X2.out)
    have Y3 := hide (show StAt w2 Y 10 0 0 0 n x y s t from by rw [hw2]; exact Y2.out)
    have B3 := hide (show Below w.heap.size w w2 from by rw [hw2]; exact B2.out)
    clear hw2 X2 Y2 T2 B2 c0 c1 c2 c3 c4 c5 c6 c7 c8 d0 d1 d2 d3 d4 d5 d6 d7 d8 f0 f1 f2 f3 f4 f5 f6 f7 f8
    obtain ⟨c0, c1, c2, c3, c4, c5, c6, c7, c8⟩ := X3.out.cells
    obtain ⟨d0, d1, d2, d3, d4, d5, d6, d7, d8⟩ := Y3.out.cells
    have e2 := E.out
    cases e with
    | false =>
      go_wp2_with (first | (go_at_call 11; with_reducible refine (K0.out _).mono ?_; rintro e w4 ⟨rfl, b4⟩; have B4 := hide (B3.out.trans (b4.mono B3.out.size)); clear b4))
      go_ret
      exact ⟨ret_bool (by first | exact HM2.out.symm | (rw [HM2.out]; simp; done) | (rw [HM2.out, Bool.eq_iff_iff]; simp; omega)), B3.out⟩
    | true =>
      go_wp2_with (first | (go_at_call 11; with_reducible refine (K0.out _).mono ?_; rintro e w4 ⟨rfl, b4⟩; have B4 := hide (B3.out.trans (b4.mono B3.out.size)); clear b4))
      go_ret
      exact ⟨ret_bool (by first | exact HM2.out.symm | (rw [HM2.out]; simp; done) | (rw [HM2.out, Bool.eq_iff_iff]; simp; omega)), B4.out⟩
  have g0 : (k == 0) = false := by simpa using n0
  have g1 : (k == 1) = false := by simpa using n1
  have g2 : (k == 2) = false := by simpa using n2
  have g3 : (k == 3) = false := by simpa using n3
  have g4 : (k == 4) = false := by simpa using n4
  have g5 : (k == 5) = false := by simpa using n5
  have g6 : (k == 6) = false := by simpa using n6
  have g7 : (k == 7) = false := by simpa using n7
  have g8 : (k == 8) = false := by simpa using n8
  have g9 : (k == 9) = false := by simpa using n9
  have g10 : (k == 10) = false := by simpa using n10
  have HM2 := hide (show M = false from by rw [HM.out]; simp [maySt, n0, n1, n2, n3, n4, n5, n6, n7, n8, n9, n10])
  clear n0 n1 n2 n3 n4 n5 n6 n7 n8 n9 n10
  go_wp2_with fail
  go_ret
  exact ⟨ret_bool HM2.out.symm, B1.out⟩
end Go.Proofs.Ythgoifmmnebkeaa
