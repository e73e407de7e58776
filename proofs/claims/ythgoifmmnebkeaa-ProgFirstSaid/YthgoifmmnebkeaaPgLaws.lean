/-
  awake of stage 9; the law ProgMay, over the contracts of the program's prog.
-/
import Derived.Test.YthgoifmmnebkeaaPgFix
import Derived.Deep.RegionLaw
namespace Go.Proofs.Ythgoifmmnebkeaa
open Go.ChangeShapes Go.WideShapes Go.ChangeAt Go.RowKit
set_option linter.unusedVariables false
theorem w0I : (Lit.int .i64 0).wf = true := by decide
theorem wf_step {k a : Int} (h1 : (Lit.int .i64 k).wf = true) (h2 : (Lit.int .i64 a).wf = true) (w : World) : StWf w ⟨k, a, 0, 0, ⟨0, 0, 0, ByteArray.empty, ByteArray.empty⟩⟩ :=
  ⟨h1, h2, w0I, w0I, w0I, w0I, w0I, by show (0 : Nat) ≤ maxLen; omega, by show (0 : Nat) ≤ maxLen; omega⟩
theorem built_two : Try.prog.built 25 [(0, .int .i64 1), (1, .int .i64 3)] = some #[.int .i64 1, .int .i64 3, .int .i64 0, .int .i64 0, .int .i64 0, .int .i64 0, .int .i64 0, .string ByteArray.empty, .string ByteArray.empty] := by kernel_rfl
attribute [local go_sem] built_two built_step built_call
theorem awake9_facts : maySt ⟨1, 3, 0, 0, ⟨0, 0, 0, ByteArray.empty, ByteArray.empty⟩⟩ = true ∧ maySt ⟨1, 0, 0, 0, ⟨0, 0, 0, ByteArray.empty, ByteArray.empty⟩⟩ = false ∧ mayCl ⟨17, 0, 0, ByteArray.empty, ByteArray.empty⟩ = true := by
  refine ⟨?_, ?_, ?_⟩ <;> simp [maySt, mayCl, eqSt, eqCl, clZ, emp]
set_option maxRecDepth 10000 in
set_option maxHeartbeats 8000000 in
theorem pgawake_any (C : PProg) (w : World) : Calls Try.prog 7 #[] w fun e w' => e = .returned (.bool true) ∧ Below w.heap.size w w' := by
  obtain ⟨h1, h2, h3⟩ := awake9_facts
  have M1 := hide (fun (W : World) => show Calls Try.prog 8 #[.agg #[.int .i64 1, .int .i64 3, .int .i64 0, .int .i64 0, .int .i64 0, .int .i64 0, .int .i64 0, .string ByteArray.empty, .string ByteArray.empty]] W fun e w' => e = .returned (.bool true) ∧ Below W.heap.size W w' from by have := C.may W ⟨1, 3, 0, 0, ⟨0, 0, 0, ByteArray.empty, ByteArray.empty⟩⟩ (wf_step (by decide) (by decide) W); rw [h1] at this; exact this)
  have M2 := hide (fun (W : World) => show Calls Try.prog 8 #[.agg #[.int .i64 1, .int .i64 0, .int .i64 0, .int .i64 0, .int .i64 0, .int .i64 0, .int .i64 0, .string (ByteArray.mk #[]), .string (ByteArray.mk #[])]] W fun e w' => e = .returned (.bool false) ∧ Below W.heap.size W w' from by have := C.may W ⟨1, 0, 0, 0, ⟨0, 0, 0, ByteArray.empty, ByteArray.empty⟩⟩ (wf_step (by decide) (by decide) W); rw [h2] at this; exact this)
  have M3 := hide (fun (W : World) => show Calls Try.prog 10 #[.agg #[.int .i64 17, .int .i64 0, .int .i64 0, .string (ByteArray.mk #[]), .string (ByteArray.mk #[])]] W fun e w' => e = .returned (.bool true) ∧ Below W.heap.size W w' from by have := C.call W ⟨17, 0, 0, ByteArray.empty, ByteArray.empty⟩ ⟨by decide, by decide, by decide, by show (0 : Nat) ≤ maxLen; omega, by show (0 : Nat) ≤ maxLen; omega⟩; rw [h3] at this; exact this)
  have FX := hide (fun (W : World) => show Calls Try.prog 14 #[.slice (some ⟨W.heap.size, 0, none⟩) 1 1] (W.alloc (.cells #[.int .i64 99, .int .i64 0, .int .i64 0, .int .i64 0, .int .i64 0, .int .i64 0, .int .i64 0, .string (ByteArray.mk #[]), .string (ByteArray.mk #[])] 25)) fun e w' => ∃ a c, e = .returned (.slice a 1 c) ∧ Below (W.alloc (.cells #[.int .i64 99, .int .i64 0, .int .i64 0, .int .i64 0, .int .i64 0, .int .i64 0, .int .i64 0, .string (ByteArray.mk #[]), .string (ByteArray.mk #[])] 25)).heap.size (W.alloc (.cells #[.int .i64 99, .int .i64 0, .int .i64 0, .int .i64 0, .int .i64 0, .int .i64 0, .int .i64 0, .string (ByteArray.mk #[]), .string (ByteArray.mk #[])] 25)) w' from by
    refine (C.fix (W.alloc (.cells #[.int .i64 99, .int .i64 0, .int .i64 0, .int .i64 0, .int .i64 0, .int .i64 0, .int .i64 0, .string (ByteArray.mk #[]), .string (ByteArray.mk #[])] 25)) (some ⟨W.heap.size, 0, none⟩) 1 1 [⟨99, 0, 0, 0, ⟨0, 0, 0, ByteArray.empty, ByteArray.empty⟩⟩] ?_ ?_ (Nat.le_refl _) (by unfold maxLen; omega) (fun e => by cases e) (by omega)).mono ?_
    · refine ⟨rfl, fun _ => ⟨_, 0, rfl, fun i x hx j u hu => ?_⟩⟩
      have hi : i = 0 := by have := (List.getElem?_eq_some_iff.1 hx).1; simp at this; omega
      subst hi
      simp at hx
      subst hx
      have := cells_new W (stVals ⟨99, 0, 0, 0, ⟨0, 0, 0, ByteArray.empty, ByteArray.empty⟩⟩) 25 _ rfl j u hu
      rw [addr_add, Nat.zero_add] at this
      rw [show 0 + 0 * 9 + j = j by omega]
      exact this
    · intro x hx
      simp at hx
      subst hx
      exact wf_step (by decide) (by decide) _
    · rintro e w' ⟨v, rfl, ho, hb⟩
      obtain ⟨a, c, rfl, _⟩ := own_sliceOps ho
      exact ⟨a, c, rfl, hb⟩)
  clear h1 h2 h3
  go_enter Try.func7, Try.ntmps7
  go_wp2_with (first
    | (go_at_call 8; with_reducible refine (M1.out _).mono ?_; rintro e w1 ⟨rfl, b1⟩; have B1 := hide b1; clear b1)
    | (go_at_call 8; with_reducible refine (M2.out _).mono ?_; rintro e w2 ⟨rfl, b2⟩; have B2 := hide (B1.out.trans (b2.mono B1.out.size)); clear b2)
    | (go_at_call 10; with_reducible refine (M3.out _).mono ?_; rintro e w3 ⟨rfl, b3⟩; have B3 := hide (B2.out.trans (b3.mono B2.out.size)); clear b3)
    | (go_at_call 14; with_reducible refine (FX.out _).mono ?_; rintro e w4 ⟨a4, c4, rfl, b4⟩; have B4 := hide (B3.out.trans (below_one (b4.mono (Nat.le_refl _)) (by simp) |>.mono B3.out.size)); clear b4)
    | (refine wpList_build rfl 25 _ rfl (by kernel_rfl) ?_)
    | (refine wpList_build rfl 23 _ rfl (by kernel_rfl) ?_))
  go_ret
  exact ⟨rfl, B4.out⟩
theorem cells_st {w : World} {X : Nat} {k a b c n x y : Int} {s t : ByteArray} (h : StAt w X k a b c n x y s t) : w.cell? ⟨X, 0, none⟩ = some (.int .i64 k) ∧ w.cell? ⟨X, 1, none⟩ = some (.int .i64 a) ∧ w.cell? ⟨X, 2, none⟩ = some (.int .i64 b) ∧ w.cell? ⟨X, 3, none⟩ = some (.int .i64 c) ∧ w.cell? ⟨X, 4, none⟩ = some (.int .i64 n) ∧ w.cell? ⟨X, 5, none⟩ = some (.int .i64 x) ∧ w.cell? ⟨X, 6, none⟩ = some (.int .i64 y) ∧ w.cell? ⟨X, 7, none⟩ = some (.string s) ∧ w.cell? ⟨X, 8, none⟩ = some (.string t) := h.cells
theorem StAt.below {w w' : World} {X : Nat} {k a b c n x y : Int} {s t : ByteArray} (h : StAt w X k a b c n x y s t) (b' : Below w.heap.size w w') : StAt w' X k a b c n x y s t := (b'.block X (lt_of_heap h)).trans h
set_option maxRecDepth 10000 in
set_option maxHeartbeats 16000000 in
theorem walk_progMayC (C : PProg) (w : World) (o : Step) (ho : StWf w o) : Calls Try.prog 3 #[.agg (stVals o).toArray] w fun e w' => e = .returned (.bool true) ∧ Below w.heap.size w w' := by
  obtain ⟨k, a, b, c, ⟨n, x, y, s, t⟩⟩ := o
  obtain ⟨m, hm⟩ : ∃ m, m = maySt ⟨k, a, b, c, ⟨n, x, y, s, t⟩⟩ := ⟨_, rfl⟩
  obtain ⟨q, hq⟩ : ∃ q, q = mayCl ⟨n, x, y, s, t⟩ := ⟨_, rfl⟩
  have K1 := hide (fun (W : World) => show Calls Try.prog 8 #[.agg #[.int .i64 k, .int .i64 a, .int .i64 b, .int .i64 c, .int .i64 n, .int .i64 x, .int .i64 y, .string s, .string t]] W fun e w' => e = .returned (.bool m) ∧ Below W.heap.size W w' from by rw [hm]; exact C.may W ⟨k, a, b, c, ⟨n, x, y, s, t⟩⟩ ho)
  have K2 := hide (fun (W : World) => show Calls Try.prog 9 #[.agg #[.int .i64 k, .int .i64 a, .int .i64 b, .int .i64 c, .int .i64 n, .int .i64 x, .int .i64 y, .string s, .string t]] W fun e w' => e = .returned (.bool m) ∧ Below W.heap.size W w' from by rw [hm]; exact rmay9_any W k a b c n x y s t)
  have K3 := hide (fun (W : World) => show Calls Try.prog 10 #[.agg #[.int .i64 n, .int .i64 x, .int .i64 y, .string s, .string t]] W fun e w' => e = .returned (.bool q) ∧ Below W.heap.size W w' from by rw [hq]; exact C.call W ⟨n, x, y, s, t⟩ ho.2.2.2.2)
  have K4 := hide (fun (W : World) => show Calls Try.prog 11 #[.agg #[.int .i64 n, .int .i64 x, .int .i64 y, .string s, .string t]] W fun e w' => e = .returned (.bool q) ∧ Below W.heap.size W w' from by rw [hq]; exact rmaycall_any W n x y s t)
  have g0 : (m == m) = true := by simp
  have g1 : (q == q) = true := by simp
  clear hm hq ho
  show Calls Try.prog 3 #[.agg #[.int .i64 k, .int .i64 a, .int .i64 b, .int .i64 c, .int .i64 n, .int .i64 x, .int .i64 y, .string s, .string t]] w fun e w' => e = .returned (.bool true) ∧ Below w.heap.size w w'
  obtain ⟨w1, hw1⟩ : ∃ w1, w1 = w.alloc (.cells #[.int .i64 k, .int .i64 a, .int .i64 b, .int .i64 c, .int .i64 n, .int .i64 x, .int .i64 y, .string s, .string t] 25) := ⟨_, rfl⟩
  have B1 := hide (show Below w.heap.size w w1 from by rw [hw1]; exact (Below.refl w.heap.size w).alloc (Nat.le_refl _) _)
  have P1 := hide (show StAt w1 w.heap.size k a b c n x y s t from by rw [hw1]; exact heap_alloc_new w _)
  have HW := hide hw1
  clear hw1
  obtain ⟨X, hX⟩ : ∃ X, X = w.heap.size := ⟨_, rfl⟩
  rw [← hX] at P1
  have HX := hide hX
  clear hX
  have c1 := P1.out.cells
  obtain ⟨d0, d1, d2, d3, d4, d5, d6, d7, d8⟩ := P1.out.cells
  by_cases hs : (2000 : Int) < (s.size : Int)
  · go_enter Try.func3, Try.ntmps3
    go_upto_region 1 with fail
    rw [← HW.out, ← HX.out]
    go_wp2_with (go_at_call 7; refine (pgawake_any C _).mono ?_; rintro e w2 ⟨rfl, b2⟩; have B2 := hide (B1.out.trans (b2.mono B1.out.size)); clear b2)
    go_ret
    exact ⟨rfl, B2.out⟩
  · by_cases ht : (2000 : Int) < (t.size : Int)
    · go_enter Try.func3, Try.ntmps3
      go_upto_region 1 with fail
      rw [← HW.out, ← HX.out]
      go_wp2_with (go_at_call 7; refine (pgawake_any C _).mono ?_; rintro e w2 ⟨rfl, b2⟩; have B2 := hide (B1.out.trans (b2.mono B1.out.size)); clear b2)
      go_ret
      exact ⟨rfl, B2.out⟩
    · go_enter Try.func3, Try.ntmps3
      go_upto_region 1 with fail
      rw [← HW.out, ← HX.out]
      go_upto_region 3 with fail
      clear d0 d1 d2 d3 d4 d5 d6 d7 d8
      go_region_held3 (fun w' => w'.cell? ⟨X, 0, none⟩ = some (.int .i64 k) ∧ w'.cell? ⟨X, 1, none⟩ = some (.int .i64 a) ∧ w'.cell? ⟨X, 2, none⟩ = some (.int .i64 b) ∧ w'.cell? ⟨X, 3, none⟩ = some (.int .i64 c) ∧ w'.cell? ⟨X, 4, none⟩ = some (.int .i64 n) ∧ w'.cell? ⟨X, 5, none⟩ = some (.int .i64 x) ∧ w'.cell? ⟨X, 6, none⟩ = some (.int .i64 y) ∧ w'.cell? ⟨X, 7, none⟩ = some (.string s) ∧ w'.cell? ⟨X, 8, none⟩ = some (.string t)) (first | exact c1 | exact c2 | exact c3 | exact c4 | exact c5 | exact c6) (first
        | (go_at_call 8; refine (K1.out _).mono ?_; rintro e w2 ⟨rfl, b2⟩; have B2 := hide (B1.out.trans (((below_drewN (Below.refl w1.heap.size w1) 1).trans b2).mono B1.out.size)); have P2 := hide (P1.out.below ((below_drewN (Below.refl w1.heap.size w1) 1).trans b2)); have c2 := P2.out.cells; clear b2)
        | (go_at_call 9; refine (K2.out _).mono ?_; rintro e w3 ⟨rfl, b3⟩; have B3 := hide (B2.out.trans (b3.mono B2.out.size)); have P3 := hide (P2.out.below b3); have c3 := P3.out.cells; clear b3)
        | (go_at_call 10; refine (K3.out _).mono ?_; rintro e w4 ⟨rfl, b4⟩; have B4 := hide (B3.out.trans (b4.mono B3.out.size)); have P4 := hide (P3.out.below b4); have c4 := P4.out.cells; clear b4)
        | (go_at_call 11; refine (K4.out _).mono ?_; rintro e w5 ⟨rfl, b5⟩; have B5 := hide (B4.out.trans (b5.mono B4.out.size)); have P5 := hide (P4.out.below b5); have c5 := P5.out.cells; clear b5)
        | (go_at_call 7; refine (pgawake_any C _).mono ?_; rintro e w6 ⟨rfl, b6⟩; have B6 := hide (B5.out.trans (b6.mono B5.out.size)); have c6 := (P5.out.below b6).cells; clear b6))
      go_wp2_with fail
      go_ret
      exact ⟨rfl, B6.out⟩
end Go.Proofs.Ythgoifmmnebkeaa
