/-
  The contract of 'awake' (coxswainlaw5), over the contracts of the program's slab.
-/
import Derived.Test.YtllapjidnngaeaaSlBoth
namespace Go.Proofs.Ytllapjidnngaeaa
open Go.ChangeShapes Go.WideShapes Go.ChangeAt Go.RowKit
set_option linter.unusedVariables false
theorem whole_new (N : Nat) : Whole [] (St.new N) := by
  refine ⟨fun u (h : u ∈ []) => ?_, fun u (h : u ∈ []) => ?_, fun i _ (h : false = true) => ?_, fun u (h : u ∈ []) => ?_⟩ <;> cases h
theorem took_ten : Took 10 [] (St.new 4) 0 0 16 0 [fresh1 0 16] ((St.new 4).take [3, 2, 1] 0) :=
  .new (n := 10) (l := []) (s := St.new 4) [3, 2, 1] 0 0 (by decide) (fun j hj => by cases hj) rfl (Nat.le_refl _) (fun j hj => by omega) (fun j hj => by cases hj)
theorem took_more : Took 33 [fresh1 0 16] ((St.new 4).take [3, 2, 1] 0) 1 0 64 0 [fresh1 0 16, fresh1 1 64] (((St.new 4).take [3, 2, 1] 0).take [3, 2] 1) :=
  .new (n := 33) (l := [fresh1 0 16]) (s := (St.new 4).take [3, 2, 1] 0) [3, 2] 1 1 (by decide) (fun j hj => by
    have : j = 0 := by simpa using hj
    subst this
    exact .inl (show (16 : Nat) ≠ cls 33 by decide)) rfl (Nat.le_refl _) (fun j hj => by
    have : j = 0 := by omega
    subst this
    exact (show 0 < 1 by decide)) (fun j hj h => by
    have hj' : j < 1 := hj
    omega)
theorem cuts_nil : Cuts [] := by
  refine ⟨fun u (h : u ∈ []) => ?_, List.Pairwise.nil, Nat.zero_le _, fun u (h : u ∈ []) => ?_⟩ <;> cases h
theorem cuts_one : Cuts [fresh1 0 16] := ⟨fun u hu => by simp at hu; subst hu; exact .inl rfl, List.pairwise_singleton _ _, by decide, fun u hu => by simp at hu; subst hu; decide⟩
section
variable {PS : World → (Nat → Prop) → Nat → Nat → List Cu → St → Prop}
set_option maxHeartbeats 2000000 in
theorem sawake_any (C : PSlab PS) (w : World) : Calls Try.prog 6 #[] w fun e w' => e = .returned (.bool true) ∧ Below w.heap.size w w' := by
  have e1 : ∀ w, (binOp .eql 39 (.agg #[.int .i64 0, .int .i64 0, .int .i64 16]) (.agg #[.int .i64 0, .int .i64 0, .int .i64 16])).run Try.prog w = .ok (.bool true) w := fun w => by kernel_rfl
  have e2 : ∀ w, (binOp .eql 39 (.agg #[.int .i64 1, .int .i64 0, .int .i64 64]) (.agg #[.int .i64 1, .int .i64 0, .int .i64 64])).run Try.prog w = .ok (.bool true) w := fun w => by kernel_rfl
  go_enter Try.func6, Try.ntmps6
  go_wp2_with fail
  go_at_call 7
  refine (new_ok w 4 (by omega) (by omega)).mono ?_
  rintro e w1 ⟨H, A, Q, rfl, f1, b1, hb⟩
  have F1 := hide f1
  have B1 := hide b1
  have HB := hide hb
  clear f1 b1 hb
  go_wp2_with fail
  go_at_call 9
  refine (C.new F1.out).mono ?_
  rintro e w2 ⟨S, U, rfl, p2, b2, hU⟩
  have P2 := hide p2
  have B2 := hide (B1.out.trans (b2.mono B1.out.size))
  have LU := hide (show ∀ i, U i → w.heap.size ≤ i from fun i hi => (hU i hi).elim (HB.out i) (fun e => by have := B1.out.size; omega))
  clear p2 b2 hU F1 B1 HB
  go_wp2_with fail
  go_at_call 10
  refine (C.take P2.out (whole_new 4) (by decide) took_ten).mono ?_
  rintro e w3 ⟨rfl, U3, p3, t3, u3⟩
  have B3 := hide (B2.out.trans (t3.below B2.out.size LU.out))
  have P3 := hide p3
  have LU3 := hide (show ∀ i, U3 i → w.heap.size ≤ i from fun i hi => (u3 i hi).elim (LU.out i) (fun e => by have := B2.out.size; omega))
  clear p3 t3 u3 P2 B2 LU
  unfold refV
  go_wp2_with fail
  go_at_call 10
  have w3' := took_ten.whole (whole_new 4) cuts_nil (good_new (n := 4) (by decide) (by decide))
  have X3 := hide (heap_alloc_new w3 (.cells #[.int .i64 0, .int .i64 0, .int .i64 16] 39))
  have P4 := hide (C.keep P3.out (Touch.of_below (S := fun _ => False) ((Below.refl w3.heap.size w3).alloc (Nat.le_refl _) (.cells #[.int .i64 0, .int .i64 0, .int .i64 16] 39))) (fun _ _ e => e))
  have N3 := hide (C.lt P3.out)
  have B4 := hide (B3.out.alloc B3.out.size (.cells #[.int .i64 0, .int .i64 0, .int .i64 16] 39))
  generalize w3.alloc (.cells #[.int .i64 0, .int .i64 0, .int .i64 16] 39) = w4 at *
  refine (C.take P4.out w3' (by decide) took_more).mono ?_
  rintro e w5 ⟨rfl, U5, p5, t5, u5⟩
  have B5 := hide (B4.out.trans (t5.below B4.out.size LU3.out))
  have x5 : w5.heap[w3.heap.size]? = some (.cells #[.int .i64 0, .int .i64 0, .int .i64 16] 39 (0, 0)) := (t5.block w3.heap.size (lt_of_heap X3.out) (fun e => by have := N3.out _ e; omega)).trans X3.out
  have c0 : w5.cell? ⟨w3.heap.size, 0, none⟩ = some (.int .i64 0) := by rw [cell_of_row _ _ _ _ _ _ x5]; rfl
  have c1 : w5.cell? ⟨w3.heap.size, 1, none⟩ = some (.int .i64 0) := by rw [cell_of_row _ _ _ _ _ _ x5]; rfl
  have c2 : w5.cell? ⟨w3.heap.size, 2, none⟩ = some (.int .i64 16) := by rw [cell_of_row _ _ _ _ _ _ x5]; rfl
  have lt5 := lt_of_heap x5
  clear p5 t5 u5 x5
  generalize w3.heap.size = X at *
  clear P3 B3 LU3 X3 P4 N3 B4 w3'
  unfold refV
  go_wp2_with (go_at_call 22; refine (C.cls _ 17 (by decide)).mono ?_; rintro e w6 ⟨rfl, m6, rfl⟩)
  go_ret
  exact ⟨rfl, below_drewN (B5.out.alloc B5.out.size _) m6⟩
end
end Go.Proofs.Ytllapjidnngaeaa
