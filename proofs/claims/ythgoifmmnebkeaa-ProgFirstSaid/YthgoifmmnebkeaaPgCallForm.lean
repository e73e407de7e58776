/-
  The program's callForm, MayCall, stepForm, May.
-/
import Derived.Test.YthgoifmmnebkeaaPgForms
import Derived.Test.YthgoifmmnebkeaaPgHas
namespace Go.Proofs.Ythgoifmmnebkeaa
open Go.ChangeShapes Go.WideShapes Go.ChangeAt Go.RowKit
set_option linter.unusedVariables false
set_option linter.unusedSimpArgs false
theorem numberCall_any (w : World) (h : Int) : Calls Try.prog 30 #[.int .i64 h] w fun e w' => ∃ P, e = .returned (.func (.func 40) #[] #[.pointer (some P)]) ∧ w'.cell? P = some (.int .i64 h) ∧ Below w.heap.size w w' := by
  have hmf : ∀ fn first cap w, (Instr.makeFunc fn first cap).run Try.prog w = .ok (.func fn first cap) w := fun _ _ _ _ => rfl
  go_enter Try.func30, Try.ntmps30
  go_wp2_with fail
  go_ret
  exact ⟨_, rfl, (cell_of_row _ _ _ _ _ _ (heap_alloc_new w _)).trans rfl, (Below.refl _ _).alloc (Nat.le_refl _) _⟩
theorem numberStep_any (w : World) (l h : Int) : Calls Try.prog 25 #[.int .i64 l, .int .i64 h] w fun e w' => ∃ P R, e = .returned (.func (.func 37) #[] #[.pointer (some P), .pointer (some R)]) ∧ (w'.cell? P = some (.int .i64 l) ∧ w'.cell? R = some (.int .i64 h)) ∧ Below w.heap.size w w' := by
  have hmf : ∀ fn first cap w, (Instr.makeFunc fn first cap).run Try.prog w = .ok (.func fn first cap) w := fun _ _ _ _ => rfl
  go_enter Try.func25, Try.ntmps25
  go_wp2_with fail
  go_ret
  exact ⟨_, _, rfl, ⟨(cell_of_row _ _ _ _ _ _ (two_blocks w _ _).1).trans rfl, (cell_of_row _ _ _ _ _ _ (two_blocks w _ _).2).trans rfl⟩, ((Below.refl _ _).alloc (Nat.le_refl _) _).alloc (by simp) _⟩
/-- What has says with a form of the calls of kind 'n'. -/
def HasC (w : World) (n : Int) (v : Value) : Prop := ∀ (W : World), Below w.heap.size w W → ∀ (a b : Int) (s t : ByteArray), Calls Try.prog 22 #[.agg #[.int .i64 n, .int .i64 a, .int .i64 b, .string s, .string t], v] W fun e w' => e = .returned (.bool (mayCl ⟨n, a, b, s, t⟩)) ∧ Below W.heap.size W w'
theorem bool_from {P : Program} {f : Nat} {args : Array Value} {w : World} {p q : Bool} (h : Calls P f args w fun e w' => e = .returned (.bool p) ∧ Below w.heap.size w w') (e : p = q) : Calls P f args w fun e w' => e = .returned (.bool q) ∧ Below w.heap.size w w' := by rw [← e]; exact h
theorem hasc_1 (w : World) : HasC w 1 (.func (.func 29) #[] #[]) := by
  intro W hW a b s t
  refine bool_from (has_open W 1 a b s t (1) a 0 s ByteArray.empty _ (hide fun W' hb => openCall_any W' 1 a b s t)) ?_
  rw [Bool.eq_iff_iff]
  have e0 : ByteArray.empty.size = 0 := rfl
  simp [mayCl, eqCl_iff, paths, withinB, inB, emp]
  try grind
theorem hasc_2 (w : World) (P : Addr) (hc : w.cell? P = some (.int .i64 7)) : HasC w 2 (.func (.func 40) #[] #[.pointer (some P)]) := by
  intro W hW a b s t
  have hP : W.cell? P = some (.int .i64 7) := (hW.cell (lt_of_cell? hc)).trans hc
  refine bool_from (has_number W 2 a b s t (2) a 0 ByteArray.empty ByteArray.empty _ P (hide fun W' hb => numberCall1_any W' 2 a b s t 7 P ((hb.cell (lt_of_cell? hP)).trans hP))) ?_
  rw [Bool.eq_iff_iff]
  have e0 : ByteArray.empty.size = 0 := rfl
  simp [mayCl, eqCl_iff, paths, withinB, inB, emp]
  try grind
theorem hasc_6 (w : World) (P : Addr) (hc : w.cell? P = some (.int .i64 7)) : HasC w 6 (.func (.func 40) #[] #[.pointer (some P)]) := by
  intro W hW a b s t
  have hP : W.cell? P = some (.int .i64 7) := (hW.cell (lt_of_cell? hc)).trans hc
  refine bool_from (has_number W 6 a b s t (6) a 0 ByteArray.empty ByteArray.empty _ P (hide fun W' hb => numberCall1_any W' 6 a b s t 7 P ((hb.cell (lt_of_cell? hP)).trans hP))) ?_
  rw [Bool.eq_iff_iff]
  have e0 : ByteArray.empty.size = 0 := rfl
  simp [mayCl, eqCl_iff, paths, withinB, inB, emp]
  try grind
theorem hasc_3 (w : World) : HasC w 3 (.func (.func 31) #[] #[]) := by
  intro W hW a b s t
  refine bool_from (has_span W 3 a b s t (3) a b ByteArray.empty ByteArray.empty _ (hide fun W' hb => spanCall_any W' 3 a b s t)) ?_
  rw [Bool.eq_iff_iff]
  have e0 : ByteArray.empty.size = 0 := rfl
  simp [mayCl, eqCl_iff, paths, withinB, inB, emp]
  try grind
theorem hasc_5 (w : World) : HasC w 5 (.func (.func 31) #[] #[]) := by
  intro W hW a b s t
  refine bool_from (has_span W 5 a b s t (5) a b ByteArray.empty ByteArray.empty _ (hide fun W' hb => spanCall_any W' 5 a b s t)) ?_
  rw [Bool.eq_iff_iff]
  have e0 : ByteArray.empty.size = 0 := rfl
  simp [mayCl, eqCl_iff, paths, withinB, inB, emp]
  try grind
theorem hasc_4 (w : World) : HasC w 4 (.func (.func 32) #[] #[]) := by
  intro W hW a b s t
  refine bool_from (has_write W 4 a b s t (4) a 0 s ByteArray.empty _ (hide fun W' hb => writeCall_any W' 4 a b s t)) ?_
  rw [Bool.eq_iff_iff]
  have e0 : ByteArray.empty.size = 0 := rfl
  simp [mayCl, eqCl_iff, paths, withinB, inB, emp]
  try grind
theorem hasc_7 (w : World) : HasC w 7 (.func (.func 33) #[] #[]) := by
  intro W hW a b s t
  refine bool_from (has_link W 7 a b s t (7) 0 0 s t _ (hide fun W' hb => linkCall_any W' 7 a b s t)) ?_
  rw [Bool.eq_iff_iff]
  have e0 : ByteArray.empty.size = 0 := rfl
  simp [mayCl, eqCl_iff, paths, withinB, inB, emp]
  try grind
theorem hasc_8 (w : World) : HasC w 8 (.func (.func 34) #[] #[]) := by
  intro W hW a b s t
  refine bool_from (has_path W 8 a b s t (8) 0 0 s ByteArray.empty _ (hide fun W' hb => pathCall_any W' 8 a b s t)) ?_
  rw [Bool.eq_iff_iff]
  have e0 : ByteArray.empty.size = 0 := rfl
  simp [mayCl, eqCl_iff, paths, withinB, inB, emp]
  try grind
theorem hasc_9 (w : World) : HasC w 9 (.func (.func 34) #[] #[]) := by
  intro W hW a b s t
  refine bool_from (has_path W 9 a b s t (9) 0 0 s ByteArray.empty _ (hide fun W' hb => pathCall_any W' 9 a b s t)) ?_
  rw [Bool.eq_iff_iff]
  have e0 : ByteArray.empty.size = 0 := rfl
  simp [mayCl, eqCl_iff, paths, withinB, inB, emp]
  try grind
theorem hasc_10 (w : World) : HasC w 10 (.func (.func 34) #[] #[]) := by
  intro W hW a b s t
  refine bool_from (has_path W 10 a b s t (10) 0 0 s ByteArray.empty _ (hide fun W' hb => pathCall_any W' 10 a b s t)) ?_
  rw [Bool.eq_iff_iff]
  have e0 : ByteArray.empty.size = 0 := rfl
  simp [mayCl, eqCl_iff, paths, withinB, inB, emp]
  try grind
theorem hasc_12 (w : World) : HasC w 12 (.func (.func 34) #[] #[]) := by
  intro W hW a b s t
  refine bool_from (has_path W 12 a b s t (12) 0 0 s ByteArray.empty _ (hide fun W' hb => pathCall_any W' 12 a b s t)) ?_
  rw [Bool.eq_iff_iff]
  have e0 : ByteArray.empty.size = 0 := rfl
  simp [mayCl, eqCl_iff, paths, withinB, inB, emp]
  try grind
theorem hasc_13 (w : World) : HasC w 13 (.func (.func 34) #[] #[]) := by
  intro W hW a b s t
  refine bool_from (has_path W 13 a b s t (13) 0 0 s ByteArray.empty _ (hide fun W' hb => pathCall_any W' 13 a b s t)) ?_
  rw [Bool.eq_iff_iff]
  have e0 : ByteArray.empty.size = 0 := rfl
  simp [mayCl, eqCl_iff, paths, withinB, inB, emp]
  try grind
theorem hasc_11 (w : World) : HasC w 11 (.func (.func 35) #[] #[]) := by
  intro W hW a b s t
  refine bool_from (has_bare W 11 a b s t (11) 0 0 ByteArray.empty ByteArray.empty _ (hide fun W' hb => bareCall_any W' 11 a b s t)) ?_
  rw [Bool.eq_iff_iff]
  have e0 : ByteArray.empty.size = 0 := rfl
  simp [mayCl, eqCl_iff, paths, withinB, inB, emp]
  try grind
theorem hasc_16 (w : World) : HasC w 16 (.func (.func 35) #[] #[]) := by
  intro W hW a b s t
  refine bool_from (has_bare W 16 a b s t (16) 0 0 ByteArray.empty ByteArray.empty _ (hide fun W' hb => bareCall_any W' 16 a b s t)) ?_
  rw [Bool.eq_iff_iff]
  have e0 : ByteArray.empty.size = 0 := rfl
  simp [mayCl, eqCl_iff, paths, withinB, inB, emp]
  try grind
theorem hasc_17 (w : World) : HasC w 17 (.func (.func 35) #[] #[]) := by
  intro W hW a b s t
  refine bool_from (has_bare W 17 a b s t (17) 0 0 ByteArray.empty ByteArray.empty _ (hide fun W' hb => bareCall_any W' 17 a b s t)) ?_
  rw [Bool.eq_iff_iff]
  have e0 : ByteArray.empty.size = 0 := rfl
  simp [mayCl, eqCl_iff, paths, withinB, inB, emp]
  try grind
theorem hasc_14 (w : World) (P : Addr) (hc : w.cell? P = some (.int .i64 39)) : HasC w 14 (.func (.func 40) #[] #[.pointer (some P)]) := by
  intro W hW a b s t
  have hP : W.cell? P = some (.int .i64 39) := (hW.cell (lt_of_cell? hc)).trans hc
  refine bool_from (has_number W 14 a b s t (14) a 0 ByteArray.empty ByteArray.empty _ P (hide fun W' hb => numberCall1_any W' 14 a b s t 39 P ((hb.cell (lt_of_cell? hP)).trans hP))) ?_
  rw [Bool.eq_iff_iff]
  have e0 : ByteArray.empty.size = 0 := rfl
  simp [mayCl, eqCl_iff, paths, withinB, inB, emp]
  try grind
theorem hasc_15 (w : World) (P : Addr) (hc : w.cell? P = some (.int .i64 255)) : HasC w 15 (.func (.func 40) #[] #[.pointer (some P)]) := by
  intro W hW a b s t
  have hP : W.cell? P = some (.int .i64 255) := (hW.cell (lt_of_cell? hc)).trans hc
  refine bool_from (has_number W 15 a b s t (15) a 0 ByteArray.empty ByteArray.empty _ P (hide fun W' hb => numberCall1_any W' 15 a b s t 255 P ((hb.cell (lt_of_cell? hP)).trans hP))) ?_
  rw [Bool.eq_iff_iff]
  have e0 : ByteArray.empty.size = 0 := rfl
  simp [mayCl, eqCl_iff, paths, withinB, inB, emp]
  try grind
theorem hasc_strange (w : World) (n : Int) (h : ∀ a b s t, mayCl ⟨n, a, b, s, t⟩ = false) : HasC w n (.func (.func 36) #[] #[]) := by
  intro W hW a b s t
  refine bool_from (has_strange W n a b s t n a b s t _ (hide fun W' hb => strangeC_any W' n a b s t)) ?_
  rw [h]; rfl
set_option maxRecDepth 10000 in
set_option maxHeartbeats 8000000 in
theorem callForm_any (w : World) (n : Int) : Calls Try.prog 23 #[.int .i64 n] w fun e w' => ∃ v, e = .returned v ∧ HasC w' n v ∧ Below w.heap.size w w' := by
  by_cases n1 : n = 1
  · subst n1
    go_enter Try.func23, Try.ntmps23
    go_wp2_with fail
    go_ret
    exact ⟨_, rfl, hasc_1 _, Below.refl _ _⟩
  by_cases n2 : n = 2
  · subst n2
    go_enter Try.func23, Try.ntmps23
    go_wp2_with (first | (go_at_call 30; refine (numberCall_any _ _).mono ?_; rintro e w2 ⟨P, rfl, hc, b2⟩; have HC := hide (hasc_2 w2 P hc); have B2 := hide b2; clear hc b2))
    go_ret
    exact ⟨_, rfl, HC.out, B2.out⟩
  by_cases n6 : n = 6
  · subst n6
    go_enter Try.func23, Try.ntmps23
    go_wp2_with (first | (go_at_call 30; refine (numberCall_any _ _).mono ?_; rintro e w2 ⟨P, rfl, hc, b2⟩; have HC := hide (hasc_6 w2 P hc); have B2 := hide b2; clear hc b2))
    go_ret
    exact ⟨_, rfl, HC.out, B2.out⟩
  by_cases n3 : n = 3
  · subst n3
    go_enter Try.func23, Try.ntmps23
    go_wp2_with fail
    go_ret
    exact ⟨_, rfl, hasc_3 _, Below.refl _ _⟩
  by_cases n5 : n = 5
  · subst n5
    go_enter Try.func23, Try.ntmps23
    go_wp2_with fail
    go_ret
    exact ⟨_, rfl, hasc_5 _, Below.refl _ _⟩
  by_cases n4 : n = 4
  · subst n4
    go_enter Try.func23, Try.ntmps23
    go_wp2_with fail
    go_ret
    exact ⟨_, rfl, hasc_4 _, Below.refl _ _⟩
  by_cases n7 : n = 7
  · subst n7
    go_enter Try.func23, Try.ntmps23
    go_wp2_with fail
    go_ret
    exact ⟨_, rfl, hasc_7 _, Below.refl _ _⟩
  by_cases n8 : n = 8
  · subst n8
    go_enter Try.func23, Try.ntmps23
    go_wp2_with fail
    go_ret
    exact ⟨_, rfl, hasc_8 _, Below.refl _ _⟩
  by_cases n9 : n = 9
  · subst n9
    go_enter Try.func23, Try.ntmps23
    go_wp2_with fail
    go_ret
    exact ⟨_, rfl, hasc_9 _, Below.refl _ _⟩
  by_cases n10 : n = 10
  · subst n10
    go_enter Try.func23, Try.ntmps23
    go_wp2_with fail
    go_ret
    exact ⟨_, rfl, hasc_10 _, Below.refl _ _⟩
  by_cases n12 : n = 12
  · subst n12
    go_enter Try.func23, Try.ntmps23
    go_wp2_with fail
    go_ret
    exact ⟨_, rfl, hasc_12 _, Below.refl _ _⟩
  by_cases n13 : n = 13
  · subst n13
    go_enter Try.func23, Try.ntmps23
    go_wp2_with fail
    go_ret
    exact ⟨_, rfl, hasc_13 _, Below.refl _ _⟩
  by_cases n11 : n = 11
  · subst n11
    go_enter Try.func23, Try.ntmps23
    go_wp2_with fail
    go_ret
    exact ⟨_, rfl, hasc_11 _, Below.refl _ _⟩
  by_cases n16 : n = 16
  · subst n16
    go_enter Try.func23, Try.ntmps23
    go_wp2_with fail
    go_ret
    exact ⟨_, rfl, hasc_16 _, Below.refl _ _⟩
  by_cases n17 : n = 17
  · subst n17
    go_enter Try.func23, Try.ntmps23
    go_wp2_with fail
    go_ret
    exact ⟨_, rfl, hasc_17 _, Below.refl _ _⟩
  by_cases n14 : n = 14
  · subst n14
    go_enter Try.func23, Try.ntmps23
    go_wp2_with (first | (go_at_call 30; refine (numberCall_any _ _).mono ?_; rintro e w2 ⟨P, rfl, hc, b2⟩; have HC := hide (hasc_14 w2 P hc); have B2 := hide b2; clear hc b2))
    go_ret
    exact ⟨_, rfl, HC.out, B2.out⟩
  by_cases n15 : n = 15
  · subst n15
    go_enter Try.func23, Try.ntmps23
    go_wp2_with (first | (go_at_call 30; refine (numberCall_any _ _).mono ?_; rintro e w2 ⟨P, rfl, hc, b2⟩; have HC := hide (hasc_15 w2 P hc); have B2 := hide b2; clear hc b2))
    go_ret
    exact ⟨_, rfl, HC.out, B2.out⟩
  have hz : ∀ a b s t, mayCl ⟨n, a, b, s, t⟩ = false := by intro a b s t; simp [mayCl, n1, n2, n6, n3, n5, n4, n7, n8, n9, n10, n12, n13, n11, n16, n17, n14, n15]
  have HZ := hide hz
  clear hz
  go_enter Try.func23, Try.ntmps23
  go_wp2_with fail
  go_ret
  exact ⟨_, rfl, hasc_strange _ _ HZ.out, Below.refl _ _⟩
set_option maxRecDepth 10000 in
set_option maxHeartbeats 8000000 in
theorem pmaycall_any (w : World) (n a b : Int) (s t : ByteArray) : Calls Try.prog 10 #[.agg #[.int .i64 n, .int .i64 a, .int .i64 b, .string s, .string t]] w fun e w' => e = .returned (.bool (mayCl ⟨n, a, b, s, t⟩)) ∧ Below w.heap.size w w' := by
  obtain ⟨m, hm⟩ : ∃ m : Bool, m = mayCl ⟨n, a, b, s, t⟩ := ⟨_, rfl⟩
  rw [← hm]
  have HM := hide hm
  clear hm
  obtain ⟨w1, hw1⟩ : ∃ w1, w1 = w.alloc (.cells #[.int .i64 n, .int .i64 a, .int .i64 b, .string s, .string t] 23) := ⟨_, rfl⟩
  have X1 := hide (show ClAt w1 w.heap.size n a b s t from by rw [hw1]; exact heap_alloc_new w _)
  have B1 := hide (show Below w.heap.size w w1 from by rw [hw1]; exact (Below.refl w.heap.size w).alloc (Nat.le_refl _) _)
  have HW := hide hw1
  clear hw1
  go_enter Try.func10, Try.ntmps10
  go_upto_region 1 with fail
  rename_i Q9 K9 a9
  rw [← HW.out]
  obtain ⟨X, hX⟩ : ∃ X, X = w.heap.size := ⟨_, rfl⟩
  rw [← hX] at X1 ⊢
  clear hX HW
  obtain ⟨c0, c1, c2, c3, c4⟩ := X1.out.cells
  refine wp_region_noPanic ?_
  refine wp_region_held_drew (S := (fun w' => w'.cell? ⟨X, 0, none⟩ = some (.int .i64 n) ∧ w'.cell? ⟨X, 1, none⟩ = some (.int .i64 a) ∧ w'.cell? ⟨X, 2, none⟩ = some (.int .i64 b) ∧ w'.cell? ⟨X, 3, none⟩ = some (.string s) ∧ w'.cell? ⟨X, 4, none⟩ = some (.string t))) (by kernel_rfl) ⟨c0, c1, c2, c3, c4⟩ (fun hHeld => ?_)
  refine wpAnyH_take (i := 0) (v := ?_) rfl (by kernel_rfl) (by kernel_rfl) (by kernel_rfl) (fun _ _ _ h => h) (Or.inl ⟨by kernel_rfl, ?_⟩) (by assumption) ?_
  rotate_left
  · intro w hSw
    (try dsimp only at hSw)
    go_simp
    try with_reducible rfl
  try simp only [Act.put, List.setIfInBounds_toArray, List.set_cons_zero, List.set_cons_succ]
  refine wpAnyH_take (i := 1) (v := ?_) rfl (by kernel_rfl) (by kernel_rfl) (by kernel_rfl) (fun _ _ _ h => h) (Or.inl ⟨by kernel_rfl, ?_⟩) (by assumption) ?_
  rotate_left
  · intro w hSw
    (try dsimp only at hSw)
    go_simp
    try with_reducible rfl
  try simp only [Act.put, List.setIfInBounds_toArray, List.set_cons_zero, List.set_cons_succ]
  refine wpAnyH_take (i := 2) (v := ?_) rfl (by kernel_rfl) (by kernel_rfl) (by kernel_rfl) (fun _ _ _ h => h) (Or.inl ⟨by kernel_rfl, ?_⟩) (by assumption) ?_
  rotate_left
  · intro w hSw
    (try dsimp only at hSw)
    go_simp
    try with_reducible rfl
  try simp only [Act.put, List.setIfInBounds_toArray, List.set_cons_zero, List.set_cons_succ]
  refine wpAnyH_ready (rs := [3]) (by kernel_rfl) (by simp) ?_
  refine AllReadyH.cons rfl (fun K hK => ?_) AllReadyH.nil
  go_simp
  go_at_call 23
  refine (callForm_any _ _).mono ?_
  rintro e w2 ⟨v, rfl, hv, b2⟩
  have HV := hide hv
  have X2 := hide (show ClAt w2 X n a b s t from (b2.block X (lt_of_heap X1.out)).trans X1.out)
  have B2 := hide (show Below w.heap.size w w2 from (below_drewN B1.out 1).trans (b2.mono (below_drewN B1.out 1).size))
  clear hv b2 c0 c1 c2 c3 c4
  obtain ⟨c0, c1, c2, c3, c4⟩ := X2.out.cells
  go_wp2_with fail
  refine hK.out _ _ ⟨c0, c1, c2, c3, c4⟩ (fun hHeld => ?_)
  clear hK K
  try simp only [Act.put, List.setIfInBounds_toArray, List.set_cons_zero, List.set_cons_succ]
  refine wpAnyH_ready (rs := [4]) (by kernel_rfl) (by simp) ?_
  refine AllReadyH.cons rfl (fun K hK => ?_) AllReadyH.nil
  go_simp
  go_at_call 22
  refine (HV.out w2 (Below.refl _ _) a b s t).mono ?_
  rw [← HM.out]
  rintro e w3 ⟨rfl, b3⟩
  have X3 := hide (show ClAt w3 X n a b s t from (b3.block X (lt_of_heap X2.out)).trans X2.out)
  have B3 := hide (B2.out.trans (b3.mono B2.out.size))
  clear b3 c0 c1 c2 c3 c4
  obtain ⟨c0, c1, c2, c3, c4⟩ := X3.out.cells
  go_wp2_with fail
  refine hK.out _ _ ⟨c0, c1, c2, c3, c4⟩ (fun hHeld => ?_)
  clear hK K
  try simp only [Act.put, List.setIfInBounds_toArray, List.set_cons_zero, List.set_cons_succ]
  refine wpAnyH_take (i := 5) (v := ?_) rfl (by kernel_rfl) (by kernel_rfl) (by kernel_rfl) (fun _ _ _ h => h) (Or.inl ⟨by kernel_rfl, ?_⟩) (by assumption) ?_
  rotate_left
  · intro w hSw
    (try dsimp only at hSw)
    go_simp
    try with_reducible rfl
  try simp only [Act.put, List.setIfInBounds_toArray, List.set_cons_zero, List.set_cons_succ]
  refine wpAnyH_done (by kernel_rfl) ?_ _
  go_simp
  refine NoPanic.normal ?_
  refine a9 _ _ ?_
  go_wp2_with fail
  go_ret
  exact ⟨rfl, B3.out⟩
/-- What has says with a form of the steps of kind 'k'. -/
def HasS (w : World) (k : Int) (v : Value) : Prop := ∀ (W : World), Below w.heap.size w W → ∀ (a b c n x y : Int) (s t : ByteArray), Calls Try.prog 19 #[.agg #[.int .i64 k, .int .i64 a, .int .i64 b, .int .i64 c, .int .i64 n, .int .i64 x, .int .i64 y, .string s, .string t], v] W fun e w' => e = .returned (.bool (maySt ⟨k, a, b, c, ⟨n, x, y, s, t⟩⟩)) ∧ Below W.heap.size W w'
theorem hass_0 (w : World) : HasS w 0 (.func (.func 24) #[] #[]) := by
  intro W hW a b c n x y s t
  refine bool_from (has_bareS W 0 a b c n x y s t (0) 0 0 0 0 0 0 ByteArray.empty ByteArray.empty _ (hide fun W' hb => bareStep_any W' 0 a b c n x y s t)) ?_
  rw [Bool.eq_iff_iff]
  simp [maySt, eqSt_iff, clZ, withinB, inB, emp]
  try grind
theorem hass_4 (w : World) : HasS w 4 (.func (.func 24) #[] #[]) := by
  intro W hW a b c n x y s t
  refine bool_from (has_bareS W 4 a b c n x y s t (4) 0 0 0 0 0 0 ByteArray.empty ByteArray.empty _ (hide fun W' hb => bareStep_any W' 4 a b c n x y s t)) ?_
  rw [Bool.eq_iff_iff]
  simp [maySt, eqSt_iff, clZ, withinB, inB, emp]
  try grind
theorem hass_6 (w : World) : HasS w 6 (.func (.func 24) #[] #[]) := by
  intro W hW a b c n x y s t
  refine bool_from (has_bareS W 6 a b c n x y s t (6) 0 0 0 0 0 0 ByteArray.empty ByteArray.empty _ (hide fun W' hb => bareStep_any W' 6 a b c n x y s t)) ?_
  rw [Bool.eq_iff_iff]
  simp [maySt, eqSt_iff, clZ, withinB, inB, emp]
  try grind
theorem hass_1 (w : World) (P R : Addr) (hc : w.cell? P = some (.int .i64 1) ∧ w.cell? R = some (.int .i64 1000)) : HasS w 1 (.func (.func 37) #[] #[.pointer (some P), .pointer (some R)]) := by
  intro W hW a b c n x y s t
  have hP : W.cell? P = some (.int .i64 1) := (hW.cell (lt_of_cell? hc.1)).trans hc.1
  have hR : W.cell? R = some (.int .i64 1000) := (hW.cell (lt_of_cell? hc.2)).trans hc.2
  refine bool_from (has_numberS W 1 a b c n x y s t (1) a 0 0 0 0 0 ByteArray.empty ByteArray.empty _ P R (hide fun W' hb => numberStep1_any W' 1 a b c n x y s t 1 P ((hb.cell (lt_of_cell? hP)).trans hP) 1000 R ((hb.cell (lt_of_cell? hR)).trans hR))) ?_
  rw [Bool.eq_iff_iff]
  simp [maySt, eqSt_iff, clZ, withinB, inB, emp]
  try grind
theorem hass_7 (w : World) (P R : Addr) (hc : w.cell? P = some (.int .i64 1) ∧ w.cell? R = some (.int .i64 1000)) : HasS w 7 (.func (.func 37) #[] #[.pointer (some P), .pointer (some R)]) := by
  intro W hW a b c n x y s t
  have hP : W.cell? P = some (.int .i64 1) := (hW.cell (lt_of_cell? hc.1)).trans hc.1
  have hR : W.cell? R = some (.int .i64 1000) := (hW.cell (lt_of_cell? hc.2)).trans hc.2
  refine bool_from (has_numberS W 7 a b c n x y s t (7) a 0 0 0 0 0 ByteArray.empty ByteArray.empty _ P R (hide fun W' hb => numberStep1_any W' 7 a b c n x y s t 1 P ((hb.cell (lt_of_cell? hP)).trans hP) 1000 R ((hb.cell (lt_of_cell? hR)).trans hR))) ?_
  rw [Bool.eq_iff_iff]
  simp [maySt, eqSt_iff, clZ, withinB, inB, emp]
  try grind
theorem hass_2 (w : World) (P R : Addr) (hc : w.cell? P = some (.int .i64 0) ∧ w.cell? R = some (.int .i64 5)) : HasS w 2 (.func (.func 37) #[] #[.pointer (some P), .pointer (some R)]) := by
  intro W hW a b c n x y s t
  have hP : W.cell? P = some (.int .i64 0) := (hW.cell (lt_of_cell? hc.1)).trans hc.1
  have hR : W.cell? R = some (.int .i64 5) := (hW.cell (lt_of_cell? hc.2)).trans hc.2
  refine bool_from (has_numberS W 2 a b c n x y s t (2) a 0 0 0 0 0 ByteArray.empty ByteArray.empty _ P R (hide fun W' hb => numberStep1_any W' 2 a b c n x y s t 0 P ((hb.cell (lt_of_cell? hP)).trans hP) 5 R ((hb.cell (lt_of_cell? hR)).trans hR))) ?_
  rw [Bool.eq_iff_iff]
  simp [maySt, eqSt_iff, clZ, withinB, inB, emp]
  try grind
theorem hass_3 (w : World) (P R : Addr) (hc : w.cell? P = some (.int .i64 0) ∧ w.cell? R = some (.int .i64 5)) : HasS w 3 (.func (.func 37) #[] #[.pointer (some P), .pointer (some R)]) := by
  intro W hW a b c n x y s t
  have hP : W.cell? P = some (.int .i64 0) := (hW.cell (lt_of_cell? hc.1)).trans hc.1
  have hR : W.cell? R = some (.int .i64 5) := (hW.cell (lt_of_cell? hc.2)).trans hc.2
  refine bool_from (has_numberS W 3 a b c n x y s t (3) a 0 0 0 0 0 ByteArray.empty ByteArray.empty _ P R (hide fun W' hb => numberStep1_any W' 3 a b c n x y s t 0 P ((hb.cell (lt_of_cell? hP)).trans hP) 5 R ((hb.cell (lt_of_cell? hR)).trans hR))) ?_
  rw [Bool.eq_iff_iff]
  simp [maySt, eqSt_iff, clZ, withinB, inB, emp]
  try grind
theorem hass_5 (w : World) (P R : Addr) (hc : w.cell? P = some (.int .i64 0) ∧ w.cell? R = some (.int .i64 39)) : HasS w 5 (.func (.func 37) #[] #[.pointer (some P), .pointer (some R)]) := by
  intro W hW a b c n x y s t
  have hP : W.cell? P = some (.int .i64 0) := (hW.cell (lt_of_cell? hc.1)).trans hc.1
  have hR : W.cell? R = some (.int .i64 39) := (hW.cell (lt_of_cell? hc.2)).trans hc.2
  refine bool_from (has_numberS W 5 a b c n x y s t (5) a 0 0 0 0 0 ByteArray.empty ByteArray.empty _ P R (hide fun W' hb => numberStep1_any W' 5 a b c n x y s t 0 P ((hb.cell (lt_of_cell? hP)).trans hP) 39 R ((hb.cell (lt_of_cell? hR)).trans hR))) ?_
  rw [Bool.eq_iff_iff]
  simp [maySt, eqSt_iff, clZ, withinB, inB, emp]
  try grind
theorem hass_8 (w : World) : HasS w 8 (.func (.func 26) #[] #[]) := by
  intro W hW a b c n x y s t
  refine bool_from (has_waitS W 8 a b c n x y s t (8) a b c 0 0 0 ByteArray.empty ByteArray.empty _ (hide fun W' hb => waitStep_any W' 8 a b c n x y s t)) ?_
  rw [Bool.eq_iff_iff]
  simp [maySt, eqSt_iff, clZ, withinB, inB, emp]
  try grind
theorem hass_9 (w : World) (P R : Addr) (hc : w.cell? P = some (.int .i64 0) ∧ w.cell? R = some (.int .i64 3)) : HasS w 9 (.func (.func 37) #[] #[.pointer (some P), .pointer (some R)]) := by
  intro W hW a b c n x y s t
  have hP : W.cell? P = some (.int .i64 0) := (hW.cell (lt_of_cell? hc.1)).trans hc.1
  have hR : W.cell? R = some (.int .i64 3) := (hW.cell (lt_of_cell? hc.2)).trans hc.2
  refine bool_from (has_numberS W 9 a b c n x y s t (9) a 0 0 0 0 0 ByteArray.empty ByteArray.empty _ P R (hide fun W' hb => numberStep1_any W' 9 a b c n x y s t 0 P ((hb.cell (lt_of_cell? hP)).trans hP) 3 R ((hb.cell (lt_of_cell? hR)).trans hR))) ?_
  rw [Bool.eq_iff_iff]
  simp [maySt, eqSt_iff, clZ, withinB, inB, emp]
  try grind
theorem hass_10 (w : World) : HasS w 10 (.func (.func 27) #[] #[]) := by
  intro W hW a b c n x y s t
  refine bool_from (has_callS W 10 a b c n x y s t (10) 0 0 0 n x y s t _ (hide fun W' hb => callStep_any (mayCl ⟨n, x, y, s, t⟩) W' 10 a b c n x y s t (hide fun W2 => pmaycall_any W2 n x y s t))) ?_
  rw [Bool.eq_iff_iff]
  simp [maySt, eqSt_iff, clZ, withinB, inB, emp]
  try grind
theorem hass_strange (w : World) (k : Int) (h : ∀ a b c n x y s t, maySt ⟨k, a, b, c, ⟨n, x, y, s, t⟩⟩ = false) : HasS w k (.func (.func 28) #[] #[]) := by
  intro W hW a b c n x y s t
  refine bool_from (has_strangeS W k a b c n x y s t k a b c n x y s t _ (hide fun W' hb => strangeS_any W' k a b c n x y s t)) ?_
  rw [h]; rfl
set_option maxRecDepth 10000 in
set_option maxHeartbeats 8000000 in
theorem stepForm_any (w : World) (k : Int) : Calls Try.prog 20 #[.int .i64 k] w fun e w' => ∃ v, e = .returned v ∧ HasS w' k v ∧ Below w.heap.size w w' := by
  by_cases k0 : k = 0
  · subst k0
    go_enter Try.func20, Try.ntmps20
    go_wp2_with fail
    go_ret
    exact ⟨_, rfl, hass_0 _, Below.refl _ _⟩
  by_cases k4 : k = 4
  · subst k4
    go_enter Try.func20, Try.ntmps20
    go_wp2_with fail
    go_ret
    exact ⟨_, rfl, hass_4 _, Below.refl _ _⟩
  by_cases k6 : k = 6
  · subst k6
    go_enter Try.func20, Try.ntmps20
    go_wp2_with fail
    go_ret
    exact ⟨_, rfl, hass_6 _, Below.refl _ _⟩
  by_cases k1 : k = 1
  · subst k1
    go_enter Try.func20, Try.ntmps20
    go_wp2_with (first | (go_at_call 25; refine (numberStep_any _ _ _).mono ?_; rintro e w2 ⟨P, R, rfl, hc, b2⟩; have HC := hide (hass_1 w2 P R hc); have B2 := hide b2; clear hc b2))
    go_ret
    exact ⟨_, rfl, HC.out, B2.out⟩
  by_cases k7 : k = 7
  · subst k7
    go_enter Try.func20, Try.ntmps20
    go_wp2_with (first | (go_at_call 25; refine (numberStep_any _ _ _).mono ?_; rintro e w2 ⟨P, R, rfl, hc, b2⟩; have HC := hide (hass_7 w2 P R hc); have B2 := hide b2; clear hc b2))
    go_ret
    exact ⟨_, rfl, HC.out, B2.out⟩
  by_cases k2 : k = 2
  · subst k2
    go_enter Try.func20, Try.ntmps20
    go_wp2_with (first | (go_at_call 25; refine (numberStep_any _ _ _).mono ?_; rintro e w2 ⟨P, R, rfl, hc, b2⟩; have HC := hide (hass_2 w2 P R hc); have B2 := hide b2; clear hc b2))
    go_ret
    exact ⟨_, rfl, HC.out, B2.out⟩
  by_cases k3 : k = 3
  · subst k3
    go_enter Try.func20, Try.ntmps20
    go_wp2_with (first | (go_at_call 25; refine (numberStep_any _ _ _).mono ?_; rintro e w2 ⟨P, R, rfl, hc, b2⟩; have HC := hide (hass_3 w2 P R hc); have B2 := hide b2; clear hc b2))
    go_ret
    exact ⟨_, rfl, HC.out, B2.out⟩
  by_cases k5 : k = 5
  · subst k5
    go_enter Try.func20, Try.ntmps20
    go_wp2_with (first | (go_at_call 25; refine (numberStep_any _ _ _).mono ?_; rintro e w2 ⟨P, R, rfl, hc, b2⟩; have HC := hide (hass_5 w2 P R hc); have B2 := hide b2; clear hc b2))
    go_ret
    exact ⟨_, rfl, HC.out, B2.out⟩
  by_cases k8 : k = 8
  · subst k8
    go_enter Try.func20, Try.ntmps20
    go_wp2_with fail
    go_ret
    exact ⟨_, rfl, hass_8 _, Below.refl _ _⟩
  by_cases k9 : k = 9
  · subst k9
    go_enter Try.func20, Try.ntmps20
    go_wp2_with (first | (go_at_call 25; refine (numberStep_any _ _ _).mono ?_; rintro e w2 ⟨P, R, rfl, hc, b2⟩; have HC := hide (hass_9 w2 P R hc); have B2 := hide b2; clear hc b2))
    go_ret
    exact ⟨_, rfl, HC.out, B2.out⟩
  by_cases k10 : k = 10
  · subst k10
    go_enter Try.func20, Try.ntmps20
    go_wp2_with fail
    go_ret
    exact ⟨_, rfl, hass_10 _, Below.refl _ _⟩
  have hz : ∀ a b c n x y s t, maySt ⟨k, a, b, c, ⟨n, x, y, s, t⟩⟩ = false := by intro a b c n x y s t; simp [maySt, k0, k4, k6, k1, k7, k2, k3, k5, k8, k9, k10]
  have HZ := hide hz
  clear hz
  go_enter Try.func20, Try.ntmps20
  go_wp2_with fail
  go_ret
  exact ⟨_, rfl, hass_strange _ _ HZ.out, Below.refl _ _⟩
set_option maxRecDepth 10000 in
set_option maxHeartbeats 8000000 in
theorem pmay_any (w : World) (k a b c n x y : Int) (s t : ByteArray) : Calls Try.prog 8 #[.agg #[.int .i64 k, .int .i64 a, .int .i64 b, .int .i64 c, .int .i64 n, .int .i64 x, .int .i64 y, .string s, .string t]] w fun e w' => e = .returned (.bool (maySt ⟨k, a, b, c, ⟨n, x, y, s, t⟩⟩)) ∧ Below w.heap.size w w' := by
  obtain ⟨m, hm⟩ : ∃ m : Bool, m = maySt ⟨k, a, b, c, ⟨n, x, y, s, t⟩⟩ := ⟨_, rfl⟩
  rw [← hm]
  have HM := hide hm
  clear hm
  obtain ⟨w1, hw1⟩ : ∃ w1, w1 = w.alloc (.cells #[.int .i64 k, .int .i64 a, .int .i64 b, .int .i64 c, .int .i64 n, .int .i64 x, .int .i64 y, .string s, .string t] 25) := ⟨_, rfl⟩
  have X1 := hide (show StAt w1 w.heap.size k a b c n x y s t from by rw [hw1]; exact heap_alloc_new w _)
  have B1 := hide (show Below w.heap.size w w1 from by rw [hw1]; exact (Below.refl w.heap.size w).alloc (Nat.le_refl _) _)
  have HW := hide hw1
  clear hw1
  go_enter Try.func8, Try.ntmps8
  go_upto_region 1 with fail
  rename_i Q9 K9 a9
  rw [← HW.out]
  obtain ⟨X, hX⟩ : ∃ X, X = w.heap.size := ⟨_, rfl⟩
  rw [← hX] at X1 ⊢
  clear hX HW
  obtain ⟨c0, c1, c2, c3, c4, c5, c6, c7, c8⟩ := X1.out.cells
  refine wp_region_noPanic ?_
  refine wp_region_held_drew (S := (fun w' => w'.cell? ⟨X, 0, none⟩ = some (.int .i64 k) ∧ w'.cell? ⟨X, 1, none⟩ = some (.int .i64 a) ∧ w'.cell? ⟨X, 2, none⟩ = some (.int .i64 b) ∧ w'.cell? ⟨X, 3, none⟩ = some (.int .i64 c) ∧ w'.cell? ⟨X, 4, none⟩ = some (.int .i64 n) ∧ w'.cell? ⟨X, 5, none⟩ = some (.int .i64 x) ∧ w'.cell? ⟨X, 6, none⟩ = some (.int .i64 y) ∧ w'.cell? ⟨X, 7, none⟩ = some (.string s) ∧ w'.cell? ⟨X, 8, none⟩ = some (.string t))) (by kernel_rfl) ⟨c0, c1, c2, c3, c4, c5, c6, c7, c8⟩ (fun hHeld => ?_)
  refine wpAnyH_take (i := 0) (v := ?_) rfl (by kernel_rfl) (by kernel_rfl) (by kernel_rfl) (fun _ _ _ h => h) (Or.inl ⟨by kernel_rfl, ?_⟩) (by assumption) ?_
  rotate_left
  · intro w hSw
    (try dsimp only at hSw)
    go_simp
    try with_reducible rfl
  try simp only [Act.put, List.setIfInBounds_toArray, List.set_cons_zero, List.set_cons_succ]
  refine wpAnyH_take (i := 1) (v := ?_) rfl (by kernel_rfl) (by kernel_rfl) (by kernel_rfl) (fun _ _ _ h => h) (Or.inl ⟨by kernel_rfl, ?_⟩) (by assumption) ?_
  rotate_left
  · intro w hSw
    (try dsimp only at hSw)
    go_simp
    try with_reducible rfl
  try simp only [Act.put, List.setIfInBounds_toArray, List.set_cons_zero, List.set_cons_succ]
  refine wpAnyH_take (i := 2) (v := ?_) rfl (by kernel_rfl) (by kernel_rfl) (by kernel_rfl) (fun _ _ _ h => h) (Or.inl ⟨by kernel_rfl, ?_⟩) (by assumption) ?_
  rotate_left
  · intro w hSw
    (try dsimp only at hSw)
    go_simp
    try with_reducible rfl
  try simp only [Act.put, List.setIfInBounds_toArray, List.set_cons_zero, List.set_cons_succ]
  refine wpAnyH_ready (rs := [3]) (by kernel_rfl) (by simp) ?_
  refine AllReadyH.cons rfl (fun K hK => ?_) AllReadyH.nil
  go_simp
  go_at_call 20
  refine (stepForm_any _ _).mono ?_
  rintro e w2 ⟨v, rfl, hv, b2⟩
  have HV := hide hv
  have X2 := hide (show StAt w2 X k a b c n x y s t from (b2.block X (lt_of_heap X1.out)).trans X1.out)
  have B2 := hide (show Below w.heap.size w w2 from (below_drewN B1.out 1).trans (b2.mono (below_drewN B1.out 1).size))
  clear hv b2 c0 c1 c2 c3 c4 c5 c6 c7 c8
  obtain ⟨c0, c1, c2, c3, c4, c5, c6, c7, c8⟩ := X2.out.cells
  go_wp2_with fail
  refine hK.out _ _ ⟨c0, c1, c2, c3, c4, c5, c6, c7, c8⟩ (fun hHeld => ?_)
  clear hK K
  try simp only [Act.put, List.setIfInBounds_toArray, List.set_cons_zero, List.set_cons_succ]
  refine wpAnyH_ready (rs := [4]) (by kernel_rfl) (by simp) ?_
  refine AllReadyH.cons rfl (fun K hK => ?_) AllReadyH.nil
  go_simp
  go_at_call 19
  refine (HV.out w2 (Below.refl _ _) a b c n x y s t).mono ?_
  rw [← HM.out]
  rintro e w3 ⟨rfl, b3⟩
  have X3 := hide (show StAt w3 X k a b c n x y s t from (b3.block X (lt_of_heap X2.out)).trans X2.out)
  have B3 := hide (B2.out.trans (b3.mono B2.out.size))
  clear b3 c0 c1 c2 c3 c4 c5 c6 c7 c8
  obtain ⟨c0, c1, c2, c3, c4, c5, c6, c7, c8⟩ := X3.out.cells
  go_wp2_with fail
  refine hK.out _ _ ⟨c0, c1, c2, c3, c4, c5, c6, c7, c8⟩ (fun hHeld => ?_)
  clear hK K
  try simp only [Act.put, List.setIfInBounds_toArray, List.set_cons_zero, List.set_cons_succ]
  refine wpAnyH_take (i := 5) (v := ?_) rfl (by kernel_rfl) (by kernel_rfl) (by kernel_rfl) (fun _ _ _ h => h) (Or.inl ⟨by kernel_rfl, ?_⟩) (by assumption) ?_
  rotate_left
  · intro w hSw
    (try dsimp only at hSw)
    go_simp
    try with_reducible rfl
  try simp only [Act.put, List.setIfInBounds_toArray, List.set_cons_zero, List.set_cons_succ]
  refine wpAnyH_done (by kernel_rfl) ?_ _
  go_simp
  refine NoPanic.normal ?_
  refine a9 _ _ ?_
  go_wp2_with fail
  go_ret
  exact ⟨rfl, B3.out⟩
end Go.Proofs.Ythgoifmmnebkeaa
