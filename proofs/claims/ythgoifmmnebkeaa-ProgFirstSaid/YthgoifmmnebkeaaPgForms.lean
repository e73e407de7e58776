/-
  The program's forms of calls and steps: what each answers.
-/
import Derived.Test.YthgoifmmnebkeaaPgMay
import Derived.Test.YthgoifmmnebkeaaGRow
import Derived.Deep.RegionHeld3
namespace Go.Proofs.Ythgoifmmnebkeaa
open Go.ChangeShapes Go.WideShapes Go.ChangeAt Go.RowKit
set_option linter.unusedVariables false
set_option linter.unusedSimpArgs false
def withinB (x l h : Int) : Bool := decide (l ≤ x ∧ x ≤ h)
theorem within_any (w : World) (x l h : Int) : Calls Try.prog 38 #[.int .i64 x, .int .i64 l, .int .i64 h] w fun e w' => e = .returned (.bool (withinB x l h)) ∧ w' = w := by
  by_cases h1 : l ≤ x
  · by_cases h2 : x ≤ h
    · go_enter Try.func38, Try.ntmps38
      go_wp2_with fail
      go_ret
      exact ⟨ret_bool (by simp [withinB, h1, h2]), rfl⟩
    · go_enter Try.func38, Try.ntmps38
      go_wp2_with fail
      go_ret
      exact ⟨ret_bool (by simp [withinB, h1, h2]), rfl⟩
  · go_enter Try.func38, Try.ntmps38
    go_wp2_with fail
    go_ret
    exact ⟨ret_bool (by simp [withinB]; omega), rfl⟩
theorem isDesc_any (w : World) (x : Int) : Calls Try.prog 41 #[.int .i64 x] w fun e w' => e = .returned (.bool (withinB x 0 7)) ∧ w' = w := by
  go_enter Try.func41, Try.ntmps41
  go_wp2_with (go_at_call 38; refine (within_any _ _ _ _).mono ?_; rintro e w' ⟨rfl, rfl⟩)
  go_ret
  exact ⟨rfl, rfl⟩
theorem isPath_any (w : World) (s : ByteArray) : Calls Try.prog 39 #[.string s] w fun e w' => e = .returned (.bool (decide (s.size ≤ 100))) ∧ w' = w := by
  by_cases h1 : (s.size : Int) ≤ 100
  · go_enter Try.func39, Try.ntmps39
    go_wp2_with fail
    go_ret
    exact ⟨ret_bool (by simp; omega), rfl⟩
  · go_enter Try.func39, Try.ntmps39
    go_wp2_with fail
    go_ret
    exact ⟨ret_bool (by simp; omega), rfl⟩
/-- A block written over whole. -/
theorem seg_whole {w : World} {g : Nat} {cur : Array Value} {vs : List Value} {t : TypeId} (h : w.heap[g]? = some (.cells cur t (0, 0))) (hl : cur.size = vs.length) : (setSeg w g 0 vs).heap[g]? = some (.cells vs.toArray t (0, 0)) := by
  obtain ⟨cur', h1, h2, h3⟩ := setSeg_heap vs w g 0 cur t h (by omega)
  rw [h1]
  have : cur' = vs.toArray := by
    apply Array.toList_inj.1
    rw [h3]
    unfold splice
    simp [← hl]
  rw [this]
theorem drew_heap (w : World) : w.drew.heap = w.heap := rfl
theorem seg_drew {w : World} {g : Nat} {cur : Array Value} {vs : List Value} {t : TypeId} (h : w.heap[g]? = some (.cells cur t (0, 0))) (hl : cur.size = vs.length) : (setSeg w g 0 vs).drew.heap[g]? = some (.cells vs.toArray t (0, 0)) := by
  rw [drew_heap]; exact seg_whole h hl
theorem built_openCall (n : Int) (a : Int) (s : ByteArray) : Try.prog.built 23 [(0, .int .i64 n), (1, .int .i64 a), (3, .string s)] = some #[.int .i64 n, .int .i64 a, .int .i64 0, .string s, .string ByteArray.empty] := by kernel_rfl
set_option maxRecDepth 10000 in
set_option maxHeartbeats 8000000 in
theorem openCall_any (w : World) (n a b : Int) (s t : ByteArray) : Calls Try.prog 29 #[.agg #[.int .i64 n, .int .i64 a, .int .i64 b, .string s, .string t]] w fun e w' => e = .returned (.tuple #[.agg #[.int .i64 n, .int .i64 a, .int .i64 0, .string s, .string ByteArray.empty], .bool (withinB a 0 7 && decide (s.size ≤ 100))]) ∧ Below w.heap.size w w' := by
  obtain ⟨p, hp⟩ : ∃ q : Bool, q = withinB a 0 7 := ⟨_, rfl⟩
  have Kp := hide (show ∀ W, Calls Try.prog 38 #[.int .i64 a, .int .i64 0, .int .i64 7] W fun e w' => e = .returned (.bool p) ∧ w' = W from fun W => by rw [hp]; exact within_any W _ _ _)
  obtain ⟨q, hq⟩ : ∃ q : Bool, q = decide (s.size ≤ 100) := ⟨_, rfl⟩
  have Kq := hide (show ∀ W, Calls Try.prog 39 #[.string s] W fun e w' => e = .returned (.bool q) ∧ w' = W from fun W => by rw [hq]; exact isPath_any W _)
  rw [← hp, ← hq]
  clear hp hq
  have hb := built_openCall n a s
  obtain ⟨w1, hw1⟩ : ∃ w1, w1 = (w.alloc (.cells #[.int .i64 n, .int .i64 a, .int .i64 b, .string s, .string t] 23)).alloc (.cells #[.int .i64 0, .int .i64 0, .int .i64 0, .string ByteArray.empty, .string ByteArray.empty] 23) := ⟨_, rfl⟩
  have X1 := hide (show ClAt w1 w.heap.size n a b s t from by rw [hw1]; exact (two_blocks w _ _).1)
  have Y1 := hide (show ClAt w1 (w.heap.size + 1) (0) (0) (0) (ByteArray.empty) (ByteArray.empty) from by rw [hw1]; exact (two_blocks w _ _).2)
  have B1 := hide (show Below w.heap.size w w1 from by rw [hw1]; exact (((Below.refl w.heap.size w).alloc (Nat.le_refl _) _).alloc (by simp) _))
  have HW := hide hw1
  clear hw1
  go_enter Try.func29, Try.ntmps29
  go_upto_region 1 with fail
  rename_i Q9 K9 a9
  rw [show (ByteArray.mk #[]) = ByteArray.empty from rfl, ← HW.out]
  obtain ⟨Y, hY⟩ : ∃ Y, Y = w.heap.size + 1 := ⟨_, rfl⟩
  obtain ⟨X, hX⟩ : ∃ X, X = w.heap.size := ⟨_, rfl⟩
  rw [← hY, ← hX]
  rw [← hX] at X1
  rw [← hY] at Y1
  have NE := hide (show X ≠ Y from by omega)
  have LY := hide (show w.heap.size ≤ Y from by omega)
  clear hX hY HW
  obtain ⟨c0, c1, c2, c3, c4⟩ := X1.out.cells
  obtain ⟨d0, d1, d2, d3, d4⟩ := Y1.out.cells
  obtain ⟨f0, f1, f2, f3, f4⟩ := Y1.out.frozen
  obtain ⟨w9, hw9⟩ : ∃ w9, w9 = (setSeg w1 Y 0 [.int .i64 n, .int .i64 a, .int .i64 0, .string s, .string ByteArray.empty]).drew := ⟨_, rfl⟩
  have Y9 := hide (show ClAt w9 Y (n) (a) (0) (s) (ByteArray.empty) from by rw [hw9]; have e := seg_drew (w := w1) (g := Y) (vs := [.int .i64 n, .int .i64 a, .int .i64 0, .string s, .string ByteArray.empty]) Y1.out rfl; exact e)
  have T9 := hide (show Touch (fun i => i = Y) w1 w9 from by rw [hw9]; exact (setSeg_touch (S := fun i => i = Y) rfl _ _ _ (Touch.refl _ _)).drewN 1)
  have B9 := hide (B1.out.trans (T9.out.below B1.out.size (fun i q => by rw [q]; exact LY.out)))
  have g0 := T9.out.cell (p := ⟨X, 0, none⟩) c0 NE.out
  have g1 := T9.out.cell (p := ⟨X, 1, none⟩) c1 NE.out
  have g3 := T9.out.cell (p := ⟨X, 3, none⟩) c3 NE.out
  simp only [setSeg, Nat.reduceAdd, Nat.zero_add] at hw9
  have H9 := hide hw9
  obtain ⟨q0, q1, q2, q3, q4⟩ := Y9.out.cells
  cases p with
  | false =>
    refine wp_region_noPanic ?_
    refine wp_region_held_drew (S := (fun w' => w'.cell? ⟨X, 0, none⟩ = some (.int .i64 n) ∧ w'.cell? ⟨X, 1, none⟩ = some (.int .i64 a) ∧ w'.cell? ⟨X, 3, none⟩ = some (.string s))) (by kernel_rfl) ⟨c0, c1, c3⟩ (fun hHeld => ?_)
    refine wpAnyH_take (i := 0) (v := ?_) rfl (by kernel_rfl) (by kernel_rfl) (by kernel_rfl) (fun _ _ _ h => h) (Or.inl ⟨by kernel_rfl, ?_⟩) (by assumption) ?_
    rotate_left
    · intro w hSw
      (try dsimp only at hSw)
      go_simp
      try with_reducible rfl
    try simp only [Act.put, List.setIfInBounds_toArray, List.set_cons_zero, List.set_cons_succ]
    refine wpAnyH_take (i := 1) (v := ?_) rfl (by kernel_rfl) (by kernel_rfl) (by kernel_rfl) (fun _ _ _ h => h) (Or.inl ⟨by kernel_rfl, ?_⟩) (by assumption) ?_
    rotate_left
    · intro w hSw
      (try dsimp only at hSw)
      go_simp
      try with_reducible rfl
    try simp only [Act.put, List.setIfInBounds_toArray, List.set_cons_zero, List.set_cons_succ]
    refine wpAnyH_take (i := 2) (v := ?_) rfl (by kernel_rfl) (by kernel_rfl) (by kernel_rfl) (fun _ _ _ h => h) (Or.inl ⟨by kernel_rfl, ?_⟩) (by assumption) ?_
    rotate_left
    · intro w hSw
      (try dsimp only at hSw)
      go_simp
      try with_reducible rfl
    try simp only [Act.put, List.setIfInBounds_toArray, List.set_cons_zero, List.set_cons_succ]
    refine wpAnyH_take (i := 3) (v := ?_) rfl (by kernel_rfl) (by kernel_rfl) (by kernel_rfl) (fun _ _ _ h => h) (Or.inl ⟨by kernel_rfl, ?_⟩) (by assumption) ?_
    rotate_left
    · intro w hSw
      (try dsimp only at hSw)
      go_simp
      try with_reducible rfl
    try simp only [Act.put, List.setIfInBounds_toArray, List.set_cons_zero, List.set_cons_succ]
    refine wpAnyH_take (i := 4) (v := ?_) rfl (by kernel_rfl) (by kernel_rfl) (by kernel_rfl) (fun _ _ _ h => h) (Or.inl ⟨by kernel_rfl, ?_⟩) (by assumption) ?_
    rotate_left
    · intro w hSw
      (try dsimp only at hSw)
      go_simp
      try with_reducible rfl
    try simp only [Act.put, List.setIfInBounds_toArray, List.set_cons_zero, List.set_cons_succ]
    refine wpAnyH_take (i := 5) (v := ?_) rfl (by kernel_rfl) (by kernel_rfl) (by kernel_rfl) (fun _ _ _ h => h) (Or.inl ⟨by kernel_rfl, ?_⟩) (by assumption) ?_
    rotate_left
    · intro w hSw
      (try dsimp only at hSw)
      go_simp
      try with_reducible rfl
    try simp only [Act.put, List.setIfInBounds_toArray, List.set_cons_zero, List.set_cons_succ]
    refine wpAnyH_take (i := 6) (v := ?_) rfl (by kernel_rfl) (by kernel_rfl) (by kernel_rfl) (fun _ _ _ h => h) (Or.inl ⟨by kernel_rfl, ?_⟩) (by assumption) ?_
    rotate_left
    · intro w hSw
      (try dsimp only at hSw)
      go_simp
      try with_reducible rfl
    try simp only [Act.put, List.setIfInBounds_toArray, List.set_cons_zero, List.set_cons_succ]
    refine wpAnyH_take (i := 7) (v := ?_) rfl (by kernel_rfl) (by kernel_rfl) (by kernel_rfl) (fun _ _ _ h => h) (Or.inl ⟨by kernel_rfl, ?_⟩) (by assumption) ?_
    rotate_left
    · intro w hSw
      (try dsimp only at hSw)
      go_simp
      try with_reducible rfl
    try simp only [Act.put, List.setIfInBounds_toArray, List.set_cons_zero, List.set_cons_succ]
    refine wpAnyH_take (i := 8) (v := ?_) rfl (by kernel_rfl) (by kernel_rfl) (by kernel_rfl) (fun _ _ _ h => h) (Or.inl ⟨by kernel_rfl, ?_⟩) (by assumption) ?_
    rotate_left
    · intro w hSw
      (try dsimp only at hSw)
      go_simp
      try with_reducible rfl
    try simp only [Act.put, List.setIfInBounds_toArray, List.set_cons_zero, List.set_cons_succ]
    refine wpAnyH_ready (rs := [9]) (by kernel_rfl) (by simp) ?_
    refine AllReadyH.cons rfl (fun K hK => ?_) AllReadyH.nil
    go_simp
    go_at_call 38
    refine (Kp.out _).mono ?_
    rintro e w2 ⟨rfl, rfl⟩
    go_wp2_with fail
    refine hK.out _ _ ⟨c0, c1, c3⟩ (fun hHeld => ?_)
    clear hK K
    try simp only [Act.put, List.setIfInBounds_toArray, List.set_cons_zero, List.set_cons_succ]
    refine wpAnyH_take (i := 10) (v := ?_) rfl (by kernel_rfl) (by kernel_rfl) (by kernel_rfl) (fun _ _ _ h => h) (Or.inl ⟨by kernel_rfl, ?_⟩) (by assumption) ?_
    rotate_left
    · intro w hSw
      (try dsimp only at hSw)
      go_simp
      try with_reducible rfl
    try simp only [Act.put, List.setIfInBounds_toArray, List.set_cons_zero, List.set_cons_succ]
    refine wpAnyH_take (i := 11) (v := undef) rfl (by kernel_rfl) (by kernel_rfl) (by kernel_rfl) (fun _ _ _ h => h) (Or.inr ⟨by kernel_rfl, rfl⟩) (by assumption) ?_
    try simp only [Act.put, List.setIfInBounds_toArray, List.set_cons_zero, List.set_cons_succ]
    refine wpAnyH_take (i := 12) (v := undef) rfl (by kernel_rfl) (by kernel_rfl) (by kernel_rfl) (fun _ _ _ h => h) (Or.inr ⟨by kernel_rfl, rfl⟩) (by assumption) ?_
    try simp only [Act.put, List.setIfInBounds_toArray, List.set_cons_zero, List.set_cons_succ]
    refine wpAnyH_take (i := 13) (v := undef) rfl (by kernel_rfl) (by kernel_rfl) (by kernel_rfl) (fun _ _ _ h => h) (Or.inr ⟨by kernel_rfl, rfl⟩) (by assumption) ?_
    try simp only [Act.put, List.setIfInBounds_toArray, List.set_cons_zero, List.set_cons_succ]
    refine wpAnyH_take (i := 14) (v := ?_) rfl (by kernel_rfl) (by kernel_rfl) (by kernel_rfl) (fun _ _ _ h => h) (Or.inl ⟨by kernel_rfl, ?_⟩) (by assumption) ?_
    rotate_left
    · intro w hSw
      (try dsimp only at hSw)
      go_simp
      try with_reducible rfl
    try simp only [Act.put, List.setIfInBounds_toArray, List.set_cons_zero, List.set_cons_succ]
    refine wpAnyH_ready (rs := [15]) (by kernel_rfl) (by simp) ?_
    refine AllReadyH.cons rfl (fun K hK => ?_) AllReadyH.nil
    go_simp
    go_wp2_with fail
    refine hK.out _ _ (by rw [hw9] at g0 g1 g3; (try rw [show (ByteArray.mk #[]) = ByteArray.empty from rfl]); exact ⟨g0, g1, g3⟩) (fun hHeld => ?_)
    clear hK K
    try simp only [Act.put, List.setIfInBounds_toArray, List.set_cons_zero, List.set_cons_succ]
    refine wpAnyH_take (i := 16) (v := ?_) rfl (by kernel_rfl) (by kernel_rfl) (by kernel_rfl) (fun _ _ _ h => h) (Or.inl ⟨by kernel_rfl, ?_⟩) (by assumption) ?_
    rotate_left
    · intro w hSw
      (try dsimp only at hSw)
      go_simp
      try with_reducible rfl
    try simp only [Act.put, List.setIfInBounds_toArray, List.set_cons_zero, List.set_cons_succ]
    refine wpAnyH_done (by kernel_rfl) ?_ _
    go_simp
    refine NoPanic.normal ?_
    refine a9 _ _ ?_
    go_wp2_with fail
    (try rw [show (ByteArray.mk #[]) = ByteArray.empty from rfl])
    rw [← hw9]
    refine bodyPost_ret (v := .tuple #[.agg #[.int .i64 n, .int .i64 a, .int .i64 0, .string s, .string ByteArray.empty], .bool _]) (by simp [results, Try.results29, go_sem, q0, q1, q2, q3, q4] <;> rfl) rfl ⟨by simp, B9.out⟩
  | true =>
    refine wp_region_noPanic ?_
    refine wp_region_held_drew (S := (fun w' => w'.cell? ⟨X, 0, none⟩ = some (.int .i64 n) ∧ w'.cell? ⟨X, 1, none⟩ = some (.int .i64 a) ∧ w'.cell? ⟨X, 3, none⟩ = some (.string s))) (by kernel_rfl) ⟨c0, c1, c3⟩ (fun hHeld => ?_)
    refine wpAnyH_take (i := 0) (v := ?_) rfl (by kernel_rfl) (by kernel_rfl) (by kernel_rfl) (fun _ _ _ h => h) (Or.inl ⟨by kernel_rfl, ?_⟩) (by assumption) ?_
    rotate_left
    · intro w hSw
      (try dsimp only at hSw)
      go_simp
      try with_reducible rfl
    try simp only [Act.put, List.setIfInBounds_toArray, List.set_cons_zero, List.set_cons_succ]
    refine wpAnyH_take (i := 1) (v := ?_) rfl (by kernel_rfl) (by kernel_rfl) (by kernel_rfl) (fun _ _ _ h => h) (Or.inl ⟨by kernel_rfl, ?_⟩) (by assumption) ?_
    rotate_left
    · intro w hSw
      (try dsimp only at hSw)
      go_simp
      try with_reducible rfl
    try simp only [Act.put, List.setIfInBounds_toArray, List.set_cons_zero, List.set_cons_succ]
    refine wpAnyH_take (i := 2) (v := ?_) rfl (by kernel_rfl) (by kernel_rfl) (by kernel_rfl) (fun _ _ _ h => h) (Or.inl ⟨by kernel_rfl, ?_⟩) (by assumption) ?_
    rotate_left
    · intro w hSw
      (try dsimp only at hSw)
      go_simp
      try with_reducible rfl
    try simp only [Act.put, List.setIfInBounds_toArray, List.set_cons_zero, List.set_cons_succ]
    refine wpAnyH_take (i := 3) (v := ?_) rfl (by kernel_rfl) (by kernel_rfl) (by kernel_rfl) (fun _ _ _ h => h) (Or.inl ⟨by kernel_rfl, ?_⟩) (by assumption) ?_
    rotate_left
    · intro w hSw
      (try dsimp only at hSw)
      go_simp
      try with_reducible rfl
    try simp only [Act.put, List.setIfInBounds_toArray, List.set_cons_zero, List.set_cons_succ]
    refine wpAnyH_take (i := 4) (v := ?_) rfl (by kernel_rfl) (by kernel_rfl) (by kernel_rfl) (fun _ _ _ h => h) (Or.inl ⟨by kernel_rfl, ?_⟩) (by assumption) ?_
    rotate_left
    · intro w hSw
      (try dsimp only at hSw)
      go_simp
      try with_reducible rfl
    try simp only [Act.put, List.setIfInBounds_toArray, List.set_cons_zero, List.set_cons_succ]
    refine wpAnyH_take (i := 5) (v := ?_) rfl (by kernel_rfl) (by kernel_rfl) (by kernel_rfl) (fun _ _ _ h => h) (Or.inl ⟨by kernel_rfl, ?_⟩) (by assumption) ?_
    rotate_left
    · intro w hSw
      (try dsimp only at hSw)
      go_simp
      try with_reducible rfl
    try simp only [Act.put, List.setIfInBounds_toArray, List.set_cons_zero, List.set_cons_succ]
    refine wpAnyH_take (i := 6) (v := ?_) rfl (by kernel_rfl) (by kernel_rfl) (by kernel_rfl) (fun _ _ _ h => h) (Or.inl ⟨by kernel_rfl, ?_⟩) (by assumption) ?_
    rotate_left
    · intro w hSw
      (try dsimp only at hSw)
      go_simp
      try with_reducible rfl
    try simp only [Act.put, List.setIfInBounds_toArray, List.set_cons_zero, List.set_cons_succ]
    refine wpAnyH_take (i := 7) (v := ?_) rfl (by kernel_rfl) (by kernel_rfl) (by kernel_rfl) (fun _ _ _ h => h) (Or.inl ⟨by kernel_rfl, ?_⟩) (by assumption) ?_
    rotate_left
    · intro w hSw
      (try dsimp only at hSw)
      go_simp
      try with_reducible rfl
    try simp only [Act.put, List.setIfInBounds_toArray, List.set_cons_zero, List.set_cons_succ]
    refine wpAnyH_take (i := 8) (v := ?_) rfl (by kernel_rfl) (by kernel_rfl) (by kernel_rfl) (fun _ _ _ h => h) (Or.inl ⟨by kernel_rfl, ?_⟩) (by assumption) ?_
    rotate_left
    · intro w hSw
      (try dsimp only at hSw)
      go_simp
      try with_reducible rfl
    try simp only [Act.put, List.setIfInBounds_toArray, List.set_cons_zero, List.set_cons_succ]
    refine wpAnyH_ready (rs := [9]) (by kernel_rfl) (by simp) ?_
    refine AllReadyH.cons rfl (fun K hK => ?_) AllReadyH.nil
    go_simp
    go_at_call 38
    refine (Kp.out _).mono ?_
    rintro e w2 ⟨rfl, rfl⟩
    go_wp2_with fail
    refine hK.out _ _ ⟨c0, c1, c3⟩ (fun hHeld => ?_)
    clear hK K
    try simp only [Act.put, List.setIfInBounds_toArray, List.set_cons_zero, List.set_cons_succ]
    refine wpAnyH_take (i := 10) (v := ?_) rfl (by kernel_rfl) (by kernel_rfl) (by kernel_rfl) (fun _ _ _ h => h) (Or.inl ⟨by kernel_rfl, ?_⟩) (by assumption) ?_
    rotate_left
    · intro w hSw
      (try dsimp only at hSw)
      go_simp
      try with_reducible rfl
    try simp only [Act.put, List.setIfInBounds_toArray, List.set_cons_zero, List.set_cons_succ]
    refine wpAnyH_take (i := 11) (v := ?_) rfl (by kernel_rfl) (by kernel_rfl) (by kernel_rfl) (fun _ _ _ h => h) (Or.inl ⟨by kernel_rfl, ?_⟩) (by assumption) ?_
    rotate_left
    · intro w hSw
      (try dsimp only at hSw)
      go_simp
      try with_reducible rfl
    try simp only [Act.put, List.setIfInBounds_toArray, List.set_cons_zero, List.set_cons_succ]
    refine wpAnyH_take (i := 12) (v := ?_) rfl (by kernel_rfl) (by kernel_rfl) (by kernel_rfl) (fun _ _ _ h => h) (Or.inl ⟨by kernel_rfl, ?_⟩) (by assumption) ?_
    rotate_left
    · intro w hSw
      (try dsimp only at hSw)
      go_simp
      try with_reducible rfl
    try simp only [Act.put, List.setIfInBounds_toArray, List.set_cons_zero, List.set_cons_succ]
    refine wpAnyH_ready (rs := [13]) (by kernel_rfl) (by simp) ?_
    refine AllReadyH.cons rfl (fun K hK => ?_) AllReadyH.nil
    go_simp
    go_at_call 39
    refine (Kq.out _).mono ?_
    rintro e w2 ⟨rfl, rfl⟩
    go_wp2_with fail
    refine hK.out _ _ ⟨c0, c1, c3⟩ (fun hHeld => ?_)
    clear hK K
    try simp only [Act.put, List.setIfInBounds_toArray, List.set_cons_zero, List.set_cons_succ]
    refine wpAnyH_take (i := 14) (v := ?_) rfl (by kernel_rfl) (by kernel_rfl) (by kernel_rfl) (fun _ _ _ h => h) (Or.inl ⟨by kernel_rfl, ?_⟩) (by assumption) ?_
    rotate_left
    · intro w hSw
      (try dsimp only at hSw)
      go_simp
      try with_reducible rfl
    try simp only [Act.put, List.setIfInBounds_toArray, List.set_cons_zero, List.set_cons_succ]
    refine wpAnyH_ready (rs := [15]) (by kernel_rfl) (by simp) ?_
    refine AllReadyH.cons rfl (fun K hK => ?_) AllReadyH.nil
    go_simp
    go_wp2_with fail
    refine hK.out _ _ (by rw [hw9] at g0 g1 g3; (try rw [show (ByteArray.mk #[]) = ByteArray.empty from rfl]); exact ⟨g0, g1, g3⟩) (fun hHeld => ?_)
    clear hK K
    try simp only [Act.put, List.setIfInBounds_toArray, List.set_cons_zero, List.set_cons_succ]
    refine wpAnyH_take (i := 16) (v := ?_) rfl (by kernel_rfl) (by kernel_rfl) (by kernel_rfl) (fun _ _ _ h => h) (Or.inl ⟨by kernel_rfl, ?_⟩) (by assumption) ?_
    rotate_left
    · intro w hSw
      (try dsimp only at hSw)
      go_simp
      try with_reducible rfl
    try simp only [Act.put, List.setIfInBounds_toArray, List.set_cons_zero, List.set_cons_succ]
    refine wpAnyH_done (by kernel_rfl) ?_ _
    go_simp
    refine NoPanic.normal ?_
    refine a9 _ _ ?_
    go_wp2_with fail
    (try rw [show (ByteArray.mk #[]) = ByteArray.empty from rfl])
    rw [← hw9]
    refine bodyPost_ret (v := .tuple #[.agg #[.int .i64 n, .int .i64 a, .int .i64 0, .string s, .string ByteArray.empty], .bool _]) (by simp [results, Try.results29, go_sem, q0, q1, q2, q3, q4] <;> rfl) rfl ⟨by simp, B9.out⟩
theorem built_spanCall (n : Int) (a : Int) (b : Int) : Try.prog.built 23 [(0, .int .i64 n), (1, .int .i64 a), (2, .int .i64 b)] = some #[.int .i64 n, .int .i64 a, .int .i64 b, .string ByteArray.empty, .string ByteArray.empty] := by kernel_rfl
set_option maxRecDepth 10000 in
set_option maxHeartbeats 8000000 in
theorem spanCall_any (w : World) (n a b : Int) (s t : ByteArray) : Calls Try.prog 31 #[.agg #[.int .i64 n, .int .i64 a, .int .i64 b, .string s, .string t]] w fun e w' => e = .returned (.tuple #[.agg #[.int .i64 n, .int .i64 a, .int .i64 b, .string ByteArray.empty, .string ByteArray.empty], .bool (withinB a 0 7 && withinB b 0 512)]) ∧ Below w.heap.size w w' := by
  obtain ⟨p, hp⟩ : ∃ q : Bool, q = withinB a 0 7 := ⟨_, rfl⟩
  have Kp := hide (show ∀ W, Calls Try.prog 41 #[.int .i64 a] W fun e w' => e = .returned (.bool p) ∧ w' = W from fun W => by rw [hp]; exact isDesc_any W _)
  obtain ⟨q, hq⟩ : ∃ q : Bool, q = withinB b 0 512 := ⟨_, rfl⟩
  have Kq := hide (show ∀ W, Calls Try.prog 38 #[.int .i64 b, .int .i64 0, .int .i64 512] W fun e w' => e = .returned (.bool q) ∧ w' = W from fun W => by rw [hq]; exact within_any W _ _ _)
  rw [← hp, ← hq]
  clear hp hq
  have hb := built_spanCall n a b
  obtain ⟨w1, hw1⟩ : ∃ w1, w1 = (w.alloc (.cells #[.int .i64 n, .int .i64 a, .int .i64 b, .string s, .string t] 23)).alloc (.cells #[.int .i64 0, .int .i64 0, .int .i64 0, .string ByteArray.empty, .string ByteArray.empty] 23) := ⟨_, rfl⟩
  have X1 := hide (show ClAt w1 w.heap.size n a b s t from by rw [hw1]; exact (two_blocks w _ _).1)
  have Y1 := hide (show ClAt w1 (w.heap.size + 1) (0) (0) (0) (ByteArray.empty) (ByteArray.empty) from by rw [hw1]; exact (two_blocks w _ _).2)
  have B1 := hide (show Below w.heap.size w w1 from by rw [hw1]; exact (((Below.refl w.heap.size w).alloc (Nat.le_refl _) _).alloc (by simp) _))
  have HW := hide hw1
  clear hw1
  go_enter Try.func31, Try.ntmps31
  go_upto_region 1 with fail
  rename_i Q9 K9 a9
  rw [show (ByteArray.mk #[]) = ByteArray.empty from rfl, ← HW.out]
  obtain ⟨Y, hY⟩ : ∃ Y, Y = w.heap.size + 1 := ⟨_, rfl⟩
  obtain ⟨X, hX⟩ : ∃ X, X = w.heap.size := ⟨_, rfl⟩
  rw [← hY, ← hX]
  rw [← hX] at X1
  rw [← hY] at Y1
  have NE := hide (show X ≠ Y from by omega)
  have LY := hide (show w.heap.size ≤ Y from by omega)
  clear hX hY HW
  obtain ⟨c0, c1, c2, c3, c4⟩ := X1.out.cells
  obtain ⟨d0, d1, d2, d3, d4⟩ := Y1.out.cells
  obtain ⟨f0, f1, f2, f3, f4⟩ := Y1.out.frozen
  obtain ⟨w9, hw9⟩ : ∃ w9, w9 = (setSeg w1 Y 0 [.int .i64 n, .int .i64 a, .int .i64 b, .string ByteArray.empty, .string ByteArray.empty]).drew := ⟨_, rfl⟩
  have Y9 := hide (show ClAt w9 Y (n) (a) (b) (ByteArray.empty) (ByteArray.empty) from by rw [hw9]; have e := seg_drew (w := w1) (g := Y) (vs := [.int .i64 n, .int .i64 a, .int .i64 b, .string ByteArray.empty, .string ByteArray.empty]) Y1.out rfl; exact e)
  have T9 := hide (show Touch (fun i => i = Y) w1 w9 from by rw [hw9]; exact (setSeg_touch (S := fun i => i = Y) rfl _ _ _ (Touch.refl _ _)).drewN 1)
  have B9 := hide (B1.out.trans (T9.out.below B1.out.size (fun i q => by rw [q]; exact LY.out)))
  have g0 := T9.out.cell (p := ⟨X, 0, none⟩) c0 NE.out
  have g1 := T9.out.cell (p := ⟨X, 1, none⟩) c1 NE.out
  have g2 := T9.out.cell (p := ⟨X, 2, none⟩) c2 NE.out
  simp only [setSeg, Nat.reduceAdd, Nat.zero_add] at hw9
  have H9 := hide hw9
  obtain ⟨q0, q1, q2, q3, q4⟩ := Y9.out.cells
  cases p with
  | false =>
    refine wp_region_noPanic ?_
    refine wp_region_held_drew (S := (fun w' => w'.cell? ⟨X, 0, none⟩ = some (.int .i64 n) ∧ w'.cell? ⟨X, 1, none⟩ = some (.int .i64 a) ∧ w'.cell? ⟨X, 2, none⟩ = some (.int .i64 b))) (by kernel_rfl) ⟨c0, c1, c2⟩ (fun hHeld => ?_)
    refine wpAnyH_take (i := 0) (v := ?_) rfl (by kernel_rfl) (by kernel_rfl) (by kernel_rfl) (fun _ _ _ h => h) (Or.inl ⟨by kernel_rfl, ?_⟩) (by assumption) ?_
    rotate_left
    · intro w hSw
      (try dsimp only at hSw)
      go_simp
      try with_reducible rfl
    try simp only [Act.put, List.setIfInBounds_toArray, List.set_cons_zero, List.set_cons_succ]
    refine wpAnyH_take (i := 1) (v := ?_) rfl (by kernel_rfl) (by kernel_rfl) (by kernel_rfl) (fun _ _ _ h => h) (Or.inl ⟨by kernel_rfl, ?_⟩) (by assumption) ?_
    rotate_left
    · intro w hSw
      (try dsimp only at hSw)
      go_simp
      try with_reducible rfl
    try simp only [Act.put, List.setIfInBounds_toArray, List.set_cons_zero, List.set_cons_succ]
    refine wpAnyH_take (i := 2) (v := ?_) rfl (by kernel_rfl) (by kernel_rfl) (by kernel_rfl) (fun _ _ _ h => h) (Or.inl ⟨by kernel_rfl, ?_⟩) (by assumption) ?_
    rotate_left
    · intro w hSw
      (try dsimp only at hSw)
      go_simp
      try with_reducible rfl
    try simp only [Act.put, List.setIfInBounds_toArray, List.set_cons_zero, List.set_cons_succ]
    refine wpAnyH_take (i := 3) (v := ?_) rfl (by kernel_rfl) (by kernel_rfl) (by kernel_rfl) (fun _ _ _ h => h) (Or.inl ⟨by kernel_rfl, ?_⟩) (by assumption) ?_
    rotate_left
    · intro w hSw
      (try dsimp only at hSw)
      go_simp
      try with_reducible rfl
    try simp only [Act.put, List.setIfInBounds_toArray, List.set_cons_zero, List.set_cons_succ]
    refine wpAnyH_take (i := 4) (v := ?_) rfl (by kernel_rfl) (by kernel_rfl) (by kernel_rfl) (fun _ _ _ h => h) (Or.inl ⟨by kernel_rfl, ?_⟩) (by assumption) ?_
    rotate_left
    · intro w hSw
      (try dsimp only at hSw)
      go_simp
      try with_reducible rfl
    try simp only [Act.put, List.setIfInBounds_toArray, List.set_cons_zero, List.set_cons_succ]
    refine wpAnyH_take (i := 5) (v := ?_) rfl (by kernel_rfl) (by kernel_rfl) (by kernel_rfl) (fun _ _ _ h => h) (Or.inl ⟨by kernel_rfl, ?_⟩) (by assumption) ?_
    rotate_left
    · intro w hSw
      (try dsimp only at hSw)
      go_simp
      try with_reducible rfl
    try simp only [Act.put, List.setIfInBounds_toArray, List.set_cons_zero, List.set_cons_succ]
    refine wpAnyH_take (i := 6) (v := ?_) rfl (by kernel_rfl) (by kernel_rfl) (by kernel_rfl) (fun _ _ _ h => h) (Or.inl ⟨by kernel_rfl, ?_⟩) (by assumption) ?_
    rotate_left
    · intro w hSw
      (try dsimp only at hSw)
      go_simp
      try with_reducible rfl
    try simp only [Act.put, List.setIfInBounds_toArray, List.set_cons_zero, List.set_cons_succ]
    refine wpAnyH_take (i := 7) (v := ?_) rfl (by kernel_rfl) (by kernel_rfl) (by kernel_rfl) (fun _ _ _ h => h) (Or.inl ⟨by kernel_rfl, ?_⟩) (by assumption) ?_
    rotate_left
    · intro w hSw
      (try dsimp only at hSw)
      go_simp
      try with_reducible rfl
    try simp only [Act.put, List.setIfInBounds_toArray, List.set_cons_zero, List.set_cons_succ]
    refine wpAnyH_take (i := 8) (v := ?_) rfl (by kernel_rfl) (by kernel_rfl) (by kernel_rfl) (fun _ _ _ h => h) (Or.inl ⟨by kernel_rfl, ?_⟩) (by assumption) ?_
    rotate_left
    · intro w hSw
      (try dsimp only at hSw)
      go_simp
      try with_reducible rfl
    try simp only [Act.put, List.setIfInBounds_toArray, List.set_cons_zero, List.set_cons_succ]
    refine wpAnyH_ready (rs := [9]) (by kernel_rfl) (by simp) ?_
    refine AllReadyH.cons rfl (fun K hK => ?_) AllReadyH.nil
    go_simp
    go_at_call 41
    refine (Kp.out _).mono ?_
    rintro e w2 ⟨rfl, rfl⟩
    go_wp2_with fail
    refine hK.out _ _ ⟨c0, c1, c2⟩ (fun hHeld => ?_)
    clear hK K
    try simp only [Act.put, List.setIfInBounds_toArray, List.set_cons_zero, List.set_cons_succ]
    refine wpAnyH_take (i := 10) (v := ?_) rfl (by kernel_rfl) (by kernel_rfl) (by kernel_rfl) (fun _ _ _ h => h) (Or.inl ⟨by kernel_rfl, ?_⟩) (by assumption) ?_
    rotate_left
    · intro w hSw
      (try dsimp only at hSw)
      go_simp
      try with_reducible rfl
    try simp only [Act.put, List.setIfInBounds_toArray, List.set_cons_zero, List.set_cons_succ]
    refine wpAnyH_take (i := 11) (v := undef) rfl (by kernel_rfl) (by kernel_rfl) (by kernel_rfl) (fun _ _ _ h => h) (Or.inr ⟨by kernel_rfl, rfl⟩) (by assumption) ?_
    try simp only [Act.put, List.setIfInBounds_toArray, List.set_cons_zero, List.set_cons_succ]
    refine wpAnyH_take (i := 12) (v := undef) rfl (by kernel_rfl) (by kernel_rfl) (by kernel_rfl) (fun _ _ _ h => h) (Or.inr ⟨by kernel_rfl, rfl⟩) (by assumption) ?_
    try simp only [Act.put, List.setIfInBounds_toArray, List.set_cons_zero, List.set_cons_succ]
    refine wpAnyH_take (i := 13) (v := undef) rfl (by kernel_rfl) (by kernel_rfl) (by kernel_rfl) (fun _ _ _ h => h) (Or.inr ⟨by kernel_rfl, rfl⟩) (by assumption) ?_
    try simp only [Act.put, List.setIfInBounds_toArray, List.set_cons_zero, List.set_cons_succ]
    refine wpAnyH_take (i := 14) (v := ?_) rfl (by kernel_rfl) (by kernel_rfl) (by kernel_rfl) (fun _ _ _ h => h) (Or.inl ⟨by kernel_rfl, ?_⟩) (by assumption) ?_
    rotate_left
    · intro w hSw
      (try dsimp only at hSw)
      go_simp
      try with_reducible rfl
    try simp only [Act.put, List.setIfInBounds_toArray, List.set_cons_zero, List.set_cons_succ]
    refine wpAnyH_ready (rs := [15]) (by kernel_rfl) (by simp) ?_
    refine AllReadyH.cons rfl (fun K hK => ?_) AllReadyH.nil
    go_simp
    go_wp2_with fail
    refine hK.out _ _ (by rw [hw9] at g0 g1 g2; (try rw [show (ByteArray.mk #[]) = ByteArray.empty from rfl]); exact ⟨g0, g1, g2⟩) (fun hHeld => ?_)
    clear hK K
    try simp only [Act.put, List.setIfInBounds_toArray, List.set_cons_zero, List.set_cons_succ]
    refine wpAnyH_take (i := 16) (v := ?_) rfl (by kernel_rfl) (by kernel_rfl) (by kernel_rfl) (fun _ _ _ h => h) (Or.inl ⟨by kernel_rfl, ?_⟩) (by assumption) ?_
    rotate_left
    · intro w hSw
      (try dsimp only at hSw)
      go_simp
      try with_reducible rfl
    try simp only [Act.put, List.setIfInBounds_toArray, List.set_cons_zero, List.set_cons_succ]
    refine wpAnyH_done (by kernel_rfl) ?_ _
    go_simp
    refine NoPanic.normal ?_
    refine a9 _ _ ?_
    go_wp2_with fail
    (try rw [show (ByteArray.mk #[]) = ByteArray.empty from rfl])
    rw [← hw9]
    refine bodyPost_ret (v := .tuple #[.agg #[.int .i64 n, .int .i64 a, .int .i64 b, .string ByteArray.empty, .string ByteArray.empty], .bool _]) (by simp [results, Try.results31, go_sem, q0, q1, q2, q3, q4] <;> rfl) rfl ⟨by simp, B9.out⟩
  | true =>
    refine wp_region_noPanic ?_
    refine wp_region_held_drew (S := (fun w' => w'.cell? ⟨X, 0, none⟩ = some (.int .i64 n) ∧ w'.cell? ⟨X, 1, none⟩ = some (.int .i64 a) ∧ w'.cell? ⟨X, 2, none⟩ = some (.int .i64 b))) (by kernel_rfl) ⟨c0, c1, c2⟩ (fun hHeld => ?_)
    refine wpAnyH_take (i := 0) (v := ?_) rfl (by kernel_rfl) (by kernel_rfl) (by kernel_rfl) (fun _ _ _ h => h) (Or.inl ⟨by kernel_rfl, ?_⟩) (by assumption) ?_
    rotate_left
    · intro w hSw
      (try dsimp only at hSw)
      go_simp
      try with_reducible rfl
    try simp only [Act.put, List.setIfInBounds_toArray, List.set_cons_zero, List.set_cons_succ]
    refine wpAnyH_take (i := 1) (v := ?_) rfl (by kernel_rfl) (by kernel_rfl) (by kernel_rfl) (fun _ _ _ h => h) (Or.inl ⟨by kernel_rfl, ?_⟩) (by assumption) ?_
    rotate_left
    · intro w hSw
      (try dsimp only at hSw)
      go_simp
      try with_reducible rfl
    try simp only [Act.put, List.setIfInBounds_toArray, List.set_cons_zero, List.set_cons_succ]
    refine wpAnyH_take (i := 2) (v := ?_) rfl (by kernel_rfl) (by kernel_rfl) (by kernel_rfl) (fun _ _ _ h => h) (Or.inl ⟨by kernel_rfl, ?_⟩) (by assumption) ?_
    rotate_left
    · intro w hSw
      (try dsimp only at hSw)
      go_simp
      try with_reducible rfl
    try simp only [Act.put, List.setIfInBounds_toArray, List.set_cons_zero, List.set_cons_succ]
    refine wpAnyH_take (i := 3) (v := ?_) rfl (by kernel_rfl) (by kernel_rfl) (by kernel_rfl) (fun _ _ _ h => h) (Or.inl ⟨by kernel_rfl, ?_⟩) (by assumption) ?_
    rotate_left
    · intro w hSw
      (try dsimp only at hSw)
      go_simp
      try with_reducible rfl
    try simp only [Act.put, List.setIfInBounds_toArray, List.set_cons_zero, List.set_cons_succ]
    refine wpAnyH_take (i := 4) (v := ?_) rfl (by kernel_rfl) (by kernel_rfl) (by kernel_rfl) (fun _ _ _ h => h) (Or.inl ⟨by kernel_rfl, ?_⟩) (by assumption) ?_
    rotate_left
    · intro w hSw
      (try dsimp only at hSw)
      go_simp
      try with_reducible rfl
    try simp only [Act.put, List.setIfInBounds_toArray, List.set_cons_zero, List.set_cons_succ]
    refine wpAnyH_take (i := 5) (v := ?_) rfl (by kernel_rfl) (by kernel_rfl) (by kernel_rfl) (fun _ _ _ h => h) (Or.inl ⟨by kernel_rfl, ?_⟩) (by assumption) ?_
    rotate_left
    · intro w hSw
      (try dsimp only at hSw)
      go_simp
      try with_reducible rfl
    try simp only [Act.put, List.setIfInBounds_toArray, List.set_cons_zero, List.set_cons_succ]
    refine wpAnyH_take (i := 6) (v := ?_) rfl (by kernel_rfl) (by kernel_rfl) (by kernel_rfl) (fun _ _ _ h => h) (Or.inl ⟨by kernel_rfl, ?_⟩) (by assumption) ?_
    rotate_left
    · intro w hSw
      (try dsimp only at hSw)
      go_simp
      try with_reducible rfl
    try simp only [Act.put, List.setIfInBounds_toArray, List.set_cons_zero, List.set_cons_succ]
    refine wpAnyH_take (i := 7) (v := ?_) rfl (by kernel_rfl) (by kernel_rfl) (by kernel_rfl) (fun _ _ _ h => h) (Or.inl ⟨by kernel_rfl, ?_⟩) (by assumption) ?_
    rotate_left
    · intro w hSw
      (try dsimp only at hSw)
      go_simp
      try with_reducible rfl
    try simp only [Act.put, List.setIfInBounds_toArray, List.set_cons_zero, List.set_cons_succ]
    refine wpAnyH_take (i := 8) (v := ?_) rfl (by kernel_rfl) (by kernel_rfl) (by kernel_rfl) (fun _ _ _ h => h) (Or.inl ⟨by kernel_rfl, ?_⟩) (by assumption) ?_
    rotate_left
    · intro w hSw
      (try dsimp only at hSw)
      go_simp
      try with_reducible rfl
    try simp only [Act.put, List.setIfInBounds_toArray, List.set_cons_zero, List.set_cons_succ]
    refine wpAnyH_ready (rs := [9]) (by kernel_rfl) (by simp) ?_
    refine AllReadyH.cons rfl (fun K hK => ?_) AllReadyH.nil
    go_simp
    go_at_call 41
    refine (Kp.out _).mono ?_
    rintro e w2 ⟨rfl, rfl⟩
    go_wp2_with fail
    refine hK.out _ _ ⟨c0, c1, c2⟩ (fun hHeld => ?_)
    clear hK K
    try simp only [Act.put, List.setIfInBounds_toArray, List.set_cons_zero, List.set_cons_succ]
    refine wpAnyH_take (i := 10) (v := ?_) rfl (by kernel_rfl) (by kernel_rfl) (by kernel_rfl) (fun _ _ _ h => h) (Or.inl ⟨by kernel_rfl, ?_⟩) (by assumption) ?_
    rotate_left
    · intro w hSw
      (try dsimp only at hSw)
      go_simp
      try with_reducible rfl
    try simp only [Act.put, List.setIfInBounds_toArray, List.set_cons_zero, List.set_cons_succ]
    refine wpAnyH_take (i := 11) (v := ?_) rfl (by kernel_rfl) (by kernel_rfl) (by kernel_rfl) (fun _ _ _ h => h) (Or.inl ⟨by kernel_rfl, ?_⟩) (by assumption) ?_
    rotate_left
    · intro w hSw
      (try dsimp only at hSw)
      go_simp
      try with_reducible rfl
    try simp only [Act.put, List.setIfInBounds_toArray, List.set_cons_zero, List.set_cons_succ]
    refine wpAnyH_take (i := 12) (v := ?_) rfl (by kernel_rfl) (by kernel_rfl) (by kernel_rfl) (fun _ _ _ h => h) (Or.inl ⟨by kernel_rfl, ?_⟩) (by assumption) ?_
    rotate_left
    · intro w hSw
      (try dsimp only at hSw)
      go_simp
      try with_reducible rfl
    try simp only [Act.put, List.setIfInBounds_toArray, List.set_cons_zero, List.set_cons_succ]
    refine wpAnyH_ready (rs := [13]) (by kernel_rfl) (by simp) ?_
    refine AllReadyH.cons rfl (fun K hK => ?_) AllReadyH.nil
    go_simp
    go_at_call 38
    refine (Kq.out _).mono ?_
    rintro e w2 ⟨rfl, rfl⟩
    go_wp2_with fail
    refine hK.out _ _ ⟨c0, c1, c2⟩ (fun hHeld => ?_)
    clear hK K
    try simp only [Act.put, List.setIfInBounds_toArray, List.set_cons_zero, List.set_cons_succ]
    refine wpAnyH_take (i := 14) (v := ?_) rfl (by kernel_rfl) (by kernel_rfl) (by kernel_rfl) (fun _ _ _ h => h) (Or.inl ⟨by kernel_rfl, ?_⟩) (by assumption) ?_
    rotate_left
    · intro w hSw
      (try dsimp only at hSw)
      go_simp
      try with_reducible rfl
    try simp only [Act.put, List.setIfInBounds_toArray, List.set_cons_zero, List.set_cons_succ]
    refine wpAnyH_ready (rs := [15]) (by kernel_rfl) (by simp) ?_
    refine AllReadyH.cons rfl (fun K hK => ?_) AllReadyH.nil
    go_simp
    go_wp2_with fail
    refine hK.out _ _ (by rw [hw9] at g0 g1 g2; (try rw [show (ByteArray.mk #[]) = ByteArray.empty from rfl]); exact ⟨g0, g1, g2⟩) (fun hHeld => ?_)
    clear hK K
    try simp only [Act.put, List.setIfInBounds_toArray, List.set_cons_zero, List.set_cons_succ]
    refine wpAnyH_take (i := 16) (v := ?_) rfl (by kernel_rfl) (by kernel_rfl) (by kernel_rfl) (fun _ _ _ h => h) (Or.inl ⟨by kernel_rfl, ?_⟩) (by assumption) ?_
    rotate_left
    · intro w hSw
      (try dsimp only at hSw)
      go_simp
      try with_reducible rfl
    try simp only [Act.put, List.setIfInBounds_toArray, List.set_cons_zero, List.set_cons_succ]
    refine wpAnyH_done (by kernel_rfl) ?_ _
    go_simp
    refine NoPanic.normal ?_
    refine a9 _ _ ?_
    go_wp2_with fail
    (try rw [show (ByteArray.mk #[]) = ByteArray.empty from rfl])
    rw [← hw9]
    refine bodyPost_ret (v := .tuple #[.agg #[.int .i64 n, .int .i64 a, .int .i64 b, .string ByteArray.empty, .string ByteArray.empty], .bool _]) (by simp [results, Try.results31, go_sem, q0, q1, q2, q3, q4] <;> rfl) rfl ⟨by simp, B9.out⟩
theorem built_linkCall (n : Int) (s : ByteArray) (t : ByteArray) : Try.prog.built 23 [(0, .int .i64 n), (3, .string s), (4, .string t)] = some #[.int .i64 n, .int .i64 0, .int .i64 0, .string s, .string t] := by kernel_rfl
set_option maxRecDepth 10000 in
set_option maxHeartbeats 8000000 in
theorem linkCall_any (w : World) (n a b : Int) (s t : ByteArray) : Calls Try.prog 33 #[.agg #[.int .i64 n, .int .i64 a, .int .i64 b, .string s, .string t]] w fun e w' => e = .returned (.tuple #[.agg #[.int .i64 n, .int .i64 0, .int .i64 0, .string s, .string t], .bool (decide (s.size ≤ 100) && decide (t.size ≤ 100))]) ∧ Below w.heap.size w w' := by
  obtain ⟨p, hp⟩ : ∃ q : Bool, q = decide (s.size ≤ 100) := ⟨_, rfl⟩
  have Kp := hide (show ∀ W, Calls Try.prog 39 #[.string s] W fun e w' => e = .returned (.bool p) ∧ w' = W from fun W => by rw [hp]; exact isPath_any W _)
  obtain ⟨q, hq⟩ : ∃ q : Bool, q = decide (t.size ≤ 100) := ⟨_, rfl⟩
  have Kq := hide (show ∀ W, Calls Try.prog 39 #[.string t] W fun e w' => e = .returned (.bool q) ∧ w' = W from fun W => by rw [hq]; exact isPath_any W _)
  rw [← hp, ← hq]
  clear hp hq
  have hb := built_linkCall n s t
  obtain ⟨w1, hw1⟩ : ∃ w1, w1 = (w.alloc (.cells #[.int .i64 n, .int .i64 a, .int .i64 b, .string s, .string t] 23)).alloc (.cells #[.int .i64 0, .int .i64 0, .int .i64 0, .string ByteArray.empty, .string ByteArray.empty] 23) := ⟨_, rfl⟩
  have X1 := hide (show ClAt w1 w.heap.size n a b s t from by rw [hw1]; exact (two_blocks w _ _).1)
  have Y1 := hide (show ClAt w1 (w.heap.size + 1) (0) (0) (0) (ByteArray.empty) (ByteArray.empty) from by rw [hw1]; exact (two_blocks w _ _).2)
  have B1 := hide (show Below w.heap.size w w1 from by rw [hw1]; exact (((Below.refl w.heap.size w).alloc (Nat.le_refl _) _).alloc (by simp) _))
  have HW := hide hw1
  clear hw1
  go_enter Try.func33, Try.ntmps33
  go_upto_region 1 with fail
  rename_i Q9 K9 a9
  rw [show (ByteArray.mk #[]) = ByteArray.empty from rfl, ← HW.out]
  obtain ⟨Y, hY⟩ : ∃ Y, Y = w.heap.size + 1 := ⟨_, rfl⟩
  obtain ⟨X, hX⟩ : ∃ X, X = w.heap.size := ⟨_, rfl⟩
  rw [← hY, ← hX]
  rw [← hX] at X1
  rw [← hY] at Y1
  have NE := hide (show X ≠ Y from by omega)
  have LY := hide (show w.heap.size ≤ Y from by omega)
  clear hX hY HW
  obtain ⟨c0, c1, c2, c3, c4⟩ := X1.out.cells
  obtain ⟨d0, d1, d2, d3, d4⟩ := Y1.out.cells
  obtain ⟨f0, f1, f2, f3, f4⟩ := Y1.out.frozen
  obtain ⟨w9, hw9⟩ : ∃ w9, w9 = (setSeg w1 Y 0 [.int .i64 n, .int .i64 0, .int .i64 0, .string s, .string t]).drew := ⟨_, rfl⟩
  have Y9 := hide (show ClAt w9 Y (n) (0) (0) (s) (t) from by rw [hw9]; have e := seg_drew (w := w1) (g := Y) (vs := [.int .i64 n, .int .i64 0, .int .i64 0, .string s, .string t]) Y1.out rfl; exact e)
  have T9 := hide (show Touch (fun i => i = Y) w1 w9 from by rw [hw9]; exact (setSeg_touch (S := fun i => i = Y) rfl _ _ _ (Touch.refl _ _)).drewN 1)
  have B9 := hide (B1.out.trans (T9.out.below B1.out.size (fun i q => by rw [q]; exact LY.out)))
  have g0 := T9.out.cell (p := ⟨X, 0, none⟩) c0 NE.out
  have g3 := T9.out.cell (p := ⟨X, 3, none⟩) c3 NE.out
  have g4 := T9.out.cell (p := ⟨X, 4, none⟩) c4 NE.out
  simp only [setSeg, Nat.reduceAdd, Nat.zero_add] at hw9
  have H9 := hide hw9
  obtain ⟨q0, q1, q2, q3, q4⟩ := Y9.out.cells
  cases p with
  | false =>
    refine wp_region_noPanic ?_
    refine wp_region_held_drew (S := (fun w' => w'.cell? ⟨X, 0, none⟩ = some (.int .i64 n) ∧ w'.cell? ⟨X, 3, none⟩ = some (.string s) ∧ w'.cell? ⟨X, 4, none⟩ = some (.string t))) (by kernel_rfl) ⟨c0, c3, c4⟩ (fun hHeld => ?_)
    refine wpAnyH_take (i := 0) (v := ?_) rfl (by kernel_rfl) (by kernel_rfl) (by kernel_rfl) (fun _ _ _ h => h) (Or.inl ⟨by kernel_rfl, ?_⟩) (by assumption) ?_
    rotate_left
    · intro w hSw
      (try dsimp only at hSw)
      go_simp
      try with_reducible rfl
    try simp only [Act.put, List.setIfInBounds_toArray, List.set_cons_zero, List.set_cons_succ]
    refine wpAnyH_take (i := 1) (v := ?_) rfl (by kernel_rfl) (by kernel_rfl) (by kernel_rfl) (fun _ _ _ h => h) (Or.inl ⟨by kernel_rfl, ?_⟩) (by assumption) ?_
    rotate_left
    · intro w hSw
      (try dsimp only at hSw)
      go_simp
      try with_reducible rfl
    try simp only [Act.put, List.setIfInBounds_toArray, List.set_cons_zero, List.set_cons_succ]
    refine wpAnyH_take (i := 2) (v := ?_) rfl (by kernel_rfl) (by kernel_rfl) (by kernel_rfl) (fun _ _ _ h => h) (Or.inl ⟨by kernel_rfl, ?_⟩) (by assumption) ?_
    rotate_left
    · intro w hSw
      (try dsimp only at hSw)
      go_simp
      try with_reducible rfl
    try simp only [Act.put, List.setIfInBounds_toArray, List.set_cons_zero, List.set_cons_succ]
    refine wpAnyH_take (i := 3) (v := ?_) rfl (by kernel_rfl) (by kernel_rfl) (by kernel_rfl) (fun _ _ _ h => h) (Or.inl ⟨by kernel_rfl, ?_⟩) (by assumption) ?_
    rotate_left
    · intro w hSw
      (try dsimp only at hSw)
      go_simp
      try with_reducible rfl
    try simp only [Act.put, List.setIfInBounds_toArray, List.set_cons_zero, List.set_cons_succ]
    refine wpAnyH_take (i := 4) (v := ?_) rfl (by kernel_rfl) (by kernel_rfl) (by kernel_rfl) (fun _ _ _ h => h) (Or.inl ⟨by kernel_rfl, ?_⟩) (by assumption) ?_
    rotate_left
    · intro w hSw
      (try dsimp only at hSw)
      go_simp
      try with_reducible rfl
    try simp only [Act.put, List.setIfInBounds_toArray, List.set_cons_zero, List.set_cons_succ]
    refine wpAnyH_take (i := 5) (v := ?_) rfl (by kernel_rfl) (by kernel_rfl) (by kernel_rfl) (fun _ _ _ h => h) (Or.inl ⟨by kernel_rfl, ?_⟩) (by assumption) ?_
    rotate_left
    · intro w hSw
      (try dsimp only at hSw)
      go_simp
      try with_reducible rfl
    try simp only [Act.put, List.setIfInBounds_toArray, List.set_cons_zero, List.set_cons_succ]
    refine wpAnyH_take (i := 6) (v := ?_) rfl (by kernel_rfl) (by kernel_rfl) (by kernel_rfl) (fun _ _ _ h => h) (Or.inl ⟨by kernel_rfl, ?_⟩) (by assumption) ?_
    rotate_left
    · intro w hSw
      (try dsimp only at hSw)
      go_simp
      try with_reducible rfl
    try simp only [Act.put, List.setIfInBounds_toArray, List.set_cons_zero, List.set_cons_succ]
    refine wpAnyH_take (i := 7) (v := ?_) rfl (by kernel_rfl) (by kernel_rfl) (by kernel_rfl) (fun _ _ _ h => h) (Or.inl ⟨by kernel_rfl, ?_⟩) (by assumption) ?_
    rotate_left
    · intro w hSw
      (try dsimp only at hSw)
      go_simp
      try with_reducible rfl
    try simp only [Act.put, List.setIfInBounds_toArray, List.set_cons_zero, List.set_cons_succ]
    refine wpAnyH_take (i := 8) (v := ?_) rfl (by kernel_rfl) (by kernel_rfl) (by kernel_rfl) (fun _ _ _ h => h) (Or.inl ⟨by kernel_rfl, ?_⟩) (by assumption) ?_
    rotate_left
    · intro w hSw
      (try dsimp only at hSw)
      go_simp
      try with_reducible rfl
    try simp only [Act.put, List.setIfInBounds_toArray, List.set_cons_zero, List.set_cons_succ]
    refine wpAnyH_ready (rs := [9]) (by kernel_rfl) (by simp) ?_
    refine AllReadyH.cons rfl (fun K hK => ?_) AllReadyH.nil
    go_simp
    go_at_call 39
    refine (Kp.out _).mono ?_
    rintro e w2 ⟨rfl, rfl⟩
    go_wp2_with fail
    refine hK.out _ _ ⟨c0, c3, c4⟩ (fun hHeld => ?_)
    clear hK K
    try simp only [Act.put, List.setIfInBounds_toArray, List.set_cons_zero, List.set_cons_succ]
    refine wpAnyH_take (i := 10) (v := ?_) rfl (by kernel_rfl) (by kernel_rfl) (by kernel_rfl) (fun _ _ _ h => h) (Or.inl ⟨by kernel_rfl, ?_⟩) (by assumption) ?_
    rotate_left
    · intro w hSw
      (try dsimp only at hSw)
      go_simp
      try with_reducible rfl
    try simp only [Act.put, List.setIfInBounds_toArray, List.set_cons_zero, List.set_cons_succ]
    refine wpAnyH_take (i := 11) (v := undef) rfl (by kernel_rfl) (by kernel_rfl) (by kernel_rfl) (fun _ _ _ h => h) (Or.inr ⟨by kernel_rfl, rfl⟩) (by assumption) ?_
    try simp only [Act.put, List.setIfInBounds_toArray, List.set_cons_zero, List.set_cons_succ]
    refine wpAnyH_take (i := 12) (v := undef) rfl (by kernel_rfl) (by kernel_rfl) (by kernel_rfl) (fun _ _ _ h => h) (Or.inr ⟨by kernel_rfl, rfl⟩) (by assumption) ?_
    try simp only [Act.put, List.setIfInBounds_toArray, List.set_cons_zero, List.set_cons_succ]
    refine wpAnyH_take (i := 13) (v := undef) rfl (by kernel_rfl) (by kernel_rfl) (by kernel_rfl) (fun _ _ _ h => h) (Or.inr ⟨by kernel_rfl, rfl⟩) (by assumption) ?_
    try simp only [Act.put, List.setIfInBounds_toArray, List.set_cons_zero, List.set_cons_succ]
    refine wpAnyH_take (i := 14) (v := ?_) rfl (by kernel_rfl) (by kernel_rfl) (by kernel_rfl) (fun _ _ _ h => h) (Or.inl ⟨by kernel_rfl, ?_⟩) (by assumption) ?_
    rotate_left
    · intro w hSw
      (try dsimp only at hSw)
      go_simp
      try with_reducible rfl
    try simp only [Act.put, List.setIfInBounds_toArray, List.set_cons_zero, List.set_cons_succ]
    refine wpAnyH_ready (rs := [15]) (by kernel_rfl) (by simp) ?_
    refine AllReadyH.cons rfl (fun K hK => ?_) AllReadyH.nil
    go_simp
    go_wp2_with fail
    refine hK.out _ _ (by rw [hw9] at g0 g3 g4; (try rw [show (ByteArray.mk #[]) = ByteArray.empty from rfl]); exact ⟨g0, g3, g4⟩) (fun hHeld => ?_)
    clear hK K
    try simp only [Act.put, List.setIfInBounds_toArray, List.set_cons_zero, List.set_cons_succ]
    refine wpAnyH_take (i := 16) (v := ?_) rfl (by kernel_rfl) (by kernel_rfl) (by kernel_rfl) (fun _ _ _ h => h) (Or.inl ⟨by kernel_rfl, ?_⟩) (by assumption) ?_
    rotate_left
    · intro w hSw
      (try dsimp only at hSw)
      go_simp
      try with_reducible rfl
    try simp only [Act.put, List.setIfInBounds_toArray, List.set_cons_zero, List.set_cons_succ]
    refine wpAnyH_done (by kernel_rfl) ?_ _
    go_simp
    refine NoPanic.normal ?_
    refine a9 _ _ ?_
    go_wp2_with fail
    (try rw [show (ByteArray.mk #[]) = ByteArray.empty from rfl])
    rw [← hw9]
    refine bodyPost_ret (v := .tuple #[.agg #[.int .i64 n, .int .i64 0, .int .i64 0, .string s, .string t], .bool _]) (by simp [results, Try.results33, go_sem, q0, q1, q2, q3, q4] <;> rfl) rfl ⟨by simp, B9.out⟩
  | true =>
    refine wp_region_noPanic ?_
    refine wp_region_held_drew (S := (fun w' => w'.cell? ⟨X, 0, none⟩ = some (.int .i64 n) ∧ w'.cell? ⟨X, 3, none⟩ = some (.string s) ∧ w'.cell? ⟨X, 4, none⟩ = some (.string t))) (by kernel_rfl) ⟨c0, c3, c4⟩ (fun hHeld => ?_)
    refine wpAnyH_take (i := 0) (v := ?_) rfl (by kernel_rfl) (by kernel_rfl) (by kernel_rfl) (fun _ _ _ h => h) (Or.inl ⟨by kernel_rfl, ?_⟩) (by assumption) ?_
    rotate_left
    · intro w hSw
      (try dsimp only at hSw)
      go_simp
      try with_reducible rfl
    try simp only [Act.put, List.setIfInBounds_toArray, List.set_cons_zero, List.set_cons_succ]
    refine wpAnyH_take (i := 1) (v := ?_) rfl (by kernel_rfl) (by kernel_rfl) (by kernel_rfl) (fun _ _ _ h => h) (Or.inl ⟨by kernel_rfl, ?_⟩) (by assumption) ?_
    rotate_left
    · intro w hSw
      (try dsimp only at hSw)
      go_simp
      try with_reducible rfl
    try simp only [Act.put, List.setIfInBounds_toArray, List.set_cons_zero, List.set_cons_succ]
    refine wpAnyH_take (i := 2) (v := ?_) rfl (by kernel_rfl) (by kernel_rfl) (by kernel_rfl) (fun _ _ _ h => h) (Or.inl ⟨by kernel_rfl, ?_⟩) (by assumption) ?_
    rotate_left
    · intro w hSw
      (try dsimp only at hSw)
      go_simp
      try with_reducible rfl
    try simp only [Act.put, List.setIfInBounds_toArray, List.set_cons_zero, List.set_cons_succ]
    refine wpAnyH_take (i := 3) (v := ?_) rfl (by kernel_rfl) (by kernel_rfl) (by kernel_rfl) (fun _ _ _ h => h) (Or.inl ⟨by kernel_rfl, ?_⟩) (by assumption) ?_
    rotate_left
    · intro w hSw
      (try dsimp only at hSw)
      go_simp
      try with_reducible rfl
    try simp only [Act.put, List.setIfInBounds_toArray, List.set_cons_zero, List.set_cons_succ]
    refine wpAnyH_take (i := 4) (v := ?_) rfl (by kernel_rfl) (by kernel_rfl) (by kernel_rfl) (fun _ _ _ h => h) (Or.inl ⟨by kernel_rfl, ?_⟩) (by assumption) ?_
    rotate_left
    · intro w hSw
      (try dsimp only at hSw)
      go_simp
      try with_reducible rfl
    try simp only [Act.put, List.setIfInBounds_toArray, List.set_cons_zero, List.set_cons_succ]
    refine wpAnyH_take (i := 5) (v := ?_) rfl (by kernel_rfl) (by kernel_rfl) (by kernel_rfl) (fun _ _ _ h => h) (Or.inl ⟨by kernel_rfl, ?_⟩) (by assumption) ?_
    rotate_left
    · intro w hSw
      (try dsimp only at hSw)
      go_simp
      try with_reducible rfl
    try simp only [Act.put, List.setIfInBounds_toArray, List.set_cons_zero, List.set_cons_succ]
    refine wpAnyH_take (i := 6) (v := ?_) rfl (by kernel_rfl) (by kernel_rfl) (by kernel_rfl) (fun _ _ _ h => h) (Or.inl ⟨by kernel_rfl, ?_⟩) (by assumption) ?_
    rotate_left
    · intro w hSw
      (try dsimp only at hSw)
      go_simp
      try with_reducible rfl
    try simp only [Act.put, List.setIfInBounds_toArray, List.set_cons_zero, List.set_cons_succ]
    refine wpAnyH_take (i := 7) (v := ?_) rfl (by kernel_rfl) (by kernel_rfl) (by kernel_rfl) (fun _ _ _ h => h) (Or.inl ⟨by kernel_rfl, ?_⟩) (by assumption) ?_
    rotate_left
    · intro w hSw
      (try dsimp only at hSw)
      go_simp
      try with_reducible rfl
    try simp only [Act.put, List.setIfInBounds_toArray, List.set_cons_zero, List.set_cons_succ]
    refine wpAnyH_take (i := 8) (v := ?_) rfl (by kernel_rfl) (by kernel_rfl) (by kernel_rfl) (fun _ _ _ h => h) (Or.inl ⟨by kernel_rfl, ?_⟩) (by assumption) ?_
    rotate_left
    · intro w hSw
      (try dsimp only at hSw)
      go_simp
      try with_reducible rfl
    try simp only [Act.put, List.setIfInBounds_toArray, List.set_cons_zero, List.set_cons_succ]
    refine wpAnyH_ready (rs := [9]) (by kernel_rfl) (by simp) ?_
    refine AllReadyH.cons rfl (fun K hK => ?_) AllReadyH.nil
    go_simp
    go_at_call 39
    refine (Kp.out _).mono ?_
    rintro e w2 ⟨rfl, rfl⟩
    go_wp2_with fail
    refine hK.out _ _ ⟨c0, c3, c4⟩ (fun hHeld => ?_)
    clear hK K
    try simp only [Act.put, List.setIfInBounds_toArray, List.set_cons_zero, List.set_cons_succ]
    refine wpAnyH_take (i := 10) (v := ?_) rfl (by kernel_rfl) (by kernel_rfl) (by kernel_rfl) (fun _ _ _ h => h) (Or.inl ⟨by kernel_rfl, ?_⟩) (by assumption) ?_
    rotate_left
    · intro w hSw
      (try dsimp only at hSw)
      go_simp
      try with_reducible rfl
    try simp only [Act.put, List.setIfInBounds_toArray, List.set_cons_zero, List.set_cons_succ]
    refine wpAnyH_take (i := 11) (v := ?_) rfl (by kernel_rfl) (by kernel_rfl) (by kernel_rfl) (fun _ _ _ h => h) (Or.inl ⟨by kernel_rfl, ?_⟩) (by assumption) ?_
    rotate_left
    · intro w hSw
      (try dsimp only at hSw)
      go_simp
      try with_reducible rfl
    try simp only [Act.put, List.setIfInBounds_toArray, List.set_cons_zero, List.set_cons_succ]
    refine wpAnyH_take (i := 12) (v := ?_) rfl (by kernel_rfl) (by kernel_rfl) (by kernel_rfl) (fun _ _ _ h => h) (Or.inl ⟨by kernel_rfl, ?_⟩) (by assumption) ?_
    rotate_left
    · intro w hSw
      (try dsimp only at hSw)
      go_simp
      try with_reducible rfl
    try simp only [Act.put, List.setIfInBounds_toArray, List.set_cons_zero, List.set_cons_succ]
    refine wpAnyH_ready (rs := [13]) (by kernel_rfl) (by simp) ?_
    refine AllReadyH.cons rfl (fun K hK => ?_) AllReadyH.nil
    go_simp
    go_at_call 39
    refine (Kq.out _).mono ?_
    rintro e w2 ⟨rfl, rfl⟩
    go_wp2_with fail
    refine hK.out _ _ ⟨c0, c3, c4⟩ (fun hHeld => ?_)
    clear hK K
    try simp only [Act.put, List.setIfInBounds_toArray, List.set_cons_zero, List.set_cons_succ]
    refine wpAnyH_take (i := 14) (v := ?_) rfl (by kernel_rfl) (by kernel_rfl) (by kernel_rfl) (fun _ _ _ h => h) (Or.inl ⟨by kernel_rfl, ?_⟩) (by assumption) ?_
    rotate_left
    · intro w hSw
      (try dsimp only at hSw)
      go_simp
      try with_reducible rfl
    try simp only [Act.put, List.setIfInBounds_toArray, List.set_cons_zero, List.set_cons_succ]
    refine wpAnyH_ready (rs := [15]) (by kernel_rfl) (by simp) ?_
    refine AllReadyH.cons rfl (fun K hK => ?_) AllReadyH.nil
    go_simp
    go_wp2_with fail
    refine hK.out _ _ (by rw [hw9] at g0 g3 g4; (try rw [show (ByteArray.mk #[]) = ByteArray.empty from rfl]); exact ⟨g0, g3, g4⟩) (fun hHeld => ?_)
    clear hK K
    try simp only [Act.put, List.setIfInBounds_toArray, List.set_cons_zero, List.set_cons_succ]
    refine wpAnyH_take (i := 16) (v := ?_) rfl (by kernel_rfl) (by kernel_rfl) (by kernel_rfl) (fun _ _ _ h => h) (Or.inl ⟨by kernel_rfl, ?_⟩) (by assumption) ?_
    rotate_left
    · intro w hSw
      (try dsimp only at hSw)
      go_simp
      try with_reducible rfl
    try simp only [Act.put, List.setIfInBounds_toArray, List.set_cons_zero, List.set_cons_succ]
    refine wpAnyH_done (by kernel_rfl) ?_ _
    go_simp
    refine NoPanic.normal ?_
    refine a9 _ _ ?_
    go_wp2_with fail
    (try rw [show (ByteArray.mk #[]) = ByteArray.empty from rfl])
    rw [← hw9]
    refine bodyPost_ret (v := .tuple #[.agg #[.int .i64 n, .int .i64 0, .int .i64 0, .string s, .string t], .bool _]) (by simp [results, Try.results33, go_sem, q0, q1, q2, q3, q4] <;> rfl) rfl ⟨by simp, B9.out⟩
theorem built_pathCall (n : Int) (s : ByteArray) : Try.prog.built 23 [(0, .int .i64 n), (3, .string s)] = some #[.int .i64 n, .int .i64 0, .int .i64 0, .string s, .string ByteArray.empty] := by kernel_rfl
set_option maxRecDepth 10000 in
set_option maxHeartbeats 8000000 in
theorem pathCall_any (w : World) (n a b : Int) (s t : ByteArray) : Calls Try.prog 34 #[.agg #[.int .i64 n, .int .i64 a, .int .i64 b, .string s, .string t]] w fun e w' => e = .returned (.tuple #[.agg #[.int .i64 n, .int .i64 0, .int .i64 0, .string s, .string ByteArray.empty], .bool (decide (s.size ≤ 100))]) ∧ Below w.heap.size w w' := by
  obtain ⟨p, hp⟩ : ∃ q : Bool, q = decide (s.size ≤ 100) := ⟨_, rfl⟩
  have Kp := hide (show ∀ W, Calls Try.prog 39 #[.string s] W fun e w' => e = .returned (.bool p) ∧ w' = W from fun W => by rw [hp]; exact isPath_any W _)
  rw [← hp]
  clear hp
  have hb := built_pathCall n s
  obtain ⟨w1, hw1⟩ : ∃ w1, w1 = (w.alloc (.cells #[.int .i64 n, .int .i64 a, .int .i64 b, .string s, .string t] 23)).alloc (.cells #[.int .i64 0, .int .i64 0, .int .i64 0, .string ByteArray.empty, .string ByteArray.empty] 23) := ⟨_, rfl⟩
  have X1 := hide (show ClAt w1 w.heap.size n a b s t from by rw [hw1]; exact (two_blocks w _ _).1)
  have Y1 := hide (show ClAt w1 (w.heap.size + 1) (0) (0) (0) (ByteArray.empty) (ByteArray.empty) from by rw [hw1]; exact (two_blocks w _ _).2)
  have B1 := hide (show Below w.heap.size w w1 from by rw [hw1]; exact (((Below.refl w.heap.size w).alloc (Nat.le_refl _) _).alloc (by simp) _))
  have HW := hide hw1
  clear hw1
  go_enter Try.func34, Try.ntmps34
  go_upto_region 1 with fail
  rename_i Q9 K9 a9
  rw [show (ByteArray.mk #[]) = ByteArray.empty from rfl, ← HW.out]
  obtain ⟨Y, hY⟩ : ∃ Y, Y = w.heap.size + 1 := ⟨_, rfl⟩
  obtain ⟨X, hX⟩ : ∃ X, X = w.heap.size := ⟨_, rfl⟩
  rw [← hY, ← hX]
  rw [← hX] at X1
  rw [← hY] at Y1
  have NE := hide (show X ≠ Y from by omega)
  have LY := hide (show w.heap.size ≤ Y from by omega)
  clear hX hY HW
  obtain ⟨c0, c1, c2, c3, c4⟩ := X1.out.cells
  obtain ⟨d0, d1, d2, d3, d4⟩ := Y1.out.cells
  obtain ⟨f0, f1, f2, f3, f4⟩ := Y1.out.frozen
  obtain ⟨w9, hw9⟩ : ∃ w9, w9 = (setSeg w1 Y 0 [.int .i64 n, .int .i64 0, .int .i64 0, .string s, .string ByteArray.empty]).drew := ⟨_, rfl⟩
  have Y9 := hide (show ClAt w9 Y (n) (0) (0) (s) (ByteArray.empty) from by rw [hw9]; have e := seg_drew (w := w1) (g := Y) (vs := [.int .i64 n, .int .i64 0, .int .i64 0, .string s, .string ByteArray.empty]) Y1.out rfl; exact e)
  have T9 := hide (show Touch (fun i => i = Y) w1 w9 from by rw [hw9]; exact (setSeg_touch (S := fun i => i = Y) rfl _ _ _ (Touch.refl _ _)).drewN 1)
  have B9 := hide (B1.out.trans (T9.out.below B1.out.size (fun i q => by rw [q]; exact LY.out)))
  have g0 := T9.out.cell (p := ⟨X, 0, none⟩) c0 NE.out
  have g3 := T9.out.cell (p := ⟨X, 3, none⟩) c3 NE.out
  simp only [setSeg, Nat.reduceAdd, Nat.zero_add] at hw9
  have H9 := hide hw9
  obtain ⟨q0, q1, q2, q3, q4⟩ := Y9.out.cells
  refine wp_region_noPanic ?_
  refine wp_region_held_drew (S := (fun w' => w'.cell? ⟨X, 0, none⟩ = some (.int .i64 n) ∧ w'.cell? ⟨X, 3, none⟩ = some (.string s))) (by kernel_rfl) ⟨c0, c3⟩ (fun hHeld => ?_)
  refine wpAnyH_take (i := 0) (v := ?_) rfl (by kernel_rfl) (by kernel_rfl) (by kernel_rfl) (fun _ _ _ h => h) (Or.inl ⟨by kernel_rfl, ?_⟩) (by assumption) ?_
  rotate_left
  · intro w hSw
    (try dsimp only at hSw)
    go_simp
    try with_reducible rfl
  try simp only [Act.put, List.setIfInBounds_toArray, List.set_cons_zero, List.set_cons_succ]
  refine wpAnyH_take (i := 1) (v := ?_) rfl (by kernel_rfl) (by kernel_rfl) (by kernel_rfl) (fun _ _ _ h => h) (Or.inl ⟨by kernel_rfl, ?_⟩) (by assumption) ?_
  rotate_left
  · intro w hSw
    (try dsimp only at hSw)
    go_simp
    try with_reducible rfl
  try simp only [Act.put, List.setIfInBounds_toArray, List.set_cons_zero, List.set_cons_succ]
  refine wpAnyH_take (i := 2) (v := ?_) rfl (by kernel_rfl) (by kernel_rfl) (by kernel_rfl) (fun _ _ _ h => h) (Or.inl ⟨by kernel_rfl, ?_⟩) (by assumption) ?_
  rotate_left
  · intro w hSw
    (try dsimp only at hSw)
    go_simp
    try with_reducible rfl
  try simp only [Act.put, List.setIfInBounds_toArray, List.set_cons_zero, List.set_cons_succ]
  refine wpAnyH_take (i := 3) (v := ?_) rfl (by kernel_rfl) (by kernel_rfl) (by kernel_rfl) (fun _ _ _ h => h) (Or.inl ⟨by kernel_rfl, ?_⟩) (by assumption) ?_
  rotate_left
  · intro w hSw
    (try dsimp only at hSw)
    go_simp
    try with_reducible rfl
  try simp only [Act.put, List.setIfInBounds_toArray, List.set_cons_zero, List.set_cons_succ]
  refine wpAnyH_take (i := 4) (v := ?_) rfl (by kernel_rfl) (by kernel_rfl) (by kernel_rfl) (fun _ _ _ h => h) (Or.inl ⟨by kernel_rfl, ?_⟩) (by assumption) ?_
  rotate_left
  · intro w hSw
    (try dsimp only at hSw)
    go_simp
    try with_reducible rfl
  try simp only [Act.put, List.setIfInBounds_toArray, List.set_cons_zero, List.set_cons_succ]
  refine wpAnyH_take (i := 5) (v := ?_) rfl (by kernel_rfl) (by kernel_rfl) (by kernel_rfl) (fun _ _ _ h => h) (Or.inl ⟨by kernel_rfl, ?_⟩) (by assumption) ?_
  rotate_left
  · intro w hSw
    (try dsimp only at hSw)
    go_simp
    try with_reducible rfl
  try simp only [Act.put, List.setIfInBounds_toArray, List.set_cons_zero, List.set_cons_succ]
  refine wpAnyH_take (i := 6) (v := ?_) rfl (by kernel_rfl) (by kernel_rfl) (by kernel_rfl) (fun _ _ _ h => h) (Or.inl ⟨by kernel_rfl, ?_⟩) (by assumption) ?_
  rotate_left
  · intro w hSw
    (try dsimp only at hSw)
    go_simp
    try with_reducible rfl
  try simp only [Act.put, List.setIfInBounds_toArray, List.set_cons_zero, List.set_cons_succ]
  refine wpAnyH_ready (rs := [7]) (by kernel_rfl) (by simp) ?_
  refine AllReadyH.cons rfl (fun K hK => ?_) AllReadyH.nil
  go_simp
  go_at_call 39
  refine (Kp.out _).mono ?_
  rintro e w2 ⟨rfl, rfl⟩
  go_wp2_with fail
  refine hK.out _ _ ⟨c0, c3⟩ (fun hHeld => ?_)
  clear hK K
  try simp only [Act.put, List.setIfInBounds_toArray, List.set_cons_zero, List.set_cons_succ]
  refine wpAnyH_ready (rs := [8]) (by kernel_rfl) (by simp) ?_
  refine AllReadyH.cons rfl (fun K hK => ?_) AllReadyH.nil
  go_simp
  go_wp2_with fail
  refine hK.out _ _ (by rw [hw9] at g0 g3; (try rw [show (ByteArray.mk #[]) = ByteArray.empty from rfl]); exact ⟨g0, g3⟩) (fun hHeld => ?_)
  clear hK K
  try simp only [Act.put, List.setIfInBounds_toArray, List.set_cons_zero, List.set_cons_succ]
  refine wpAnyH_take (i := 9) (v := ?_) rfl (by kernel_rfl) (by kernel_rfl) (by kernel_rfl) (fun _ _ _ h => h) (Or.inl ⟨by kernel_rfl, ?_⟩) (by assumption) ?_
  rotate_left
  · intro w hSw
    (try dsimp only at hSw)
    go_simp
    try with_reducible rfl
  try simp only [Act.put, List.setIfInBounds_toArray, List.set_cons_zero, List.set_cons_succ]
  refine wpAnyH_done (by kernel_rfl) ?_ _
  go_simp
  refine NoPanic.normal ?_
  refine a9 _ _ ?_
  go_wp2_with fail
  (try rw [show (ByteArray.mk #[]) = ByteArray.empty from rfl])
  rw [← hw9]
  refine bodyPost_ret (v := .tuple #[.agg #[.int .i64 n, .int .i64 0, .int .i64 0, .string s, .string ByteArray.empty], .bool _]) (by simp [results, Try.results34, go_sem, q0, q1, q2, q3, q4] <;> rfl) rfl ⟨rfl, B9.out⟩
theorem built_numberCall1 (n : Int) (a : Int) : Try.prog.built 23 [(0, .int .i64 n), (1, .int .i64 a)] = some #[.int .i64 n, .int .i64 a, .int .i64 0, .string ByteArray.empty, .string ByteArray.empty] := by kernel_rfl
set_option maxRecDepth 10000 in
set_option maxHeartbeats 8000000 in
theorem numberCall1_any (w : World) (n a b : Int) (s t : ByteArray) (h : Int) (hP : Addr) (hh : w.cell? hP = some (.int .i64 h)) : Calls Try.prog 40 #[.agg #[.int .i64 n, .int .i64 a, .int .i64 b, .string s, .string t], .pointer (some hP)] w fun e w' => e = .returned (.tuple #[.agg #[.int .i64 n, .int .i64 a, .int .i64 0, .string ByteArray.empty, .string ByteArray.empty], .bool (withinB a 0 h)]) ∧ Below w.heap.size w w' := by
  obtain ⟨p, hp⟩ : ∃ q : Bool, q = withinB a 0 h := ⟨_, rfl⟩
  have Kp := hide (show ∀ W, Calls Try.prog 38 #[.int .i64 a, .int .i64 0, .int .i64 h] W fun e w' => e = .returned (.bool p) ∧ w' = W from fun W => by rw [hp]; exact within_any W _ _ _)
  rw [← hp]
  clear hp
  have hb := built_numberCall1 n a
  obtain ⟨w1, hw1⟩ : ∃ w1, w1 = (w.alloc (.cells #[.int .i64 n, .int .i64 a, .int .i64 b, .string s, .string t] 23)).alloc (.cells #[.int .i64 0, .int .i64 0, .int .i64 0, .string ByteArray.empty, .string ByteArray.empty] 23) := ⟨_, rfl⟩
  have X1 := hide (show ClAt w1 w.heap.size n a b s t from by rw [hw1]; exact (two_blocks w _ _).1)
  have Y1 := hide (show ClAt w1 (w.heap.size + 1) (0) (0) (0) (ByteArray.empty) (ByteArray.empty) from by rw [hw1]; exact (two_blocks w _ _).2)
  have B1 := hide (show Below w.heap.size w w1 from by rw [hw1]; exact (((Below.refl w.heap.size w).alloc (Nat.le_refl _) _).alloc (by simp) _))
  have Ch := hide (show w1.cell? hP = some (.int .i64 h) from (B1.out.cell (lt_of_cell? hh)).trans hh)
  have Lh := lt_of_cell? hh
  clear hh
  have HW := hide hw1
  clear hw1
  go_enter Try.func40, Try.ntmps40
  go_upto_region 1 with fail
  rename_i Q9 K9 a9
  rw [show (ByteArray.mk #[]) = ByteArray.empty from rfl, ← HW.out]
  obtain ⟨Y, hY⟩ : ∃ Y, Y = w.heap.size + 1 := ⟨_, rfl⟩
  obtain ⟨X, hX⟩ : ∃ X, X = w.heap.size := ⟨_, rfl⟩
  rw [← hY, ← hX]
  rw [← hX] at X1
  rw [← hY] at Y1
  have NE := hide (show X ≠ Y from by omega)
  have LY := hide (show w.heap.size ≤ Y from by omega)
  have Nh := hide (show hP.block ≠ Y from by omega)
  clear Lh
  clear hX hY HW
  obtain ⟨c0, c1, c2, c3, c4⟩ := X1.out.cells
  obtain ⟨d0, d1, d2, d3, d4⟩ := Y1.out.cells
  obtain ⟨f0, f1, f2, f3, f4⟩ := Y1.out.frozen
  have ch := Ch.out
  obtain ⟨w9, hw9⟩ : ∃ w9, w9 = (setSeg w1 Y 0 [.int .i64 n, .int .i64 a, .int .i64 0, .string ByteArray.empty, .string ByteArray.empty]).drew := ⟨_, rfl⟩
  have Y9 := hide (show ClAt w9 Y (n) (a) (0) (ByteArray.empty) (ByteArray.empty) from by rw [hw9]; have e := seg_drew (w := w1) (g := Y) (vs := [.int .i64 n, .int .i64 a, .int .i64 0, .string ByteArray.empty, .string ByteArray.empty]) Y1.out rfl; exact e)
  have T9 := hide (show Touch (fun i => i = Y) w1 w9 from by rw [hw9]; exact (setSeg_touch (S := fun i => i = Y) rfl _ _ _ (Touch.refl _ _)).drewN 1)
  have B9 := hide (B1.out.trans (T9.out.below B1.out.size (fun i q => by rw [q]; exact LY.out)))
  have g0 := T9.out.cell (p := ⟨X, 0, none⟩) c0 NE.out
  have g1 := T9.out.cell (p := ⟨X, 1, none⟩) c1 NE.out
  have gh := T9.out.cell ch Nh.out
  simp only [setSeg, Nat.reduceAdd, Nat.zero_add] at hw9
  have H9 := hide hw9
  obtain ⟨q0, q1, q2, q3, q4⟩ := Y9.out.cells
  have eh := ch
  refine wp_region_noPanic ?_
  refine wp_region_held_drew (S := (fun w' => w'.cell? ⟨X, 0, none⟩ = some (.int .i64 n) ∧ w'.cell? ⟨X, 1, none⟩ = some (.int .i64 a) ∧ w'.cell? hP = some (.int .i64 h))) (by kernel_rfl) ⟨c0, c1, ch⟩ (fun hHeld => ?_)
  refine wpAnyH_take (i := 0) (v := ?_) rfl (by kernel_rfl) (by kernel_rfl) (by kernel_rfl) (fun _ _ _ h => h) (Or.inl ⟨by kernel_rfl, ?_⟩) (by assumption) ?_
  rotate_left
  · intro w hSw
    (try dsimp only at hSw)
    go_simp
    try with_reducible rfl
  try simp only [Act.put, List.setIfInBounds_toArray, List.set_cons_zero, List.set_cons_succ]
  refine wpAnyH_take (i := 1) (v := ?_) rfl (by kernel_rfl) (by kernel_rfl) (by kernel_rfl) (fun _ _ _ h => h) (Or.inl ⟨by kernel_rfl, ?_⟩) (by assumption) ?_
  rotate_left
  · intro w hSw
    (try dsimp only at hSw)
    go_simp
    try with_reducible rfl
  try simp only [Act.put, List.setIfInBounds_toArray, List.set_cons_zero, List.set_cons_succ]
  refine wpAnyH_take (i := 2) (v := ?_) rfl (by kernel_rfl) (by kernel_rfl) (by kernel_rfl) (fun _ _ _ h => h) (Or.inl ⟨by kernel_rfl, ?_⟩) (by assumption) ?_
  rotate_left
  · intro w hSw
    (try dsimp only at hSw)
    go_simp
    try with_reducible rfl
  try simp only [Act.put, List.setIfInBounds_toArray, List.set_cons_zero, List.set_cons_succ]
  refine wpAnyH_take (i := 3) (v := ?_) rfl (by kernel_rfl) (by kernel_rfl) (by kernel_rfl) (fun _ _ _ h => h) (Or.inl ⟨by kernel_rfl, ?_⟩) (by assumption) ?_
  rotate_left
  · intro w hSw
    (try dsimp only at hSw)
    go_simp
    try with_reducible rfl
  try simp only [Act.put, List.setIfInBounds_toArray, List.set_cons_zero, List.set_cons_succ]
  refine wpAnyH_take (i := 4) (v := ?_) rfl (by kernel_rfl) (by kernel_rfl) (by kernel_rfl) (fun _ _ _ h => h) (Or.inl ⟨by kernel_rfl, ?_⟩) (by assumption) ?_
  rotate_left
  · intro w hSw
    (try dsimp only at hSw)
    go_simp
    try with_reducible rfl
  try simp only [Act.put, List.setIfInBounds_toArray, List.set_cons_zero, List.set_cons_succ]
  refine wpAnyH_take (i := 5) (v := ?_) rfl (by kernel_rfl) (by kernel_rfl) (by kernel_rfl) (fun _ _ _ h => h) (Or.inl ⟨by kernel_rfl, ?_⟩) (by assumption) ?_
  rotate_left
  · intro w hSw
    (try dsimp only at hSw)
    go_simp
    try with_reducible rfl
  try simp only [Act.put, List.setIfInBounds_toArray, List.set_cons_zero, List.set_cons_succ]
  refine wpAnyH_take (i := 6) (v := ?_) rfl (by kernel_rfl) (by kernel_rfl) (by kernel_rfl) (fun _ _ _ h => h) (Or.inl ⟨by kernel_rfl, ?_⟩) (by assumption) ?_
  rotate_left
  · intro w hSw
    (try dsimp only at hSw)
    go_simp
    try with_reducible rfl
  try simp only [Act.put, List.setIfInBounds_toArray, List.set_cons_zero, List.set_cons_succ]
  refine wpAnyH_take (i := 7) (v := ?_) rfl (by kernel_rfl) (by kernel_rfl) (by kernel_rfl) (fun _ _ _ h => h) (Or.inl ⟨by kernel_rfl, ?_⟩) (by assumption) ?_
  rotate_left
  · intro w hSw
    (try dsimp only at hSw)
    go_simp
    try with_reducible rfl
  try simp only [Act.put, List.setIfInBounds_toArray, List.set_cons_zero, List.set_cons_succ]
  refine wpAnyH_ready (rs := [8]) (by kernel_rfl) (by simp) ?_
  refine AllReadyH.cons rfl (fun K hK => ?_) AllReadyH.nil
  go_simp
  go_at_call 38
  refine (Kp.out _).mono ?_
  rintro e w2 ⟨rfl, rfl⟩
  go_wp2_with fail
  refine hK.out _ _ ⟨c0, c1, ch⟩ (fun hHeld => ?_)
  clear hK K
  try simp only [Act.put, List.setIfInBounds_toArray, List.set_cons_zero, List.set_cons_succ]
  refine wpAnyH_ready (rs := [9]) (by kernel_rfl) (by simp) ?_
  refine AllReadyH.cons rfl (fun K hK => ?_) AllReadyH.nil
  go_simp
  go_wp2_with fail
  refine hK.out _ _ (by rw [hw9] at g0 g1 gh; (try rw [show (ByteArray.mk #[]) = ByteArray.empty from rfl]); exact ⟨g0, g1, gh⟩) (fun hHeld => ?_)
  clear hK K
  try simp only [Act.put, List.setIfInBounds_toArray, List.set_cons_zero, List.set_cons_succ]
  refine wpAnyH_take (i := 10) (v := ?_) rfl (by kernel_rfl) (by kernel_rfl) (by kernel_rfl) (fun _ _ _ h => h) (Or.inl ⟨by kernel_rfl, ?_⟩) (by assumption) ?_
  rotate_left
  · intro w hSw
    (try dsimp only at hSw)
    go_simp
    try with_reducible rfl
  try simp only [Act.put, List.setIfInBounds_toArray, List.set_cons_zero, List.set_cons_succ]
  refine wpAnyH_done (by kernel_rfl) ?_ _
  go_simp
  refine NoPanic.normal ?_
  refine a9 _ _ ?_
  go_wp2_with fail
  (try rw [show (ByteArray.mk #[]) = ByteArray.empty from rfl])
  rw [← hw9]
  refine bodyPost_ret (v := .tuple #[.agg #[.int .i64 n, .int .i64 a, .int .i64 0, .string ByteArray.empty, .string ByteArray.empty], .bool _]) (by simp [results, Try.results40, go_sem, q0, q1, q2, q3, q4] <;> rfl) rfl ⟨rfl, B9.out⟩
theorem built_numberStep1 (k : Int) (a : Int) : Try.prog.built 25 [(0, .int .i64 k), (1, .int .i64 a)] = some #[.int .i64 k, .int .i64 a, .int .i64 0, .int .i64 0, .int .i64 0, .int .i64 0, .int .i64 0, .string ByteArray.empty, .string ByteArray.empty] := by kernel_rfl
set_option maxRecDepth 10000 in
set_option maxHeartbeats 8000000 in
theorem numberStep1_any (w : World) (k a b c n x y : Int) (s t : ByteArray) (l : Int) (lP : Addr) (hl : w.cell? lP = some (.int .i64 l)) (h : Int) (hP : Addr) (hh : w.cell? hP = some (.int .i64 h)) : Calls Try.prog 37 #[.agg #[.int .i64 k, .int .i64 a, .int .i64 b, .int .i64 c, .int .i64 n, .int .i64 x, .int .i64 y, .string s, .string t], .pointer (some lP), .pointer (some hP)] w fun e w' => e = .returned (.tuple #[.agg #[.int .i64 k, .int .i64 a, .int .i64 0, .int .i64 0, .int .i64 0, .int .i64 0, .int .i64 0, .string ByteArray.empty, .string ByteArray.empty], .bool (withinB a l h)]) ∧ Below w.heap.size w w' := by
  obtain ⟨p, hp⟩ : ∃ q : Bool, q = withinB a l h := ⟨_, rfl⟩
  have Kp := hide (show ∀ W, Calls Try.prog 38 #[.int .i64 a, .int .i64 l, .int .i64 h] W fun e w' => e = .returned (.bool p) ∧ w' = W from fun W => by rw [hp]; exact within_any W _ _ _)
  rw [← hp]
  clear hp
  have hb := built_numberStep1 k a
  obtain ⟨w1, hw1⟩ : ∃ w1, w1 = (w.alloc (.cells #[.int .i64 k, .int .i64 a, .int .i64 b, .int .i64 c, .int .i64 n, .int .i64 x, .int .i64 y, .string s, .string t] 25)).alloc (.cells #[.int .i64 0, .int .i64 0, .int .i64 0, .int .i64 0, .int .i64 0, .int .i64 0, .int .i64 0, .string ByteArray.empty, .string ByteArray.empty] 25) := ⟨_, rfl⟩
  have X1 := hide (show StAt w1 w.heap.size k a b c n x y s t from by rw [hw1]; exact (two_blocks w _ _).1)
  have Y1 := hide (show StAt w1 (w.heap.size + 1) (0) (0) (0) (0) (0) (0) (0) (ByteArray.empty) (ByteArray.empty) from by rw [hw1]; exact (two_blocks w _ _).2)
  have B1 := hide (show Below w.heap.size w w1 from by rw [hw1]; exact (((Below.refl w.heap.size w).alloc (Nat.le_refl _) _).alloc (by simp) _))
  have Cl := hide (show w1.cell? lP = some (.int .i64 l) from (B1.out.cell (lt_of_cell? hl)).trans hl)
  have Ll := lt_of_cell? hl
  clear hl
  have Ch := hide (show w1.cell? hP = some (.int .i64 h) from (B1.out.cell (lt_of_cell? hh)).trans hh)
  have Lh := lt_of_cell? hh
  clear hh
  have HW := hide hw1
  clear hw1
  go_enter Try.func37, Try.ntmps37
  go_upto_region 1 with fail
  rename_i Q9 K9 a9
  rw [show (ByteArray.mk #[]) = ByteArray.empty from rfl, ← HW.out]
  obtain ⟨Y, hY⟩ : ∃ Y, Y = w.heap.size + 1 := ⟨_, rfl⟩
  obtain ⟨X, hX⟩ : ∃ X, X = w.heap.size := ⟨_, rfl⟩
  rw [← hY, ← hX]
  rw [← hX] at X1
  rw [← hY] at Y1
  have NE := hide (show X ≠ Y from by omega)
  have LY := hide (show w.heap.size ≤ Y from by omega)
  have Nl := hide (show lP.block ≠ Y from by omega)
  clear Ll
  have Nh := hide (show hP.block ≠ Y from by omega)
  clear Lh
  clear hX hY HW
  obtain ⟨c0, c1, c2, c3, c4, c5, c6, c7, c8⟩ := X1.out.cells
  obtain ⟨d0, d1, d2, d3, d4, d5, d6, d7, d8⟩ := Y1.out.cells
  obtain ⟨f0, f1, f2, f3, f4, f5, f6, f7, f8⟩ := Y1.out.frozen
  have cl := Cl.out
  have ch := Ch.out
  obtain ⟨w9, hw9⟩ : ∃ w9, w9 = (setSeg w1 Y 0 [.int .i64 k, .int .i64 a, .int .i64 0, .int .i64 0, .int .i64 0, .int .i64 0, .int .i64 0, .string ByteArray.empty, .string ByteArray.empty]).drew := ⟨_, rfl⟩
  have Y9 := hide (show StAt w9 Y (k) (a) (0) (0) (0) (0) (0) (ByteArray.empty) (ByteArray.empty) from by rw [hw9]; have e := seg_drew (w := w1) (g := Y) (vs := [.int .i64 k, .int .i64 a, .int .i64 0, .int .i64 0, .int .i64 0, .int .i64 0, .int .i64 0, .string ByteArray.empty, .string ByteArray.empty]) Y1.out rfl; exact e)
  have T9 := hide (show Touch (fun i => i = Y) w1 w9 from by rw [hw9]; exact (setSeg_touch (S := fun i => i = Y) rfl _ _ _ (Touch.refl _ _)).drewN 1)
  have B9 := hide (B1.out.trans (T9.out.below B1.out.size (fun i q => by rw [q]; exact LY.out)))
  have g0 := T9.out.cell (p := ⟨X, 0, none⟩) c0 NE.out
  have g1 := T9.out.cell (p := ⟨X, 1, none⟩) c1 NE.out
  have gl := T9.out.cell cl Nl.out
  have gh := T9.out.cell ch Nh.out
  simp only [setSeg, Nat.reduceAdd, Nat.zero_add] at hw9
  have H9 := hide hw9
  obtain ⟨q0, q1, q2, q3, q4, q5, q6, q7, q8⟩ := Y9.out.cells
  have el := cl
  have eh := ch
  refine wp_region_noPanic ?_
  refine wp_region_held_drew (S := (fun w' => w'.cell? ⟨X, 0, none⟩ = some (.int .i64 k) ∧ w'.cell? ⟨X, 1, none⟩ = some (.int .i64 a) ∧ w'.cell? lP = some (.int .i64 l) ∧ w'.cell? hP = some (.int .i64 h))) (by kernel_rfl) ⟨c0, c1, cl, ch⟩ (fun hHeld => ?_)
  refine wpAnyH_take (i := 0) (v := ?_) rfl (by kernel_rfl) (by kernel_rfl) (by kernel_rfl) (fun _ _ _ h => h) (Or.inl ⟨by kernel_rfl, ?_⟩) (by assumption) ?_
  rotate_left
  · intro w hSw
    (try dsimp only at hSw)
    go_simp
    try with_reducible rfl
  try simp only [Act.put, List.setIfInBounds_toArray, List.set_cons_zero, List.set_cons_succ]
  refine wpAnyH_take (i := 1) (v := ?_) rfl (by kernel_rfl) (by kernel_rfl) (by kernel_rfl) (fun _ _ _ h => h) (Or.inl ⟨by kernel_rfl, ?_⟩) (by assumption) ?_
  rotate_left
  · intro w hSw
    (try dsimp only at hSw)
    go_simp
    try with_reducible rfl
  try simp only [Act.put, List.setIfInBounds_toArray, List.set_cons_zero, List.set_cons_succ]
  refine wpAnyH_take (i := 2) (v := ?_) rfl (by kernel_rfl) (by kernel_rfl) (by kernel_rfl) (fun _ _ _ h => h) (Or.inl ⟨by kernel_rfl, ?_⟩) (by assumption) ?_
  rotate_left
  · intro w hSw
    (try dsimp only at hSw)
    go_simp
    try with_reducible rfl
  try simp only [Act.put, List.setIfInBounds_toArray, List.set_cons_zero, List.set_cons_succ]
  refine wpAnyH_take (i := 3) (v := ?_) rfl (by kernel_rfl) (by kernel_rfl) (by kernel_rfl) (fun _ _ _ h => h) (Or.inl ⟨by kernel_rfl, ?_⟩) (by assumption) ?_
  rotate_left
  · intro w hSw
    (try dsimp only at hSw)
    go_simp
    try with_reducible rfl
  try simp only [Act.put, List.setIfInBounds_toArray, List.set_cons_zero, List.set_cons_succ]
  refine wpAnyH_take (i := 4) (v := ?_) rfl (by kernel_rfl) (by kernel_rfl) (by kernel_rfl) (fun _ _ _ h => h) (Or.inl ⟨by kernel_rfl, ?_⟩) (by assumption) ?_
  rotate_left
  · intro w hSw
    (try dsimp only at hSw)
    go_simp
    try with_reducible rfl
  try simp only [Act.put, List.setIfInBounds_toArray, List.set_cons_zero, List.set_cons_succ]
  refine wpAnyH_take (i := 5) (v := ?_) rfl (by kernel_rfl) (by kernel_rfl) (by kernel_rfl) (fun _ _ _ h => h) (Or.inl ⟨by kernel_rfl, ?_⟩) (by assumption) ?_
  rotate_left
  · intro w hSw
    (try dsimp only at hSw)
    go_simp
    try with_reducible rfl
  try simp only [Act.put, List.setIfInBounds_toArray, List.set_cons_zero, List.set_cons_succ]
  refine wpAnyH_take (i := 6) (v := ?_) rfl (by kernel_rfl) (by kernel_rfl) (by kernel_rfl) (fun _ _ _ h => h) (Or.inl ⟨by kernel_rfl, ?_⟩) (by assumption) ?_
  rotate_left
  · intro w hSw
    (try dsimp only at hSw)
    go_simp
    try with_reducible rfl
  try simp only [Act.put, List.setIfInBounds_toArray, List.set_cons_zero, List.set_cons_succ]
  refine wpAnyH_take (i := 7) (v := ?_) rfl (by kernel_rfl) (by kernel_rfl) (by kernel_rfl) (fun _ _ _ h => h) (Or.inl ⟨by kernel_rfl, ?_⟩) (by assumption) ?_
  rotate_left
  · intro w hSw
    (try dsimp only at hSw)
    go_simp
    try with_reducible rfl
  try simp only [Act.put, List.setIfInBounds_toArray, List.set_cons_zero, List.set_cons_succ]
  refine wpAnyH_take (i := 8) (v := ?_) rfl (by kernel_rfl) (by kernel_rfl) (by kernel_rfl) (fun _ _ _ h => h) (Or.inl ⟨by kernel_rfl, ?_⟩) (by assumption) ?_
  rotate_left
  · intro w hSw
    (try dsimp only at hSw)
    go_simp
    try with_reducible rfl
  try simp only [Act.put, List.setIfInBounds_toArray, List.set_cons_zero, List.set_cons_succ]
  refine wpAnyH_ready (rs := [9]) (by kernel_rfl) (by simp) ?_
  refine AllReadyH.cons rfl (fun K hK => ?_) AllReadyH.nil
  go_simp
  go_at_call 38
  refine (Kp.out _).mono ?_
  rintro e w2 ⟨rfl, rfl⟩
  go_wp2_with fail
  refine hK.out _ _ ⟨c0, c1, cl, ch⟩ (fun hHeld => ?_)
  clear hK K
  try simp only [Act.put, List.setIfInBounds_toArray, List.set_cons_zero, List.set_cons_succ]
  refine wpAnyH_ready (rs := [10]) (by kernel_rfl) (by simp) ?_
  refine AllReadyH.cons rfl (fun K hK => ?_) AllReadyH.nil
  go_simp
  go_wp2_with fail
  refine hK.out _ _ (by rw [hw9] at g0 g1 gl gh; (try rw [show (ByteArray.mk #[]) = ByteArray.empty from rfl]); exact ⟨g0, g1, gl, gh⟩) (fun hHeld => ?_)
  clear hK K
  try simp only [Act.put, List.setIfInBounds_toArray, List.set_cons_zero, List.set_cons_succ]
  refine wpAnyH_take (i := 11) (v := ?_) rfl (by kernel_rfl) (by kernel_rfl) (by kernel_rfl) (fun _ _ _ h => h) (Or.inl ⟨by kernel_rfl, ?_⟩) (by assumption) ?_
  rotate_left
  · intro w hSw
    (try dsimp only at hSw)
    go_simp
    try with_reducible rfl
  try simp only [Act.put, List.setIfInBounds_toArray, List.set_cons_zero, List.set_cons_succ]
  refine wpAnyH_done (by kernel_rfl) ?_ _
  go_simp
  refine NoPanic.normal ?_
  refine a9 _ _ ?_
  go_wp2_with fail
  (try rw [show (ByteArray.mk #[]) = ByteArray.empty from rfl])
  rw [← hw9]
  refine bodyPost_ret (v := .tuple #[.agg #[.int .i64 k, .int .i64 a, .int .i64 0, .int .i64 0, .int .i64 0, .int .i64 0, .int .i64 0, .string ByteArray.empty, .string ByteArray.empty], .bool _]) (by simp [results, Try.results37, go_sem, q0, q1, q2, q3, q4, q5, q6, q7, q8] <;> rfl) rfl ⟨rfl, B9.out⟩
theorem built_writeCall (n : Int) (a : Int) (s : ByteArray) : Try.prog.built 23 [(0, .int .i64 n), (1, .int .i64 a), (3, .string s)] = some #[.int .i64 n, .int .i64 a, .int .i64 0, .string s, .string ByteArray.empty] := by kernel_rfl
set_option maxRecDepth 10000 in
set_option maxHeartbeats 8000000 in
theorem writeCall_any (w : World) (n a b : Int) (s t : ByteArray) : Calls Try.prog 32 #[.agg #[.int .i64 n, .int .i64 a, .int .i64 b, .string s, .string t]] w fun e w' => e = .returned (.tuple #[.agg #[.int .i64 n, .int .i64 a, .int .i64 0, .string s, .string ByteArray.empty], .bool (withinB a 0 7 && decide ((s.size : Int) ≤ 512))]) ∧ Below w.heap.size w w' := by
  obtain ⟨p, hp⟩ : ∃ q : Bool, q = withinB a 0 7 := ⟨_, rfl⟩
  have Kp := hide (show ∀ W, Calls Try.prog 41 #[.int .i64 a] W fun e w' => e = .returned (.bool p) ∧ w' = W from fun W => by rw [hp]; exact isDesc_any W _)
  rw [← hp]
  clear hp
  have hb := built_writeCall n a s
  obtain ⟨w1, hw1⟩ : ∃ w1, w1 = (w.alloc (.cells #[.int .i64 n, .int .i64 a, .int .i64 b, .string s, .string t] 23)).alloc (.cells #[.int .i64 0, .int .i64 0, .int .i64 0, .string ByteArray.empty, .string ByteArray.empty] 23) := ⟨_, rfl⟩
  have X1 := hide (show ClAt w1 w.heap.size n a b s t from by rw [hw1]; exact (two_blocks w _ _).1)
  have Y1 := hide (show ClAt w1 (w.heap.size + 1) (0) (0) (0) (ByteArray.empty) (ByteArray.empty) from by rw [hw1]; exact (two_blocks w _ _).2)
  have B1 := hide (show Below w.heap.size w w1 from by rw [hw1]; exact (((Below.refl w.heap.size w).alloc (Nat.le_refl _) _).alloc (by simp) _))
  have HW := hide hw1
  clear hw1
  go_enter Try.func32, Try.ntmps32
  go_upto_region 1 with fail
  rename_i Q9 K9 a9
  rw [show (ByteArray.mk #[]) = ByteArray.empty from rfl, ← HW.out]
  obtain ⟨Y, hY⟩ : ∃ Y, Y = w.heap.size + 1 := ⟨_, rfl⟩
  obtain ⟨X, hX⟩ : ∃ X, X = w.heap.size := ⟨_, rfl⟩
  rw [← hY, ← hX]
  rw [← hX] at X1
  rw [← hY] at Y1
  have NE := hide (show X ≠ Y from by omega)
  have LY := hide (show w.heap.size ≤ Y from by omega)
  clear hX hY HW
  obtain ⟨c0, c1, c2, c3, c4⟩ := X1.out.cells
  obtain ⟨d0, d1, d2, d3, d4⟩ := Y1.out.cells
  obtain ⟨f0, f1, f2, f3, f4⟩ := Y1.out.frozen
  obtain ⟨w9, hw9⟩ : ∃ w9, w9 = (setSeg w1 Y 0 [.int .i64 n, .int .i64 a, .int .i64 0, .string s, .string ByteArray.empty]).drew := ⟨_, rfl⟩
  have Y9 := hide (show ClAt w9 Y (n) (a) (0) (s) (ByteArray.empty) from by rw [hw9]; have e := seg_drew (w := w1) (g := Y) (vs := [.int .i64 n, .int .i64 a, .int .i64 0, .string s, .string ByteArray.empty]) Y1.out rfl; exact e)
  have T9 := hide (show Touch (fun i => i = Y) w1 w9 from by rw [hw9]; exact (setSeg_touch (S := fun i => i = Y) rfl _ _ _ (Touch.refl _ _)).drewN 1)
  have B9 := hide (B1.out.trans (T9.out.below B1.out.size (fun i q => by rw [q]; exact LY.out)))
  have g0 := T9.out.cell (p := ⟨X, 0, none⟩) c0 NE.out
  have g1 := T9.out.cell (p := ⟨X, 1, none⟩) c1 NE.out
  have g3 := T9.out.cell (p := ⟨X, 3, none⟩) c3 NE.out
  simp only [setSeg, Nat.reduceAdd, Nat.zero_add] at hw9
  have H9 := hide hw9
  obtain ⟨q0, q1, q2, q3, q4⟩ := Y9.out.cells
  cases p with
  | false =>
    refine wp_region_noPanic ?_
    refine wp_region_held_drew (S := (fun w' => w'.cell? ⟨X, 0, none⟩ = some (.int .i64 n) ∧ w'.cell? ⟨X, 1, none⟩ = some (.int .i64 a) ∧ w'.cell? ⟨X, 3, none⟩ = some (.string s))) (by kernel_rfl) ⟨c0, c1, c3⟩ (fun hHeld => ?_)
    refine wpAnyH_take (i := 0) (v := ?_) rfl (by kernel_rfl) (by kernel_rfl) (by kernel_rfl) (fun _ _ _ h => h) (Or.inl ⟨by kernel_rfl, ?_⟩) (by assumption) ?_
    rotate_left
    · intro w hSw
      (try dsimp only at hSw)
      go_simp
      try with_reducible rfl
    try simp only [Act.put, List.setIfInBounds_toArray, List.set_cons_zero, List.set_cons_succ]
    refine wpAnyH_take (i := 1) (v := ?_) rfl (by kernel_rfl) (by kernel_rfl) (by kernel_rfl) (fun _ _ _ h => h) (Or.inl ⟨by kernel_rfl, ?_⟩) (by assumption) ?_
    rotate_left
    · intro w hSw
      (try dsimp only at hSw)
      go_simp
      try with_reducible rfl
    try simp only [Act.put, List.setIfInBounds_toArray, List.set_cons_zero, List.set_cons_succ]
    refine wpAnyH_take (i := 2) (v := ?_) rfl (by kernel_rfl) (by kernel_rfl) (by kernel_rfl) (fun _ _ _ h => h) (Or.inl ⟨by kernel_rfl, ?_⟩) (by assumption) ?_
    rotate_left
    · intro w hSw
      (try dsimp only at hSw)
      go_simp
      try with_reducible rfl
    try simp only [Act.put, List.setIfInBounds_toArray, List.set_cons_zero, List.set_cons_succ]
    refine wpAnyH_take (i := 3) (v := ?_) rfl (by kernel_rfl) (by kernel_rfl) (by kernel_rfl) (fun _ _ _ h => h) (Or.inl ⟨by kernel_rfl, ?_⟩) (by assumption) ?_
    rotate_left
    · intro w hSw
      (try dsimp only at hSw)
      go_simp
      try with_reducible rfl
    try simp only [Act.put, List.setIfInBounds_toArray, List.set_cons_zero, List.set_cons_succ]
    refine wpAnyH_take (i := 4) (v := ?_) rfl (by kernel_rfl) (by kernel_rfl) (by kernel_rfl) (fun _ _ _ h => h) (Or.inl ⟨by kernel_rfl, ?_⟩) (by assumption) ?_
    rotate_left
    · intro w hSw
      (try dsimp only at hSw)
      go_simp
      try with_reducible rfl
    try simp only [Act.put, List.setIfInBounds_toArray, List.set_cons_zero, List.set_cons_succ]
    refine wpAnyH_take (i := 5) (v := ?_) rfl (by kernel_rfl) (by kernel_rfl) (by kernel_rfl) (fun _ _ _ h => h) (Or.inl ⟨by kernel_rfl, ?_⟩) (by assumption) ?_
    rotate_left
    · intro w hSw
      (try dsimp only at hSw)
      go_simp
      try with_reducible rfl
    try simp only [Act.put, List.setIfInBounds_toArray, List.set_cons_zero, List.set_cons_succ]
    refine wpAnyH_take (i := 6) (v := ?_) rfl (by kernel_rfl) (by kernel_rfl) (by kernel_rfl) (fun _ _ _ h => h) (Or.inl ⟨by kernel_rfl, ?_⟩) (by assumption) ?_
    rotate_left
    · intro w hSw
      (try dsimp only at hSw)
      go_simp
      try with_reducible rfl
    try simp only [Act.put, List.setIfInBounds_toArray, List.set_cons_zero, List.set_cons_succ]
    refine wpAnyH_take (i := 7) (v := ?_) rfl (by kernel_rfl) (by kernel_rfl) (by kernel_rfl) (fun _ _ _ h => h) (Or.inl ⟨by kernel_rfl, ?_⟩) (by assumption) ?_
    rotate_left
    · intro w hSw
      (try dsimp only at hSw)
      go_simp
      try with_reducible rfl
    try simp only [Act.put, List.setIfInBounds_toArray, List.set_cons_zero, List.set_cons_succ]
    refine wpAnyH_take (i := 8) (v := ?_) rfl (by kernel_rfl) (by kernel_rfl) (by kernel_rfl) (fun _ _ _ h => h) (Or.inl ⟨by kernel_rfl, ?_⟩) (by assumption) ?_
    rotate_left
    · intro w hSw
      (try dsimp only at hSw)
      go_simp
      try with_reducible rfl
    try simp only [Act.put, List.setIfInBounds_toArray, List.set_cons_zero, List.set_cons_succ]
    refine wpAnyH_ready (rs := [9]) (by kernel_rfl) (by simp) ?_
    refine AllReadyH.cons rfl (fun K hK => ?_) AllReadyH.nil
    go_simp
    go_at_call 41
    refine (Kp.out _).mono ?_
    rintro e w2 ⟨rfl, rfl⟩
    go_wp2_with fail
    refine hK.out _ _ ⟨c0, c1, c3⟩ (fun hHeld => ?_)
    clear hK K
    try simp only [Act.put, List.setIfInBounds_toArray, List.set_cons_zero, List.set_cons_succ]
    refine wpAnyH_take (i := 10) (v := ?_) rfl (by kernel_rfl) (by kernel_rfl) (by kernel_rfl) (fun _ _ _ h => h) (Or.inl ⟨by kernel_rfl, ?_⟩) (by assumption) ?_
    rotate_left
    · intro w hSw
      (try dsimp only at hSw)
      go_simp
      try with_reducible rfl
    try simp only [Act.put, List.setIfInBounds_toArray, List.set_cons_zero, List.set_cons_succ]
    refine wpAnyH_take (i := 11) (v := undef) rfl (by kernel_rfl) (by kernel_rfl) (by kernel_rfl) (fun _ _ _ h => h) (Or.inr ⟨by kernel_rfl, rfl⟩) (by assumption) ?_
    try simp only [Act.put, List.setIfInBounds_toArray, List.set_cons_zero, List.set_cons_succ]
    refine wpAnyH_take (i := 12) (v := undef) rfl (by kernel_rfl) (by kernel_rfl) (by kernel_rfl) (fun _ _ _ h => h) (Or.inr ⟨by kernel_rfl, rfl⟩) (by assumption) ?_
    try simp only [Act.put, List.setIfInBounds_toArray, List.set_cons_zero, List.set_cons_succ]
    refine wpAnyH_take (i := 13) (v := undef) rfl (by kernel_rfl) (by kernel_rfl) (by kernel_rfl) (fun _ _ _ h => h) (Or.inr ⟨by kernel_rfl, rfl⟩) (by assumption) ?_
    try simp only [Act.put, List.setIfInBounds_toArray, List.set_cons_zero, List.set_cons_succ]
    refine wpAnyH_take (i := 14) (v := undef) rfl (by kernel_rfl) (by kernel_rfl) (by kernel_rfl) (fun _ _ _ h => h) (Or.inr ⟨by kernel_rfl, rfl⟩) (by assumption) ?_
    try simp only [Act.put, List.setIfInBounds_toArray, List.set_cons_zero, List.set_cons_succ]
    refine wpAnyH_take (i := 15) (v := ?_) rfl (by kernel_rfl) (by kernel_rfl) (by kernel_rfl) (fun _ _ _ h => h) (Or.inl ⟨by kernel_rfl, ?_⟩) (by assumption) ?_
    rotate_left
    · intro w hSw
      (try dsimp only at hSw)
      go_simp
      try with_reducible rfl
    try simp only [Act.put, List.setIfInBounds_toArray, List.set_cons_zero, List.set_cons_succ]
    refine wpAnyH_ready (rs := [16]) (by kernel_rfl) (by simp) ?_
    refine AllReadyH.cons rfl (fun K hK => ?_) AllReadyH.nil
    go_simp
    go_wp2_with fail
    refine hK.out _ _ (by rw [hw9] at g0 g1 g3; (try rw [show (ByteArray.mk #[]) = ByteArray.empty from rfl]); exact ⟨g0, g1, g3⟩) (fun hHeld => ?_)
    clear hK K
    try simp only [Act.put, List.setIfInBounds_toArray, List.set_cons_zero, List.set_cons_succ]
    refine wpAnyH_take (i := 17) (v := ?_) rfl (by kernel_rfl) (by kernel_rfl) (by kernel_rfl) (fun _ _ _ h => h) (Or.inl ⟨by kernel_rfl, ?_⟩) (by assumption) ?_
    rotate_left
    · intro w hSw
      (try dsimp only at hSw)
      go_simp
      try with_reducible rfl
    try simp only [Act.put, List.setIfInBounds_toArray, List.set_cons_zero, List.set_cons_succ]
    refine wpAnyH_done (by kernel_rfl) ?_ _
    go_simp
    refine NoPanic.normal ?_
    refine a9 _ _ ?_
    go_wp2_with fail
    (try rw [show (ByteArray.mk #[]) = ByteArray.empty from rfl])
    rw [← hw9]
    refine bodyPost_ret (v := .tuple #[.agg #[.int .i64 n, .int .i64 a, .int .i64 0, .string s, .string ByteArray.empty], .bool _]) (by simp [results, Try.results32, go_sem, q0, q1, q2, q3, q4] <;> rfl) rfl ⟨by simp, B9.out⟩
  | true =>
    refine wp_region_noPanic ?_
    refine wp_region_held_drew (S := (fun w' => w'.cell? ⟨X, 0, none⟩ = some (.int .i64 n) ∧ w'.cell? ⟨X, 1, none⟩ = some (.int .i64 a) ∧ w'.cell? ⟨X, 3, none⟩ = some (.string s))) (by kernel_rfl) ⟨c0, c1, c3⟩ (fun hHeld => ?_)
    refine wpAnyH_take (i := 0) (v := ?_) rfl (by kernel_rfl) (by kernel_rfl) (by kernel_rfl) (fun _ _ _ h => h) (Or.inl ⟨by kernel_rfl, ?_⟩) (by assumption) ?_
    rotate_left
    · intro w hSw
      (try dsimp only at hSw)
      go_simp
      try with_reducible rfl
    try simp only [Act.put, List.setIfInBounds_toArray, List.set_cons_zero, List.set_cons_succ]
    refine wpAnyH_take (i := 1) (v := ?_) rfl (by kernel_rfl) (by kernel_rfl) (by kernel_rfl) (fun _ _ _ h => h) (Or.inl ⟨by kernel_rfl, ?_⟩) (by assumption) ?_
    rotate_left
    · intro w hSw
      (try dsimp only at hSw)
      go_simp
      try with_reducible rfl
    try simp only [Act.put, List.setIfInBounds_toArray, List.set_cons_zero, List.set_cons_succ]
    refine wpAnyH_take (i := 2) (v := ?_) rfl (by kernel_rfl) (by kernel_rfl) (by kernel_rfl) (fun _ _ _ h => h) (Or.inl ⟨by kernel_rfl, ?_⟩) (by assumption) ?_
    rotate_left
    · intro w hSw
      (try dsimp only at hSw)
      go_simp
      try with_reducible rfl
    try simp only [Act.put, List.setIfInBounds_toArray, List.set_cons_zero, List.set_cons_succ]
    refine wpAnyH_take (i := 3) (v := ?_) rfl (by kernel_rfl) (by kernel_rfl) (by kernel_rfl) (fun _ _ _ h => h) (Or.inl ⟨by kernel_rfl, ?_⟩) (by assumption) ?_
    rotate_left
    · intro w hSw
      (try dsimp only at hSw)
      go_simp
      try with_reducible rfl
    try simp only [Act.put, List.setIfInBounds_toArray, List.set_cons_zero, List.set_cons_succ]
    refine wpAnyH_take (i := 4) (v := ?_) rfl (by kernel_rfl) (by kernel_rfl) (by kernel_rfl) (fun _ _ _ h => h) (Or.inl ⟨by kernel_rfl, ?_⟩) (by assumption) ?_
    rotate_left
    · intro w hSw
      (try dsimp only at hSw)
      go_simp
      try with_reducible rfl
    try simp only [Act.put, List.setIfInBounds_toArray, List.set_cons_zero, List.set_cons_succ]
    refine wpAnyH_take (i := 5) (v := ?_) rfl (by kernel_rfl) (by kernel_rfl) (by kernel_rfl) (fun _ _ _ h => h) (Or.inl ⟨by kernel_rfl, ?_⟩) (by assumption) ?_
    rotate_left
    · intro w hSw
      (try dsimp only at hSw)
      go_simp
      try with_reducible rfl
    try simp only [Act.put, List.setIfInBounds_toArray, List.set_cons_zero, List.set_cons_succ]
    refine wpAnyH_take (i := 6) (v := ?_) rfl (by kernel_rfl) (by kernel_rfl) (by kernel_rfl) (fun _ _ _ h => h) (Or.inl ⟨by kernel_rfl, ?_⟩) (by assumption) ?_
    rotate_left
    · intro w hSw
      (try dsimp only at hSw)
      go_simp
      try with_reducible rfl
    try simp only [Act.put, List.setIfInBounds_toArray, List.set_cons_zero, List.set_cons_succ]
    refine wpAnyH_take (i := 7) (v := ?_) rfl (by kernel_rfl) (by kernel_rfl) (by kernel_rfl) (fun _ _ _ h => h) (Or.inl ⟨by kernel_rfl, ?_⟩) (by assumption) ?_
    rotate_left
    · intro w hSw
      (try dsimp only at hSw)
      go_simp
      try with_reducible rfl
    try simp only [Act.put, List.setIfInBounds_toArray, List.set_cons_zero, List.set_cons_succ]
    refine wpAnyH_take (i := 8) (v := ?_) rfl (by kernel_rfl) (by kernel_rfl) (by kernel_rfl) (fun _ _ _ h => h) (Or.inl ⟨by kernel_rfl, ?_⟩) (by assumption) ?_
    rotate_left
    · intro w hSw
      (try dsimp only at hSw)
      go_simp
      try with_reducible rfl
    try simp only [Act.put, List.setIfInBounds_toArray, List.set_cons_zero, List.set_cons_succ]
    refine wpAnyH_ready (rs := [9]) (by kernel_rfl) (by simp) ?_
    refine AllReadyH.cons rfl (fun K hK => ?_) AllReadyH.nil
    go_simp
    go_at_call 41
    refine (Kp.out _).mono ?_
    rintro e w2 ⟨rfl, rfl⟩
    go_wp2_with fail
    refine hK.out _ _ ⟨c0, c1, c3⟩ (fun hHeld => ?_)
    clear hK K
    try simp only [Act.put, List.setIfInBounds_toArray, List.set_cons_zero, List.set_cons_succ]
    refine wpAnyH_take (i := 10) (v := ?_) rfl (by kernel_rfl) (by kernel_rfl) (by kernel_rfl) (fun _ _ _ h => h) (Or.inl ⟨by kernel_rfl, ?_⟩) (by assumption) ?_
    rotate_left
    · intro w hSw
      (try dsimp only at hSw)
      go_simp
      try with_reducible rfl
    try simp only [Act.put, List.setIfInBounds_toArray, List.set_cons_zero, List.set_cons_succ]
    refine wpAnyH_take (i := 11) (v := ?_) rfl (by kernel_rfl) (by kernel_rfl) (by kernel_rfl) (fun _ _ _ h => h) (Or.inl ⟨by kernel_rfl, ?_⟩) (by assumption) ?_
    rotate_left
    · intro w hSw
      (try dsimp only at hSw)
      go_simp
      try with_reducible rfl
    try simp only [Act.put, List.setIfInBounds_toArray, List.set_cons_zero, List.set_cons_succ]
    refine wpAnyH_take (i := 12) (v := ?_) rfl (by kernel_rfl) (by kernel_rfl) (by kernel_rfl) (fun _ _ _ h => h) (Or.inl ⟨by kernel_rfl, ?_⟩) (by assumption) ?_
    rotate_left
    · intro w hSw
      (try dsimp only at hSw)
      go_simp
      try with_reducible rfl
    try simp only [Act.put, List.setIfInBounds_toArray, List.set_cons_zero, List.set_cons_succ]
    refine wpAnyH_take (i := 13) (v := ?_) rfl (by kernel_rfl) (by kernel_rfl) (by kernel_rfl) (fun _ _ _ h => h) (Or.inl ⟨by kernel_rfl, ?_⟩) (by assumption) ?_
    rotate_left
    · intro w hSw
      (try dsimp only at hSw)
      go_simp
      try with_reducible rfl
    try simp only [Act.put, List.setIfInBounds_toArray, List.set_cons_zero, List.set_cons_succ]
    refine wpAnyH_take (i := 14) (v := ?_) rfl (by kernel_rfl) (by kernel_rfl) (by kernel_rfl) (fun _ _ _ h => h) (Or.inl ⟨by kernel_rfl, ?_⟩) (by assumption) ?_
    rotate_left
    · intro w hSw
      (try dsimp only at hSw)
      go_simp
      try with_reducible rfl
    try simp only [Act.put, List.setIfInBounds_toArray, List.set_cons_zero, List.set_cons_succ]
    refine wpAnyH_take (i := 15) (v := ?_) rfl (by kernel_rfl) (by kernel_rfl) (by kernel_rfl) (fun _ _ _ h => h) (Or.inl ⟨by kernel_rfl, ?_⟩) (by assumption) ?_
    rotate_left
    · intro w hSw
      (try dsimp only at hSw)
      go_simp
      try with_reducible rfl
    try simp only [Act.put, List.setIfInBounds_toArray, List.set_cons_zero, List.set_cons_succ]
    refine wpAnyH_ready (rs := [16]) (by kernel_rfl) (by simp) ?_
    refine AllReadyH.cons rfl (fun K hK => ?_) AllReadyH.nil
    go_simp
    go_wp2_with fail
    refine hK.out _ _ (by rw [hw9] at g0 g1 g3; (try rw [show (ByteArray.mk #[]) = ByteArray.empty from rfl]); exact ⟨g0, g1, g3⟩) (fun hHeld => ?_)
    clear hK K
    try simp only [Act.put, List.setIfInBounds_toArray, List.set_cons_zero, List.set_cons_succ]
    refine wpAnyH_take (i := 17) (v := ?_) rfl (by kernel_rfl) (by kernel_rfl) (by kernel_rfl) (fun _ _ _ h => h) (Or.inl ⟨by kernel_rfl, ?_⟩) (by assumption) ?_
    rotate_left
    · intro w hSw
      (try dsimp only at hSw)
      go_simp
      try with_reducible rfl
    try simp only [Act.put, List.setIfInBounds_toArray, List.set_cons_zero, List.set_cons_succ]
    refine wpAnyH_done (by kernel_rfl) ?_ _
    go_simp
    refine NoPanic.normal ?_
    refine a9 _ _ ?_
    go_wp2_with fail
    (try rw [show (ByteArray.mk #[]) = ByteArray.empty from rfl])
    rw [← hw9]
    refine bodyPost_ret (v := .tuple #[.agg #[.int .i64 n, .int .i64 a, .int .i64 0, .string s, .string ByteArray.empty], .bool _]) (by simp [results, Try.results32, go_sem, q0, q1, q2, q3, q4] <;> rfl) rfl ⟨by simp, B9.out⟩
theorem built_bareCall (n : Int) : Try.prog.built 23 [(0, .int .i64 n)] = some #[.int .i64 n, .int .i64 0, .int .i64 0, .string ByteArray.empty, .string ByteArray.empty] := by kernel_rfl
set_option maxRecDepth 10000 in
set_option maxHeartbeats 8000000 in
theorem bareCall_any (w : World) (n a b : Int) (s t : ByteArray) : Calls Try.prog 35 #[.agg #[.int .i64 n, .int .i64 a, .int .i64 b, .string s, .string t]] w fun e w' => e = .returned (.tuple #[.agg #[.int .i64 n, .int .i64 0, .int .i64 0, .string ByteArray.empty, .string ByteArray.empty], .bool (true)]) ∧ Below w.heap.size w w' := by
  have hb := built_bareCall n
  obtain ⟨w1, hw1⟩ : ∃ w1, w1 = (w.alloc (.cells #[.int .i64 n, .int .i64 a, .int .i64 b, .string s, .string t] 23)).alloc (.cells #[.int .i64 n, .int .i64 0, .int .i64 0, .string ByteArray.empty, .string ByteArray.empty] 23) := ⟨_, rfl⟩
  have Y1 := hide (show ClAt w1 (w.heap.size + 1) (n) (0) (0) (ByteArray.empty) (ByteArray.empty) from by rw [hw1]; exact (two_blocks w _ _).2)
  have B1 := hide (show Below w.heap.size w w1 from by rw [hw1]; exact (((Below.refl w.heap.size w).alloc (Nat.le_refl _) _).alloc (by simp) _))
  have HW := hide hw1
  clear hw1
  go_enter Try.func35, Try.ntmps35
  go_wp2_with (first | (refine wpList_build rfl 23 _ rfl (by kernel_rfl) ?_))
  (try rw [show (ByteArray.mk #[]) = ByteArray.empty from rfl])
  rw [← HW.out]
  obtain ⟨q0, q1, q2, q3, q4⟩ := Y1.out.cells
  refine bodyPost_ret (v := .tuple #[.agg #[.int .i64 n, .int .i64 0, .int .i64 0, .string ByteArray.empty, .string ByteArray.empty], .bool _]) (by simp [results, Try.results35, go_sem, q0, q1, q2, q3, q4] <;> rfl) rfl ⟨rfl, B1.out⟩
theorem built_bareStep (k : Int) : Try.prog.built 25 [(0, .int .i64 k)] = some #[.int .i64 k, .int .i64 0, .int .i64 0, .int .i64 0, .int .i64 0, .int .i64 0, .int .i64 0, .string ByteArray.empty, .string ByteArray.empty] := by kernel_rfl
set_option maxRecDepth 10000 in
set_option maxHeartbeats 8000000 in
theorem bareStep_any (w : World) (k a b c n x y : Int) (s t : ByteArray) : Calls Try.prog 24 #[.agg #[.int .i64 k, .int .i64 a, .int .i64 b, .int .i64 c, .int .i64 n, .int .i64 x, .int .i64 y, .string s, .string t]] w fun e w' => e = .returned (.tuple #[.agg #[.int .i64 k, .int .i64 0, .int .i64 0, .int .i64 0, .int .i64 0, .int .i64 0, .int .i64 0, .string ByteArray.empty, .string ByteArray.empty], .bool (true)]) ∧ Below w.heap.size w w' := by
  have hb := built_bareStep k
  obtain ⟨w1, hw1⟩ : ∃ w1, w1 = (w.alloc (.cells #[.int .i64 k, .int .i64 a, .int .i64 b, .int .i64 c, .int .i64 n, .int .i64 x, .int .i64 y, .string s, .string t] 25)).alloc (.cells #[.int .i64 k, .int .i64 0, .int .i64 0, .int .i64 0, .int .i64 0, .int .i64 0, .int .i64 0, .string ByteArray.empty, .string ByteArray.empty] 25) := ⟨_, rfl⟩
  have Y1 := hide (show StAt w1 (w.heap.size + 1) (k) (0) (0) (0) (0) (0) (0) (ByteArray.empty) (ByteArray.empty) from by rw [hw1]; exact (two_blocks w _ _).2)
  have B1 := hide (show Below w.heap.size w w1 from by rw [hw1]; exact (((Below.refl w.heap.size w).alloc (Nat.le_refl _) _).alloc (by simp) _))
  have HW := hide hw1
  clear hw1
  go_enter Try.func24, Try.ntmps24
  go_wp2_with (first | (refine wpList_build rfl 25 _ rfl (by kernel_rfl) ?_))
  (try rw [show (ByteArray.mk #[]) = ByteArray.empty from rfl])
  rw [← HW.out]
  obtain ⟨q0, q1, q2, q3, q4, q5, q6, q7, q8⟩ := Y1.out.cells
  refine bodyPost_ret (v := .tuple #[.agg #[.int .i64 k, .int .i64 0, .int .i64 0, .int .i64 0, .int .i64 0, .int .i64 0, .int .i64 0, .string ByteArray.empty, .string ByteArray.empty], .bool _]) (by simp [results, Try.results24, go_sem, q0, q1, q2, q3, q4, q5, q6, q7, q8] <;> rfl) rfl ⟨rfl, B1.out⟩
set_option maxRecDepth 10000 in
set_option maxHeartbeats 8000000 in
theorem strangeC_any (w : World) (n a b : Int) (s t : ByteArray) : Calls Try.prog 36 #[.agg #[.int .i64 n, .int .i64 a, .int .i64 b, .string s, .string t]] w fun e w' => e = .returned (.tuple #[.agg #[.int .i64 n, .int .i64 a, .int .i64 b, .string s, .string t], .bool (false)]) ∧ Below w.heap.size w w' := by
  obtain ⟨w1, hw1⟩ : ∃ w1, w1 = (w.alloc (.cells #[.int .i64 n, .int .i64 a, .int .i64 b, .string s, .string t] 23)).alloc (.cells #[.int .i64 n, .int .i64 a, .int .i64 b, .string s, .string t] 23) := ⟨_, rfl⟩
  have Y1 := hide (show ClAt w1 (w.heap.size + 1) (n) (a) (b) (s) (t) from by rw [hw1]; exact (two_blocks w _ _).2)
  have B1 := hide (show Below w.heap.size w w1 from by rw [hw1]; exact (((Below.refl w.heap.size w).alloc (Nat.le_refl _) _).alloc (by simp) _))
  have HW := hide hw1
  clear hw1
  go_enter Try.func36, Try.ntmps36
  go_wp2_with (first | (refine wpList_build rfl 23 _ rfl (by kernel_rfl) ?_))
  (try rw [show (ByteArray.mk #[]) = ByteArray.empty from rfl])
  rw [← HW.out]
  obtain ⟨q0, q1, q2, q3, q4⟩ := Y1.out.cells
  refine bodyPost_ret (v := .tuple #[.agg #[.int .i64 n, .int .i64 a, .int .i64 b, .string s, .string t], .bool _]) (by simp [results, Try.results36, go_sem, q0, q1, q2, q3, q4] <;> rfl) rfl ⟨rfl, B1.out⟩
set_option maxRecDepth 10000 in
set_option maxHeartbeats 8000000 in
theorem strangeS_any (w : World) (k a b c n x y : Int) (s t : ByteArray) : Calls Try.prog 28 #[.agg #[.int .i64 k, .int .i64 a, .int .i64 b, .int .i64 c, .int .i64 n, .int .i64 x, .int .i64 y, .string s, .string t]] w fun e w' => e = .returned (.tuple #[.agg #[.int .i64 k, .int .i64 a, .int .i64 b, .int .i64 c, .int .i64 n, .int .i64 x, .int .i64 y, .string s, .string t], .bool (false)]) ∧ Below w.heap.size w w' := by
  obtain ⟨w1, hw1⟩ : ∃ w1, w1 = (w.alloc (.cells #[.int .i64 k, .int .i64 a, .int .i64 b, .int .i64 c, .int .i64 n, .int .i64 x, .int .i64 y, .string s, .string t] 25)).alloc (.cells #[.int .i64 k, .int .i64 a, .int .i64 b, .int .i64 c, .int .i64 n, .int .i64 x, .int .i64 y, .string s, .string t] 25) := ⟨_, rfl⟩
  have Y1 := hide (show StAt w1 (w.heap.size + 1) (k) (a) (b) (c) (n) (x) (y) (s) (t) from by rw [hw1]; exact (two_blocks w _ _).2)
  have B1 := hide (show Below w.heap.size w w1 from by rw [hw1]; exact (((Below.refl w.heap.size w).alloc (Nat.le_refl _) _).alloc (by simp) _))
  have HW := hide hw1
  clear hw1
  go_enter Try.func28, Try.ntmps28
  go_wp2_with (first | (refine wpList_build rfl 25 _ rfl (by kernel_rfl) ?_))
  (try rw [show (ByteArray.mk #[]) = ByteArray.empty from rfl])
  rw [← HW.out]
  obtain ⟨q0, q1, q2, q3, q4, q5, q6, q7, q8⟩ := Y1.out.cells
  refine bodyPost_ret (v := .tuple #[.agg #[.int .i64 k, .int .i64 a, .int .i64 b, .int .i64 c, .int .i64 n, .int .i64 x, .int .i64 y, .string s, .string t], .bool _]) (by simp [results, Try.results28, go_sem, q0, q1, q2, q3, q4, q5, q6, q7, q8] <;> rfl) rfl ⟨rfl, B1.out⟩
theorem built_waitStep (k : Int) (a : Int) (b : Int) (c : Int) : Try.prog.built 25 [(0, .int .i64 k), (1, .int .i64 a), (2, .int .i64 b), (3, .int .i64 c)] = some #[.int .i64 k, .int .i64 a, .int .i64 b, .int .i64 c, .int .i64 0, .int .i64 0, .int .i64 0, .string ByteArray.empty, .string ByteArray.empty] := by kernel_rfl
set_option maxRecDepth 10000 in
set_option maxHeartbeats 8000000 in
theorem waitStep_any (w : World) (k a b c n x y : Int) (s t : ByteArray) : Calls Try.prog 26 #[.agg #[.int .i64 k, .int .i64 a, .int .i64 b, .int .i64 c, .int .i64 n, .int .i64 x, .int .i64 y, .string s, .string t]] w fun e w' => e = .returned (.tuple #[.agg #[.int .i64 k, .int .i64 a, .int .i64 b, .int .i64 c, .int .i64 0, .int .i64 0, .int .i64 0, .string ByteArray.empty, .string ByteArray.empty], .bool (withinB a 0 3 && withinB b 0 5 && withinB c 0 1000)]) ∧ Below w.heap.size w w' := by
  obtain ⟨p, hp⟩ : ∃ q : Bool, q = withinB a 0 3 := ⟨_, rfl⟩
  have Kp := hide (show ∀ W, Calls Try.prog 38 #[.int .i64 a, .int .i64 0, .int .i64 3] W fun e w' => e = .returned (.bool p) ∧ w' = W from fun W => by rw [hp]; exact within_any W _ _ _)
  obtain ⟨q, hq⟩ : ∃ q : Bool, q = withinB b 0 5 := ⟨_, rfl⟩
  have Kq := hide (show ∀ W, Calls Try.prog 38 #[.int .i64 b, .int .i64 0, .int .i64 5] W fun e w' => e = .returned (.bool q) ∧ w' = W from fun W => by rw [hq]; exact within_any W _ _ _)
  obtain ⟨r, hr⟩ : ∃ q : Bool, q = withinB c 0 1000 := ⟨_, rfl⟩
  have Kr := hide (show ∀ W, Calls Try.prog 38 #[.int .i64 c, .int .i64 0, .int .i64 1000] W fun e w' => e = .returned (.bool r) ∧ w' = W from fun W => by rw [hr]; exact within_any W _ _ _)
  rw [← hp, ← hq, ← hr]
  clear hp hq hr
  have hb := built_waitStep k a b c
  obtain ⟨w1, hw1⟩ : ∃ w1, w1 = (w.alloc (.cells #[.int .i64 k, .int .i64 a, .int .i64 b, .int .i64 c, .int .i64 n, .int .i64 x, .int .i64 y, .string s, .string t] 25)).alloc (.cells #[.int .i64 k, .int .i64 a, .int .i64 b, .int .i64 c, .int .i64 0, .int .i64 0, .int .i64 0, .string ByteArray.empty, .string ByteArray.empty] 25) := ⟨_, rfl⟩
  have Y1 := hide (show StAt w1 (w.heap.size + 1) (k) (a) (b) (c) (0) (0) (0) (ByteArray.empty) (ByteArray.empty) from by rw [hw1]; exact (two_blocks w _ _).2)
  have B1 := hide (show Below w.heap.size w w1 from by rw [hw1]; exact (((Below.refl w.heap.size w).alloc (Nat.le_refl _) _).alloc (by simp) _))
  have HW := hide hw1
  clear hw1
  cases p with
  | false =>
    cases q with
    | false =>
      cases r with
      | false =>
        go_enter Try.func26, Try.ntmps26
        go_wp2_with (first | (refine wpList_build rfl 25 _ rfl (by kernel_rfl) ?_) | (go_at_call 38; with_reducible refine (Kp.out _).mono ?_; rintro e w2 ⟨rfl, rfl⟩) | (go_at_call 38; with_reducible refine (Kq.out _).mono ?_; rintro e w2 ⟨rfl, rfl⟩) | (go_at_call 38; with_reducible refine (Kr.out _).mono ?_; rintro e w2 ⟨rfl, rfl⟩))
        (try rw [show (ByteArray.mk #[]) = ByteArray.empty from rfl])
        rw [← HW.out]
        obtain ⟨q0, q1, q2, q3, q4, q5, q6, q7, q8⟩ := Y1.out.cells
        refine bodyPost_ret (v := .tuple #[.agg #[.int .i64 k, .int .i64 a, .int .i64 b, .int .i64 c, .int .i64 0, .int .i64 0, .int .i64 0, .string ByteArray.empty, .string ByteArray.empty], .bool _]) (by simp [results, Try.results26, go_sem, q0, q1, q2, q3, q4, q5, q6, q7, q8] <;> rfl) rfl ⟨by simp, B1.out⟩
      | true =>
        go_enter Try.func26, Try.ntmps26
        go_wp2_with (first | (refine wpList_build rfl 25 _ rfl (by kernel_rfl) ?_) | (go_at_call 38; with_reducible refine (Kp.out _).mono ?_; rintro e w2 ⟨rfl, rfl⟩) | (go_at_call 38; with_reducible refine (Kq.out _).mono ?_; rintro e w2 ⟨rfl, rfl⟩) | (go_at_call 38; with_reducible refine (Kr.out _).mono ?_; rintro e w2 ⟨rfl, rfl⟩))
        (try rw [show (ByteArray.mk #[]) = ByteArray.empty from rfl])
        rw [← HW.out]
        obtain ⟨q0, q1, q2, q3, q4, q5, q6, q7, q8⟩ := Y1.out.cells
        refine bodyPost_ret (v := .tuple #[.agg #[.int .i64 k, .int .i64 a, .int .i64 b, .int .i64 c, .int .i64 0, .int .i64 0, .int .i64 0, .string ByteArray.empty, .string ByteArray.empty], .bool _]) (by simp [results, Try.results26, go_sem, q0, q1, q2, q3, q4, q5, q6, q7, q8] <;> rfl) rfl ⟨by simp, B1.out⟩
    | true =>
      cases r with
      | false =>
        go_enter Try.func26, Try.ntmps26
        go_wp2_with (first | (refine wpList_build rfl 25 _ rfl (by kernel_rfl) ?_) | (go_at_call 38; with_reducible refine (Kp.out _).mono ?_; rintro e w2 ⟨rfl, rfl⟩) | (go_at_call 38; with_reducible refine (Kq.out _).mono ?_; rintro e w2 ⟨rfl, rfl⟩) | (go_at_call 38; with_reducible refine (Kr.out _).mono ?_; rintro e w2 ⟨rfl, rfl⟩))
        (try rw [show (ByteArray.mk #[]) = ByteArray.empty from rfl])
        rw [← HW.out]
        obtain ⟨q0, q1, q2, q3, q4, q5, q6, q7, q8⟩ := Y1.out.cells
        refine bodyPost_ret (v := .tuple #[.agg #[.int .i64 k, .int .i64 a, .int .i64 b, .int .i64 c, .int .i64 0, .int .i64 0, .int .i64 0, .string ByteArray.empty, .string ByteArray.empty], .bool _]) (by simp [results, Try.results26, go_sem, q0, q1, q2, q3, q4, q5, q6, q7, q8] <;> rfl) rfl ⟨by simp, B1.out⟩
      | true =>
        go_enter Try.func26, Try.ntmps26
        go_wp2_with (first | (refine wpList_build rfl 25 _ rfl (by kernel_rfl) ?_) | (go_at_call 38; with_reducible refine (Kp.out _).mono ?_; rintro e w2 ⟨rfl, rfl⟩) | (go_at_call 38; with_reducible refine (Kq.out _).mono ?_; rintro e w2 ⟨rfl, rfl⟩) | (go_at_call 38; with_reducible refine (Kr.out _).mono ?_; rintro e w2 ⟨rfl, rfl⟩))
        (try rw [show (ByteArray.mk #[]) = ByteArray.empty from rfl])
        rw [← HW.out]
        obtain ⟨q0, q1, q2, q3, q4, q5, q6, q7, q8⟩ := Y1.out.cells
        refine bodyPost_ret (v := .tuple #[.agg #[.int .i64 k, .int .i64 a, .int .i64 b, .int .i64 c, .int .i64 0, .int .i64 0, .int .i64 0, .string ByteArray.empty, .string ByteArray.empty], .bool _]) (by simp [results, Try.results26, go_sem, q0, q1, q2, q3, q4, q5, q6, q7, q8] <;> rfl) rfl ⟨by simp, B1.out⟩
  | true =>
    cases q with
    | false =>
      cases r with
      | false =>
        go_enter Try.func26, Try.ntmps26
        go_wp2_with (first | (refine wpList_build rfl 25 _ rfl (by kernel_rfl) ?_) | (go_at_call 38; with_reducible refine (Kp.out _).mono ?_; rintro e w2 ⟨rfl, rfl⟩) | (go_at_call 38; with_reducible refine (Kq.out _).mono ?_; rintro e w2 ⟨rfl, rfl⟩) | (go_at_call 38; with_reducible refine (Kr.out _).mono ?_; rintro e w2 ⟨rfl, rfl⟩))
        (try rw [show (ByteArray.mk #[]) = ByteArray.empty from rfl])
        rw [← HW.out]
        obtain ⟨q0, q1, q2, q3, q4, q5, q6, q7, q8⟩ := Y1.out.cells
        refine bodyPost_ret (v := .tuple #[.agg #[.int .i64 k, .int .i64 a, .int .i64 b, .int .i64 c, .int .i64 0, .int .i64 0, .int .i64 0, .string ByteArray.empty, .string ByteArray.empty], .bool _]) (by simp [results, Try.results26, go_sem, q0, q1, q2, q3, q4, q5, q6, q7, q8] <;> rfl) rfl ⟨by simp, B1.out⟩
      | true =>
        go_enter Try.func26, Try.ntmps26
        go_wp2_with (first | (refine wpList_build rfl 25 _ rfl (by kernel_rfl) ?_) | (go_at_call 38; with_reducible refine (Kp.out _).mono ?_; rintro e w2 ⟨rfl, rfl⟩) | (go_at_call 38; with_reducible refine (Kq.out _).mono ?_; rintro e w2 ⟨rfl, rfl⟩) | (go_at_call 38; with_reducible refine (Kr.out _).mono ?_; rintro e w2 ⟨rfl, rfl⟩))
        (try rw [show (ByteArray.mk #[]) = ByteArray.empty from rfl])
        rw [← HW.out]
        obtain ⟨q0, q1, q2, q3, q4, q5, q6, q7, q8⟩ := Y1.out.cells
        refine bodyPost_ret (v := .tuple #[.agg #[.int .i64 k, .int .i64 a, .int .i64 b, .int .i64 c, .int .i64 0, .int .i64 0, .int .i64 0, .string ByteArray.empty, .string ByteArray.empty], .bool _]) (by simp [results, Try.results26, go_sem, q0, q1, q2, q3, q4, q5, q6, q7, q8] <;> rfl) rfl ⟨by simp, B1.out⟩
    | true =>
      cases r with
      | false =>
        go_enter Try.func26, Try.ntmps26
        go_wp2_with (first | (refine wpList_build rfl 25 _ rfl (by kernel_rfl) ?_) | (go_at_call 38; with_reducible refine (Kp.out _).mono ?_; rintro e w2 ⟨rfl, rfl⟩) | (go_at_call 38; with_reducible refine (Kq.out _).mono ?_; rintro e w2 ⟨rfl, rfl⟩) | (go_at_call 38; with_reducible refine (Kr.out _).mono ?_; rintro e w2 ⟨rfl, rfl⟩))
        (try rw [show (ByteArray.mk #[]) = ByteArray.empty from rfl])
        rw [← HW.out]
        obtain ⟨q0, q1, q2, q3, q4, q5, q6, q7, q8⟩ := Y1.out.cells
        refine bodyPost_ret (v := .tuple #[.agg #[.int .i64 k, .int .i64 a, .int .i64 b, .int .i64 c, .int .i64 0, .int .i64 0, .int .i64 0, .string ByteArray.empty, .string ByteArray.empty], .bool _]) (by simp [results, Try.results26, go_sem, q0, q1, q2, q3, q4, q5, q6, q7, q8] <;> rfl) rfl ⟨by simp, B1.out⟩
      | true =>
        go_enter Try.func26, Try.ntmps26
        go_wp2_with (first | (refine wpList_build rfl 25 _ rfl (by kernel_rfl) ?_) | (go_at_call 38; with_reducible refine (Kp.out _).mono ?_; rintro e w2 ⟨rfl, rfl⟩) | (go_at_call 38; with_reducible refine (Kq.out _).mono ?_; rintro e w2 ⟨rfl, rfl⟩) | (go_at_call 38; with_reducible refine (Kr.out _).mono ?_; rintro e w2 ⟨rfl, rfl⟩))
        (try rw [show (ByteArray.mk #[]) = ByteArray.empty from rfl])
        rw [← HW.out]
        obtain ⟨q0, q1, q2, q3, q4, q5, q6, q7, q8⟩ := Y1.out.cells
        refine bodyPost_ret (v := .tuple #[.agg #[.int .i64 k, .int .i64 a, .int .i64 b, .int .i64 c, .int .i64 0, .int .i64 0, .int .i64 0, .string ByteArray.empty, .string ByteArray.empty], .bool _]) (by simp [results, Try.results26, go_sem, q0, q1, q2, q3, q4, q5, q6, q7, q8] <;> rfl) rfl ⟨by simp, B1.out⟩
theorem built_callStep (k n x y : Int) (s t : ByteArray) : Try.prog.built 25 [(0, .int .i64 k), (4, .agg #[.int .i64 n, .int .i64 x, .int .i64 y, .string s, .string t])] = some #[.int .i64 k, .int .i64 0, .int .i64 0, .int .i64 0, .int .i64 n, .int .i64 x, .int .i64 y, .string s, .string t] := by kernel_rfl
set_option maxRecDepth 10000 in
set_option maxHeartbeats 8000000 in
theorem callStep_any (m : Bool) (w : World) (k a b c n x y : Int) (s t : ByteArray) (MC : Hid (∀ W : World, Calls Try.prog 10 #[.agg #[.int .i64 n, .int .i64 x, .int .i64 y, .string s, .string t]] W fun e w' => e = .returned (.bool m) ∧ Below W.heap.size W w')) : Calls Try.prog 27 #[.agg #[.int .i64 k, .int .i64 a, .int .i64 b, .int .i64 c, .int .i64 n, .int .i64 x, .int .i64 y, .string s, .string t]] w fun e w' => e = .returned (.tuple #[.agg #[.int .i64 k, .int .i64 0, .int .i64 0, .int .i64 0, .int .i64 n, .int .i64 x, .int .i64 y, .string s, .string t], .bool m]) ∧ Below w.heap.size w w' := by
  have hb := built_callStep k n x y s t
  obtain ⟨w1, hw1⟩ : ∃ w1, w1 = (w.alloc (.cells #[.int .i64 k, .int .i64 a, .int .i64 b, .int .i64 c, .int .i64 n, .int .i64 x, .int .i64 y, .string s, .string t] 25)).alloc (.cells #[.int .i64 0, .int .i64 0, .int .i64 0, .int .i64 0, .int .i64 0, .int .i64 0, .int .i64 0, .string ByteArray.empty, .string ByteArray.empty] 25) := ⟨_, rfl⟩
  have X1 := hide (show StAt w1 w.heap.size k a b c n x y s t from by rw [hw1]; exact (two_blocks w _ _).1)
  have Y1 := hide (show StAt w1 (w.heap.size + 1) (0) (0) (0) (0) (0) (0) (0) (ByteArray.empty) (ByteArray.empty) from by rw [hw1]; exact (two_blocks w _ _).2)
  have B1 := hide (show Below w.heap.size w w1 from by rw [hw1]; exact (((Below.refl w.heap.size w).alloc (Nat.le_refl _) _).alloc (by simp) _))
  have HW := hide hw1
  clear hw1
  go_enter Try.func27, Try.ntmps27
  go_upto_region 1 with fail
  rename_i Q9 K9 a9
  rw [show (ByteArray.mk #[]) = ByteArray.empty from rfl, ← HW.out]
  obtain ⟨Y, hY⟩ : ∃ Y, Y = w.heap.size + 1 := ⟨_, rfl⟩
  obtain ⟨X, hX⟩ : ∃ X, X = w.heap.size := ⟨_, rfl⟩
  rw [← hY, ← hX]
  rw [← hX] at X1
  rw [← hY] at Y1
  have NE := hide (show X ≠ Y from by omega)
  have LY := hide (show w.heap.size ≤ Y from by omega)
  clear hX hY HW
  obtain ⟨c0, c1, c2, c3, c4, c5, c6, c7, c8⟩ := X1.out.cells
  refine wp_region_noPanic ?_
  refine wp_region_held_drew (S := (fun w' => w'.cell? ⟨X, 0, none⟩ = some (.int .i64 k) ∧ w'.cell? ⟨X, 4, none⟩ = some (.int .i64 n) ∧ w'.cell? ⟨X, 5, none⟩ = some (.int .i64 x) ∧ w'.cell? ⟨X, 6, none⟩ = some (.int .i64 y) ∧ w'.cell? ⟨X, 7, none⟩ = some (.string s) ∧ w'.cell? ⟨X, 8, none⟩ = some (.string t))) (by kernel_rfl) ⟨c0, c4, c5, c6, c7, c8⟩ (fun hHeld => ?_)
  refine wpAnyH_take (i := 0) (v := ?_) rfl (by kernel_rfl) (by kernel_rfl) (by kernel_rfl) (fun _ _ _ h => h) (Or.inl ⟨by kernel_rfl, ?_⟩) (by assumption) ?_
  rotate_left
  · intro w hSw
    (try dsimp only at hSw)
    go_simp
    try with_reducible rfl
  try simp only [Act.put, List.setIfInBounds_toArray, List.set_cons_zero, List.set_cons_succ]
  refine wpAnyH_take (i := 1) (v := ?_) rfl (by kernel_rfl) (by kernel_rfl) (by kernel_rfl) (fun _ _ _ h => h) (Or.inl ⟨by kernel_rfl, ?_⟩) (by assumption) ?_
  rotate_left
  · intro w hSw
    (try dsimp only at hSw)
    go_simp
    try with_reducible rfl
  try simp only [Act.put, List.setIfInBounds_toArray, List.set_cons_zero, List.set_cons_succ]
  refine wpAnyH_take (i := 2) (v := ?_) rfl (by kernel_rfl) (by kernel_rfl) (by kernel_rfl) (fun _ _ _ h => h) (Or.inl ⟨by kernel_rfl, ?_⟩) (by assumption) ?_
  rotate_left
  · intro w hSw
    (try dsimp only at hSw)
    go_simp
    try with_reducible rfl
  try simp only [Act.put, List.setIfInBounds_toArray, List.set_cons_zero, List.set_cons_succ]
  refine wpAnyH_take (i := 3) (v := ?_) rfl (by kernel_rfl) (by kernel_rfl) (by kernel_rfl) (fun _ _ _ h => h) (Or.inl ⟨by kernel_rfl, ?_⟩) (by assumption) ?_
  rotate_left
  · intro w hSw
    (try dsimp only at hSw)
    go_simp
    try with_reducible rfl
  try simp only [Act.put, List.setIfInBounds_toArray, List.set_cons_zero, List.set_cons_succ]
  refine wpAnyH_take (i := 4) (v := ?_) rfl (by kernel_rfl) (by kernel_rfl) (by kernel_rfl) (fun _ _ _ h => h) (Or.inl ⟨by kernel_rfl, ?_⟩) (by assumption) ?_
  rotate_left
  · intro w hSw
    (try dsimp only at hSw)
    go_simp
    try with_reducible rfl
  try simp only [Act.put, List.setIfInBounds_toArray, List.set_cons_zero, List.set_cons_succ]
  refine wpAnyH_take (i := 5) (v := ?_) rfl (by kernel_rfl) (by kernel_rfl) (by kernel_rfl) (fun _ _ _ h => h) (Or.inl ⟨by kernel_rfl, ?_⟩) (by assumption) ?_
  rotate_left
  · intro w hSw
    (try dsimp only at hSw)
    go_simp
    try with_reducible rfl
  try simp only [Act.put, List.setIfInBounds_toArray, List.set_cons_zero, List.set_cons_succ]
  refine wpAnyH_take (i := 6) (v := ?_) rfl (by kernel_rfl) (by kernel_rfl) (by kernel_rfl) (fun _ _ _ h => h) (Or.inl ⟨by kernel_rfl, ?_⟩) (by assumption) ?_
  rotate_left
  · intro w hSw
    (try dsimp only at hSw)
    go_simp
    try with_reducible rfl
  try simp only [Act.put, List.setIfInBounds_toArray, List.set_cons_zero, List.set_cons_succ]
  refine wpAnyH_ready (rs := [7]) (by kernel_rfl) (by simp) ?_
  refine AllReadyH.cons rfl (fun K hK => ?_) AllReadyH.nil
  go_simp
  go_at_call 10
  refine (MC.out _).mono ?_
  rintro e w2 ⟨rfl, b2⟩
  have X2 := hide (show StAt w2 X k a b c n x y s t from (b2.block X (lt_of_heap X1.out)).trans X1.out)
  have Y2 := hide (show StAt w2 Y (0) (0) (0) (0) (0) (0) (0) (ByteArray.empty) (ByteArray.empty) from (b2.block Y (lt_of_heap Y1.out)).trans Y1.out)
  have B2 := hide (show Below w.heap.size w w2 from (below_drewN B1.out 1).trans (b2.mono (below_drewN B1.out 1).size))
  clear b2 c0 c1 c2 c3 c4 c5 c6 c7 c8
  obtain ⟨c0, c1, c2, c3, c4, c5, c6, c7, c8⟩ := X2.out.cells
  obtain ⟨d0, d1, d2, d3, d4, d5, d6, d7, d8⟩ := Y2.out.cells
  obtain ⟨f0, f1, f2, f3, f4, f5, f6, f7, f8⟩ := Y2.out.frozen
  obtain ⟨w9, hw9⟩ : ∃ w9, w9 = setSeg w2 Y 0 [.int .i64 k, .int .i64 0, .int .i64 0, .int .i64 0, .int .i64 n, .int .i64 x, .int .i64 y, .string s, .string t] := ⟨_, rfl⟩
  have Y9 := hide (show StAt w9 Y (k) (0) (0) (0) (n) (x) (y) (s) (t) from by rw [hw9]; have e := seg_whole (w := w2) (g := Y) (vs := [.int .i64 k, .int .i64 0, .int .i64 0, .int .i64 0, .int .i64 n, .int .i64 x, .int .i64 y, .string s, .string t]) Y2.out rfl; exact e)
  have T9 := hide (show Touch (fun i => i = Y) w2 w9 from by rw [hw9]; exact setSeg_touch (S := fun i => i = Y) rfl _ _ _ (Touch.refl _ _))
  have B9 := hide (B2.out.trans (T9.out.below B2.out.size (fun i q => by rw [q]; exact LY.out)))
  have g0 := T9.out.cell (p := ⟨X, 0, none⟩) c0 NE.out
  have g4 := T9.out.cell (p := ⟨X, 4, none⟩) c4 NE.out
  have g5 := T9.out.cell (p := ⟨X, 5, none⟩) c5 NE.out
  have g6 := T9.out.cell (p := ⟨X, 6, none⟩) c6 NE.out
  have g7 := T9.out.cell (p := ⟨X, 7, none⟩) c7 NE.out
  have g8 := T9.out.cell (p := ⟨X, 8, none⟩) c8 NE.out
  simp only [setSeg, Nat.reduceAdd, Nat.zero_add] at hw9
  have H9 := hide hw9
  obtain ⟨q0, q1, q2, q3, q4, q5, q6, q7, q8⟩ := Y9.out.cells
  go_wp2_with fail
  refine hK.out _ _ ⟨c0, c4, c5, c6, c7, c8⟩ (fun hHeld => ?_)
  clear hK K
  try simp only [Act.put, List.setIfInBounds_toArray, List.set_cons_zero, List.set_cons_succ]
  refine wpAnyH_ready (rs := [8]) (by kernel_rfl) (by simp) ?_
  refine AllReadyH.cons rfl (fun K hK => ?_) AllReadyH.nil
  go_simp
  go_wp2_with fail
  refine hK.out _ _ (by rw [hw9] at g0 g4 g5 g6 g7 g8; (try rw [show (ByteArray.mk #[]) = ByteArray.empty from rfl]); exact ⟨g0, g4, g5, g6, g7, g8⟩) (fun hHeld => ?_)
  clear hK K
  try simp only [Act.put, List.setIfInBounds_toArray, List.set_cons_zero, List.set_cons_succ]
  refine wpAnyH_take (i := 9) (v := ?_) rfl (by kernel_rfl) (by kernel_rfl) (by kernel_rfl) (fun _ _ _ h => h) (Or.inl ⟨by kernel_rfl, ?_⟩) (by assumption) ?_
  rotate_left
  · intro w hSw
    (try dsimp only at hSw)
    go_simp
    try with_reducible rfl
  try simp only [Act.put, List.setIfInBounds_toArray, List.set_cons_zero, List.set_cons_succ]
  refine wpAnyH_done (by kernel_rfl) ?_ _
  go_simp
  refine NoPanic.normal ?_
  refine a9 _ _ ?_
  go_wp2_with fail
  (try rw [show (ByteArray.mk #[]) = ByteArray.empty from rfl])
  rw [← hw9]
  refine bodyPost_ret (v := .tuple #[.agg #[.int .i64 k, .int .i64 0, .int .i64 0, .int .i64 0, .int .i64 n, .int .i64 x, .int .i64 y, .string s, .string t], .bool _]) (by simp [results, Try.results27, go_sem, q0, q1, q2, q3, q4, q5, q6, q7, q8] <;> rfl) rfl ⟨rfl, B9.out⟩
end Go.Proofs.Ythgoifmmnebkeaa
