/-
  The program's wheel's New.
-/
import Derived.Test.YtpmggiahhjllcaaPwOpsA
namespace Go.Proofs.Ytpmggiahhjllcaa
open Go.ChangeShapes Go.WideShapes Go.ChangeAt Go.RowKit
set_option linter.unusedVariables false
theorem pnew_bad (w : World) (n : Int) (h : n < 0 ∨ 16777216 ≤ n) : Calls Try.prog 10 #[.int .i64 n] w fun e w' => e = .returned (.tuple #[.pointer none, .int .i64 2]) ∧ w = w' := by
  by_cases h1 : n < 0
  · go_enter Try.func10, Try.ntmps10
    go_wp2_with fail
    go_ret2
    exact ⟨rfl, rfl⟩
  · have h2 : 16777216 ≤ n := by omega
    go_enter Try.func10, Try.ntmps10
    go_wp2_with fail
    go_ret2
    exact ⟨rfl, rfl⟩
def bareT : Nat → Value := fun _ => .slice none 0 0
def newPw (n : Int) : Array Value := #[.int .i64 n, .map none] ++ (List.replicate 256 (Value.slice none 0 0)).toArray
theorem rows_bare (n : Nat) : rowsV bareT n = List.replicate n (Value.slice none 0 0) := by
  unfold rowsV bareT
  induction n with
  | zero => rfl
  | succ n ih => rw [List.range_succ, List.map_append, ih, List.replicate_succ']; rfl
theorem newPw_cells (n : Nat) : newPw (n : Int) = (cellsPw n (.map none) bareT).toArray := by
  have h : ∀ (a b : Value) (l : List Value), #[a, b] ++ l.toArray = (a :: b :: l).toArray := fun a b l => by simp
  unfold newPw cellsPw
  rw [rows_bare]
  exact h _ _ _
theorem newPw_size (n : Nat) : (Try.prog.info? 58).map (·.size) = some (newPw (n : Int)).size := by
  rw [newPw_cells, List.size_toArray, cellsPw_length]; kernel_rfl
theorem newPw_one (n : Nat) : (newPw (n : Int)).all (·.oneCell') = true := by
  rw [newPw_cells, Array.all_eq_true_iff_forall_mem]
  intro v hv
  have hv : v ∈ Value.int .i64 (n : Int) :: Value.map none :: rowsV bareT 256 := by simpa [cellsPw] using hv
  rcases List.mem_cons.mp hv with rfl | hv
  · rfl
  · rcases List.mem_cons.mp hv with rfl | hv
    · rfl
    · rw [rows_bare] at hv
      rw [List.eq_of_mem_replicate hv]; rfl
theorem built_pw (n : Int) : Try.prog.built 58 [(0, .int .i64 n)] = some (newPw n) := by kernel_rfl
theorem rw_new (w : World) (n : Nat) (hn : n < 16777216) : Pw (w.alloc (.cells (cellsPw n (.map none) bareT).toArray 58)) (fun i => i = w.heap.size) w.heap.size ⟨n, []⟩ := by
  refine ⟨0, fun _ => none, fun _ => [], .map none, bareT, ⟨heap_alloc_new w _, .inl ⟨rfl, rfl, fun _ => rfl⟩, fun k hk => World.ownsRow_nil _ _ _ _, (fun k j g _ _ h => by cases h), rfl, (fun M h => by cases h), (fun k g _ h => by cases h), (fun i hi => by have hi : i = w.heap.size := hi; rw [hi]; simp)⟩, ⟨good_new n hn, rfl, fun id => rfl, fun k hk => List.Perm.refl _, fun x hx => by cases hx⟩⟩
set_option maxRecDepth 10000 in
set_option maxHeartbeats 4000000 in
theorem pnew_ok (w : World) (n : Nat) (h : n < 16777216) : Calls Try.prog 10 #[.int .i64 (n : Int)] w fun e w' => e = .returned (.tuple #[.pointer (some ⟨w.heap.size, 0, none⟩), .int .i64 0]) ∧ Pw w' (fun i => i = w.heap.size) w.heap.size ⟨n, []⟩ ∧ Below w.heap.size w w' := by
  have h1 : ¬ (n : Int) < 0 := by omega
  have h2 : ¬ (16777216 : Int) ≤ (n : Int) := by omega
  go_enter Try.func10, Try.ntmps10
  go_wp2_with (first
    | (refine wpList_build rfl 58 _ rfl (by kernel_rfl) ?_)
    | fail)
  rw [built_pw (n : Int)]
  have e : (some (newPw (n : Int))).getD #[] = (cellsPw n (.map none) bareT).toArray := by rw [← newPw_cells]; rfl
  rw [e]
  go_ret2
  exact ⟨rfl, rw_new w n h, (Below.refl _ _).alloc (Nat.le_refl _) _⟩
end Go.Proofs.Ytpmggiahhjllcaa
