/-
  The program's slab's New.
-/
import Derived.Test.YtllapjidnngaeaaPsTake2
namespace Go.Proofs.Ytllapjidnngaeaa
open Go.ChangeShapes Go.WideShapes Go.ChangeAt Go.RowKit
set_option linter.unusedVariables false
/-- A slab's cells, none cut. -/
def newS (H : Nat) : Array Value := #[.func (.func 25) #[.pointer (some ⟨H, 0, none⟩)] #[], .func (.func 26) #[.pointer (some ⟨H, 0, none⟩)] #[]] ++ (List.replicate 64 [Value.int .i64 0, .bool false, .bool false, .bool false, .bool false]).flatten.toArray
theorem tab_bare (n : Nat) : tabN bare n = (List.replicate n [Value.int .i64 0, .bool false, .bool false, .bool false, .bool false]).flatten := by
  induction n with
  | zero => rfl
  | succ n ih => rw [tabN_succ, ih, List.replicate_succ', List.flatten_append]; simp [cellsE, bare]
theorem newS_cells (H : Nat) : newS H = (cellsS H bare).toArray := by
  unfold newS cellsS headS
  rw [tab_bare]
  simp
theorem newS_size (H : Nat) : (Try.prog.info? 73).map (·.size) = some (newS H).size := by
  rw [newS_cells, List.size_toArray, cellsS_length]; kernel_rfl
theorem newS_one (H : Nat) : (newS H).all (·.oneCell') = true := by
  rw [newS_cells, Array.all_eq_true_iff_forall_mem]
  intro v hv
  have hv : v ∈ headS H ++ tabN bare 64 := by simpa [cellsS] using hv
  rcases List.mem_append.mp hv with h | h
  · simp [headS] at h
    rcases h with rfl | rfl <;> rfl
  · exact tabN_one _ _ v h
theorem built_slab (H : Nat) : Try.prog.built 73 [(0, .func (.func 25) #[.pointer (some ⟨H, 0, none⟩)] #[]), (1, .func (.func 26) #[.pointer (some ⟨H, 0, none⟩)] #[])] = some (newS H) := by kernel_rfl
set_option maxRecDepth 10000 in
set_option maxHeartbeats 4000000 in
theorem snew_ok (w : World) (H : Nat) : Calls Try.prog 9 #[.pointer (some ⟨H, 0, none⟩)] w fun e w' => ∃ S, e = .returned (.pointer (some ⟨S, 0, none⟩)) ∧ S = w.heap.size ∧ RowS w' S H bare ∧ Below w.heap.size w w' := by
  have hmf : ∀ fn first cap w, (Instr.makeFunc fn first cap).run Try.prog w = .ok (.func fn first cap) w := fun _ _ _ _ => rfl
  go_enter Try.func9, Try.ntmps9
  go_wp2_with (first
    | (refine wpList_build rfl 73 _ rfl (by kernel_rfl) ?_)
    | fail)
  rw [built_slab H]
  have e : (some (newS H)).getD #[] = (cellsS H bare).toArray := by rw [← newS_cells]; rfl
  rw [e]
  go_ret
  exact ⟨_, rfl, rfl, heap_alloc_new w _, (Below.refl _ _).alloc (Nat.le_refl _) _⟩
end Go.Proofs.Ytllapjidnngaeaa
