/-
  The contract of 'awake' (coxswainlaw3), and the walk of HeapNone.
-/
import Derived.Test.YtccokhalcdljiaaHpOps
import Derived.ChangeKeysEq
namespace Go.Proofs.Ytccokhalcdljiaa.Hp
open Go.ChangeShapes Go.WideShapes Go.ChangeAt Go.RowKit Go.Sort
set_option linter.unusedVariables false
theorem heap_min {l : List (Int × Int)} (h : HeapN l l.length) {x : Int × Int} (hx : x ∈ l) : due x (it l 0) = false := by
  obtain ⟨k, hk, rfl⟩ := List.getElem_of_mem hx
  rw [← it_get hk]
  exact heap_first h k hk
theorem it_mem {l : List (Int × Int)} {k : Nat} (hk : k < l.length) : it l k ∈ l := by rw [it_get hk]; exact List.getElem_mem hk
/-- Three items: the least of them. -/
theorem awake_min {l1 l2 l3 : List (Int × Int)} (p1 : l1.Perm ([] ++ [(1, 9)])) (p2 : l2.Perm (l1 ++ [(2, 4)])) (p3 : l3.Perm (l2 ++ [(3, 4)])) (h : HeapN l3 l3.length) : it l3 0 = (2, 4) := by
  have p : l3.Perm (([(1, 9)] ++ [(2, 4)]) ++ [(3, 4)]) := p3.trans ((p2.trans (p1.append_right _)).append_right _)
  have hl : l3.length = 3 := p.length_eq
  have hm : it l3 0 ∈ (([(1, 9)] ++ [(2, 4)]) ++ [(3, 4)] : List (Int × Int)) := p.mem_iff.1 (it_mem (by omega))
  have h2 := heap_min h (p.mem_iff.2 (show ((2, 4) : Int × Int) ∈ (([(1, 9)] ++ [(2, 4)]) ++ [(3, 4)] : List (Int × Int)) by simp))
  simp only [List.cons_append, List.nil_append, List.mem_cons, List.not_mem_nil, or_false] at hm
  rcases hm with e | e | e
  · rw [e] at h2; exact absurd h2 (by decide)
  · exact e
  · rw [e] at h2; exact absurd h2 (by decide)
theorem not_in {l : List (Int × Int)} {id : Int} (h : ∀ x ∈ l, x.1 ≠ id) : ∀ k, k < l.length → (it l k).1 ≠ id := fun k hk => h _ (it_mem hk)
theorem all_nil (w : World) : Calls Try.prog 75 #[.pointer none] w fun e w' => e = .returned (.slice none 0 0) ∧ w = w' := by
  go_enter Try.func75, Try.ntmps75
  go_wp2_with fail
  go_ret
  exact ⟨rfl, rfl⟩
end Go.Proofs.Ytccokhalcdljiaa.Hp
