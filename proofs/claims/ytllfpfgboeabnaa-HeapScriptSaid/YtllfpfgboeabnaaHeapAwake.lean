/-
  The contract of 'awake' (coxswainlaw3), and the walk of HeapNone.
-/
import Derived.Test.YtllfpfgboeabnaaHeapOps
import Derived.ChangeKeysEq
namespace Go.Proofs.Ytllfpfgboeabnaa
open Go.ChangeShapes Go.WideShapes Go.ChangeAt Go.RowKit Go.Sort
set_option linter.unusedVariables false
theorem heap_min {l : List (Int × Int)} (h : HeapN l l.length) {x : Int × Int} (hx : x ∈ l) : due x (it l 0) = false := by
  obtain ⟨k, hk, rfl⟩ := List.getElem_of_mem hx
  rw [← it_get hk]
  exact heap_first h k hk
theorem it_mem {l : List (Int × Int)} {k : Nat} (hk : k < l.length) : it l k ∈ l := by rw [it_get hk]; exact List.getElem_mem hk
/-- Three items: the least of them. -/
theorem awake_min {l1 l2 l3 : List (Int × Int)} (p1 : l1.Perm ([] ++ [(1, 9)])) (p2 : l2.Perm (l1 ++ [(2, 4)])) (p3 : l3.Perm (l2 ++ [(3, 4)])) (h : HeapN l3 l3.length) : it l3 0 = (2, 4) := by
  have p : l3.Perm (([(1, 9)] ++ [(2, 4)]) ++ [(3, 4)]) := p3.trans ((p2.trans (p1.append_right _)).append_right _)
  have hl : l3.length = 3 := p.length_eq
  have hm : it l3 0 ∈ (([(1, 9)] ++ [(2, 4)]) ++ [(3, 4)] : List (Int × Int)) := p.mem_iff.1 (it_mem (by omega))
  have h2 := heap_min h (p.mem_iff.2 (show ((2, 4) : Int × Int) ∈ (([(1, 9)] ++ [(2, 4)]) ++ [(3, 4)] : List (Int × Int)) by simp))
  simp only [List.cons_append, List.nil_append, List.mem_cons, List.not_mem_nil, or_false] at hm
  rcases hm with e | e | e
  · rw [e] at h2; exact absurd h2 (by decide)
  · exact e
  · rw [e] at h2; exact absurd h2 (by decide)
theorem not_in {l : List (Int × Int)} {id : Int} (h : ∀ x ∈ l, x.1 ≠ id) : ∀ k, k < l.length → (it l k).1 ≠ id := fun k hk => h _ (it_mem hk)
set_option maxHeartbeats 800000 in
theorem awake_any (w : World) : Calls Try.prog 7 #[] w fun e w' => e = .returned (.bool true) ∧ Below w.heap.size w w' := by
  go_enter Try.func7, Try.ntmps7
  go_wp2_with fail
  go_at_call 8
  refine (hnew_any _).mono ?_
  rintro e w1 ⟨H, F, rfl, q1, b1, f1⟩
  have Q1 := hide q1
  have F1 := hide f1
  have B1 := hide b1
  clear q1 f1 b1
  go_wp2_with fail
  go_at_call 10
  refine (hpush_ok Q1.out 1 9 (by omega) (by decide) (fun k hk => by cases hk) (by simp)).mono ?_
  rintro e w2 ⟨rfl, F2, l1, q2, p1, t2, f2⟩
  have Q2 := hide q2
  have F2' := hide f2
  have P1 := hide p1
  have T2 := hide t2
  clear q2 f2 p1 t2
  go_wp2_with fail
  go_at_call 10
  refine (hpush_ok Q2.out 2 4 (by omega) (by decide) (not_in (fun x hx => ?_)) (by rw [P1.out.length_eq]; simp)).mono ?_
  · have := P1.out.mem_iff.1 hx
    simp at this; rw [this]; simp
  rintro e w3 ⟨rfl, F3, l2, q3, p2, t3, f3⟩
  have Q3 := hide q3
  have F3' := hide f3
  have P2 := hide p2
  have T3 := hide t3
  clear q3 f3 p2 t3
  go_wp2_with fail
  go_at_call 10
  refine (hpush_ok Q3.out 3 4 (by omega) (by decide) (not_in (fun x hx => ?_)) (by rw [P2.out.length_eq, List.length_append, P1.out.length_eq]; simp)).mono ?_
  · have := P2.out.mem_iff.1 hx
    rw [List.mem_append, P1.out.mem_iff] at this
    simp at this
    rcases this with h | h <;> (rw [h]; simp)
  rintro e w4 ⟨rfl, F4, l3, q4, p3, t4, f4⟩
  have hmin := awake_min P1.out P2.out p3 q4.2
  have hl3 : l3.length = 2 + 1 := by rw [p3.length_eq, List.length_append, P2.out.length_eq, List.length_append, P1.out.length_eq]; rfl
  have Q4 := hide q4
  have F4' := hide f4
  have T4 := hide t4
  have HM := hide hmin
  have HL := hide hl3
  clear q4 f4 p3 t4 hmin hl3
  go_wp2_with fail
  go_at_call 12
  refine (hpop_some Q4.out HL.out (by rw [HL.out]; omega)).mono ?_
  rw [HM.out]
  rintro e w5 ⟨rfl, l4, q5, p5, t5⟩
  have hl4 : l4.length = 2 := by have := p5.length_eq; rw [HL.out, List.length_cons] at this; omega
  have hb : Below w.heap.size w w5 := by
    have s1 := B1.out.size
    have s2 := T2.out.size
    have s3 := T3.out.size
    have s4 := T4.out.size
    have g2 : ∀ i, F2 i → w.heap.size ≤ i := fun i h => by rcases F2'.out i h with h | h; exact F1.out i h; omega
    have g3 : ∀ i, F3 i → w.heap.size ≤ i := fun i h => by rcases F3'.out i h with h | h; exact g2 i h; omega
    have g4 : ∀ i, F4 i → w.heap.size ≤ i := fun i h => by rcases F4'.out i h with h | h; exact g3 i h; omega
    exact B1.out.trans ((T2.out.below s1 F1.out).trans ((T3.out.below (by omega) g2).trans ((T4.out.below (by omega) g3).trans (t5.below (by omega) g4))))
  have HB := hide hb
  have Q5 := hide q5
  have L4 := hide hl4
  have hz : w.heap.size ≤ w5.heap.size := hb.size
  clear hb q5 p5 t5 hl4
  unfold itemBool
  go_wp2_with fail
  go_at_call 22
  refine (len_any (held_alloc Q5.out _)).mono ?_
  rw [L4.out]
  rintro e w' ⟨rfl, rfl⟩
  go_wp2_with fail
  go_ret
  exact ⟨rfl, HB.out.alloc hz _⟩
theorem all_nil (w : World) : Calls Try.prog 19 #[.pointer none] w fun e w' => e = .returned (.slice none 0 0) ∧ w = w' := by
  go_enter Try.func19, Try.ntmps19
  go_wp2_with fail
  go_ret
  exact ⟨rfl, rfl⟩
set_option maxHeartbeats 1600000 in
theorem walk_heapNone (w : World) (d i k : Int) (wd : (Lit.int .i64 d).wf = true) (wi : (Lit.int .i64 i).wf = true) (wk : (Lit.int .i64 k).wf = true) : Calls Try.prog 5 #[.agg #[.int .i64 d, .int .i64 i, .int .i64 k]] w fun e w' => e = .returned (.bool true) ∧ Below w.heap.size w w' := by
  clear wd wi wk
  go_enter Try.func5, Try.ntmps5
  go_wp2_with fail
  go_at_call 12
  refine (hpop_none _ none (fun w' _ => min_nil w')).mono ?_
  rintro e w1 ⟨rfl, b1⟩
  have B1 := below_one b1 (by simp)
  have hA : w1.heap[w.heap.size]? = some (.cells #[.int .i64 d, .int .i64 i, .int .i64 k] 31 (0, 0)) := (b1.block w.heap.size (by simp)).trans (heap_alloc_new w _)
  have z1 : w.heap.size < w1.heap.size := by have := b1.size; simp at this; omega
  have HA := hide hA
  have HB1 := hide B1
  clear b1 B1 hA
  unfold itemBool
  go_wp2_with fail
  go_at_call 18
  refine (min_nil _).mono ?_
  rintro e w2 ⟨rfl, b2⟩
  have B2 : Below w.heap.size w w2 := HB1.out.trans ((below_one b2 (by simp)).mono (Nat.le_of_lt z1))
  have hA2 : w2.heap[w.heap.size]? = some (.cells #[.int .i64 d, .int .i64 i, .int .i64 k] 31 (0, 0)) := (b2.block w.heap.size (by simp; omega)).trans ((RowKit.Below.heap_alloc w1 _ _ z1).trans HA.out)
  have hX2 : w2.heap[w1.heap.size]? = some (.cells #[.int .i64 0, .int .i64 0] 37 (0, 0)) := (b2.block w1.heap.size (by simp)).trans (heap_alloc_new w1 _)
  have z2 : w1.heap.size < w2.heap.size := by have := b2.size; simp at this; omega
  have z3 : w.heap.size < w2.heap.size := by omega
  have a1 : w2.cell? ⟨w.heap.size, 1, none⟩ = some (.int .i64 i) := by rw [cell_of_row _ _ _ _ _ _ hA2]; rfl
  have a2 : w2.cell? ⟨w.heap.size, 2, none⟩ = some (.int .i64 k) := by rw [cell_of_row _ _ _ _ _ _ hA2]; rfl
  have x0 : w2.cell? ⟨w1.heap.size, 0, none⟩ = some (.int .i64 0) := by rw [cell_of_row _ _ _ _ _ _ hX2]; rfl
  have x1 : w2.cell? ⟨w1.heap.size, 1, none⟩ = some (.int .i64 0) := by rw [cell_of_row _ _ _ _ _ _ hX2]; rfl
  have HB := hide (B2.alloc B2.size (.cells #[.int .i64 0, .int .i64 0] 37))
  have HZ := hide (show w.heap.size ≤ (w2.alloc (.cells #[.int .i64 0, .int .i64 0] 37)).heap.size by simp; omega)
  clear b2 B2 hA2 hX2 HA HB1
  unfold itemBool
  go_wp2_with (first
    | (go_at_call 10; with_reducible refine (hpush_nil _ _ _).mono ?_; rintro e w' ⟨rfl, rfl⟩)
    | (go_at_call 15; with_reducible refine (hdrop_no (place_nil _ _)).mono ?_; rintro e w' ⟨rfl, rfl⟩)
    | (go_at_call 16; with_reducible refine (hmove_no (place_nil _ _)).mono ?_; rintro e w' ⟨rfl, rfl⟩)
    | (go_at_call 20; with_reducible refine (has_of_place (place_nil _ _)).mono ?_; rintro e w' ⟨rfl, rfl⟩)
    | (go_at_call 22; with_reducible refine (len_nil _).mono ?_; rintro e w' ⟨rfl, rfl⟩)
    | (go_at_call 19; with_reducible refine (all_nil _).mono ?_; rintro e w' ⟨rfl, rfl⟩)
    | (go_at_call 7; with_reducible refine (awake_any _).mono ?_; rintro e w' ⟨rfl, hb⟩))
  go_ret
  exact ⟨rfl, HB.out.trans (hb.mono HZ.out)⟩
end Go.Proofs.Ytllfpfgboeabnaa
