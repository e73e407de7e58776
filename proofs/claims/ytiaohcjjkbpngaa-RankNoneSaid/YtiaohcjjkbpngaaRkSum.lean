/-
  The program's Sum, New; what is told of no table; rank by its blocks.
-/
import Derived.Test.YtiaohcjjkbpngaaRkLeast
import Derived.Test.YtiaohcjjkbpngaaRkMay
import Derived.Test.YtiaohcjjkbpngaaNumSumW
namespace Go.Proofs.Ytiaohcjjkbpngaa
open Go.ChangeShapes Go.WideShapes Go.ChangeAt Go.RowKit Go.Shelf
set_option linter.unusedVariables false
set_option linter.unusedSimpArgs false
attribute [local go_sem] Oper.semAt_some
/-- A block of cells is told of by its own word alone. -/
theorem cells_own {β : Type} (B : Nat) (t : TypeId) (f : β → Array Value) : Own (fun s W => W.heap[B]? = some (.cells (f s) t (0, 0))) := fun s X Y row hs hg hrow => by
  obtain ⟨_, _, _, _, hb⟩ := hg
  exact (hb B (lt_of_heap hs) (fun e' => by obtain ⟨o, ho, hc⟩ := hrow B e'.symm; rw [hs] at ho; cases ho; cases hc)).trans hs
def sumG (s : Int) (m : Mu) : Int := cl (cl s + cl m.l)
theorem sumMu_fold (r : Int) (ms : List Mu) : ∀ s, ms.foldl (sumS r) s = (ms.filter (reachB r)).foldl sumG s := by
  induction ms with
  | nil => intro s; rfl
  | cons m ms ih =>
    intro s
    rw [List.foldl_cons, List.filter_cons, ih]
    by_cases h : r ≤ m.r
    · rw [if_pos (by simpa [reachB] using h), List.foldl_cons]
      congr 1
      unfold sumS
      rw [if_pos h]; rfl
    · rw [if_neg (by simpa [reachB] using h)]
      congr 1
      unfold sumS
      rw [if_neg h]
def sumF (r : Int) (pre : List (Yes (reachB r))) : Int := (pre.map (·.1)).foldl sumG 0
theorem sumF_snoc (r : Int) (pre : List (Yes (reachB r))) (x : Yes (reachB r)) : sumF r (pre ++ [x]) = sumG (sumF r pre) x.1 := by simp [sumF]
set_option maxRecDepth 100000 in
set_option maxHeartbeats 8000000 in
theorem psum_any {Q : Nat → Prop} {w : World} {T : Nat} {ms : List Mu} (h : Tab w Q T ms) (r : Int) :
    Calls Try.prog 16 #[.pointer (some ⟨T, 0, none⟩), .int .i64 r] w fun e w' => e = .returned (.int .i64 (sumMu ms r)) ∧ Below w.heap.size w w' := by
  have n6 := h.len
  obtain ⟨a, c, c0, ra, qa⟩ := h.row
  obtain ⟨G, hG⟩ : ∃ G, G = sumMu ms r := ⟨_, rfl⟩
  rw [← hG]
  have HG := hide (hG.trans (sumMu_fold r ms 0))
  clear hG
  have d0 : (w.alloc (.cells #[.int .i64 0] 3)).cell? ⟨T, 0, none⟩ = some (.slice a ms.length c) := (((Below.refl w.heap.size w).alloc (Nat.le_refl _) (.cells #[.int .i64 0] 3)).cell (lt_of_cell? c0)).trans c0
  refine (callsIn_wide (n := 3)).1 ?_
  refine callsIn_of_wp_marks Try.func16 rfl trivial ?_ rfl
  simp only [Try.ntmps16, List.size_toArray, List.length_cons, List.length_nil, Nat.reduceAdd, Nat.reduceSub, Array.replicate_succ, Array.replicate_zero, List.push_toArray, List.append_toArray, List.nil_append, List.cons_append]
  gi_wp2_with (first
      | (refine ⟨trivial, ?_⟩; gi_at_call 28; refine (callsIn_wide.2 (thoseM_any _ _ _ _ _)).mono ?_; rintro e w' ⟨rfl, rfl⟩))
  obtain ⟨w2, hw2⟩ : ∃ w2, w2 = (((w.alloc (.cells #[.int .i64 0] 3)).alloc (.cells #[.slice a ms.length c] 22)).alloc (.cells #[.func (.func 27) #[.int .i64 r] #[]] 47)) := ⟨_, rfl⟩
  rw [← hw2]
  have b2 : Below w.heap.size w w2 := by rw [hw2]; exact (((Below.refl w.heap.size w).alloc (Nat.le_refl _) _).alloc (by simp) _).alloc (by simp; omega) _
  have s2 : w2.heap.size = w.heap.size + 3 := by rw [hw2]; simp
  have e1 : Boxed w2 w.heap.size 3 (.int .i64 0) := by rw [hw2]; exact ((Boxed.new w _ _).alloc _).alloc _
  have e3 : Boxed w2 (w.heap.size + 1) 22 (.slice a ms.length c) := by
    have := (Boxed.new (w.alloc (.cells #[.int .i64 0] 3)) 22 (.slice a ms.length c)).alloc (.cells #[.func (.func 27) #[.int .i64 r] #[]] 47)
    rw [World.size_alloc, ← hw2] at this; exact this
  have e4 : Boxed w2 (w.heap.size + 1 + 1) 47 (.func (.func 27) #[.int .i64 r] #[]) := by
    have := Boxed.new ((w.alloc (.cells #[.int .i64 0] 3)).alloc (.cells #[.slice a ms.length c] 22)) 47 (.func (.func 27) #[.int .i64 r] #[])
    rw [World.size_alloc, World.size_alloc, ← hw2] at this; exact this
  obtain ⟨V, hV⟩ : ∃ V : Nat → Prop, V = fun i => i = w.heap.size ∨ w.heap.size + 3 ≤ i := ⟨_, rfl⟩
  have v4 : ¬ V (w.heap.size + 1 + 1) := by rw [hV]; intro e; rcases e with e | e <;> omega
  have v1 : V w.heap.size := by rw [hV]; exact .inl rfl
  have vlo : ∀ i, i < w.heap.size → ¬ V i := by intro i hi; rw [hV]; intro e; rcases e with e | e <;> omega
  have vhi : ∀ i, w.heap.size + 3 ≤ i → V i := by intro i hi; rw [hV]; exact .inr hi
  have vge : ∀ i, V i → w.heap.size ≤ i := by intro i hi; rw [hV] at hi; rcases hi with e | e <;> omega
  have B2 := hide b2
  clear hw2 hV b2 d0 c0
  refine wpIn_rangeFunc_ownH rfl (by omega) (gf := 33) (lb := #[.pointer (some ⟨w.heap.size + 1, 0, none⟩), .pointer (some ⟨w.heap.size + 1 + 1, 0, none⟩)]) rfl trivial (enters_of Try.func33 (by kernel_rfl) rfl)
    (thoseM_stops (3 - 1) (by omega) (w.heap.size + 1) (w.heap.size + 1 + 1) V r a ms.length c ms w2 e3.cell e4.cell v4 (ra.below B2.out)
      (fun h0 g o e => vlo g (h.lt g (qa g o e))) (by unfold maxLen; omega)) touchK_t (touchK_b (fun i hi => vhi i (by omega))) (Below.refl _ _) (fun _ => rfl)
    (fun pre W => Boxed W w.heap.size 3 (.int .i64 (sumF r pre)) ∧ (Touch V w2 W ∧ w2.heap.size ≤ W.heap.size))
    (fun c pre W => False)
    (OwnFrom.and (Own.from (boxed_own _ _ (fun pre => .int .i64 (sumF r pre))) _) (OwnFrom.and (ownFrom_touch (fun i hi => vhi i (by omega))) (fun _ X Y row hs hg hr => Nat.le_trans hs hg.size)))
    (fun c => ownFrom_pure _ (fun _ => False))
    ⟨e1, Touch.refl _ _, Nat.le_refl _⟩
    (fun y a' W => ∃ B, w.heap.size + 3 ≤ B ∧ a' = { tmps := #[.pointer (some ⟨T, 0, none⟩), .int .i64 r, undef, undef, .int .i64 0, .pointer (some ⟨w.heap.size, 0, none⟩), .pointer (some ⟨B, 0, none⟩), .pointer (some ⟨T, 0, none⟩), .bool false, .pointer (some ⟨T, 0, none⟩), .pointer (some ⟨T, 0, none⟩), .pointer (some ⟨T, 0, none⟩), .slice a ms.length c, .int .i64 r, .func (.func 27) #[.int .i64 r] #[], .func (.func 33) #[] #[.pointer (some ⟨w.heap.size + 1, 0, none⟩), .pointer (some ⟨w.heap.size + 1 + 1, 0, none⟩)], .agg #[.int .i64 y.1.r, .int .i64 y.1.l], undef, undef, undef, undef, undef, undef], defers := [] } ∧ W.heap[B]? = some (.cells #[.int .i64 y.1.r, .int .i64 y.1.l] 36 (0, 0)))
    (fun y a' _ X Y row hs hg hr => by
      obtain ⟨B, hB, ha, hc⟩ := hs
      exact ⟨B, hB, ha, (Own.from (cells_own B 36 (fun (_ : Unit) => #[.int .i64 y.1.r, .int .i64 y.1.l])) w2.heap.size) () X Y row hc hg hr⟩) ?assign ?body ?done ?stop
  case assign =>
    rintro l pre ⟨y, hy⟩ W K ⟨hb, ht, hz⟩ hK
    gi_wp2
    have bl := (Below.refl W.heap.size W).alloc (Nat.le_refl _) (.cells #[.int .i64 y.r, .int .i64 y.l] 36)
    exact hK _ _ (keepsFrom_below bl) (Touch.of_below bl) ⟨hb.alloc _, touchK_t ht (Touch.of_below bl), by simp; omega⟩ ⟨W.heap.size, by omega, rfl, World.alloc_heap_new _ _⟩
  case body =>
    rintro l pre ⟨y, hy⟩ a' W hl hrec ⟨hb, ht, hz⟩ ⟨B, hB, rfl, hc⟩ hlen
    obtain ⟨s, hs⟩ : ∃ s, s = sumF r pre := ⟨_, rfl⟩
    rw [← hs] at hb
    have cb := hb.cell
    have fb := hb.frozen
    have c2 : W.cell? ⟨B, 1, none⟩ = some (.int .i64 y.l) := by simp [World.cell?, hc]
    have N := hide (show sumF r (pre ++ [(⟨y, hy⟩ : Yes (reachB r))]) = cl (cl s + cl y.l) from by rw [sumF_snoc, ← hs]; rfl)
    have HB := hide hb
    have HT := hide ht
    obtain ⟨W3, hW3⟩ : ∃ W3, W3 = W.alloc (.cells #[.int .i64 s, .int .i64 y.l] 3) := ⟨_, rfl⟩
    have B3 := hide (show Below W.heap.size W W3 from by rw [hW3]; exact (Below.refl W.heap.size W).alloc (Nat.le_refl _) _)
    have hb3 : Boxed W3 w.heap.size 3 (.int .i64 s) := by rw [hW3]; exact hb.alloc _
    have cb3 := hb3.cell
    have fb3 := hb3.frozen
    have HB3 := hide hb3
    have HW3 := hide hW3
    have C := hide (show Calls Try.prog 29 #[.slice (some ⟨W.heap.size, 0, none⟩) 2 2] W3 fun e w' => e = .returned (.int .i64 (cl (cl s + cl y.l))) ∧ W3 = w' from by
      rw [hW3, ← sum_two]
      exact add_any _ 2 2 [s, y.l] _ (ints_two_at .i64 W s y.l _ _ rfl) (by omega))
    clear hb ht hs hb3 hW3
    gi_wp2_with (refine ⟨trivial, ?_⟩; gi_at_call 29; rw [← HW3.out]; refine CallsIn.inRound l (callsIn_wide.2 (C.out.mono ?_)); rintro e w' ⟨rfl, rfl⟩)
    have hset := (Touch.refl V W3).setCell (p := ⟨w.heap.size, 0, none⟩) v1 (.int .i64 (cl (cl s + cl y.l)))
    exact ⟨(keepsFrom_below B3.out).trans ((KeepsOthers.setCell _ _ _).from _), touchK_t (Touch.of_below B3.out) hset, by rw [N.out]; exact HB3.out.set _, touchK_t (touchK_t HT.out (Touch.of_below B3.out)) hset, by have := B3.out.size; have := hset.size; omega⟩
  case done =>
    rintro D ys W hD hys ⟨hb, ht, hz⟩ hK
    have HG2 := hide (show G = sumF r ys from by rw [HG.out, sumF, hys])
    obtain ⟨s, hs⟩ : ∃ s, s = sumF r ys := ⟨_, rfl⟩
    rw [← hs] at hb HG2
    have cb := hb.cell
    have HT := hide ht
    clear hb ht hys hs
    gi_wp2
    refine ⟨by simp, .inl ⟨_, _, rfl, run_takeDeferred hK, ?_⟩⟩
    refine ⟨.int .i64 s, ?_, by rw [HG2.out], ?_⟩
    · simp [results, Try.func16, Try.results16, go_sem]
    · refine B2.out.trans (Touch.below (S := V) ?_ B2.out.size vge)
      exact touchK_t HT.out (Touch.of_grown (grownBy_putObj' _ D _) (fun g e => by cases e; exact vhi _ (by omega)))
  case stop =>
    rintro D c pre W hD hys hF hK
    exact hF.elim
end Go.Proofs.Ytiaohcjjkbpngaa
