/-
  The program's Least.
-/
import Derived.Test.YtiaohcjjkbpngaaRkSeq
namespace Go.Proofs.Ytiaohcjjkbpngaa
open Go.ChangeShapes Go.WideShapes Go.ChangeAt Go.RowKit Go.Shelf
set_option linter.unusedVariables false
set_option linter.unusedSimpArgs false
attribute [local go_sem] Oper.semAt_some
/-- The least of ranks, 0 for none. -/
def leastG (f : Int → Int) (s u : Int) : Int := if s = 0 ∨ f u < s then f u else s
theorem leastG_fold {ms : List Mu} (h : ∀ u, isMu ms.length u = true → 1 ≤ (muAt ms u).r) (us : List Int) : ∀ s : Int, 0 ≤ s →
    us.foldl (leastS ms) (s, decide (0 < s)) = ((us.filter (isMu ms.length)).foldl (leastG fun u => (muAt ms u).r) s, decide (0 < (us.filter (isMu ms.length)).foldl (leastG fun u => (muAt ms u).r) s)) := by
  induction us with
  | nil => intro s hs; rfl
  | cons u us ih =>
    intro s hs
    rw [List.foldl_cons, List.filter_cons]
    by_cases hu : isMu ms.length u = true
    · have h1 : 1 ≤ (muAt ms u).r := h u hu
      rw [if_pos hu, List.foldl_cons]
      have e : leastS ms (s, decide (0 < s)) u = (leastG (fun u => (muAt ms u).r) s u, decide (0 < leastG (fun u => (muAt ms u).r) s u)) := by
        unfold leastS leastG
        by_cases c : s = 0 ∨ (muAt ms u).r < s
        · rw [if_pos (show s = 0 ∨ (fun u => (muAt ms u).r) u < s from c), if_pos (by
            simp only [hu, Bool.true_and, Bool.or_eq_true, Bool.not_eq_true', decide_eq_false_iff_not, decide_eq_true_eq]
            rcases c with c | c
            · left; omega
            · right; exact c)]
          rw [decide_eq_true (show 0 < (muAt ms u).r by omega)]
        · rw [if_neg (show ¬ (s = 0 ∨ (fun u => (muAt ms u).r) u < s) from c), if_neg (by
            simp only [hu, Bool.true_and, Bool.or_eq_true, Bool.not_eq_true', decide_eq_false_iff_not, decide_eq_true_eq]
            omega)]
      rw [e]
      exact ih _ (by unfold leastG; split <;> (try dsimp only) <;> omega)
    · rw [if_neg hu]
      have e : leastS ms (s, decide (0 < s)) u = (s, decide (0 < s)) := by
        unfold leastS
        rw [if_neg (by simp [hu])]
      rw [e]
      exact ih s hs
theorem leastMu_fold {ms : List Mu} (h : ∀ u, isMu ms.length u = true → 1 ≤ (muAt ms u).r) (us : List Int) : leastMu ms us = ((us.filter (isMu ms.length)).foldl (leastG fun u => (muAt ms u).r) 0, decide (0 < (us.filter (isMu ms.length)).foldl (leastG fun u => (muAt ms u).r) 0)) := by
  have := leastG_fold h us 0 (by omega)
  simpa [leastMu] using this
def leastF (ms : List Mu) (pre : List (Yes (isMu ms.length))) : Int := (pre.map (·.1)).foldl (leastG fun u => (muAt ms u).r) 0
theorem leastF_snoc (ms : List Mu) (pre : List (Yes (isMu ms.length))) (x : Yes (isMu ms.length)) : leastF ms (pre ++ [x]) = leastG (fun u => (muAt ms u).r) (leastF ms pre) x.1 := by simp [leastF]
theorem tab_ranks {Q : Nat → Prop} {w : World} {T : Nat} {ms : List Mu} (h : Tab w Q T ms) : ∀ u, isMu ms.length u = true → 1 ≤ (muAt ms u).r := by
  intro u hu
  obtain ⟨k, rfl, hk⟩ := isMu_iff.1 hu
  rw [muAt_nat (List.getElem?_eq_getElem hk)]
  exact (h.ok (List.getElem?_eq_getElem hk)).1
/-- A table, or none. -/
def TabQ (w : World) (Q : Nat → Prop) (t : Option Addr) (ms : List Mu) : Prop := (∃ T, t = some ⟨T, 0, none⟩ ∧ Tab w Q T ms) ∨ (t = none ∧ ms = [] ∧ ∀ i, Q i → i < w.heap.size)
theorem TabQ.keep {V Q : Nat → Prop} {w w' : World} {t : Option Addr} {ms : List Mu} (h : TabQ w Q t ms) (b : Touch V w w') (d : ∀ i, Q i → ¬ V i) : TabQ w' Q t ms := by
  rcases h with ⟨T, rfl, h⟩ | ⟨rfl, rfl, h⟩
  · exact .inl ⟨T, rfl, h.keep b d⟩
  · exact .inr ⟨rfl, rfl, fun i hi => Nat.lt_of_lt_of_le (h i hi) b.size⟩
theorem TabQ.below {Q : Nat → Prop} {w w' : World} {t : Option Addr} {ms : List Mu} (h : TabQ w Q t ms) (b : Below w.heap.size w w') : TabQ w' Q t ms := h.keep (Touch.of_below (S := fun _ => False) b) (fun _ _ e => e)
theorem TabQ.lt {Q : Nat → Prop} {w : World} {t : Option Addr} {ms : List Mu} (h : TabQ w Q t ms) : ∀ i, Q i → i < w.heap.size := by
  rcases h with ⟨T, rfl, h⟩ | ⟨rfl, rfl, h⟩
  · exact h.lt
  · exact h
theorem TabQ.len {Q : Nat → Prop} {w : World} {t : Option Addr} {ms : List Mu} (h : TabQ w Q t ms) : ms.length ≤ 6 := by
  rcases h with ⟨T, rfl, h⟩ | ⟨rfl, rfl, h⟩
  · exact h.len
  · exact Nat.zero_le _
theorem TabQ.has {Q : Nat → Prop} {w : World} {t : Option Addr} {ms : List Mu} (h : TabQ w Q t ms) (m : Int) : Calls Try.prog 26 #[.pointer t, .int .i64 m] w fun e w' => e = .returned (.bool (isMu ms.length m)) ∧ w = w' := by
  rcases h with ⟨T, rfl, h⟩ | ⟨rfl, rfl, h⟩
  · exact phas_any h m
  · exact (phas_nil w m).mono (by rintro e w' ⟨h1, h2⟩; exact ⟨by rw [h1]; exact ret_bool (by simp [isMu]), h2⟩)
theorem TabQ.ranks {Q : Nat → Prop} {w : World} {t : Option Addr} {ms : List Mu} (h : TabQ w Q t ms) : ∀ u, isMu ms.length u = true → 1 ≤ (muAt ms u).r := by
  rcases h with ⟨T, rfl, h⟩ | ⟨rfl, rfl, h⟩
  · exact tab_ranks h
  · intro u hu; simp [isMu] at hu; omega
theorem TabQ.at_ {Q : Nat → Prop} {w : World} {t : Option Addr} {ms : List Mu} (h : TabQ w Q t ms) {k : Nat} (hk : k < ms.length) : ∃ T, t = some ⟨T, 0, none⟩ ∧ Tab w Q T ms := by
  rcases h with ⟨T, rfl, h⟩ | ⟨rfl, rfl, h⟩
  · exact ⟨T, rfl, h⟩
  · exact absurd hk (Nat.not_lt_zero _)
set_option maxRecDepth 100000 in
set_option maxHeartbeats 8000000 in
theorem pleastQ_any {Q : Nat → Prop} {w : World} {t : Option Addr} {ms : List Mu} (h : TabQ w Q t ms) {b : Option Addr} {p d : Nat} {us : List Int} (hi : Ints .i64 w b p us) (hp : p ≤ maxLen) :
    Calls Try.prog 10 #[.pointer t, .slice b p d] w fun e w' => e = .returned (.tuple #[.int .i64 (leastMu ms us).1, .bool (leastMu ms us).2]) ∧ Below w.heap.size w w' := by
  have n6 := h.len
  obtain ⟨G, hG⟩ : ∃ G, G = leastMu ms us := ⟨_, rfl⟩
  rw [← hG]
  have HG := hide (hG.trans (leastMu_fold h.ranks us))
  clear hG
  refine (callsIn_wide (n := 3)).1 ?_
  refine callsIn_of_wp_marks Try.func10 rfl trivial ?_ rfl
  simp only [Try.ntmps10, List.size_toArray, List.length_cons, List.length_nil, Nat.reduceAdd, Nat.reduceSub, Array.replicate_succ, Array.replicate_zero, List.push_toArray, List.append_toArray, List.nil_append, List.cons_append]
  gi_wp2_with (first
      | (refine ⟨trivial, ?_⟩; gi_at_call 25; refine (callsIn_wide.2 (thoseI_any _ _ _ _ _)).mono ?_; rintro e w' ⟨rfl, rfl⟩))
  obtain ⟨w2, hw2⟩ : ∃ w2, w2 = ((((w.alloc (.cells #[.pointer t] 25)).alloc (.cells #[.int .i64 0] 3)).alloc (.cells #[.slice b p d] 23)).alloc (.cells #[.func (.func 26) #[.pointer t] #[]] 54)) := ⟨_, rfl⟩
  rw [← hw2]
  have b2 : Below w.heap.size w w2 := by rw [hw2]; exact ((((Below.refl w.heap.size w).alloc (Nat.le_refl _) _).alloc (by simp) _).alloc (by simp; omega) _).alloc (by simp; omega) _
  have s2 : w2.heap.size = w.heap.size + 4 := by rw [hw2]; simp
  have e0 : Boxed w2 w.heap.size 25 (.pointer t) := by rw [hw2]; exact (((Boxed.new w _ _).alloc _).alloc _).alloc _
  have e1 : Boxed w2 (w.heap.size + 1) 3 (.int .i64 0) := by
    have := ((Boxed.new (w.alloc (.cells #[.pointer t] 25)) 3 (.int .i64 0)).alloc (.cells #[.slice b p d] 23)).alloc (.cells #[.func (.func 26) #[.pointer t] #[]] 54)
    rw [World.size_alloc, ← hw2] at this; exact this
  have e3 : Boxed w2 (w.heap.size + 1 + 1) 23 (.slice b p d) := by
    have := (Boxed.new ((w.alloc (.cells #[.pointer t] 25)).alloc (.cells #[.int .i64 0] 3)) 23 (.slice b p d)).alloc (.cells #[.func (.func 26) #[.pointer t] #[]] 54)
    rw [World.size_alloc, World.size_alloc, ← hw2] at this; exact this
  have e4 : Boxed w2 (w.heap.size + 1 + 1 + 1) 54 (.func (.func 26) #[.pointer t] #[]) := by
    have := Boxed.new (((w.alloc (.cells #[.pointer t] 25)).alloc (.cells #[.int .i64 0] 3)).alloc (.cells #[.slice b p d] 23)) 54 (.func (.func 26) #[.pointer t] #[])
    rw [World.size_alloc, World.size_alloc, World.size_alloc, ← hw2] at this; exact this
  obtain ⟨V, hV⟩ : ∃ V : Nat → Prop, V = fun i => i = w.heap.size + 1 ∨ w.heap.size + 4 ≤ i := ⟨_, rfl⟩
  have v0 : ¬ V w.heap.size := by rw [hV]; intro e; rcases e with e | e <;> omega
  have v4 : ¬ V (w.heap.size + 1 + 1 + 1) := by rw [hV]; intro e; rcases e with e | e <;> omega
  have v1 : V (w.heap.size + 1) := by rw [hV]; exact .inl rfl
  have vlo : ∀ i, i < w.heap.size → ¬ V i := by intro i hi; rw [hV]; intro e; rcases e with e | e <;> omega
  have vhi : ∀ i, w.heap.size + 4 ≤ i → V i := by intro i hi; rw [hV]; exact .inr hi
  have vge : ∀ i, V i → w.heap.size ≤ i := by intro i hi; rw [hV] at hi; rcases hi with e | e <;> omega
  have B2 := hide b2
  have TB := hide (show TabQ w2 Q t ms from h.below b2)
  have TV := hide (show ∀ i, Q i → ¬ V i from fun i hi => vlo i (h.lt i hi))
  clear hw2 hV b2
  refine wpIn_rangeFunc_ownG rfl (by omega) (gf := 32) (lb := #[.pointer (some ⟨w.heap.size + 1 + 1, 0, none⟩), .pointer (some ⟨w.heap.size + 1 + 1 + 1, 0, none⟩)]) rfl trivial (enters_of Try.func32 (by kernel_rfl) rfl)
    (thoseI_stops (3 - 1) (by omega) (w.heap.size + 1 + 1) (w.heap.size + 1 + 1 + 1) V t (isMu ms.length) b p d us w2 (fun W' ht x => (TB.out.keep ht TV.out).has x) e3.cell e4.cell v4 (hi.below B2.out)
      (fun h0 g o e => vlo g (by obtain ⟨g', o', e', hc⟩ := hi.2 h0; rw [e] at e'; injection e' with e'; injection e' with e1 e2; subst e1; exact lt_of_cell? (hc 0 h0))) hp) touchK_t (touchK_b (fun i hi => vhi i (by omega))) (Below.refl _ _) (fun _ => rfl)
    (fun pre W => Boxed W (w.heap.size + 1) 3 (.int .i64 (leastF ms pre)) ∧ Touch V w2 W)
    (fun c pre W => False)
    (OwnFrom.and (Own.from (boxed_own _ _ (fun pre => .int .i64 (leastF ms pre))) _) (ownFrom_touch (fun i hi => vhi i (by omega))))
    (fun c => ownFrom_pure _ (fun _ => False))
    ⟨e1, Touch.refl _ _⟩
    (fun y => { tmps := #[.pointer t, .slice b p d, .pointer (some ⟨w.heap.size, 0, none⟩), undef, .int .i64 0, .bool false, .pointer (some ⟨w.heap.size + 1, 0, none⟩), .int .i64 y.1, undef, .slice b p d, .pointer t, .func (.func 26) #[.pointer t] #[], .func (.func 32) #[] #[.pointer (some ⟨w.heap.size + 1 + 1, 0, none⟩), .pointer (some ⟨w.heap.size + 1 + 1 + 1, 0, none⟩)], .int .i64 y.1, undef, undef, undef, undef, undef, undef, undef, undef, undef, undef, undef, undef, undef, undef, undef, undef, undef, undef, undef], defers := [] }) ?assign ?body ?done ?stop
  case assign =>
    intro l y W K hK
    gi_wp2
    exact hK
  case body =>
    rintro l pre ⟨y, hy⟩ W ⟨hb, ht⟩ hlen
    obtain ⟨j, rfl, hj⟩ := isMu_iff.1 hy
    obtain ⟨T, rfl, tb⟩ := (TB.out.keep ht TV.out).at_ hj
    obtain ⟨z, zb, zo, zc, hz, t0, t1, t2, hQb⟩ := tb.at_ hj
    have z1 := (tb.ok hz).1
    have f0 := (boxed_touch e0 ht v0).cell
    have j1 : (j : Int) < (ms.length : Nat) := by omega
    obtain ⟨s, hs⟩ : ∃ s, s = leastF ms pre := ⟨_, rfl⟩
    have hb2 : Boxed W (w.heap.size + 1) 3 (.int .i64 s) := by rw [hs]; exact hb
    have cb := hb2.cell
    have fb := hb2.frozen
    have N := hide (show leastF ms (pre ++ [(⟨(j : Int), hy⟩ : Yes (isMu ms.length))]) = (if s = 0 ∨ z.r < s then z.r else s) from by rw [leastF_snoc, ← hs, leastG]; simp only [muAt_nat hz])
    have HB := hide hb2
    have HT := hide ht
    clear hb hb2 ht hz hs
    by_cases c1 : s = 0
    · have N2 := hide (show leastF ms (pre ++ [(⟨(j : Int), hy⟩ : Yes (isMu ms.length))]) = z.r from by rw [N.out, if_pos (.inl c1)])
      gi_wp2
      exact ⟨(KeepsOthers.setCell _ _ _).from _, (Touch.refl V W).setCell (p := ⟨w.heap.size + 1, 0, none⟩) v1 _, by rw [N2.out]; exact HB.out.set _, touchK_t HT.out ((Touch.refl V W).setCell (p := ⟨w.heap.size + 1, 0, none⟩) v1 _)⟩
    · by_cases c2 : z.r < s
      · have N2 := hide (show leastF ms (pre ++ [(⟨(j : Int), hy⟩ : Yes (isMu ms.length))]) = z.r from by rw [N.out, if_pos (.inr c2)])
        gi_wp2
        exact ⟨(KeepsOthers.setCell _ _ _).from _, (Touch.refl V W).setCell (p := ⟨w.heap.size + 1, 0, none⟩) v1 _, by rw [N2.out]; exact HB.out.set _, touchK_t HT.out ((Touch.refl V W).setCell (p := ⟨w.heap.size + 1, 0, none⟩) v1 _)⟩
      · have N2 := hide (show leastF ms (pre ++ [(⟨(j : Int), hy⟩ : Yes (isMu ms.length))]) = s from by rw [N.out, if_neg (by omega)])
        gi_wp2
        exact ⟨keepsFrom_below (Below.refl _ _), Touch.refl _ _, by rw [N2.out]; exact HB.out, HT.out⟩
  case done =>
    rintro D ys W hD hys ⟨hb, ht⟩ hK
    have HG2 := hide (show G = (leastF ms ys, decide (0 < leastF ms ys)) from by rw [HG.out, leastF, hys])
    obtain ⟨s, hs⟩ : ∃ s, s = leastF ms ys := ⟨_, rfl⟩
    rw [← hs] at hb HG2
    have cb := hb.cell
    have HT := hide ht
    clear hb ht hys hs
    gi_wp2
    refine wpIn_wide.2 ?_
    go_region
    gi_wp2
    have hK' : W.drew.heap[D]? = W.heap[D]? := rfl
    refine ⟨by simp, .inl ⟨_, _, rfl, run_takeDeferred (hK'.trans hK), ?_⟩⟩
    refine ⟨.tuple #[.int .i64 s, .bool (decide (0 < s))], ?_, by rw [HG2.out], ?_⟩
    · simp [results, Try.func10, Try.results10, go_sem]
    · refine B2.out.trans (Touch.below (S := V) ?_ B2.out.size vge)
      exact touchK_t HT.out (touchK_t (Touch.of_below (below_drewN (Below.refl _ W) 1)) (Touch.of_grown (grownBy_putObj' _ D _) (fun g e => by cases e; exact vhi _ (by omega))))
  case stop =>
    rintro D c pre W hD hys hF hK
    exact hF.elim
theorem pleast_any {Q : Nat → Prop} {w : World} {T : Nat} {ms : List Mu} (h : Tab w Q T ms) {b : Option Addr} {p d : Nat} {us : List Int} (hi : Ints .i64 w b p us) (hp : p ≤ maxLen) :
    Calls Try.prog 10 #[.pointer (some ⟨T, 0, none⟩), .slice b p d] w fun e w' => e = .returned (.tuple #[.int .i64 (leastMu ms us).1, .bool (leastMu ms us).2]) ∧ Below w.heap.size w w' := pleastQ_any (.inl ⟨T, rfl, h⟩) hi hp
theorem pleast_nil (w : World) {b : Option Addr} {p d : Nat} {us : List Int} (hi : Ints .i64 w b p us) (hp : p ≤ maxLen) :
    Calls Try.prog 10 #[.pointer none, .slice b p d] w fun e w' => e = .returned (.tuple #[.int .i64 0, .bool false]) ∧ Below w.heap.size w w' := by
  have h := pleastQ_any (d := d) (.inr ⟨rfl, rfl, fun i e => False.elim e⟩ : TabQ w (fun _ => False) none []) hi hp
  have e : leastMu [] us = (0, false) := by
    unfold leastMu
    have h1 : ∀ u, leastS [] (0, false) u = (0, false) := fun u => by
      unfold leastS
      rw [if_neg]
      simp [isMu]
      try omega
    clear h hi
    induction us with
    | nil => rfl
    | cons u us ih => rw [List.foldl_cons, h1]; exact ih
  rw [e] at h
  exact h
end Go.Proofs.Ytiaohcjjkbpngaa
