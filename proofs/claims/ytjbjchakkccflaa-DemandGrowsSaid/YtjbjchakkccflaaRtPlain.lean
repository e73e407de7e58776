/-
  Plain facts of response times (chapter 16): no Go in sight.
-/
import Derived.Test.YtjbjchakkccflaaNumPlain
namespace Go.Proofs.Ytjbjchakkccflaa
set_option linter.unusedVariables false
/-- A part: its period, its cost. -/
structure Pt where
  per : Int
  cost : Int
def ptW (span : Int) (p : Pt) : Int := mul (up span p.per) p.cost
def workP (span : Int) (ps : List Pt) : Int := sum (ps.map (ptW span))
def needP (own block : Int) (ps : List Pt) (span : Int) : Int := sum [own, block, workP span ps]
theorem mul_lo (a b : Int) : 0 ≤ mul a b := cl_lo _
theorem mul_hi (a b : Int) : mul a b ≤ 1099511627776 := cl_hi _
theorem ptW_lo (span : Int) (p : Pt) : 0 ≤ ptW span p := mul_lo _ _
theorem ptW_hi (span : Int) (p : Pt) : ptW span p ≤ 1099511627776 := mul_hi _ _
theorem workP_lo (span : Int) (ps : List Pt) : 0 ≤ workP span ps := sum_lo _
theorem workP_hi (span : Int) (ps : List Pt) : workP span ps ≤ 1099511627776 := sum_hi _
theorem sum_three (a b c : Int) : sum [a, b, c] = cl (cl (cl a + cl b) + cl c) := by
  have : sum [a, b, c] = cl (cl (cl (0 + cl a) + cl b) + cl c) := rfl
  rw [this, Int.zero_add, cl_cl]
theorem workP_snoc (span : Int) (ps : List Pt) (p : Pt) : workP span (ps ++ [p]) = cl (workP span ps + ptW span p) := by
  unfold workP
  rw [List.map_append, List.map_cons, List.map_nil, sum_snoc, cl_in (ptW span p) (ptW_lo _ _) (ptW_hi _ _)]
/-- As the document's own loop adds. -/
theorem workP_step (span : Int) (ps : List Pt) (p : Pt) : cl (cl (workP span ps) + cl (ptW span p)) = workP span (ps ++ [p]) := by
  rw [workP_snoc, cl_in (workP span ps) (workP_lo _ _) (workP_hi _ _), cl_in (ptW span p) (ptW_lo _ _) (ptW_hi _ _)]
theorem workP_append (span : Int) (a b : List Pt) : workP span (a ++ b) = cl (cl (workP span a) + cl (workP span b)) := by
  unfold workP
  rw [List.map_append, sum_append, sum_two]
theorem tot_mono {l r : List Int} (h : l.length = r.length) (hh : ∀ i, i < l.length → l.getD i 0 ≤ r.getD i 0) : tot l ≤ tot r := by
  induction l generalizing r with
  | nil => cases r with
    | nil => exact Int.le_refl _
    | cons y r => cases h
  | cons x l ih =>
    cases r with
    | nil => cases h
    | cons y r =>
      have h0 := hh 0 (by simp)
      have := ih (r := r) (by simpa using h) fun i hi => by have := hh (i + 1) (by simpa using hi); simpa using this
      have e1 : tot (x :: l) = cl x + tot l := by unfold tot; simp
      have e2 : tot (y :: r) = cl y + tot r := by unfold tot; simp
      have := cl_mono (show x ≤ y by simpa using h0)
      omega
theorem ptW_mono {a b : Int} (h : a ≤ b) (p : Pt) : ptW a p ≤ ptW b p := mul_mono _ _ _ _ (up_mono a b p.per h) (Int.le_refl _)
theorem workP_mono {a b : Int} (h : a ≤ b) (ps : List Pt) : workP a ps ≤ workP b ps := by
  unfold workP
  rw [sum_tot, sum_tot]
  refine cl_mono (tot_mono (by simp) fun i hi => ?_)
  rw [List.length_map] at hi
  simp [List.getD, hi]
  exact ptW_mono h _
theorem needP_mono {a b : Int} (h : a ≤ b) (own block : Int) (ps : List Pt) : needP own block ps a ≤ needP own block ps b := by
  unfold needP
  rw [sum_three, sum_three]
  exact cl_mono (Int.add_le_add_left (cl_mono (workP_mono h ps)) _)
theorem needP_lo (own block : Int) (ps : List Pt) (s : Int) : 0 ≤ needP own block ps s := sum_lo _
/-- More work, one more part. -/
theorem needP_more {own own' block : Int} (h : own ≤ own') (ps : List Pt) (p : Pt) (s : Int) : needP own block ps s ≤ needP own' block (ps ++ [p]) s := by
  unfold needP
  rw [sum_three, sum_three]
  have h1 := cl_mono h
  have h2 : cl (cl own + cl block) ≤ cl (cl own' + cl block) := cl_mono (by omega)
  have h3 : workP s ps ≤ workP s (ps ++ [p]) := by
    rw [workP_snoc]
    have e := cl_mono (show workP s ps ≤ workP s ps + ptW s p by have := ptW_lo s p; omega)
    rwa [cl_in (workP s ps) (workP_lo _ _) (workP_hi _ _)] at e
  have h4 := cl_mono h3
  exact cl_mono (by omega)
/-- The least span that is enough: r, and whether there is one. -/
def IsResp (own block : Int) (ps : List Pt) (most r : Int) (ok : Bool) : Prop :=
  (ok = true ∧ 1 ≤ r ∧ r ≤ cl most ∧ r ≤ 4096 ∧ needP own block ps r ≤ r ∧ ∀ s, 1 ≤ s → s < r → ¬ needP own block ps s ≤ s) ∨
  (ok = false ∧ r = 0 ∧ ∀ s, 1 ≤ s → s ≤ cl most → s ≤ 4096 → ¬ needP own block ps s ≤ s)
theorem IsResp.same {own block : Int} {ps : List Pt} {most r r' : Int} {ok ok' : Bool} (h : IsResp own block ps most r ok) (h' : IsResp own block ps most r' ok') : r = r' ∧ ok = ok' := by
  rcases h with ⟨e, a1, a2, a3, a4, a5⟩ | ⟨e, a1, a2⟩ <;> rcases h' with ⟨e', b1, b2, b3, b4, b5⟩ | ⟨e', b1, b2⟩
  · refine ⟨?_, by rw [e, e']⟩
    rcases Int.lt_trichotomy r r' with hlt | hlt | hlt
    · exact absurd a4 (b5 r a1 hlt)
    · exact hlt
    · exact absurd b4 (a5 r' b1 hlt)
  · exact absurd a4 (b2 r a1 a2 a3)
  · exact absurd b4 (a2 r' b1 b2 b3)
  · exact ⟨by omega, by rw [e, e']⟩
/-- RtaExact. -/
theorem IsResp.exact {own block : Int} {ps : List Pt} {most r : Int} (h : IsResp own block ps most r true) : 1 ≤ r ∧ (needP own block ps r = r ∨ (r = 1 ∧ needP own block ps r = 0)) := by
  rcases h with ⟨_, a1, _, _, a4, a5⟩ | ⟨e, _⟩
  · refine ⟨a1, ?_⟩
    have lo := needP_lo own block ps r
    by_cases hr : r = 1
    · subst hr; omega
    · have h1 := a5 (r - 1) (by omega) (by omega)
      have h2 := needP_mono (show r - 1 ≤ r by omega) own block ps
      left; omega
  · cases e
/-- RtaRises. -/
theorem IsResp.rises {own own' block : Int} {ps : List Pt} {p : Pt} {most r r' : Int} {ok ok' : Bool} (h : IsResp own block ps most r ok) (h' : IsResp own' block (ps ++ [p]) most r' ok') (ho : own ≤ own') : ok' = true → ok = true ∧ r ≤ r' := by
  intro e'
  rcases h' with ⟨_, b1, b2, b3, b4, _⟩ | ⟨e, _⟩
  · have hn : needP own block ps r' ≤ r' := Int.le_trans (needP_more ho ps p r') b4
    rcases h with ⟨e, a1, a2, a3, a4, a5⟩ | ⟨_, _, a2⟩
    · refine ⟨e, ?_⟩
      rcases Int.lt_or_le r' r with hlt | hle
      · exact absurd hn (a5 r' b1 hlt)
      · exact hle
    · exact absurd hn (a2 r' b1 b2 b3)
  · rw [e'] at e; cases e
/-- RtaLeast: the first span that is enough is the response. -/
theorem IsResp.first {own block : Int} {ps : List Pt} {most r s : Int} {ok : Bool} (h : IsResp own block ps most r ok) (h1 : 1 ≤ s) (h2 : s ≤ cl most) (h3 : s ≤ 4096) (hs : needP own block ps s ≤ s) (hn : ∀ q, 1 ≤ q → q < s → ¬ needP own block ps q ≤ q) : ok = true ∧ r = s := by
  obtain ⟨e1, e2⟩ := h.same (r' := s) (ok' := true) (.inl ⟨rfl, h1, h2, h3, hs, hn⟩)
  exact ⟨e2, e1⟩
theorem IsResp.none_ {own block : Int} {ps : List Pt} {most r : Int} {ok : Bool} (h : IsResp own block ps most r ok) (hn : ∀ q, 1 ≤ q → q ≤ cl most → q ≤ 4096 → ¬ needP own block ps q ≤ q) : ok = false ∧ r = 0 := by
  obtain ⟨e1, e2⟩ := h.same (r' := 0) (ok' := false) (.inr ⟨rfl, rfl, hn⟩)
  exact ⟨e2, e1⟩
theorem needP_two {own block : Int} (h0 : 0 ≤ own) (h1 : 0 ≤ block) (h2 : own + block ≤ 1000000) (ps : List Pt) (s : Int) : cl (cl (own + block) + cl (workP s ps)) = needP own block ps s := by
  unfold needP
  rw [sum_three, cl_in own h0 (by omega), cl_in block h1 (by omega), cl_in (own + block) (by omega) (by omega)]
/-- RtaParts: a span that is more by a part's period. -/
theorem ptW_next {span per cost : Int} (s0 : 1 ≤ span) (s1 : span ≤ 1000) (p0 : 1 ≤ per) (p1 : per ≤ 1000) (c0 : 0 ≤ cost) (c1 : cost ≤ 1000) : ptW (span + per) ⟨per, cost⟩ = ptW span ⟨per, cost⟩ + cost := by
  have u1 : up (span + per) per = up span per + 1 := by
    unfold up
    rw [cl_in span (by omega) (by omega), cl_in (span + per) (by omega) (by omega), dv_in per p0 (by omega)]
    rw [show span + per + per - 1 = (span + per - 1) + 1 * per by omega, Int.add_mul_ediv_right _ _ (by omega)]
  have u0 := up_lo span per
  have u2 : up span per ≤ 2000 := by
    unfold up
    rw [cl_in span (by omega) (by omega), dv_in per p0 (by omega)]
    have := Int.ediv_le_self per (show 0 ≤ span + per - 1 by omega)
    exact Int.le_trans (Int.ediv_le_self _ (by omega)) (by omega)
  have m1 : up span per * cost ≤ 2000 * 1000 := Int.mul_le_mul u2 c1 c0 (by omega)
  have m0 : 0 ≤ up span per * cost := Int.mul_nonneg u0 c0
  unfold ptW
  show mul (up (span + per) per) cost = mul (up span per) cost + cost
  rw [u1, mul_within _ _ (by rw [cl_in cost c0 (by omega), cl_in _ (by omega) (by omega), Int.add_mul]; omega), mul_within _ _ (by rw [cl_in cost c0 (by omega), cl_in _ u0 (by omega)]; omega),
    cl_in cost c0 (by omega), cl_in _ (by omega) (by omega), cl_in _ u0 (by omega), Int.add_mul, Int.one_mul]
end Go.Proofs.Ytjbjchakkccflaa
