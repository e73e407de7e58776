/-
  Plain facts of demand by deadlines (chapter 17): no Go in sight.
-/
import Derived.Test.YtjbjchakkccflaaRtPlain
namespace Go.Proofs.Ytjbjchakkccflaa
set_option linter.unusedVariables false
/-- A task by deadlines: its period, its deadline, its cost. -/
structure Er where
  per : Int
  dl : Int
  cost : Int
def jobsE (span : Int) (e : Er) : Int := down (cl span - cl e.dl) e.per + 1
def dueE (span : Int) (e : Er) : Int := if cl e.dl ≤ cl span then mul e.cost (jobsE span e) else 0
def needE (span : Int) (es : List Er) : Int := sum (es.map (dueE span))
def partE (e : Er) : Pt := ⟨e.per, e.cost⟩
theorem dueE_lo (span : Int) (e : Er) : 0 ≤ dueE span e := by unfold dueE; split; exact mul_lo _ _; exact Int.le_refl _
theorem dueE_hi (span : Int) (e : Er) : dueE span e ≤ 1099511627776 := by unfold dueE; split; exact mul_hi _ _; omega
theorem needE_lo (span : Int) (es : List Er) : 0 ≤ needE span es := sum_lo _
theorem needE_hi (span : Int) (es : List Er) : needE span es ≤ 1099511627776 := sum_hi _
theorem needE_snoc (span : Int) (es : List Er) (e : Er) : needE span (es ++ [e]) = cl (needE span es + dueE span e) := by
  unfold needE
  rw [List.map_append, List.map_cons, List.map_nil, sum_snoc, cl_in (dueE span e) (dueE_lo _ _) (dueE_hi _ _)]
theorem down_mono {a b : Int} (d : Int) (h : a ≤ b) : down a d ≤ down b d := Int.ediv_le_ediv (by have := dv_lo d; omega) (cl_mono h)
theorem dueE_mono {a b : Int} (h : a ≤ b) (e : Er) : dueE a e ≤ dueE b e := by
  have hc := cl_mono h
  unfold dueE
  by_cases h1 : cl e.dl ≤ cl a
  · rw [if_pos h1, if_pos (by omega)]
    refine mul_mono _ _ _ _ (Int.le_refl _) ?_
    have := down_mono e.per (show cl a - cl e.dl ≤ cl b - cl e.dl by omega)
    unfold jobsE
    omega
  · rw [if_neg h1]
    split
    · exact mul_lo _ _
    · exact Int.le_refl _
theorem needE_mono {a b : Int} (h : a ≤ b) (es : List Er) : needE a es ≤ needE b es := by
  unfold needE
  rw [sum_tot, sum_tot]
  refine cl_mono (tot_mono (by simp) fun i hi => ?_)
  rw [List.length_map] at hi
  simp [List.getD, hi]
  exact dueE_mono h _
theorem sum_drop_le (a : List Int) (x : Int) (b : List Int) : sum (a ++ b) ≤ sum (a ++ x :: b) := by
  rw [sum_tot, sum_tot, tot_append, tot_append]
  have e : tot (x :: b) = cl x + tot b := by unfold tot; simp
  have := cl_lo x
  exact cl_mono (by omega)
theorem workP_less (s : Int) (a : List Pt) (x : Pt) (b : List Pt) : workP s (a ++ b) ≤ workP s (a ++ x :: b) := by
  unfold workP
  rw [List.map_append, List.map_append, List.map_cons]
  exact sum_drop_le _ _ _
theorem needE_less (s : Int) (es : List Er) (e : Er) : needE s es ≤ needE s (es ++ [e]) := by
  have := sum_drop_le (es.map (dueE s)) (dueE s e) []
  unfold needE
  rw [List.map_append]
  simpa using this
theorem sum3_mono {a b c a' b' c' : Int} (h1 : a ≤ a') (h2 : b ≤ b') (h3 : c ≤ c') : sum [a, b, c] ≤ sum [a', b', c'] := by
  rw [sum_three, sum_three]
  have e1 := cl_mono h1
  have e2 := cl_mono h2
  have e3 := cl_mono h3
  have e4 : cl (cl a + cl b) ≤ cl (cl a' + cl b') := cl_mono (by omega)
  exact cl_mono (by omega)
/-- A span that is too short for what is due in it. -/
def badE (block : Int) (ps : List Pt) (es : List Er) (s : Int) : Prop := 0 < needE s es ∧ s < sum [block, workP s ps, needE s es]
/-- What Fits answers. -/
def IsFits (block : Int) (ps : List Pt) (es : List Er) (most x : Int) (ok : Bool) : Prop :=
  (∃ r, IsResp 0 block (ps ++ es.map partE) most r false ∧ x = 0 ∧ ok = false) ∨
  (∃ r, IsResp 0 block (ps ++ es.map partE) most r true ∧
    ((ok = false ∧ 1 ≤ x ∧ x ≤ r ∧ badE block ps es x ∧ ∀ s, 1 ≤ s → s < x → ¬ badE block ps es s) ∨ (ok = true ∧ x = r ∧ ∀ s, 1 ≤ s → s ≤ r → ¬ badE block ps es s)))
theorem IsFits.same {block : Int} {ps : List Pt} {es : List Er} {most x x' : Int} {ok ok' : Bool} (h : IsFits block ps es most x ok) (h' : IsFits block ps es most x' ok') : x = x' ∧ ok = ok' := by
  rcases h with ⟨r, hr, e1, e2⟩ | ⟨r, hr, h⟩ <;> rcases h' with ⟨r', hr', f1, f2⟩ | ⟨r', hr', h'⟩
  · exact ⟨by omega, by rw [e2, f2]⟩
  · have := (hr.same hr').2; cases this
  · have := (hr.same hr').2; cases this
  · obtain rfl := (hr.same hr').1
    rcases h with ⟨e, a1, a2, a3, a4⟩ | ⟨e, a1, a2⟩ <;> rcases h' with ⟨e', b1, b2, b3, b4⟩ | ⟨e', b1, b2⟩
    · refine ⟨?_, by rw [e, e']⟩
      rcases Int.lt_trichotomy x x' with hlt | hlt | hlt
      · exact absurd a3 (b4 x a1 hlt)
      · exact hlt
      · exact absurd b3 (a4 x' b1 hlt)
    · exact absurd a3 (b2 x a1 a2)
    · exact absurd b3 (a2 x' b1 b2)
    · exact ⟨by omega, by rw [e, e']⟩
/-- DemandLess: what fits fits with less. -/
theorem IsFits.less {block block' : Int} {ps ps' : List Pt} {es es' : List Er} {most x x' : Int} {ok' : Bool} (h : IsFits block ps es most x true) (h' : IsFits block' ps' es' most x' ok') (hb : block' ≤ block)
    (hp : ∀ s, workP s ps' ≤ workP s ps) (he : ∀ s, needE s es' ≤ needE s es) (ha : ∀ s, workP s (ps' ++ es'.map partE) ≤ workP s (ps ++ es.map partE)) : ok' = true := by
  have hneed : ∀ s, needP 0 block' (ps' ++ es'.map partE) s ≤ needP 0 block (ps ++ es.map partE) s := fun s => sum3_mono (Int.le_refl _) hb (ha s)
  have hbad : ∀ s, badE block' ps' es' s → badE block ps es s := fun s hs => ⟨Int.lt_of_lt_of_le hs.1 (he s), Int.lt_of_lt_of_le hs.2 (sum3_mono hb (hp s) (he s))⟩
  rcases h with ⟨r, _, _, e⟩ | ⟨r, hr, ⟨e, _⟩ | ⟨_, rfl, hall⟩⟩
  · cases e
  · cases e
  rcases hr with ⟨_, a1, a2, a3, a4, _⟩ | ⟨e, _⟩
  case inr => cases e
  rcases h' with ⟨r', hr', _, _⟩ | ⟨r', hr', h'⟩
  · rcases hr' with ⟨e, _⟩ | ⟨_, _, hn⟩
    · cases e
    · exact absurd (Int.le_trans (hneed x) a4) (hn x a1 a2 a3)
  · rcases hr' with ⟨_, b1, b2, b3, b4, b5⟩ | ⟨e, _⟩
    case inr => cases e
    have hle : r' ≤ x := by
      rcases Int.lt_or_le x r' with hlt | hle
      · exact absurd (Int.le_trans (hneed x) a4) (b5 x a1 hlt)
      · exact hle
    rcases h' with ⟨_, c1, c2, c3, _⟩ | ⟨e, _⟩
    · exact absurd (hbad _ c3) (hall _ c1 (Int.le_trans c2 hle))
    · exact e
/-- DemandGrows: the jobs that are due in two spans. -/
theorem dueE_two {x y per dl : Int} (x0 : 0 ≤ x) (x1 : x ≤ 2000) (y0 : 0 ≤ y) (y1 : y ≤ 2000) (p1 : 1 ≤ per) (hd : per ≤ dl) : dueE x ⟨per, dl, 1⟩ + dueE y ⟨per, dl, 1⟩ ≤ dueE (x + y) ⟨per, dl, 1⟩ := by
  have cx := cl_in x x0 (by omega)
  have cy := cl_in y y0 (by omega)
  have cz := cl_in (x + y) (by omega) (by omega)
  have hcd : dv per ≤ cl dl := by rw [dv_else per (by omega)]; exact cl_mono hd
  have d1 := dv_lo per
  have m1 := dueE_mono (show x ≤ x + y by omega) ⟨per, dl, 1⟩
  have m2 := dueE_mono (show y ≤ x + y by omega) ⟨per, dl, 1⟩
  have val : ∀ z : Int, 0 ≤ z → z ≤ 4000 → cl dl ≤ z → dueE z ⟨per, dl, 1⟩ = (z - cl dl) / dv per + 1 := fun z z0 z1 hz => by
    have cz := cl_in z z0 (by omega)
    have q0 : 0 ≤ (z - cl dl) / dv per := Int.ediv_nonneg (by omega) (by omega)
    have q1 : (z - cl dl) / dv per ≤ z - cl dl := Int.ediv_le_self _ (by omega)
    have dlo := cl_lo dl
    unfold dueE
    rw [if_pos (show cl (Er.dl ⟨per, dl, 1⟩) ≤ cl z by rw [cz]; exact hz)]
    unfold jobsE
    show mul 1 (down (cl z - cl dl) per + 1) = _
    rw [cz]
    unfold down
    rw [cl_in (z - cl dl) (by omega) (by omega)]
    rw [mul_within _ _ (by rw [cl_in 1 (by omega) (by omega), cl_in _ (by omega) (by omega)]; omega), cl_in 1 (by omega) (by omega), cl_in _ (by omega) (by omega), Int.one_mul]
  have zero : ∀ z : Int, 0 ≤ z → z ≤ 4000 → z < cl dl → dueE z ⟨per, dl, 1⟩ = 0 := fun z z0 z1 hz => by
    unfold dueE
    rw [if_neg]
    show ¬ cl dl ≤ cl z
    rw [cl_in z z0 (by omega)]
    omega
  by_cases hx : cl dl ≤ x
  · by_cases hy : cl dl ≤ y
    · rw [val x x0 (by omega) hx, val y y0 (by omega) hy, val (x + y) (by omega) (by omega) (by omega)]
      have e1 := Int.ediv_mul_le (x - cl dl) (show dv per ≠ 0 by omega)
      have e2 := Int.ediv_mul_le (y - cl dl) (show dv per ≠ 0 by omega)
      have : (x - cl dl) / dv per + (y - cl dl) / dv per + 1 ≤ (x + y - cl dl) / dv per := by
        rw [Int.le_ediv_iff_mul_le (by omega), Int.add_mul, Int.add_mul, Int.one_mul]
        omega
      omega
    · rw [zero y y0 (by omega) (by omega)]; omega
  · rw [zero x x0 (by omega) (by omega)]; omega
end Go.Proofs.Ytjbjchakkccflaa
