/-
  What the walks lean on, part 2: AdGreat RtPlain DmPlain AdPlain AdLess.
-/
import Derived.Test.YtcmgkjjkhfcedaaGreatPk01
/-
  Whether a configuration is too great for the laws (coxswainlaw0's GreatConfig).
-/
namespace Go.Proofs.YtcmgkjjkhfcedaaGreat
open Go.ChangeShapes Go.WideShapes Go.ChangeAt Go.RowKit
set_option linter.unusedVariables false
set_option linter.unusedSimpArgs false
def bigTk (t : Tk) : Bool := decide (12 < t.un) || greatB t.qs
def bigEf (e : Ef) : Bool := greatB e.qs
def greatCf (c : Cf) : Bool := decide (12 < c.tn) || decide (12 < c.en) || decide (12 < c.mn) || decide (12 < c.gn) || c.ts.any bigTk || c.es.any bigEf
theorem any_yes {α : Type} {f : α → Bool} {xs : List α} {i : Nat} {x : α} (h : xs[i]? = some x) (hb : f x = true) : xs.any f = true := List.any_eq_true.2 ⟨x, List.mem_iff_getElem?.2 ⟨i, h⟩, hb⟩
theorem any_no {α : Type} {f : α → Bool} {xs : List α} (h : ∀ (i : Nat) (x : α), xs[i]? = some x → f x = false) : xs.any f = false := by
  cases e : xs.any f
  · rfl
  · obtain ⟨x, hx, hf⟩ := List.any_eq_true.1 e
    obtain ⟨i, hi⟩ := List.mem_iff_getElem?.1 hx
    rw [h i x hi] at hf; cases hf
set_option maxRecDepth 10000 in
set_option maxHeartbeats 8000000 in
theorem greatCf_any (w : World) (c : Cf) (hc : CfFit w c) :
    Calls Tryz.prog 4 #[.agg (cfVals c).toArray] w fun e w' => e = .returned (.bool (greatCf c)) ∧ Below w.heap.size w w' := by
  obtain ⟨ta, tn, tc, ts, ea, en, ec, es, ma, mn, mc, ms, ga, gn, gc, gs, frames, dog⟩ := c
  show Calls Tryz.prog 4 #[.agg #[.slice ta tn tc, .slice ea en ec, .slice ma mn mc, .slice ga gn gc, .int .i64 frames, .int .i64 dog]] w _
  have F := hide hc
  clear hc
  obtain ⟨G, hG⟩ : ∃ G, G = greatCf ⟨ta, tn, tc, ts, ea, en, ec, es, ma, mn, mc, ms, ga, gn, gc, gs, frames, dog⟩ := ⟨_, rfl⟩
  rw [← hG]
  have HG := hide hG
  clear hG
  obtain ⟨W0, hW⟩ : ∃ W0, W0 = w.alloc (.cells #[.slice ta tn tc, .slice ea en ec, .slice ma mn mc, .slice ga gn gc, .int .i64 frames, .int .i64 dog] 27) := ⟨_, rfl⟩
  have hb := heap_alloc_new w (.cells #[.slice ta tn tc, .slice ea en ec, .slice ma mn mc, .slice ga gn gc, .int .i64 frames, .int .i64 dog] 27)
  have B0 := hide ((Below.refl w.heap.size w).alloc (Nat.le_refl _) (.cells #[.slice ta tn tc, .slice ea en ec, .slice ma mn mc, .slice ga gn gc, .int .i64 frames, .int .i64 dog] 27))
  rw [← hW] at hb B0
  have x0 : W0.cell? ⟨w.heap.size, 0, none⟩ = some (.slice ta tn tc) := by rw [cell_of_row _ _ _ _ _ _ hb]; rfl
  have x1 : W0.cell? ⟨w.heap.size, 1, none⟩ = some (.slice ea en ec) := by rw [cell_of_row _ _ _ _ _ _ hb]; rfl
  have x2 : W0.cell? ⟨w.heap.size, 2, none⟩ = some (.slice ma mn mc) := by rw [cell_of_row _ _ _ _ _ _ hb]; rfl
  have x3 : W0.cell? ⟨w.heap.size, 3, none⟩ = some (.slice ga gn gc) := by rw [cell_of_row _ _ _ _ _ _ hb]; rfl
  have HW := hide hW
  clear hb hW
  go_enter Tryz.func4, Tryz.ntmps4
  go_upto_region 1 with fail
  rw [← HW.out]
  by_cases g0 : (12 : Int) < (tn : Int)
  · have G2 := hide (show G = true from by rw [HG.out]; unfold greatCf; dsimp only; simp; omega)
    go_wp2_with fail
    go_ret
    exact ⟨ret_bool G2.out.symm, B0.out⟩
  by_cases g1 : (12 : Int) < (en : Int)
  · have G2 := hide (show G = true from by rw [HG.out]; unfold greatCf; dsimp only; simp; omega)
    go_wp2_with fail
    go_ret
    exact ⟨ret_bool G2.out.symm, B0.out⟩
  by_cases g2 : (12 : Int) < (mn : Int)
  · have G2 := hide (show G = true from by rw [HG.out]; unfold greatCf; dsimp only; simp; omega)
    go_wp2_with fail
    go_ret
    exact ⟨ret_bool G2.out.symm, B0.out⟩
  by_cases g3 : (12 : Int) < (gn : Int)
  · have G2 := hide (show G = true from by rw [HG.out]; unfold greatCf; dsimp only; simp; omega)
    go_wp2_with fail
    go_ret
    exact ⟨ret_bool G2.out.symm, B0.out⟩
  have LT := hide F.out.tasks.1
  have LE := hide F.out.best.1
  have RT := hide (F.out.tasks.reads.below B0.out)
  have RE := hide (F.out.best.reads.below B0.out)
  have FT := hide (show ∀ t ∈ ts, Reads 9 stVals W0 t.qa t.qn t.qs ∧ t.qn ≤ maxLen from fun t ht => by
    have f := (F.out.tasks.2.2.2.2.1 t ht).prog
    exact ⟨f.reads.below B0.out, Nat.le_trans f.2.1 f.2.2.1⟩)
  have FE := hide (show ∀ t ∈ es, Reads 9 stVals W0 t.qa t.qn t.qs ∧ t.qn ≤ maxLen from fun t ht => by
    have f := (F.out.best.2.2.2.2.1 t ht).prog
    exact ⟨f.reads.below B0.out, Nat.le_trans f.2.1 f.2.2.1⟩)
  clear F
  go_wp2_with fail
  go_loopw [3] (fun i wx => ∃ k : Nat, k ≤ tn ∧ i = .int .i64 k ∧ W0 = wx ∧ Hid (∀ (i : Nat) (t : Tk), i < k → ts[i]? = some t → bigTk t = false)) (fun i _ => tn - (intOf i).toNat)
  case atStart => exact ⟨0, Nat.zero_le _, rfl, rfl, fun i x hi => absurd hi (by omega)⟩
  case round =>
    obtain ⟨k, hk, rfl, rfl, hZ⟩ := hrel
    by_cases hlt : k < tn
    · have k0 : (0 : Int) ≤ (k : Int) := by omega
      have k1 : (k : Int) < (tn : Int) := by omega
      obtain ⟨t, b, off, hx, rfl, hc⟩ := RT.out.at_ hlt
      have HX := hide hx
      have HM := hide (FT.out t (List.mem_iff_getElem?.2 ⟨k, hx⟩))
      have c6 : W0.cell? ⟨b, off + k * 8 + 6, none⟩ = some (.slice t.ua t.un t.uc) := hc 6 _ rfl
      have c7 : W0.cell? ⟨b, off + k * 8 + 7, none⟩ = some (.slice t.qa t.qn t.qc) := hc 7 _ rfl
      clear hx hc
      by_cases hu : (12 : Int) < (t.un : Int)
      · have G2 := hide (show G = true from by rw [HG.out]; unfold greatCf; dsimp only; rw [any_yes HX.out (show bigTk t = true from by unfold bigTk; simp; left; omega)]; simp)
        go_wp2_with fail
        go_ret
        exact ⟨ret_bool G2.out.symm, B0.out⟩
      · obtain ⟨g, hg⟩ : ∃ g, g = greatB t.qs := ⟨_, rfl⟩
        have K0 := hide (show Calls Tryz.prog 18 #[.slice t.qa t.qn t.qc] W0 fun e w' => e = .returned (.bool g) ∧ W0 = w' from by have := great_any t.qa t.qn t.qc t.qs W0 HM.out.1 HM.out.2; rw [← hg] at this; exact this)
        cases g with
        | true =>
          have G2 := hide (show G = true from by rw [HG.out]; unfold greatCf; dsimp only; rw [any_yes HX.out (show bigTk t = true from by unfold bigTk; rw [← hg]; simp)]; simp)
          clear hg
          go_wp2_with (go_at_call 18; with_reducible refine K0.out.mono ?_; rintro e w' ⟨rfl, rfl⟩)
          go_ret
          exact ⟨ret_bool G2.out.symm, B0.out⟩
        | false =>
          have N2 := hide (show ∀ (i : Nat) (y : Tk), i < k + 1 → ts[i]? = some y → bigTk y = false from fun i y hi hy => by
            by_cases e : i = k
            · subst e
              rw [HX.out] at hy
              injection hy with hy
              subst hy
              unfold bigTk; rw [← hg]; simp; omega
            · exact hZ.out i y (by omega) hy)
          clear hg
          go_wp2_with (go_at_call 18; with_reducible refine K0.out.mono ?_; rintro e w' ⟨rfl, rfl⟩)
          go_roundw
          case rel => exact ⟨k + 1, by omega, by go_num, trivial, N2.out⟩
          case measure => simp [intOf]; omega
    · obtain rfl : k = tn := by omega
      have NT := hide (show ts.any bigTk = false from any_no fun i x hi => hZ.out i x (by
        have := (List.getElem?_eq_some_iff.1 hi).1
        have := LT.out
        omega) hi)
      have RE2 := RE
      clear RT FT LT
      go_wp2_with fail
      go_loopw [4] (fun i wx => ∃ k : Nat, k ≤ en ∧ i = .int .i64 k ∧ W0 = wx ∧ Hid (∀ (i : Nat) (t : Ef), i < k → es[i]? = some t → bigEf t = false)) (fun i _ => en - (intOf i).toNat)
      case atStart => exact ⟨0, Nat.zero_le _, rfl, rfl, fun i x hi => absurd hi (by omega)⟩
      case round =>
        obtain ⟨k, hk, rfl, rfl, hZ⟩ := hrel
        by_cases hlt : k < en
        · have k0 : (0 : Int) ≤ (k : Int) := by omega
          have k1 : (k : Int) < (en : Int) := by omega
          obtain ⟨t, b, off, hx, rfl, hc⟩ := RE.out.at_ hlt
          have HX := hide hx
          have HM := hide (FE.out t (List.mem_iff_getElem?.2 ⟨k, hx⟩))
          have c1 : W0.cell? ⟨b, off + k * 2 + 1, none⟩ = some (.slice t.qa t.qn t.qc) := hc 1 _ rfl
          clear hx hc
          obtain ⟨g, hg⟩ : ∃ g, g = greatB t.qs := ⟨_, rfl⟩
          have K0 := hide (show Calls Tryz.prog 18 #[.slice t.qa t.qn t.qc] W0 fun e w' => e = .returned (.bool g) ∧ W0 = w' from by have := great_any t.qa t.qn t.qc t.qs W0 HM.out.1 HM.out.2; rw [← hg] at this; exact this)
          cases g with
          | true =>
            have G2 := hide (show G = true from by rw [HG.out]; unfold greatCf; dsimp only; rw [any_yes HX.out (show bigEf t = true from by unfold bigEf; rw [← hg])]; simp)
            clear hg
            go_wp2_with (go_at_call 18; with_reducible refine K0.out.mono ?_; rintro e w' ⟨rfl, rfl⟩)
            go_ret
            exact ⟨ret_bool G2.out.symm, B0.out⟩
          | false =>
            have N2 := hide (show ∀ (i : Nat) (y : Ef), i < k + 1 → es[i]? = some y → bigEf y = false from fun i y hi hy => by
              by_cases e : i = k
              · subst e
                rw [HX.out] at hy
                injection hy with hy
                subst hy
                unfold bigEf; rw [← hg]
              · exact hZ.out i y (by omega) hy)
            clear hg
            go_wp2_with (go_at_call 18; with_reducible refine K0.out.mono ?_; rintro e w' ⟨rfl, rfl⟩)
            go_roundw
            case rel => exact ⟨k + 1, by omega, by go_num, trivial, N2.out⟩
            case measure => simp [intOf]; omega
        · obtain rfl : k = en := by omega
          have G2 := hide (show G = false from by
            have h2 : es.any bigEf = false := any_no fun i x hi => hZ.out i x (by
              have := (List.getElem?_eq_some_iff.1 hi).1
              have := LE.out
              omega) hi
            rw [HG.out]; unfold greatCf; dsimp only; rw [NT.out, h2]; simp; omega)
          go_wp2_with fail
          go_ret
          exact ⟨ret_bool G2.out.symm, B0.out⟩
end Go.Proofs.YtcmgkjjkhfcedaaGreat
/-
  Plain facts of response times (chapter 16): no Go in sight.
-/
namespace Go.Proofs.YtcmgkjjkhfcedaaGreat
set_option linter.unusedVariables false
/-- A part: its period, its cost. -/
structure Pt where
  per : Int
  cost : Int
def ptW (span : Int) (p : Pt) : Int := mul (up span p.per) p.cost
def workP (span : Int) (ps : List Pt) : Int := sum (ps.map (ptW span))
def needP (own block : Int) (ps : List Pt) (span : Int) : Int := sum [own, block, workP span ps]
theorem mul_lo (a b : Int) : 0 ≤ mul a b := cl_lo _
theorem mul_hi (a b : Int) : mul a b ≤ 1099511627776 := cl_hi _
theorem ptW_lo (span : Int) (p : Pt) : 0 ≤ ptW span p := mul_lo _ _
theorem ptW_hi (span : Int) (p : Pt) : ptW span p ≤ 1099511627776 := mul_hi _ _
theorem workP_lo (span : Int) (ps : List Pt) : 0 ≤ workP span ps := sum_lo _
theorem workP_hi (span : Int) (ps : List Pt) : workP span ps ≤ 1099511627776 := sum_hi _
theorem sum_three (a b c : Int) : sum [a, b, c] = cl (cl (cl a + cl b) + cl c) := by
  have : sum [a, b, c] = cl (cl (cl (0 + cl a) + cl b) + cl c) := rfl
  rw [this, Int.zero_add, cl_cl]
theorem workP_snoc (span : Int) (ps : List Pt) (p : Pt) : workP span (ps ++ [p]) = cl (workP span ps + ptW span p) := by
  unfold workP
  rw [List.map_append, List.map_cons, List.map_nil, sum_snoc, cl_in (ptW span p) (ptW_lo _ _) (ptW_hi _ _)]
/-- As the document's own loop adds. -/
theorem workP_step (span : Int) (ps : List Pt) (p : Pt) : cl (cl (workP span ps) + cl (ptW span p)) = workP span (ps ++ [p]) := by
  rw [workP_snoc, cl_in (workP span ps) (workP_lo _ _) (workP_hi _ _), cl_in (ptW span p) (ptW_lo _ _) (ptW_hi _ _)]
theorem workP_append (span : Int) (a b : List Pt) : workP span (a ++ b) = cl (cl (workP span a) + cl (workP span b)) := by
  unfold workP
  rw [List.map_append, sum_append, sum_two]
theorem tot_mono {l r : List Int} (h : l.length = r.length) (hh : ∀ i, i < l.length → l.getD i 0 ≤ r.getD i 0) : tot l ≤ tot r := by
  induction l generalizing r with
  | nil => cases r with
    | nil => exact Int.le_refl _
    | cons y r => cases h
  | cons x l ih =>
    cases r with
    | nil => cases h
    | cons y r =>
      have h0 := hh 0 (by simp)
      have := ih (r := r) (by simpa using h) fun i hi => by have := hh (i + 1) (by simpa using hi); simpa using this
      have e1 : tot (x :: l) = cl x + tot l := by unfold tot; simp
      have e2 : tot (y :: r) = cl y + tot r := by unfold tot; simp
      have := cl_mono (show x ≤ y by simpa using h0)
      omega
theorem ptW_mono {a b : Int} (h : a ≤ b) (p : Pt) : ptW a p ≤ ptW b p := mul_mono _ _ _ _ (up_mono a b p.per h) (Int.le_refl _)
theorem workP_mono {a b : Int} (h : a ≤ b) (ps : List Pt) : workP a ps ≤ workP b ps := by
  unfold workP
  rw [sum_tot, sum_tot]
  refine cl_mono (tot_mono (by simp) fun i hi => ?_)
  rw [List.length_map] at hi
  simp [List.getD, hi]
  exact ptW_mono h _
theorem needP_mono {a b : Int} (h : a ≤ b) (own block : Int) (ps : List Pt) : needP own block ps a ≤ needP own block ps b := by
  unfold needP
  rw [sum_three, sum_three]
  exact cl_mono (Int.add_le_add_left (cl_mono (workP_mono h ps)) _)
theorem needP_lo (own block : Int) (ps : List Pt) (s : Int) : 0 ≤ needP own block ps s := sum_lo _
/-- More work, one more part. -/
theorem needP_more {own own' block : Int} (h : own ≤ own') (ps : List Pt) (p : Pt) (s : Int) : needP own block ps s ≤ needP own' block (ps ++ [p]) s := by
  unfold needP
  rw [sum_three, sum_three]
  have h1 := cl_mono h
  have h2 : cl (cl own + cl block) ≤ cl (cl own' + cl block) := cl_mono (by omega)
  have h3 : workP s ps ≤ workP s (ps ++ [p]) := by
    rw [workP_snoc]
    have e := cl_mono (show workP s ps ≤ workP s ps + ptW s p by have := ptW_lo s p; omega)
    rwa [cl_in (workP s ps) (workP_lo _ _) (workP_hi _ _)] at e
  have h4 := cl_mono h3
  exact cl_mono (by omega)
/-- The least span that is enough: r, and whether there is one. -/
def IsResp (own block : Int) (ps : List Pt) (most r : Int) (ok : Bool) : Prop :=
  (ok = true ∧ 1 ≤ r ∧ r ≤ cl most ∧ r ≤ 4096 ∧ needP own block ps r ≤ r ∧ ∀ s, 1 ≤ s → s < r → ¬ needP own block ps s ≤ s) ∨
  (ok = false ∧ r = 0 ∧ ∀ s, 1 ≤ s → s ≤ cl most → s ≤ 4096 → ¬ needP own block ps s ≤ s)
theorem IsResp.same {own block : Int} {ps : List Pt} {most r r' : Int} {ok ok' : Bool} (h : IsResp own block ps most r ok) (h' : IsResp own block ps most r' ok') : r = r' ∧ ok = ok' := by
  rcases h with ⟨e, a1, a2, a3, a4, a5⟩ | ⟨e, a1, a2⟩ <;> rcases h' with ⟨e', b1, b2, b3, b4, b5⟩ | ⟨e', b1, b2⟩
  · refine ⟨?_, by rw [e, e']⟩
    rcases Int.lt_trichotomy r r' with hlt | hlt | hlt
    · exact absurd a4 (b5 r a1 hlt)
    · exact hlt
    · exact absurd b4 (a5 r' b1 hlt)
  · exact absurd a4 (b2 r a1 a2 a3)
  · exact absurd b4 (a2 r' b1 b2 b3)
  · exact ⟨by omega, by rw [e, e']⟩
/-- RtaExact. -/
theorem IsResp.exact {own block : Int} {ps : List Pt} {most r : Int} (h : IsResp own block ps most r true) : 1 ≤ r ∧ (needP own block ps r = r ∨ (r = 1 ∧ needP own block ps r = 0)) := by
  rcases h with ⟨_, a1, _, _, a4, a5⟩ | ⟨e, _⟩
  · refine ⟨a1, ?_⟩
    have lo := needP_lo own block ps r
    by_cases hr : r = 1
    · subst hr; omega
    · have h1 := a5 (r - 1) (by omega) (by omega)
      have h2 := needP_mono (show r - 1 ≤ r by omega) own block ps
      left; omega
  · cases e
/-- RtaRises. -/
theorem IsResp.rises {own own' block : Int} {ps : List Pt} {p : Pt} {most r r' : Int} {ok ok' : Bool} (h : IsResp own block ps most r ok) (h' : IsResp own' block (ps ++ [p]) most r' ok') (ho : own ≤ own') : ok' = true → ok = true ∧ r ≤ r' := by
  intro e'
  rcases h' with ⟨_, b1, b2, b3, b4, _⟩ | ⟨e, _⟩
  · have hn : needP own block ps r' ≤ r' := Int.le_trans (needP_more ho ps p r') b4
    rcases h with ⟨e, a1, a2, a3, a4, a5⟩ | ⟨_, _, a2⟩
    · refine ⟨e, ?_⟩
      rcases Int.lt_or_le r' r with hlt | hle
      · exact absurd hn (a5 r' b1 hlt)
      · exact hle
    · exact absurd hn (a2 r' b1 b2 b3)
  · rw [e'] at e; cases e
/-- RtaLeast: the first span that is enough is the response. -/
theorem IsResp.first {own block : Int} {ps : List Pt} {most r s : Int} {ok : Bool} (h : IsResp own block ps most r ok) (h1 : 1 ≤ s) (h2 : s ≤ cl most) (h3 : s ≤ 4096) (hs : needP own block ps s ≤ s) (hn : ∀ q, 1 ≤ q → q < s → ¬ needP own block ps q ≤ q) : ok = true ∧ r = s := by
  obtain ⟨e1, e2⟩ := h.same (r' := s) (ok' := true) (.inl ⟨rfl, h1, h2, h3, hs, hn⟩)
  exact ⟨e2, e1⟩
theorem IsResp.none_ {own block : Int} {ps : List Pt} {most r : Int} {ok : Bool} (h : IsResp own block ps most r ok) (hn : ∀ q, 1 ≤ q → q ≤ cl most → q ≤ 4096 → ¬ needP own block ps q ≤ q) : ok = false ∧ r = 0 := by
  obtain ⟨e1, e2⟩ := h.same (r' := 0) (ok' := false) (.inr ⟨rfl, rfl, hn⟩)
  exact ⟨e2, e1⟩
theorem needP_two {own block : Int} (h0 : 0 ≤ own) (h1 : 0 ≤ block) (h2 : own + block ≤ 1000000) (ps : List Pt) (s : Int) : cl (cl (own + block) + cl (workP s ps)) = needP own block ps s := by
  unfold needP
  rw [sum_three, cl_in own h0 (by omega), cl_in block h1 (by omega), cl_in (own + block) (by omega) (by omega)]
/-- RtaParts: a span that is more by a part's period. -/
theorem ptW_next {span per cost : Int} (s0 : 1 ≤ span) (s1 : span ≤ 1000) (p0 : 1 ≤ per) (p1 : per ≤ 1000) (c0 : 0 ≤ cost) (c1 : cost ≤ 1000) : ptW (span + per) ⟨per, cost⟩ = ptW span ⟨per, cost⟩ + cost := by
  have u1 : up (span + per) per = up span per + 1 := by
    unfold up
    rw [cl_in span (by omega) (by omega), cl_in (span + per) (by omega) (by omega), dv_in per p0 (by omega)]
    rw [show span + per + per - 1 = (span + per - 1) + 1 * per by omega, Int.add_mul_ediv_right _ _ (by omega)]
  have u0 := up_lo span per
  have u2 : up span per ≤ 2000 := by
    unfold up
    rw [cl_in span (by omega) (by omega), dv_in per p0 (by omega)]
    have := Int.ediv_le_self per (show 0 ≤ span + per - 1 by omega)
    exact Int.le_trans (Int.ediv_le_self _ (by omega)) (by omega)
  have m1 : up span per * cost ≤ 2000 * 1000 := Int.mul_le_mul u2 c1 c0 (by omega)
  have m0 : 0 ≤ up span per * cost := Int.mul_nonneg u0 c0
  unfold ptW
  show mul (up (span + per) per) cost = mul (up span per) cost + cost
  rw [u1, mul_within _ _ (by rw [cl_in cost c0 (by omega), cl_in _ (by omega) (by omega), Int.add_mul]; omega), mul_within _ _ (by rw [cl_in cost c0 (by omega), cl_in _ u0 (by omega)]; omega),
    cl_in cost c0 (by omega), cl_in _ (by omega) (by omega), cl_in _ u0 (by omega), Int.add_mul, Int.one_mul]
end Go.Proofs.YtcmgkjjkhfcedaaGreat
/-
  Plain facts of demand by deadlines (chapter 17): no Go in sight.
-/
namespace Go.Proofs.YtcmgkjjkhfcedaaGreat
set_option linter.unusedVariables false
/-- A task by deadlines: its period, its deadline, its cost. -/
structure Er where
  per : Int
  dl : Int
  cost : Int
def jobsE (span : Int) (e : Er) : Int := down (cl span - cl e.dl) e.per + 1
def dueE (span : Int) (e : Er) : Int := if cl e.dl ≤ cl span then mul e.cost (jobsE span e) else 0
def needE (span : Int) (es : List Er) : Int := sum (es.map (dueE span))
def partE (e : Er) : Pt := ⟨e.per, e.cost⟩
theorem dueE_lo (span : Int) (e : Er) : 0 ≤ dueE span e := by unfold dueE; split; exact mul_lo _ _; exact Int.le_refl _
theorem dueE_hi (span : Int) (e : Er) : dueE span e ≤ 1099511627776 := by unfold dueE; split; exact mul_hi _ _; omega
theorem needE_lo (span : Int) (es : List Er) : 0 ≤ needE span es := sum_lo _
theorem needE_hi (span : Int) (es : List Er) : needE span es ≤ 1099511627776 := sum_hi _
theorem needE_snoc (span : Int) (es : List Er) (e : Er) : needE span (es ++ [e]) = cl (needE span es + dueE span e) := by
  unfold needE
  rw [List.map_append, List.map_cons, List.map_nil, sum_snoc, cl_in (dueE span e) (dueE_lo _ _) (dueE_hi _ _)]
theorem down_mono {a b : Int} (d : Int) (h : a ≤ b) : down a d ≤ down b d := Int.ediv_le_ediv (by have := dv_lo d; omega) (cl_mono h)
theorem dueE_mono {a b : Int} (h : a ≤ b) (e : Er) : dueE a e ≤ dueE b e := by
  have hc := cl_mono h
  unfold dueE
  by_cases h1 : cl e.dl ≤ cl a
  · rw [if_pos h1, if_pos (by omega)]
    refine mul_mono _ _ _ _ (Int.le_refl _) ?_
    have := down_mono e.per (show cl a - cl e.dl ≤ cl b - cl e.dl by omega)
    unfold jobsE
    omega
  · rw [if_neg h1]
    split
    · exact mul_lo _ _
    · exact Int.le_refl _
theorem needE_mono {a b : Int} (h : a ≤ b) (es : List Er) : needE a es ≤ needE b es := by
  unfold needE
  rw [sum_tot, sum_tot]
  refine cl_mono (tot_mono (by simp) fun i hi => ?_)
  rw [List.length_map] at hi
  simp [List.getD, hi]
  exact dueE_mono h _
theorem sum_drop_le (a : List Int) (x : Int) (b : List Int) : sum (a ++ b) ≤ sum (a ++ x :: b) := by
  rw [sum_tot, sum_tot, tot_append, tot_append]
  have e : tot (x :: b) = cl x + tot b := by unfold tot; simp
  have := cl_lo x
  exact cl_mono (by omega)
theorem workP_less (s : Int) (a : List Pt) (x : Pt) (b : List Pt) : workP s (a ++ b) ≤ workP s (a ++ x :: b) := by
  unfold workP
  rw [List.map_append, List.map_append, List.map_cons]
  exact sum_drop_le _ _ _
theorem needE_less (s : Int) (es : List Er) (e : Er) : needE s es ≤ needE s (es ++ [e]) := by
  have := sum_drop_le (es.map (dueE s)) (dueE s e) []
  unfold needE
  rw [List.map_append]
  simpa using this
theorem sum3_mono {a b c a' b' c' : Int} (h1 : a ≤ a') (h2 : b ≤ b') (h3 : c ≤ c') : sum [a, b, c] ≤ sum [a', b', c'] := by
  rw [sum_three, sum_three]
  have e1 := cl_mono h1
  have e2 := cl_mono h2
  have e3 := cl_mono h3
  have e4 : cl (cl a + cl b) ≤ cl (cl a' + cl b') := cl_mono (by omega)
  exact cl_mono (by omega)
/-- A span that is too short for what is due in it. -/
def badE (block : Int) (ps : List Pt) (es : List Er) (s : Int) : Prop := 0 < needE s es ∧ s < sum [block, workP s ps, needE s es]
/-- What Fits answers. -/
def IsFits (block : Int) (ps : List Pt) (es : List Er) (most x : Int) (ok : Bool) : Prop :=
  (∃ r, IsResp 0 block (ps ++ es.map partE) most r false ∧ x = 0 ∧ ok = false) ∨
  (∃ r, IsResp 0 block (ps ++ es.map partE) most r true ∧
    ((ok = false ∧ 1 ≤ x ∧ x ≤ r ∧ badE block ps es x ∧ ∀ s, 1 ≤ s → s < x → ¬ badE block ps es s) ∨ (ok = true ∧ x = r ∧ ∀ s, 1 ≤ s → s ≤ r → ¬ badE block ps es s)))
theorem IsFits.same {block : Int} {ps : List Pt} {es : List Er} {most x x' : Int} {ok ok' : Bool} (h : IsFits block ps es most x ok) (h' : IsFits block ps es most x' ok') : x = x' ∧ ok = ok' := by
  rcases h with ⟨r, hr, e1, e2⟩ | ⟨r, hr, h⟩ <;> rcases h' with ⟨r', hr', f1, f2⟩ | ⟨r', hr', h'⟩
  · exact ⟨by omega, by rw [e2, f2]⟩
  · have := (hr.same hr').2; cases this
  · have := (hr.same hr').2; cases this
  · obtain rfl := (hr.same hr').1
    rcases h with ⟨e, a1, a2, a3, a4⟩ | ⟨e, a1, a2⟩ <;> rcases h' with ⟨e', b1, b2, b3, b4⟩ | ⟨e', b1, b2⟩
    · refine ⟨?_, by rw [e, e']⟩
      rcases Int.lt_trichotomy x x' with hlt | hlt | hlt
      · exact absurd a3 (b4 x a1 hlt)
      · exact hlt
      · exact absurd b3 (a4 x' b1 hlt)
    · exact absurd a3 (b2 x a1 a2)
    · exact absurd b3 (a2 x' b1 b2)
    · exact ⟨by omega, by rw [e, e']⟩
/-- DemandLess: what fits fits with less. -/
theorem IsFits.less {block block' : Int} {ps ps' : List Pt} {es es' : List Er} {most x x' : Int} {ok' : Bool} (h : IsFits block ps es most x true) (h' : IsFits block' ps' es' most x' ok') (hb : block' ≤ block)
    (hp : ∀ s, workP s ps' ≤ workP s ps) (he : ∀ s, needE s es' ≤ needE s es) (ha : ∀ s, workP s (ps' ++ es'.map partE) ≤ workP s (ps ++ es.map partE)) : ok' = true := by
  have hneed : ∀ s, needP 0 block' (ps' ++ es'.map partE) s ≤ needP 0 block (ps ++ es.map partE) s := fun s => sum3_mono (Int.le_refl _) hb (ha s)
  have hbad : ∀ s, badE block' ps' es' s → badE block ps es s := fun s hs => ⟨Int.lt_of_lt_of_le hs.1 (he s), Int.lt_of_lt_of_le hs.2 (sum3_mono hb (hp s) (he s))⟩
  rcases h with ⟨r, _, _, e⟩ | ⟨r, hr, ⟨e, _⟩ | ⟨_, rfl, hall⟩⟩
  · cases e
  · cases e
  rcases hr with ⟨_, a1, a2, a3, a4, _⟩ | ⟨e, _⟩
  case inr => cases e
  rcases h' with ⟨r', hr', _, _⟩ | ⟨r', hr', h'⟩
  · rcases hr' with ⟨e, _⟩ | ⟨_, _, hn⟩
    · cases e
    · exact absurd (Int.le_trans (hneed x) a4) (hn x a1 a2 a3)
  · rcases hr' with ⟨_, b1, b2, b3, b4, b5⟩ | ⟨e, _⟩
    case inr => cases e
    have hle : r' ≤ x := by
      rcases Int.lt_or_le x r' with hlt | hle
      · exact absurd (Int.le_trans (hneed x) a4) (b5 x a1 hlt)
      · exact hle
    rcases h' with ⟨_, c1, c2, c3, _⟩ | ⟨e, _⟩
    · exact absurd (hbad _ c3) (hall _ c1 (Int.le_trans c2 hle))
    · exact e
/-- DemandGrows: the jobs that are due in two spans. -/
theorem dueE_two {x y per dl : Int} (x0 : 0 ≤ x) (x1 : x ≤ 2000) (y0 : 0 ≤ y) (y1 : y ≤ 2000) (p1 : 1 ≤ per) (hd : per ≤ dl) : dueE x ⟨per, dl, 1⟩ + dueE y ⟨per, dl, 1⟩ ≤ dueE (x + y) ⟨per, dl, 1⟩ := by
  have cx := cl_in x x0 (by omega)
  have cy := cl_in y y0 (by omega)
  have cz := cl_in (x + y) (by omega) (by omega)
  have hcd : dv per ≤ cl dl := by rw [dv_else per (by omega)]; exact cl_mono hd
  have d1 := dv_lo per
  have m1 := dueE_mono (show x ≤ x + y by omega) ⟨per, dl, 1⟩
  have m2 := dueE_mono (show y ≤ x + y by omega) ⟨per, dl, 1⟩
  have val : ∀ z : Int, 0 ≤ z → z ≤ 4000 → cl dl ≤ z → dueE z ⟨per, dl, 1⟩ = (z - cl dl) / dv per + 1 := fun z z0 z1 hz => by
    have cz := cl_in z z0 (by omega)
    have q0 : 0 ≤ (z - cl dl) / dv per := Int.ediv_nonneg (by omega) (by omega)
    have q1 : (z - cl dl) / dv per ≤ z - cl dl := Int.ediv_le_self _ (by omega)
    have dlo := cl_lo dl
    unfold dueE
    rw [if_pos (show cl (Er.dl ⟨per, dl, 1⟩) ≤ cl z by rw [cz]; exact hz)]
    unfold jobsE
    show mul 1 (down (cl z - cl dl) per + 1) = _
    rw [cz]
    unfold down
    rw [cl_in (z - cl dl) (by omega) (by omega)]
    rw [mul_within _ _ (by rw [cl_in 1 (by omega) (by omega), cl_in _ (by omega) (by omega)]; omega), cl_in 1 (by omega) (by omega), cl_in _ (by omega) (by omega), Int.one_mul]
  have zero : ∀ z : Int, 0 ≤ z → z ≤ 4000 → z < cl dl → dueE z ⟨per, dl, 1⟩ = 0 := fun z z0 z1 hz => by
    unfold dueE
    rw [if_neg]
    show ¬ cl dl ≤ cl z
    rw [cl_in z z0 (by omega)]
    omega
  by_cases hx : cl dl ≤ x
  · by_cases hy : cl dl ≤ y
    · rw [val x x0 (by omega) hx, val y y0 (by omega) hy, val (x + y) (by omega) (by omega) (by omega)]
      have e1 := Int.ediv_mul_le (x - cl dl) (show dv per ≠ 0 by omega)
      have e2 := Int.ediv_mul_le (y - cl dl) (show dv per ≠ 0 by omega)
      have : (x - cl dl) / dv per + (y - cl dl) / dv per + 1 ≤ (x + y - cl dl) / dv per := by
        rw [Int.le_ediv_iff_mul_le (by omega), Int.add_mul, Int.add_mul, Int.one_mul]
        omega
      omega
    · rw [zero y y0 (by omega) (by omega)]; omega
  · rw [zero x x0 (by omega) (by omega)]; omega
end Go.Proofs.YtcmgkjjkhfcedaaGreat
/-
  Configurations in plain words (stage 18): which may be, what blocks a task, what comes ahead of it, its response; what less of all this is.
-/
namespace Go.Proofs.YtcmgkjjkhfcedaaGreat
open Go.ChangeShapes Go.WideShapes Go.ChangeAt Go.RowKit
set_option linter.unusedVariables false
/-- A task: what is asked of it. -/
structure Tp where
  cls : Int
  lev : Int
  per : Int
  dl : Int
  bud : Int
  line : Int
  us : List Int
  pn : Nat
/-- A configuration: what is asked of it. -/
structure Cp where
  ts : List Tp
  es : List (Int × Nat)
  ms : List Mu
  gs : List Int
  frames : Int
  dog : Int
def mayT (m l : Nat) (t : Tp) : Bool :=
  decide ((t.cls = 2 ∧ 0 ≤ t.lev ∧ t.lev ≤ 63) ∨ (t.cls = 1 ∧ t.lev = 0)) && decide (1 ≤ t.per ∧ t.per ≤ 1000000) && decide (1 ≤ t.dl ∧ t.dl ≤ t.per) && decide (1 ≤ t.bud ∧ t.bud ≤ t.dl) && decide (-1 ≤ t.line ∧ t.line < (l : Int)) && decide (t.us.length ≤ 6) && decide (t.pn ≤ 40) && t.us.all (isMu m)
/-- No two have one line. -/
def apartT : List Tp → Bool
  | [] => true
  | t :: ts => ts.all (fun u => decide (¬ (0 ≤ u.line ∧ t.line = u.line))) && apartT ts
def mayC (c : Cp) : Bool :=
  decide (c.ts.length ≤ 8) && decide (c.es.length ≤ 6) && goodMu c.ms && decide (c.gs.length ≤ 4) && decide (8 ≤ c.frames ∧ c.frames ≤ 64) && decide (1 ≤ c.dog ∧ c.dog ≤ 1099511627776) && c.gs.all (fun g => decide (1 ≤ g ∧ g ≤ 1000)) && c.ts.all (mayT c.ms.length c.gs.length) && apartT c.ts && c.es.all (fun e => decide (0 ≤ e.1 ∧ e.1 ≤ 15) && decide (e.2 ≤ 40))
/-- Whether one counts for another. -/
def countsT (a b : Tp) : Bool := decide (a.cls = 1) || (decide (b.cls = 2) && decide (a.lev ≤ b.lev))
def usesT (ts : List Tp) (a : Tp) : List Int := (ts.filter (countsT a)).flatMap (·.us)
def blkM (ms : List Mu) (us : List Int) : Int := 11 + if (leastMu ms us).2 then sumMu ms (leastMu ms us).1 else 0
def blkT (c : Cp) (a : Tp) : Int := blkM c.ms (usesT c.ts a)
def partT (t : Tp) : Pt := ⟨t.per, t.bud⟩
def gapT (g : Int) : Pt := ⟨g, 2⟩
/-- What comes ahead of the task at i, which is a. -/
def partsT (c : Cp) (i : Nat) (a : Tp) : List Pt := c.gs.map gapT ++ ((c.ts.eraseIdx i).filter fun b => decide (b.cls = 2) && countsT a b).map partT
def earT (t : Tp) : Er := ⟨t.per, t.dl, t.bud⟩
def earliesT (c : Cp) : List Er := (c.ts.filter fun t => decide (t.cls = 1)).map earT
/-- What Response answers of the task at i, which is a, where it may be. -/
def RespT (c : Cp) (i : Nat) (a : Tp) (r : Int) (ok : Bool) : Prop :=
  if a.cls = 2 then IsResp a.bud (blkT c a) (partsT c i a) a.dl r ok else ∃ x, IsFits (blkT c a) (partsT c i a) (earliesT c) 4096 x ok ∧ r = if ok then a.dl else 0
/-- What Admit answers: all of them have a response, and the rest. -/
def okT (c : Cp) (a : Tp) : Bool := !(decide (0 ≤ a.line) && decide (c.gs.getD a.line.toNat 0 < a.per)) && decide (a.dl < c.dog)
/-! The least rank of what is used. -/
theorem least_spec (ms : List Mu) (us : List Int) : ∀ s : Int × Bool,
    ((us.foldl (leastS ms) s).2 = true → ((us.foldl (leastS ms) s = s ∧ s.2 = true) ∨ ∃ u ∈ us, isMu ms.length u = true ∧ (muAt ms u).r = (us.foldl (leastS ms) s).1)) ∧
    (s.2 = true → (us.foldl (leastS ms) s).2 = true ∧ (us.foldl (leastS ms) s).1 ≤ s.1) ∧
    ∀ u ∈ us, isMu ms.length u = true → (us.foldl (leastS ms) s).2 = true ∧ (us.foldl (leastS ms) s).1 ≤ (muAt ms u).r := by
  induction us with
  | nil => intro s; exact ⟨fun h => .inl ⟨rfl, h⟩, fun h => ⟨h, Int.le_refl _⟩, fun u hu => by cases hu⟩
  | cons v us ih =>
    intro s
    rw [List.foldl_cons]
    obtain ⟨h1, h2, h3⟩ := ih (leastS ms s v)
    by_cases hc : (isMu ms.length v && (!s.2 || decide ((muAt ms v).r < s.1))) = true
    · have e : leastS ms s v = ((muAt ms v).r, true) := by unfold leastS; rw [if_pos hc]
      have hv : isMu ms.length v = true := by simp at hc; exact hc.1
      obtain ⟨q1, q2⟩ := h2 (by rw [e])
      rw [e] at h1 h3 q1 q2 ⊢
      dsimp only at q2
      refine ⟨fun h => ?_, fun hs => ⟨q1, ?_⟩, fun u hu hm => ?_⟩
      · rcases h1 h with ⟨h4, h5⟩ | ⟨u, hu, hm⟩
        · exact .inr ⟨v, List.mem_cons_self .., hv, by rw [h4]⟩
        · exact .inr ⟨u, List.mem_cons_of_mem _ hu, hm⟩
      · have : (muAt ms v).r < s.1 := by simp [hs] at hc; exact hc.2
        omega
      · rcases List.mem_cons.1 hu with rfl | hu
        · exact ⟨q1, q2⟩
        · exact h3 u hu hm
    · have e : leastS ms s v = s := by unfold leastS; rw [if_neg hc]
      rw [e] at h1 h2 h3 ⊢
      refine ⟨fun h => ?_, h2, fun u hu hm => ?_⟩
      · rcases h1 h with h4 | ⟨u, hu, hm⟩
        · exact .inl h4
        · exact .inr ⟨u, List.mem_cons_of_mem _ hu, hm⟩
      · rcases List.mem_cons.1 hu with rfl | hu
        · simp [hm] at hc
          obtain ⟨q1, q2⟩ := h2 hc.1
          exact ⟨q1, by omega⟩
        · exact h3 u hu hm
theorem least_some {ms : List Mu} {us : List Int} (h : (leastMu ms us).2 = true) : ∃ u ∈ us, isMu ms.length u = true ∧ (muAt ms u).r = (leastMu ms us).1 := by
  rcases (least_spec ms us (0, false)).1 h with ⟨_, e⟩ | h
  · cases e
  · exact h
theorem least_le {ms : List Mu} {us : List Int} {u : Int} (hu : u ∈ us) (hm : isMu ms.length u = true) : (leastMu ms us).2 = true ∧ (leastMu ms us).1 ≤ (muAt ms u).r := (least_spec ms us (0, false)).2.2 u hu hm
theorem sumS_mono {ra rb : Int} (h : ra ≤ rb) (ms : List Mu) : ∀ (s s' : Int), 0 ≤ s' → s' ≤ s → s ≤ 1099511627776 → ms.foldl (sumS rb) s' ≤ ms.foldl (sumS ra) s := by
  induction ms with
  | nil => intro s s' _ h _; exact h
  | cons m ms ih =>
    intro s s' h0 h1 h2
    rw [List.foldl_cons, List.foldl_cons]
    have e1 := cl_in s (by omega) h2
    have e2 := cl_in s' h0 (by omega)
    have lo := cl_lo m.l
    have hi := cl_hi (cl s + cl m.l)
    have up : s ≤ cl (cl s + cl m.l) := by
      have := cl_mono (show s ≤ cl s + cl m.l by omega)
      omega
    unfold sumS
    by_cases e : rb ≤ m.r
    · rw [if_pos e, if_pos (show ra ≤ m.r by omega)]
      have h3 : cl (cl s' + cl m.l) ≤ cl (cl s + cl m.l) := cl_mono (by omega)
      exact ih _ _ (cl_lo _) h3 hi
    · rw [if_neg e]
      split
      · exact ih _ _ h0 (by omega) hi
      · exact ih _ _ h0 h1 h2
theorem sumMu_mono {ra rb : Int} (h : ra ≤ rb) (ms : List Mu) : sumMu ms rb ≤ sumMu ms ra := sumS_mono h ms 0 0 (Int.le_refl _) (Int.le_refl _) (by omega)
theorem sumMu_lo (ms : List Mu) (r : Int) : 0 ≤ sumMu ms r := by
  have : ∀ (ms : List Mu) (s : Int), 0 ≤ s → 0 ≤ ms.foldl (sumS r) s := by
    intro ms
    induction ms with
    | nil => intro s h; exact h
    | cons m ms ih =>
      intro s h
      rw [List.foldl_cons]
      refine ih _ ?_
      unfold sumS
      split
      · exact cl_lo _
      · exact h
  exact this ms 0 (Int.le_refl _)
/-- Not more than all of them. -/
theorem sumMu_all (ms : List Mu) (hg : goodMu ms = true) (r : Int) : sumMu ms r ≤ (ms.map (·.l)).sum := by
  have hok : ∀ m ∈ ms, 1 ≤ m.l ∧ m.l ≤ 1000 := by
    intro m hm
    simp [goodMu] at hg
    have := hg.1 m hm
    simp [okMu] at this
    omega
  have : ∀ (ms : List Mu), (∀ m ∈ ms, 1 ≤ m.l ∧ m.l ≤ 1000) → ∀ (s a : Int), 0 ≤ s → s ≤ a → ms.foldl (sumS r) s ≤ a + (ms.map (·.l)).sum := by
    intro ms
    induction ms with
    | nil => intro _ s a _ h; simpa using h
    | cons m ms ih =>
      intro hok s a h0 h
      have hm := hok m (List.mem_cons_self ..)
      rw [List.foldl_cons, List.map_cons, List.sum_cons]
      have h2 : ms.foldl (sumS r) (sumS r s m) ≤ (a + m.l) + (ms.map (·.l)).sum := by
        refine ih (fun x hx => hok x (List.mem_cons_of_mem _ hx)) _ _ ?_ ?_
        · unfold sumS; split
          · exact cl_lo _
          · exact h0
        · unfold sumS; split
          · have q1 : cl s ≤ s := by unfold cl; split <;> (try split) <;> omega
            have q2 : cl m.l = m.l := cl_in _ (by omega) (by omega)
            have q3 : ∀ z : Int, 0 ≤ z → cl z ≤ z := fun z hz => by unfold cl; split <;> (try split) <;> omega
            have := q3 (cl s + cl m.l) (by have := cl_lo s; omega)
            omega
          · omega
      omega
  have h3 := this ms hok 0 0 (Int.le_refl _) (Int.le_refl _)
  rw [Int.zero_add] at h3
  exact h3
/-! What blocks. -/
theorem blkM_less {ms : List Mu} {us us' : List Int} (h : ∀ u ∈ us', isMu ms.length u = true → u ∈ us) : blkM ms us' ≤ blkM ms us := by
  unfold blkM
  by_cases h1 : (leastMu ms us').2 = true
  · obtain ⟨u, hu, hm, e⟩ := least_some h1
    obtain ⟨h2, h3⟩ := least_le (h u hu hm) hm
    rw [if_pos h1, if_pos h2]
    have := sumMu_mono (show (leastMu ms us).1 ≤ (leastMu ms us').1 by omega) ms
    omega
  · rw [if_neg h1]
    split
    · have := sumMu_lo ms (leastMu ms us).1; omega
    · omega
theorem blkM_lo (ms : List Mu) (us : List Int) : 11 ≤ blkM ms us := by
  unfold blkM
  split
  · have := sumMu_lo ms (leastMu ms us).1; omega
  · omega
theorem blkM_hi {ms : List Mu} (hg : goodMu ms = true) (us : List Int) : blkM ms us ≤ 11 + (ms.map (·.l)).sum := by
  unfold blkM
  have h0 : 0 ≤ (ms.map (·.l)).sum := Int.le_trans (sumMu_lo ms 0) (sumMu_all ms hg 0)
  split
  · have := sumMu_all ms hg (leastMu ms us).1; omega
  · omega
theorem uses_mem {ts : List Tp} {a : Tp} {u : Int} : u ∈ usesT ts a ↔ ∃ t ∈ ts, countsT a t = true ∧ u ∈ t.us := by
  unfold usesT
  rw [List.mem_flatMap]
  constructor
  · rintro ⟨t, ht, hu⟩; exact ⟨t, (List.mem_filter.1 ht).1, (List.mem_filter.1 ht).2, hu⟩
  · rintro ⟨t, ht, hc, hu⟩; exact ⟨t, List.mem_filter.2 ⟨ht, hc⟩, hu⟩
/-- A Fixed one of a greater level is blocked by no more (AdmitBlocks). -/
theorem blkT_higher {c : Cp} {x y : Tp} (hx : x.cls = 2) (h : y.cls = 1 ∨ (y.cls = 2 ∧ y.lev ≤ x.lev)) : blkT c x ≤ blkT c y := by
  refine blkM_less fun u hu _ => ?_
  obtain ⟨t, ht, hc, hu⟩ := uses_mem.1 hu
  refine uses_mem.2 ⟨t, ht, ?_, hu⟩
  unfold countsT at *
  simp at hc ⊢
  rcases h with h | ⟨h1, h2⟩
  · exact .inl h
  · rcases hc with hc | hc
    · omega
    · exact .inr ⟨hc.1, by omega⟩
/-! Less work. -/
theorem sum_sub {l r : List Int} (h : l.Sublist r) : ∀ p : List Int, sum (p ++ l) ≤ sum (p ++ r) := by
  induction h with
  | slnil => intro p; exact Int.le_refl _
  | cons a _ ih => intro p; exact Int.le_trans (ih p) (sum_drop_le p a _)
  | cons_cons a _ ih =>
    intro p
    have := ih (p ++ [a])
    rw [List.append_assoc, List.append_assoc] at this
    exact this
theorem workP_sub {ps ps' : List Pt} (h : ps'.Sublist ps) (s : Int) : workP s ps' ≤ workP s ps := by
  have := sum_sub (h.map (ptW s)) []
  exact this
theorem needE_sub {es es' : List Er} (h : es'.Sublist es) (s : Int) : needE s es' ≤ needE s es := by
  have := sum_sub (h.map (dueE s)) []
  exact this
/-- A response with less is there, and no greater. -/
theorem IsResp.less {own own' block block' : Int} {ps ps' : List Pt} {most r r' : Int} {ok' : Bool} (h : IsResp own block ps most r true) (h' : IsResp own' block' ps' most r' ok') (ho : own' ≤ own) (hb : block' ≤ block) (hp : ∀ s, workP s ps' ≤ workP s ps) : ok' = true ∧ r' ≤ r := by
  have hneed : ∀ s, needP own' block' ps' s ≤ needP own block ps s := fun s => sum3_mono ho hb (hp s)
  rcases h with ⟨_, a1, a2, a3, a4, _⟩ | ⟨e, _⟩
  case inr => cases e
  rcases h' with ⟨e, b1, b2, b3, b4, b5⟩ | ⟨_, _, hn⟩
  · refine ⟨e, ?_⟩
    rcases Int.lt_or_le r r' with hlt | hle
    · exact absurd (Int.le_trans (hneed r) a4) (b5 r a1 hlt)
    · exact hle
  · exact absurd (Int.le_trans (hneed r) a4) (hn r a1 a2 a3)
/-- A response is at least what is asked, and at most the deadline. -/
theorem IsResp.between {own block : Int} {ps : List Pt} {most r : Int} (h : IsResp own block ps most r true) (h0 : 0 ≤ own) (h1 : own ≤ 1099511627776) (hm : 0 ≤ most) : own ≤ r ∧ r ≤ most := by
  rcases h with ⟨_, a1, a2, a3, a4, _⟩ | ⟨e, _⟩
  case inr => cases e
  have q3 : cl most ≤ most := by unfold cl; split <;> (try split) <;> omega
  have : own ≤ needP own block ps r := by
    unfold needP
    rw [sum_three]
    have e1 := cl_in own h0 h1
    have l1 := cl_lo block
    have l2 := cl_lo (workP r ps)
    have h2 := cl_mono (show own ≤ cl own + cl block by omega)
    have h3 := cl_mono (show cl own ≤ cl (cl own + cl block) + cl (workP r ps) by omega)
    rw [cl_in (cl own) (cl_lo _) (cl_hi _)] at h3
    omega
  omega
end Go.Proofs.YtcmgkjjkhfcedaaGreat
/-
  What is admitted is admitted without one, and with one that asks for less (stage 18), in plain words.
-/
namespace Go.Proofs.YtcmgkjjkhfcedaaGreat
open Go.ChangeShapes Go.WideShapes Go.ChangeAt Go.RowKit
set_option linter.unusedVariables false
theorem least_int (p : Int → Prop) (n : Nat) : (∃ r, 1 ≤ r ∧ r ≤ (n : Int) ∧ p r ∧ ∀ s, 1 ≤ s → s < r → ¬ p s) ∨ ∀ s, 1 ≤ s → s ≤ (n : Int) → ¬ p s := by
  induction n with
  | zero => exact .inr fun s h1 h2 => absurd h1 (by omega)
  | succ n ih =>
    rcases ih with ⟨r, h1, h2, h3, h4⟩ | h
    · exact .inl ⟨r, h1, by omega, h3, h4⟩
    · by_cases hp : p ((n + 1 : Nat) : Int)
      · exact .inl ⟨((n + 1 : Nat) : Int), by omega, Int.le_refl _, hp, fun s h1 h2 => h s h1 (by omega)⟩
      · refine .inr fun s h1 h2 => ?_
        by_cases e : s = ((n + 1 : Nat) : Int)
        · rw [e]; exact hp
        · exact h s h1 (by omega)
/-- There always is an answer. -/
theorem IsResp.there (own block : Int) (ps : List Pt) (most : Int) : ∃ r ok, IsResp own block ps most r ok := by
  rcases least_int (fun s => needP own block ps s ≤ s) (min (cl most) 4096).toNat with ⟨r, h1, h2, h3, h4⟩ | h
  · exact ⟨r, true, .inl ⟨rfl, h1, by omega, by omega, h3, h4⟩⟩
  · refine ⟨0, false, .inr ⟨rfl, rfl, fun s h1 h2 h3 => h s h1 (by omega)⟩⟩
theorem IsFits.there (block : Int) (ps : List Pt) (es : List Er) (most : Int) : ∃ x ok, IsFits block ps es most x ok := by
  obtain ⟨r, ok, h⟩ := IsResp.there 0 block (ps ++ es.map partE) most
  cases ok with
  | false => exact ⟨0, false, .inl ⟨r, h, rfl, rfl⟩⟩
  | true =>
    have hr : 1 ≤ r := by rcases h with ⟨_, h, _⟩ | ⟨e, _⟩; exact h; cases e
    rcases least_int (fun s => badE block ps es s) r.toNat with ⟨x, h1, h2, h3, h4⟩ | hn
    · exact ⟨x, false, .inr ⟨r, h, .inl ⟨rfl, h1, by omega, h3, h4⟩⟩⟩
    · exact ⟨r, true, .inr ⟨r, h, .inr ⟨rfl, rfl, fun s h1 h2 => hn s h1 (by omega)⟩⟩⟩
theorem RespT.there (c : Cp) (i : Nat) (a : Tp) : ∃ r ok, RespT c i a r ok := by
  by_cases h : a.cls = 2
  · obtain ⟨r, ok, q⟩ := IsResp.there a.bud (blkT c a) (partsT c i a) a.dl
    exact ⟨r, ok, by unfold RespT; rw [if_pos h]; exact q⟩
  · obtain ⟨x, ok, hf⟩ := IsFits.there (blkT c a) (partsT c i a) (earliesT c) 4096
    exact ⟨_, ok, by unfold RespT; rw [if_neg h]; exact ⟨x, hf, rfl⟩⟩
theorem RespT.same {c : Cp} {i : Nat} {a : Tp} {r r' : Int} {ok ok' : Bool} (h : RespT c i a r ok) (h' : RespT c i a r' ok') : r = r' ∧ ok = ok' := by
  unfold RespT at h h'
  by_cases e : a.cls = 2
  · rw [if_pos e] at h h'; exact h.same h'
  · rw [if_neg e] at h h'
    obtain ⟨x, h1, h2⟩ := h
    obtain ⟨y, h3, h4⟩ := h'
    obtain ⟨_, e2⟩ := h1.same h3
    subst e2
    exact ⟨h2.trans h4.symm, rfl⟩
/-- What Admit answers. -/
def AdmT (c : Cp) (ok : Bool) (rs : List Int) : Prop :=
  (ok = true ∧ mayC c = true ∧ rs.length = c.ts.length ∧ ∀ i a r, c.ts[i]? = some a → rs[i]? = some r → RespT c i a r true ∧ okT c a = true) ∨
  (ok = false ∧ rs = [] ∧ ¬ (mayC c = true ∧ ∀ i a, c.ts[i]? = some a → (∃ r, RespT c i a r true) ∧ okT c a = true))
theorem AdmT.yes {c : Cp} {ok : Bool} {rs : List Int} (h : AdmT c ok rs) (hm : mayC c = true) (ha : ∀ i a, c.ts[i]? = some a → (∃ r, RespT c i a r true) ∧ okT c a = true) : ok = true := by
  rcases h with ⟨e, _⟩ | ⟨_, _, hn⟩
  · exact e
  · exact absurd ⟨hm, ha⟩ hn
theorem AdmT.at_ {c : Cp} {rs : List Int} (h : AdmT c true rs) {i : Nat} {a : Tp} (ha : c.ts[i]? = some a) : ∃ r, rs[i]? = some r ∧ RespT c i a r true ∧ okT c a = true := by
  rcases h with ⟨_, _, hl, hh⟩ | ⟨e, _⟩
  · have hi := (List.getElem?_eq_some_iff.1 ha).1
    have hr : rs[i]? = some (rs[i]'(by omega)) := List.getElem?_eq_getElem (by omega)
    exact ⟨_, hr, hh i a _ ha hr⟩
  · cases e
theorem mayT_facts {m l : Nat} {t : Tp} (h : mayT m l t = true) : (t.cls = 2 ∨ t.cls = 1) ∧ (1 ≤ t.per ∧ t.per ≤ 1000000) ∧ (1 ≤ t.dl ∧ t.dl ≤ t.per) ∧ (1 ≤ t.bud ∧ t.bud ≤ t.dl) ∧ (-1 ≤ t.line ∧ t.line < (l : Int)) := by
  unfold mayT at h
  simp only [Bool.and_eq_true, decide_eq_true_eq] at h
  obtain ⟨⟨⟨⟨⟨⟨⟨h1, h2⟩, h3⟩, h4⟩, h5⟩, _⟩, _⟩, _⟩ := h
  exact ⟨by omega, h2, h3, h4, h5⟩
theorem mayC_task {c : Cp} (h : mayC c = true) {i : Nat} {a : Tp} (ha : c.ts[i]? = some a) : mayT c.ms.length c.gs.length a = true := by
  unfold mayC at h
  simp only [Bool.and_eq_true] at h
  exact (List.all_eq_true.1 h.1.1.2) a (List.mem_of_getElem? ha)
/-- A response lies between the budget and the deadline. -/
theorem RespT.between {c : Cp} (hm : mayC c = true) {i : Nat} {a : Tp} (ha : c.ts[i]? = some a) {r : Int} (h : RespT c i a r true) : a.bud ≤ r ∧ r ≤ a.dl := by
  obtain ⟨h1, h2, h3, h4, _⟩ := mayT_facts (mayC_task hm ha)
  unfold RespT at h
  by_cases e : a.cls = 2
  · rw [if_pos e] at h; exact h.between (by omega) (by omega) (by omega)
  · rw [if_neg e] at h
    obtain ⟨x, _, e2⟩ := h
    simp at e2
    omega
/-- One response beside another one, of less. -/
theorem RespT.less {c c' : Cp} {i i' : Nat} {a a' : Tp} {r r' : Int} {ok' : Bool} (h : RespT c i a r true) (h' : RespT c' i' a' r' ok') (h1 : a'.cls = a.cls) (h2 : a'.dl = a.dl) (h3 : a'.bud ≤ a.bud) (hb : blkT c' a' ≤ blkT c a)
    (hp : ∀ s, workP s (partsT c' i' a') ≤ workP s (partsT c i a)) (he : ∀ s, needE s (earliesT c') ≤ needE s (earliesT c)) (hpe : ∀ s, workP s (partsT c' i' a' ++ (earliesT c').map partE) ≤ workP s (partsT c i a ++ (earliesT c).map partE)) : ok' = true ∧ r' ≤ r := by
  unfold RespT at h h'
  rw [h1, h2] at h'
  by_cases e : a.cls = 2
  · rw [if_pos e] at h h'
    exact h.less h' h3 hb hp
  · rw [if_neg e] at h h'
    obtain ⟨x, q1, q2⟩ := h
    obtain ⟨y, q3, q4⟩ := h'
    have := q1.less q3 hb hp he hpe
    subst this
    exact ⟨rfl, by rw [q2, q4]; exact Int.le_refl _⟩
/-! Without one. -/
theorem erase_two {α : Type} : ∀ (l : List α) (k i : Nat), ((l.eraseIdx k).eraseIdx i).Sublist (l.eraseIdx (if i < k then i else i + 1)) := by
  intro l
  induction l with
  | nil => intro k i; simp
  | cons a l ih =>
    intro k i
    cases k with
    | zero =>
      rw [if_neg (by omega)]
      exact List.Sublist.cons a (List.Sublist.refl _)
    | succ k =>
      cases i with
      | zero =>
        rw [if_pos (by omega)]
        exact List.eraseIdx_sublist l k
      | succ i =>
        have := ih k i
        by_cases e : i < k
        · rw [if_pos e] at this
          rw [if_pos (by omega)]
          exact List.Sublist.cons_cons a this
        · rw [if_neg e] at this
          rw [if_neg (by omega)]
          exact List.Sublist.cons_cons a this
theorem apart_sub {l r : List Tp} (h : l.Sublist r) : apartT r = true → apartT l = true := by
  induction h with
  | slnil => intro h; exact h
  | cons a hs ih =>
    intro h
    simp only [apartT, Bool.and_eq_true] at h
    exact ih h.2
  | cons_cons a hs ih =>
    intro h
    simp only [apartT, Bool.and_eq_true] at h ⊢
    exact ⟨List.all_eq_true.2 fun x hx => (List.all_eq_true.1 h.1) x (hs.subset hx), ih h.2⟩
def dropC (c : Cp) (k : Nat) : Cp := ⟨c.ts.eraseIdx k, c.es, c.ms, c.gs, c.frames, c.dog⟩
theorem mayC_drop {c : Cp} (h : mayC c = true) (k : Nat) : mayC (dropC c k) = true := by
  have hs : (c.ts.eraseIdx k).Sublist c.ts := List.eraseIdx_sublist _ _
  unfold mayC dropC at *
  simp only [Bool.and_eq_true, decide_eq_true_eq] at h ⊢
  obtain ⟨⟨⟨⟨⟨⟨⟨⟨⟨h1, h2⟩, h3⟩, h4⟩, h5⟩, h6⟩, h7⟩, h8⟩, h9⟩, h10⟩ := h
  exact ⟨⟨⟨⟨⟨⟨⟨⟨⟨Nat.le_trans hs.length_le h1, h2⟩, h3⟩, h4⟩, h5⟩, h6⟩, h7⟩, List.all_eq_true.2 fun x hx => (List.all_eq_true.1 h8) x (hs.subset hx)⟩, apart_sub hs h9⟩, h10⟩
/-- P18.3. -/
theorem admit_drop {c : Cp} {rs ss : List Int} {ok : Bool} (h : AdmT c true rs) (k : Nat) (h' : AdmT (dropC c k) ok ss) : ok = true := by
  have hm : mayC c = true := by rcases h with ⟨_, hm, _⟩ | ⟨e, _⟩; exact hm; cases e
  refine h'.yes (mayC_drop hm k) fun i a ha => ?_
  have ha2 : c.ts[if i < k then i else i + 1]? = some a := by
    have e : (c.ts.eraseIdx k)[i]? = some a := ha
    rw [List.getElem?_eraseIdx] at e
    split at e <;> rename_i hh
    · rw [if_pos hh]; exact e
    · rw [if_neg hh]; exact e
  obtain ⟨r, _, hr, hok⟩ := h.at_ ha2
  obtain ⟨r', ok', hr'⟩ := RespT.there (dropC c k) i a
  have hs : (c.ts.eraseIdx k).Sublist c.ts := List.eraseIdx_sublist _ _
  have hps : (partsT (dropC c k) i a).Sublist (partsT c (if i < k then i else i + 1) a) := (((erase_two c.ts k i).filter _).map _).append_left _
  have hes : (earliesT (dropC c k)).Sublist (earliesT c) := (hs.filter _).map _
  have hb : blkT (dropC c k) a ≤ blkT c a := blkM_less fun u hu _ => by
    obtain ⟨t, ht, hc, hu⟩ := uses_mem.1 hu
    exact uses_mem.2 ⟨t, hs.subset ht, hc, hu⟩
  obtain ⟨e, _⟩ := hr.less hr' rfl rfl (Int.le_refl _) hb (workP_sub hps) (needE_sub hes) (workP_sub (hps.append (hes.map _)))
  subst e
  exact ⟨⟨r', hr'⟩, hok⟩
/-! One asks for less. -/
/-- The same, but for a budget that is no greater. -/
def Le1 (a b : Tp) : Prop := a.cls = b.cls ∧ a.lev = b.lev ∧ a.per = b.per ∧ a.dl = b.dl ∧ a.line = b.line ∧ a.us = b.us ∧ a.bud ≤ b.bud
theorem Le1.refl (a : Tp) : Le1 a a := ⟨rfl, rfl, rfl, rfl, rfl, rfl, Int.le_refl _⟩
def LessL : List Tp → List Tp → Prop
  | [], [] => True
  | a :: l, b :: r => Le1 a b ∧ LessL l r
  | _, _ => False
theorem LessL.refl : ∀ l : List Tp, LessL l l
  | [] => trivial
  | a :: l => ⟨Le1.refl a, LessL.refl l⟩
theorem LessL.set {a' : Tp} : ∀ (l : List Tp) (k : Nat) (a : Tp), l[k]? = some a → Le1 a' a → LessL (l.set k a') l
  | [], k, a, h, _ => by cases h
  | b :: l, 0, a, h, q => by injection h with h; subst h; exact ⟨q, LessL.refl l⟩
  | b :: l, k + 1, a, h, q => ⟨Le1.refl b, LessL.set l k a (by simpa using h) q⟩
theorem LessL.erase : ∀ {l r : List Tp}, LessL l r → ∀ i, LessL (l.eraseIdx i) (r.eraseIdx i)
  | [], [], _, i => trivial
  | a :: l, b :: r, h, 0 => h.2
  | a :: l, b :: r, h, i + 1 => ⟨h.1, LessL.erase h.2 i⟩
  | [], _ :: _, h, _ => h.elim
  | _ :: _, [], h, _ => h.elim
theorem LessL.filter {p q : Tp → Bool} (hpq : ∀ a b, Le1 a b → p a = q b) : ∀ {l r : List Tp}, LessL l r → LessL (l.filter p) (r.filter q)
  | [], [], _ => trivial
  | a :: l, b :: r, h => by
    rw [List.filter_cons, List.filter_cons, hpq a b h.1]
    split
    · exact ⟨h.1, LessL.filter hpq h.2⟩
    · exact LessL.filter hpq h.2
  | [], _ :: _, h => h.elim
  | _ :: _, [], h => h.elim
theorem LessL.at_ : ∀ {l r : List Tp}, LessL l r → ∀ {i : Nat} {a : Tp}, l[i]? = some a → ∃ b, r[i]? = some b ∧ Le1 a b
  | [], _, _, i, a, h => by cases h
  | a :: l, b :: r, h, 0, x, e => by injection e with e; subst e; exact ⟨b, rfl, h.1⟩
  | a :: l, b :: r, h, i + 1, x, e => by
    obtain ⟨y, h1, h2⟩ := LessL.at_ h.2 (i := i) (a := x) (by simpa using e)
    exact ⟨y, by simpa using h1, h2⟩
  | _ :: _, [], h, _, _, _ => h.elim
theorem LessL.tot {f g : Tp → Int} (hfg : ∀ a b, Le1 a b → f a ≤ g b) : ∀ {l r : List Tp}, LessL l r → tot (l.map f) ≤ tot (r.map g)
  | [], [], _ => Int.le_refl _
  | a :: l, b :: r, h => by
    have h1 := LessL.tot hfg h.2
    have e1 : Go.Proofs.YtcmgkjjkhfcedaaGreat.tot ((a :: l).map f) = cl (f a) + Go.Proofs.YtcmgkjjkhfcedaaGreat.tot (l.map f) := by unfold Go.Proofs.YtcmgkjjkhfcedaaGreat.tot; simp
    have e2 : Go.Proofs.YtcmgkjjkhfcedaaGreat.tot ((b :: r).map g) = cl (g b) + Go.Proofs.YtcmgkjjkhfcedaaGreat.tot (r.map g) := by unfold Go.Proofs.YtcmgkjjkhfcedaaGreat.tot; simp
    have := cl_mono (hfg a b h.1)
    omega
  | [], _ :: _, h => h.elim
  | _ :: _, [], h => h.elim
theorem ptW_le {a b : Tp} (h : Le1 a b) (s : Int) : ptW s (partT a) ≤ ptW s (partT b) := by
  unfold ptW partT
  rw [h.2.2.1]
  exact mul_mono _ _ _ _ (Int.le_refl _) h.2.2.2.2.2.2
theorem dueE_le {a b : Tp} (h : Le1 a b) (s : Int) : dueE s (earT a) ≤ dueE s (earT b) := by
  unfold dueE earT jobsE
  dsimp only
  rw [h.2.2.1, h.2.2.2.1]
  split
  · exact mul_mono _ _ _ _ h.2.2.2.2.2.2 (Int.le_refl _)
  · exact Int.le_refl _
theorem counts_le {a b x y : Tp} (h : Le1 a b) (k : Le1 x y) : countsT a x = countsT b y := by
  unfold countsT
  rw [h.1, h.2.1, k.1, k.2.1]
/-- A configuration that asks for less. -/
structure LessC (c' c : Cp) : Prop where
  ts : LessL c'.ts c.ts
  ms : c'.ms = c.ms
  gs : c'.gs = c.gs
  dog : c'.dog = c.dog
theorem LessC.len {l r : List Tp} (h : LessL l r) : l.length = r.length := by
  induction l generalizing r with
  | nil => cases r with
    | nil => rfl
    | cons b r => exact h.elim
  | cons a l ih => cases r with
    | nil => exact h.elim
    | cons b r => simp [ih h.2]
theorem LessL.mem {l r : List Tp} (h : LessL l r) {x : Tp} (hx : x ∈ l) : ∃ y ∈ r, Le1 x y := by
  obtain ⟨i, hi⟩ := List.getElem?_of_mem hx
  obtain ⟨y, hy, q⟩ := h.at_ hi
  exact ⟨y, List.mem_of_getElem? hy, q⟩
theorem LessC.resp {c' c : Cp} (h : LessC c' c) {i : Nat} {a' a : Tp} (ha : Le1 a' a) {r r' : Int} {ok' : Bool} (hr : RespT c i a r true) (hr' : RespT c' i a' r' ok') : ok' = true ∧ r' ≤ r := by
  have hb : blkT c' a' ≤ blkT c a := by
    unfold blkT
    rw [h.ms]
    refine blkM_less fun u hu _ => ?_
    obtain ⟨t, ht, hc, hu⟩ := uses_mem.1 hu
    obtain ⟨y, hy, q⟩ := h.ts.mem ht
    exact uses_mem.2 ⟨y, hy, by rw [← counts_le ha q]; exact hc, by rw [← q.2.2.2.2.2.1]; exact hu⟩
  have hf : LessL ((c'.ts.eraseIdx i).filter fun b => decide (b.cls = 2) && countsT a' b) ((c.ts.eraseIdx i).filter fun b => decide (b.cls = 2) && countsT a b) := (h.ts.erase i).filter fun x y q => by rw [counts_le ha q, q.1]
  have he : LessL (c'.ts.filter fun t => decide (t.cls = 1)) (c.ts.filter fun t => decide (t.cls = 1)) := h.ts.filter fun x y q => by rw [q.1]
  have hp : ∀ s, tot ((partsT c' i a').map (ptW s)) ≤ tot ((partsT c i a).map (ptW s)) := fun s => by
    unfold partsT
    rw [List.map_append, List.map_append, tot_append, tot_append, h.gs, List.map_map, List.map_map, List.map_map]
    have := hf.tot (f := ptW s ∘ partT) (g := ptW s ∘ partT) (fun x y q => ptW_le q s)
    omega
  have hd : ∀ s, tot ((earliesT c').map (dueE s)) ≤ tot ((earliesT c).map (dueE s)) := fun s => by
    unfold earliesT
    rw [List.map_map, List.map_map]
    exact he.tot (f := dueE s ∘ earT) (g := dueE s ∘ earT) (fun x y q => dueE_le q s)
  have hpe : ∀ s, tot (((earliesT c').map partE).map (ptW s)) ≤ tot (((earliesT c).map partE).map (ptW s)) := fun s => by
    unfold earliesT
    rw [List.map_map, List.map_map, List.map_map, List.map_map]
    exact he.tot (f := ptW s ∘ partE ∘ earT) (g := ptW s ∘ partE ∘ earT) (fun x y q => ptW_le q s)
  refine hr.less hr' ha.1 ha.2.2.2.1 ha.2.2.2.2.2.2 hb (fun s => ?_) (fun s => ?_) (fun s => ?_)
  · unfold workP; rw [sum_tot, sum_tot]; exact cl_mono (hp s)
  · unfold needE; rw [sum_tot, sum_tot]; exact cl_mono (hd s)
  · unfold workP
    rw [sum_tot, sum_tot, List.map_append, List.map_append, tot_append, tot_append]
    have := hp s
    have := hpe s
    exact cl_mono (by omega)
theorem okT_le {c' c : Cp} (h : LessC c' c) {a' a : Tp} (ha : Le1 a' a) : okT c' a' = okT c a := by
  unfold okT
  rw [h.gs, h.dog, ha.2.2.1, ha.2.2.2.1, ha.2.2.2.2.1]
/-- What is admitted is admitted with less, and no response is greater. -/
theorem admit_less {c' c : Cp} (hm : mayC c' = true) (hl : LessC c' c) {rs ss : List Int} {ok : Bool} (h : AdmT c true rs) (h' : AdmT c' ok ss) : ok = true ∧ ss.length = rs.length ∧ ∀ (i : Nat) (r s : Int), rs[i]? = some r → ss[i]? = some s → s ≤ r := by
  have hlen := LessC.len hl.ts
  have e : ok = true := h'.yes hm fun i a' ha' => by
    obtain ⟨a, ha, q⟩ := hl.ts.at_ ha'
    obtain ⟨r, _, hr, hok⟩ := h.at_ ha
    obtain ⟨r', ok', hr'⟩ := RespT.there c' i a'
    obtain ⟨e, _⟩ := hl.resp q hr hr'
    subst e
    exact ⟨⟨r', hr'⟩, by rw [okT_le hl q]; exact hok⟩
  subst e
  have l1 : rs.length = c.ts.length := by rcases h with ⟨_, _, hl, _⟩ | ⟨e, _⟩; exact hl; cases e
  have l2 : ss.length = c'.ts.length := by rcases h' with ⟨_, _, hl, _⟩ | ⟨e, _⟩; exact hl; cases e
  refine ⟨rfl, by omega, fun i r s hr hs => ?_⟩
  obtain ⟨a', ha'⟩ : ∃ a', c'.ts[i]? = some a' := ⟨_, List.getElem?_eq_getElem (by have := (List.getElem?_eq_some_iff.1 hs).1; omega)⟩
  obtain ⟨a, ha, q⟩ := hl.ts.at_ ha'
  obtain ⟨r0, e0, hr0, _⟩ := h.at_ ha
  obtain ⟨s0, e1, hs0, _⟩ := h'.at_ ha'
  rw [hr] at e0
  rw [hs] at e1
  injection e0 with e0
  injection e1 with e1
  subst e0 e1
  exact (hl.resp q hr0 hs0).2
/-- One task's budget is 1. -/
def oneC (c : Cp) (k : Nat) : Cp := ⟨c.ts.modify k fun t => { t with bud := 1 }, c.es, c.ms, c.gs, c.frames, c.dog⟩
end Go.Proofs.YtcmgkjjkhfcedaaGreat
