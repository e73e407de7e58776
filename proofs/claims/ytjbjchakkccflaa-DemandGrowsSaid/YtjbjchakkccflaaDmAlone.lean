/-
  Plain facts of one job by deadlines alone (DemandAlone).
-/
import Derived.Test.YtjbjchakkccflaaDmPlain
namespace Go.Proofs.Ytjbjchakkccflaa
set_option linter.unusedVariables false
theorem sum3_small {a b c : Int} (a0 : 0 ≤ a) (b0 : 0 ≤ b) (c0 : 0 ≤ c) (h : a + b + c ≤ 1000000) : sum [a, b, c] = a + b + c := by
  rw [sum_three, cl_in a a0 (by omega), cl_in b b0 (by omega), cl_in (a + b) (by omega) (by omega), cl_in c c0 (by omega), cl_in _ (by omega) (by omega)]
/-- The numbers of the law. -/
structure Alo (block per dl cost : Int) : Prop where
  b0 : 0 ≤ block
  b1 : block < 50
  p0 : 60 ≤ per
  p1 : per < 160
  d0 : 1 ≤ dl
  d1 : dl ≤ 60
  c0 : 1 ≤ cost
  c1 : cost ≤ 30
section
variable {block per dl cost : Int}
theorem alone_up (H : Alo block per dl cost) {s : Int} (h : 1 ≤ s) (h2 : s ≤ per) : up s per = 1 := by
  have b0 := H.b0
  have b1 := H.b1
  have p0 := H.p0
  have p1 := H.p1
  have d0 := H.d0
  have d1 := H.d1
  have c0 := H.c0
  have c1 := H.c1
  unfold up
  rw [cl_in s (by omega) (by omega), dv_in per (by omega) (by omega)]
  refine Int.ediv_eq_of_nonneg_of_lt_mul' _ _ 1 (by omega) (by omega) (by omega)
theorem alone_up2 (H : Alo block per dl cost) : up (2 * per) per = 2 := by
  have b0 := H.b0
  have b1 := H.b1
  have p0 := H.p0
  have p1 := H.p1
  have d0 := H.d0
  have d1 := H.d1
  have c0 := H.c0
  have c1 := H.c1
  unfold up
  rw [cl_in (2 * per) (by omega) (by omega), dv_in per (by omega) (by omega)]
  refine Int.ediv_eq_of_nonneg_of_lt_mul' _ _ 2 (by omega) (by omega) (by omega)
theorem alone_work (H : Alo block per dl cost) (s : Int) : workP s [⟨per, cost⟩] = mul (up s per) cost := by
  have b0 := H.b0
  have b1 := H.b1
  have p0 := H.p0
  have p1 := H.p1
  have d0 := H.d0
  have d1 := H.d1
  have c0 := H.c0
  have c1 := H.c1
  have : workP s [⟨per, cost⟩] = cl (0 + cl (mul (up s per) cost)) := rfl
  rw [this, Int.zero_add, cl_cl, cl_in _ (mul_lo _ _) (mul_hi _ _)]
theorem alone_need (H : Alo block per dl cost) {s : Int} (k : Int) (hk : up s per = k) (k0 : 0 ≤ k) (k1 : k ≤ 1000) : needP 0 block [⟨per, cost⟩] s = block + k * cost := by
  have b0 := H.b0
  have b1 := H.b1
  have p0 := H.p0
  have p1 := H.p1
  have d0 := H.d0
  have d1 := H.d1
  have c0 := H.c0
  have c1 := H.c1
  have m0 : 0 ≤ k * cost := Int.mul_nonneg k0 (by omega)
  have m1 : k * cost ≤ 1000 * 30 := Int.mul_le_mul k1 c1 (by omega) (by omega)
  unfold needP
  rw [alone_work H s, hk, mul_within k cost (by rw [cl_in k k0 (by omega), cl_in cost (by omega) (by omega)]; omega), cl_in k k0 (by omega), cl_in cost (by omega) (by omega), sum3_small (by omega) b0 m0 (by omega)]
  omega
theorem alone_need_lo (H : Alo block per dl cost) {s : Int} (h : 1 ≤ s) : block + cost ≤ needP 0 block [⟨per, cost⟩] s := by
  have b0 := H.b0
  have b1 := H.b1
  have p0 := H.p0
  have p1 := H.p1
  have d0 := H.d0
  have d1 := H.d1
  have c0 := H.c0
  have c1 := H.c1
  have e := alone_need H (s := 1) 1 (alone_up H (by omega) (by omega)) (by omega) (by omega)
  have := needP_mono h 0 block [⟨per, cost⟩]
  omega
theorem alone_needE (H : Alo block per dl cost) {s : Int} (h : 1 ≤ s) (h2 : s ≤ 60) : needE s [⟨per, dl, cost⟩] = if dl ≤ s then cost else 0 := by
  have b0 := H.b0
  have b1 := H.b1
  have p0 := H.p0
  have p1 := H.p1
  have d0 := H.d0
  have d1 := H.d1
  have c0 := H.c0
  have c1 := H.c1
  have e : needE s [⟨per, dl, cost⟩] = cl (0 + cl (dueE s ⟨per, dl, cost⟩)) := rfl
  rw [e, Int.zero_add, cl_cl, cl_in _ (dueE_lo _ _) (dueE_hi _ _)]
  unfold dueE
  show (if cl dl ≤ cl s then mul cost (jobsE s ⟨per, dl, cost⟩) else 0) = _
  rw [cl_in dl (by omega) (by omega), cl_in s (by omega) (by omega)]
  by_cases hd : dl ≤ s
  · rw [if_pos hd, if_pos hd]
    have j : jobsE s ⟨per, dl, cost⟩ = 1 := by
      unfold jobsE
      show down (cl s - cl dl) per + 1 = 1
      rw [cl_in dl (by omega) (by omega), cl_in s (by omega) (by omega)]
      unfold down
      rw [cl_in (s - dl) (by omega) (by omega), dv_in per (by omega) (by omega), Int.ediv_eq_zero_of_lt (by omega) (by omega)]
      rfl
    rw [j, mul_within _ _ (by rw [cl_in cost (by omega) (by omega), cl_in 1 (by omega) (by omega)]; omega), cl_in cost (by omega) (by omega), cl_in 1 (by omega) (by omega), Int.mul_one]
  · rw [if_neg hd, if_neg hd]
theorem alone_bad (H : Alo block per dl cost) {s : Int} (h : 1 ≤ s) (h2 : s ≤ 60) : badE block [] [⟨per, dl, cost⟩] s ↔ dl ≤ s ∧ s < block + cost := by
  have b0 := H.b0
  have b1 := H.b1
  have p0 := H.p0
  have p1 := H.p1
  have d0 := H.d0
  have d1 := H.d1
  have c0 := H.c0
  have c1 := H.c1
  have w0 : workP s [] = 0 := rfl
  unfold badE
  rw [w0, alone_needE H h h2]
  by_cases hd : dl ≤ s
  · rw [if_pos hd, sum3_small b0 (by omega) (by omega) (by omega)]; omega
  · rw [if_neg hd]; omega
theorem alone_is (H : Alo block per dl cost) {r : Int} {ok : Bool} (h : IsResp 0 block [⟨per, cost⟩] 600 r ok) : ok = true ∧ block + cost ≤ r ∧ (block + cost ≤ per → r = block + cost) := by
  have b0 := H.b0
  have b1 := H.b1
  have p0 := H.p0
  have p1 := H.p1
  have d0 := H.d0
  have d1 := H.d1
  have c0 := H.c0
  have c1 := H.c1
  have cm : cl 600 = 600 := cl_in 600 (by omega) (by omega)
  rcases h with ⟨e, a1, a2, a3, a4, a5⟩ | ⟨e, _, hn⟩
  · have lo := alone_need_lo H a1
    refine ⟨e, by omega, fun hp => ?_⟩
    have en := alone_need H (s := block + cost) 1 (alone_up H (by omega) hp) (by omega) (by omega)
    rcases Int.lt_or_le (block + cost) r with hlt | hle
    · exact absurd (show needP 0 block [⟨per, cost⟩] (block + cost) ≤ block + cost by omega) (a5 _ (by omega) hlt)
    · omega
  · have en := alone_need H (s := 2 * per) 2 (alone_up2 H) (by omega) (by omega)
    exact absurd (show needP 0 block [⟨per, cost⟩] (2 * per) ≤ 2 * per by omega) (hn _ (by omega) (by omega) (by omega))
/-- DemandAlone. -/
theorem alone_fits (H : Alo block per dl cost) {x r : Int} {ok is : Bool} (h : IsFits block [] [⟨per, dl, cost⟩] 600 x ok) (hr : IsResp 0 block [⟨per, cost⟩] 600 r is) : is = true ∧ (block + cost ≤ dl → ok = true) ∧ (dl < block + cost → ok = false ∧ x = dl) := by
  have b0 := H.b0
  have b1 := H.b1
  have p0 := H.p0
  have p1 := H.p1
  have d0 := H.d0
  have d1 := H.d1
  have c0 := H.c0
  have c1 := H.c1
  obtain ⟨e1, e2, e3⟩ := alone_is H hr
  subst e1
  refine ⟨rfl, ?_, ?_⟩
  · intro hle
    have er := e3 (by omega)
    rcases h with ⟨r', hr', _, _⟩ | ⟨r', hr', h⟩
    · have := (IsResp.same hr hr').2; cases this
    · have e := (IsResp.same hr hr').1
      rcases h with ⟨_, c2, c3, c4, _⟩ | ⟨e4, _⟩
      · have := (alone_bad H c2 (by omega)).1 c4
        omega
      · exact e4
  · intro hlt
    have bd := (alone_bad H d0 d1).2 ⟨Int.le_refl _, hlt⟩
    rcases h with ⟨r', hr', _, _⟩ | ⟨r', hr', h⟩
    · have := (IsResp.same hr hr').2; cases this
    · have e := (IsResp.same hr hr').1
      rcases h with ⟨e4, c2, c3, c4, c5⟩ | ⟨_, _, c5⟩
      · refine ⟨e4, ?_⟩
        rcases Int.lt_trichotomy x dl with hx | hx | hx
        · have := (alone_bad H c2 (by omega)).1 c4
          omega
        · exact hx
        · exact absurd bd (c5 dl d0 hx)
      · exact absurd bd (c5 dl d0 (by omega))
end
end Go.Proofs.Ytjbjchakkccflaa
