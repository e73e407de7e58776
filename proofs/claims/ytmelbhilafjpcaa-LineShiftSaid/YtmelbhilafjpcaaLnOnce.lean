/-
  The walk of LineOnce, over the contracts of the program's line.
-/
import Derived.Test.YtmelbhilafjpcaaLnBoth
namespace Go.Proofs.Ytmelbhilafjpcaa
open Go.ChangeShapes Go.WideShapes Go.ChangeAt Go.RowKit
set_option linter.unusedVariables false
set_option linter.unusedSimpArgs false
section
variable {PL : Rel Ls}
theorem once_s1 {g now : Int} (h0 : 0 ≤ now) (h1 : now ≤ 2000000000) (g0 : 0 ≤ g) (g1 : g ≤ 1000) : arrS (newL g) now = ⟨g, now + g, now, true, false⟩ := by
  unfold arrS
  rw [if_pos (once_arr h0)]
  have := nextL_small (s := newL g) h0 h1 g0 g1
  show (⟨g, nextL (newL g) now, now, true, false⟩ : Ls) = _
  rw [this]
  rfl
theorem once_b2 {g now L : Int} : arrB ⟨g, now + g, now, false, false⟩ (now + L) = decide (g ≤ L) := by
  unfold arrB
  show (true && decide (now + g ≤ now + L)) = _
  rw [Bool.true_and, decide_eq_decide]; omega
theorem once_s3 {g now L : Int} (h : g ≤ L) : ∃ n2, arrS ⟨g, now + g, now, false, false⟩ (now + L) = ⟨g, n2, now + L, true, false⟩ := by
  unfold arrS
  rw [if_pos (by rw [once_b2]; simpa using h)]
  exact ⟨_, rfl⟩
theorem once_s4 {g now L : Int} (h : L < g) : arrS ⟨g, now + g, now, false, false⟩ (now + L) = ⟨g, now + g, now, false, true⟩ := by
  unfold arrS
  rw [if_neg (by rw [once_b2]; simpa using h)]
theorem once_t4 {g now : Int} : tckB ⟨g, now + g, now, false, true⟩ (now + g) = true := by
  unfold tckB arrB
  simp
set_option maxHeartbeats 8000000 in
theorem walk_lineOnceC (C : PLine PL) (w : World) (xg xn xl : Int) : Calls Try.prog 6 #[.int .i64 xg, .int .i64 xn, .int .i64 xl] w fun e w' => e = .returned (.bool true) ∧ Below w.heap.size w w' := by
  go_enter Try.func6, Try.ntmps6
  go_upto_region 2 with (first
    | (go_at_call 21; with_reducible refine (low_i _ 1000 _ (by omega) (by omega)).mono ?_; rintro e w' ⟨⟨r0, ⟨r1, r2⟩, rfl⟩, rfl⟩)
    | (go_at_call 21; with_reducible refine (low_i _ 1073741824 _ (by omega) (by omega)).mono ?_; rintro e w' ⟨⟨N, ⟨n1, n2⟩, rfl⟩, rfl⟩)
    | (go_at_call 21; with_reducible refine (low_i _ 5000 _ (by omega) (by omega)).mono ?_; rintro e w' ⟨⟨L, ⟨l1, l2⟩, rfl⟩, rfl⟩))
  obtain ⟨g, hG⟩ : ∃ g : Int, g = 1 + r0 := ⟨_, rfl⟩
  rw [← hG]
  have g1 : 1 ≤ g := by omega
  have g2 : g ≤ 1000 := by omega
  clear hG r1 r2
  have E := hide (once_s1 (g := g) n1 (by omega) (by omega) g2)
  have A1 := hide (once_arr (g := g) n1)
  have WN := hide (wf_i (x := N) (by omega) (by omega))
  have WL := hide (wf_i (x := N + L) (by omega) (by omega))
  have WG := hide (wf_i (x := N + g) (by omega) (by omega))
  go_wp2_with fail
  go_at_call 9
  refine (C.new w (g := g) g1 g2).mono ?_
  rintro e w1 ⟨S, U, rfl, p1, b1, l1⟩
  have P1 := hide (OneO.first p1 b1 l1)
  clear p1 b1 l1
  go_wp2_with fail
  go_at_call 12
  refine (C.arrive P1.out.ps WN.out).mono ?_
  intro en w2 hs
  obtain ⟨rfl, U2, q2, _⟩ := P1.out.side hs
  clear hs
  rw [E.out] at q2
  rw [A1.out]
  have P2 := hide q2
  clear q2 P1
  go_wp2_with fail
  go_at_call 16
  refine (C.take P2.out.ps).mono ?_
  intro en w3 hs
  obtain ⟨rfl, U3, q3, _⟩ := P2.out.side hs
  clear hs
  have q3 : OneO PL w w3 U3 [] S ⟨g, N + g, N, false, false⟩ := q3
  have P3 := hide q3
  clear q3 P2
  rw [show atL ⟨g, N + g, N, true, false⟩ = N from rfl]
  dsimp only
  go_wp2_with fail
  go_at_call 16
  refine (C.take P3.out.ps).mono ?_
  intro en w4 hs
  obtain ⟨rfl, U4, q4, _⟩ := P3.out.side hs
  clear hs
  have q4 : OneO PL w w4 U4 [] S ⟨g, N + g, N, false, false⟩ := q4
  have P4 := hide q4
  clear q4 P3
  rw [show atL ⟨g, N + g, N, false, false⟩ = 0 from rfl]
  dsimp only
  go_wp2_with fail
  go_at_call 14
  refine (C.tick P4.out.ps WL.out).mono ?_
  intro en w5 hs
  obtain ⟨rfl, U5, q5, _⟩ := P4.out.side hs
  clear hs
  rw [show tckB ⟨g, N + g, N, false, false⟩ (N + L) = false from rfl]
  have q5 : OneO PL w w5 U5 [] S ⟨g, N + g, N, false, false⟩ := q5
  have P5 := hide q5
  clear q5 P4
  by_cases hL : g ≤ L
  · have d1 : ¬ L < g := by omega
    obtain ⟨n2, hn2⟩ := once_s3 (g := g) (now := N) hL
    have E2 := hide hn2
    have A2 := hide (show arrB ⟨g, N + g, N, false, false⟩ (N + L) = true from by rw [once_b2]; simpa using hL)
    clear hn2
    go_wp2_with fail
    go_at_call 12
    refine (C.arrive P5.out.ps WL.out).mono ?_
    intro en w6 hs
    obtain ⟨rfl, U6, q6, _⟩ := P5.out.side hs
    clear hs
    rw [E2.out] at q6
    rw [A2.out]
    have P6 := hide q6
    clear q6 P5
    go_wp2_with fail
    go_at_call 19
    refine (C.masked P6.out.ps).mono ?_
    rintro e w7 ⟨rfl, b7⟩
    have P7 := hide (P6.out.below C.ok b7).1
    clear b7 P6
    dsimp only
    go_wp2_with fail
    go_at_call 14
    refine (C.tick P7.out.ps WG.out).mono ?_
    intro en w8 hs
    obtain ⟨rfl, U8, q8, _⟩ := P7.out.side hs
    clear hs
    rw [show tckB ⟨g, n2, N + L, true, false⟩ (N + g) = false from rfl]
    have P8 := hide q8
    clear q8 P7
    go_wp2_with (go_at_call 8; refine (lnawake_any C _).mono ?_; rintro e w9 ⟨rfl, b9⟩; have B9 := hide (P8.out.bel.trans (b9.mono P8.out.bel.size)); clear b9)
    go_ret
    exact ⟨ret_bool (by simp; omega), B9.out⟩
  · have d1 : L < g := by omega
    have E2 := hide (once_s4 (g := g) (now := N) d1)
    have A2 := hide (show arrB ⟨g, N + g, N, false, false⟩ (N + L) = false from by rw [once_b2]; simpa using d1)
    go_wp2_with fail
    go_at_call 12
    refine (C.arrive P5.out.ps WL.out).mono ?_
    intro en w6 hs
    obtain ⟨rfl, U6, q6, _⟩ := P5.out.side hs
    clear hs
    rw [E2.out] at q6
    rw [A2.out]
    have P6 := hide q6
    clear q6 P5
    go_wp2_with fail
    go_at_call 19
    refine (C.masked P6.out.ps).mono ?_
    rintro e w7 ⟨rfl, b7⟩
    have P7 := hide (P6.out.below C.ok b7).1
    clear b7 P6
    dsimp only
    go_wp2_with fail
    go_at_call 14
    refine (C.tick P7.out.ps WG.out).mono ?_
    intro en w8 hs
    obtain ⟨rfl, U8, q8, _⟩ := P7.out.side hs
    clear hs
    rw [once_t4]
    have P8 := hide q8
    clear q8 P7
    go_wp2_with (go_at_call 8; refine (lnawake_any C _).mono ?_; rintro e w9 ⟨rfl, b9⟩; have B9 := hide (P8.out.bel.trans (b9.mono P8.out.bel.size)); clear b9)
    go_ret
    exact ⟨ret_bool (by simp; omega), B9.out⟩
end
end Go.Proofs.Ytmelbhilafjpcaa
