/-
  The walks of CondNone and CondNil, over the contracts of the program's conditions.
-/
import Derived.Test.YtmclifmdlcofaaaCdBoth
namespace Go.Proofs.Ytmclifmdlcofaaa
open Go.ChangeShapes Go.WideShapes Go.ChangeAt Go.RowKit
set_option linter.unusedVariables false
set_option linter.unusedSimpArgs false
/-- An act's block. -/
def ActC (w : World) (X : Nat) (d t i : Int) : Prop := w.heap[X]? = some (.cells #[.int .i64 d, .int .i64 t, .int .i64 i] 37 (0, 0))
theorem ActC.cells {w : World} {X : Nat} {d t i : Int} (h : ActC w X d t i) : w.cell? ⟨X, 0, none⟩ = some (.int .i64 d) ∧ w.cell? ⟨X, 1, none⟩ = some (.int .i64 t) ∧ w.cell? ⟨X, 2, none⟩ = some (.int .i64 i) := by
  refine ⟨?_, ?_, ?_⟩ <;> (rw [cell_of_row _ _ _ _ _ _ h]; rfl)
theorem ActC.below {w w' : World} {X : Nat} {d t i : Int} (h : ActC w X d t i) (b : Below w.heap.size w w') : ActC w' X d t i := (b.block X (lt_of_heap h)).trans h
theorem nil_w1 {a : Int} (h : 0 ≤ a) : waitE (newC 1) a 0 = 0 ∧ waitS (newC 1) a 0 = [[a]] := by
  have e : waitE (newC 1) a 0 = 0 := by
    unfold waitE
    rw [if_neg (by intro e; rcases e with e | e; omega; cases e), if_neg (by rw [ofC_none (fun l hl => by rw [(List.mem_replicate.1 hl).2]; simp)]; omega)]
  refine ⟨e, ?_⟩
  unfold waitS
  rw [if_pos e]; rfl
theorem nil_w2 {a b : Int} (h : 0 ≤ b) (ne : b ≠ a) : waitE [[a]] b 0 = 0 ∧ waitS [[a]] b 0 = [insL [a] b] := by
  have e : waitE [[a]] b 0 = 0 := by
    unfold waitE
    rw [if_neg (by intro e; rcases e with e | e; omega; cases e), if_neg (by rw [ofC_none (fun l hl => by simp at hl; subst hl; simpa using ne)]; omega)]
  refine ⟨e, ?_⟩
  unfold waitS
  rw [if_pos e]; rfl
theorem nil_two {a b : Int} : nilB [insL [a] b] 0 = false ∧ nilX [insL [a] b] 0 = -1 ∧ nilS [insL [a] b] 0 = [insL [a] b] ∧ (lstC [insL [a] b] 0).length = 2 := by
  have e0 : lstC [insL [a] b] 0 = insL [a] b := rfl
  have e1 : nilB [insL [a] b] 0 = false := by unfold nilB; rw [e0, insL_len]; rfl
  exact ⟨e1, by unfold nilX; rw [if_neg (by simp [e1])], by unfold nilS; rw [if_neg (by simp [e1])], by rw [e0, insL_len]; rfl⟩
theorem nil_can {a b : Int} (ne : b ≠ a) : canB [insL [a] b] b = true ∧ canS [insL [a] b] b = [[a]] := by
  have e0 : ofC [insL [a] b] b = 0 := ofC_some (k := 0) (l := insL [a] b) rfl (mem_insL.2 (.inl rfl)) (fun j m hj => absurd hj (by omega))
  have e1 : canB [insL [a] b] b = true := by unfold canB; rw [e0]; rfl
  refine ⟨e1, ?_⟩
  unfold canS
  rw [if_pos e1, e0]
  show [(insL [a] b).filter _] = _
  congr 1
  unfold insL
  split
  · simp [ne.symm]
  · simp [insL, ne.symm]
theorem nil_one (a : Int) : nilB [[a]] 0 = true ∧ nilX [[a]] 0 = a ∧ nilS [[a]] 0 = [[]] := by
  have e1 : nilB [[a]] 0 = true := rfl
  have e2 : nilX [[a]] 0 = a := rfl
  refine ⟨e1, e2, ?_⟩
  unfold nilS
  rw [if_pos e1, e2]
  have e0 : ofC [[a]] a = 0 := ofC_some (k := 0) (l := [a]) rfl (by simp) (fun j m hj => absurd hj (by omega))
  have e3 : canB [[a]] a = true := by unfold canB; rw [e0]; rfl
  unfold canS
  rw [if_pos e3, e0]
  show [[a].filter _] = _
  simp
theorem few_one (a : Int) : FewC [[a]] := fun l hl => by simp at hl; subst hl; simp
theorem few_two (a b : Int) : FewC [insL [a] b] := fun l hl => by simp at hl; subst hl; rw [insL_len]; simp
section
variable {PC : Rel Cs}
set_option maxHeartbeats 8000000 in
theorem walk_condNoneC (C : PConds PC) (Z : NilConds) (w : World) (d t i : Int) :
    Calls Try.prog 6 #[.agg #[.int .i64 d, .int .i64 t, .int .i64 i]] w fun e w' => e = .returned (.bool true) ∧ Below w.heap.size w w' := by
  obtain ⟨w1, hw1⟩ : ∃ w1, w1 = w.alloc (.cells #[.int .i64 d, .int .i64 t, .int .i64 i] 37) := ⟨_, rfl⟩
  have B1 := hide (show Below w.heap.size w w1 from by rw [hw1]; exact (Below.refl w.heap.size w).alloc (Nat.le_refl _) _)
  have P1 := hide (show ActC w1 w.heap.size d t i from by rw [hw1]; exact heap_alloc_new w _)
  obtain ⟨X, hX⟩ : ∃ X, X = w.heap.size := ⟨_, rfl⟩
  rw [← hX] at P1
  have HX := hide hX
  have HW := hide hw1
  clear hw1 hX
  go_enter Try.func6, Try.ntmps6
  go_upto_region 1 with fail
  rw [← HW.out, ← HX.out]
  obtain ⟨y10, y11, y12⟩ := P1.out.cells
  go_wp2_with (first
    | (go_at_call 15; refine (Z.sig _ _).mono ?_; rintro e w2 ⟨rfl, b2⟩; have B2 := hide (B1.out.trans (b2.mono B1.out.size)); have P2 := hide (P1.out.below b2); obtain ⟨y20, y21, y22⟩ := P2.out.cells; clear b2)
    | (go_at_call 13; refine (Z.wait _ _ _).mono ?_; rintro e w3 ⟨rfl, b3⟩; have B3 := hide (B2.out.trans (b3.mono B2.out.size)); have P3 := hide (P2.out.below b3); obtain ⟨y30, y31, y32⟩ := P3.out.cells; clear b3)
    | (go_at_call 18; refine (Z.can _ _).mono ?_; rintro e w4 ⟨rfl, b4⟩; have B4 := hide (B3.out.trans (b4.mono B3.out.size)); have P4 := hide (P3.out.below b4); obtain ⟨y40, y41, y42⟩ := P4.out.cells; clear b4)
    | (go_at_call 20; refine (Z.list _ _).mono ?_; rintro e w5 ⟨A5, c5, rfl, b5⟩; have B5 := hide (B4.out.trans (b5.mono B4.out.size)); have P5 := hide (P4.out.below b5); obtain ⟨y50, y51, y52⟩ := P5.out.cells; clear b5)
    | (go_at_call 21; refine (Z.of _ _).mono ?_; rintro e w6 ⟨rfl, b6⟩; have B6 := hide (B5.out.trans (b6.mono B5.out.size)); clear b6)
    | (go_at_call 8; refine (cdawake_any C _).mono ?_; rintro e w7 ⟨rfl, b7⟩; have B7 := hide (B6.out.trans (b7.mono B6.out.size)); clear b7))
  go_ret
  exact ⟨rfl, B7.out⟩
set_option maxHeartbeats 8000000 in
theorem walk_condNilC (C : PConds PC) (w : World) (xa xb : Int) : Calls Try.prog 5 #[.int .i64 xa, .int .i64 xb] w fun e w' => e = .returned (.bool true) ∧ Below w.heap.size w w' := by
  go_enter Try.func5, Try.ntmps5
  go_wp2_with fail
  go_at_call 9
  refine (C.new w 1 (by omega) (by omega)).mono ?_
  rintro e w1 ⟨S, U, rfl, p1, b1, l1⟩
  have P1 := hide (OneO.first p1 b1 l1)
  clear p1 b1 l1
  go_wp2_with fail
  go_at_call 12
  refine (low_i _ 1000 _ (by omega) (by omega)).mono ?_
  rintro e w' ⟨⟨a, ⟨a0, a1⟩, rfl⟩, rfl⟩
  go_wp2_with fail
  go_at_call 12
  refine (low_i _ 1000 _ (by omega) (by omega)).mono ?_
  rintro e w' ⟨⟨b, ⟨b0, b1⟩, rfl⟩, rfl⟩
  have WA := hide (wf_i (x := a) (by omega) (by omega))
  have WB := hide (wf_i (x := b) (by omega) (by omega))
  have N1 := hide (nil_w1 a0)
  have FA := hide (few_one a)
  have FB := hide (few_two a b)
  have O1 := hide (nil_one a)
  go_wp2_with fail
  go_at_call 13
  refine (C.wait P1.out.ps (few_lit (by decide)) WA.out (i := 0) (by decide)).mono ?_
  intro en w2 hs
  obtain ⟨rfl, U2, q2, _⟩ := P1.out.side hs
  clear hs
  rw [N1.out.2] at q2
  rw [N1.out.1]
  have P2 := hide q2
  clear q2 P1
  by_cases hne : b = a
  · subst hne
    have g0 : (b != b) = false := by simp
    go_wp2_with fail
    go_at_call 15
    refine (C.sigNil P2.out.ps FA.out (i := 0) (by decide)).mono ?_
    intro en w7 hs
    obtain ⟨rfl, U7, q7, _⟩ := P2.out.side hs
    clear hs
    rw [O1.out.2.2] at q7
    rw [O1.out.1, O1.out.2.1]
    have P7 := hide q7
    clear q7 P2
    go_wp2_with fail
    go_at_call 20
    refine (C.list P7.out.ps (few_lit (by decide)) (i := 0) (by decide)).mono ?_
    rintro e w8 ⟨v8, rfl, o8, b8⟩
    obtain ⟨A8, c8, rfl, _⟩ := row_open o8
    have P8 := hide (P7.out.below C.ok b8).1
    clear b8 o8 P7
    rw [show (lstC [[]] 0).length = 0 from rfl]
    go_wp2_with (go_at_call 8; refine (cdawake_any C _).mono ?_; rintro e w9 ⟨rfl, b9⟩; have B9 := hide (P8.out.bel.trans (b9.mono P8.out.bel.size)); clear b9)
    go_ret
    exact ⟨rfl, B9.out⟩
  · have g0 : (b != a) = true := by simpa using hne
    have N2 := hide (nil_w2 b0 hne)
    have T2 := hide (nil_two (a := a) (b := b))
    have K2 := hide (nil_can hne)
    go_wp2_with fail
    go_at_call 13
    refine (C.wait P2.out.ps FA.out WB.out (i := 0) (by decide)).mono ?_
    intro en w3 hs
    obtain ⟨rfl, U3, q3, _⟩ := P2.out.side hs
    clear hs
    rw [N2.out.2] at q3
    rw [N2.out.1]
    have P3 := hide q3
    clear q3 P2
    go_wp2_with fail
    go_at_call 15
    refine (C.sigNil P3.out.ps FB.out (i := 0) (by decide)).mono ?_
    intro en w4 hs
    obtain ⟨rfl, U4, q4, _⟩ := P3.out.side hs
    clear hs
    rw [T2.out.2.2.1] at q4
    rw [T2.out.1, T2.out.2.1]
    have P4 := hide q4
    clear q4 P3
    go_wp2_with fail
    go_at_call 20
    refine (C.list P4.out.ps FB.out (i := 0) (by decide)).mono ?_
    rintro e w5 ⟨v5, rfl, o5, b5⟩
    obtain ⟨A5, c5, rfl, _⟩ := row_open o5
    have P5 := hide (P4.out.below C.ok b5).1
    clear b5 o5 P4
    rw [T2.out.2.2.2]
    go_wp2_with fail
    go_at_call 18
    refine (C.can P5.out.ps FB.out WB.out).mono ?_
    intro en w6 hs
    obtain ⟨rfl, U6, q6, _⟩ := P5.out.side hs
    clear hs
    rw [K2.out.2] at q6
    rw [K2.out.1]
    have P6 := hide q6
    clear q6 P5
    go_wp2_with fail
    go_at_call 15
    refine (C.sigNil P6.out.ps FA.out (i := 0) (by decide)).mono ?_
    intro en w7 hs
    obtain ⟨rfl, U7, q7, _⟩ := P6.out.side hs
    clear hs
    rw [O1.out.2.2] at q7
    rw [O1.out.1, O1.out.2.1]
    have P7 := hide q7
    clear q7 P6
    go_wp2_with fail
    go_at_call 20
    refine (C.list P7.out.ps (few_lit (by decide)) (i := 0) (by decide)).mono ?_
    rintro e w8 ⟨v8, rfl, o8, b8⟩
    obtain ⟨A8, c8, rfl, _⟩ := row_open o8
    have P8 := hide (P7.out.below C.ok b8).1
    clear b8 o8 P7
    rw [show (lstC [[]] 0).length = 0 from rfl]
    go_wp2_with (go_at_call 8; refine (cdawake_any C _).mono ?_; rintro e w9 ⟨rfl, b9⟩; have B9 := hide (P8.out.bel.trans (b9.mono P8.out.bel.size)); clear b9)
    go_ret
    exact ⟨rfl, B9.out⟩
end
end Go.Proofs.Ytmclifmdlcofaaa
