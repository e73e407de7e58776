/-
  The document's own queue: ahead; what Add answers of what may not be.
-/
import Derived.Test.YtccokhalcdljiaaRqDrop
namespace Go.Proofs.Ytccokhalcdljiaa
open Go.ChangeShapes Go.WideShapes Go.ChangeAt Go.RowKit
set_option linter.unusedVariables false
/-- A number with its priority, in a block. -/
def RtAt (w : World) (X : Nat) (x : Rt) : Prop := w.heap[X]? = some (.cells #[.int .i64 (x.id : Int), .int .i64 x.p.c, .int .i64 x.p.l, .int .i64 x.p.d] 71 (0, 0))
theorem RtAt.cells {w : World} {X : Nat} {x : Rt} (h : RtAt w X x) : w.cell? ⟨X, 0, none⟩ = some (.int .i64 (x.id : Int)) ∧ w.cell? ⟨X, 1, none⟩ = some (.int .i64 x.p.c) ∧ w.cell? ⟨X, 2, none⟩ = some (.int .i64 x.p.l) ∧ w.cell? ⟨X, 3, none⟩ = some (.int .i64 x.p.d) := by
  refine ⟨?_, ?_, ?_, ?_⟩ <;> (rw [cell_of_row _ _ _ _ _ _ h]; rfl)
theorem RtAt.below {w w' : World} {X : Nat} {x : Rt} (h : RtAt w X x) (b : Below w.heap.size w w') : RtAt w' X x := (b.block X (lt_of_heap h)).trans h
theorem rtAt_new (w : World) (x : Rt) : RtAt (w.alloc (.cells #[.int .i64 (x.id : Int), .int .i64 x.p.c, .int .i64 x.p.l, .int .i64 x.p.d] 71)) w.heap.size x := heap_alloc_new w _
set_option maxHeartbeats 2000000 in
theorem rqahead_any (w : World) (x y : Rt) : Calls Try.prog 31 #[.agg #[.int .i64 (x.id : Int), .int .i64 x.p.c, .int .i64 x.p.l, .int .i64 x.p.d], .agg #[.int .i64 (y.id : Int), .int .i64 y.p.c, .int .i64 y.p.l, .int .i64 y.p.d]] w fun e w' => e = .returned (.bool (aheadR x y)) ∧ Below w.heap.size w w' := by
  obtain ⟨w1, hw1⟩ : ∃ w1, w1 = (w.alloc (.cells #[.int .i64 (x.id : Int), .int .i64 x.p.c, .int .i64 x.p.l, .int .i64 x.p.d] 71)).alloc (.cells #[.int .i64 (y.id : Int), .int .i64 y.p.c, .int .i64 y.p.l, .int .i64 y.p.d] 71) := ⟨_, rfl⟩
  have B1 := hide (show Below w.heap.size w w1 from by rw [hw1]; exact (((Below.refl w.heap.size w).alloc (Nat.le_refl _) _).alloc (by simp) _))
  have P1 := hide (show RtAt w1 w.heap.size x from by rw [hw1]; exact (rtAt_new w x).below ((Below.refl _ _).alloc (Nat.le_refl _) _))
  have Q1 := hide (show RtAt w1 (w.heap.size + 1) y from by rw [hw1]; have := rtAt_new (w.alloc (.cells #[.int .i64 (x.id : Int), .int .i64 x.p.c, .int .i64 x.p.l, .int .i64 x.p.d] 71)) y; simpa using this)
  obtain ⟨a0, a1, a2, a3⟩ := P1.out.cells
  obtain ⟨b0, b1, b2, b3⟩ := Q1.out.cells
  obtain ⟨X, hX⟩ : ∃ X, X = w.heap.size := ⟨_, rfl⟩
  obtain ⟨Y, hY⟩ : ∃ Y, Y = w.heap.size + 1 := ⟨_, rfl⟩
  rw [← hX] at P1 a0 a1 a2 a3
  rw [← hY] at Q1 b0 b1 b2 b3
  have HX := hide hX
  have HY := hide hY
  have HW := hide hw1
  clear hw1 hX hY
  obtain ⟨v, hv⟩ : ∃ v, v = cmpP x.p y.p := ⟨_, rfl⟩
  have K := hide (fun W => by have := rcmp_any W x.p.c x.p.l x.p.d y.p.c y.p.l y.p.d; rw [show cmpP ⟨x.p.c, x.p.l, x.p.d⟩ ⟨y.p.c, y.p.l, y.p.d⟩ = v from hv.symm] at this; exact this)
  by_cases h1 : 0 < v
  · have ha : aheadR x y = true := by unfold aheadR; rw [← hv]; simp [h1]
    rw [ha]
    clear ha hv
    go_enter Try.func31, Try.ntmps31
    go_upto_region 1 with fail
    rw [← HW.out, ← HY.out, ← HX.out]
    go_wp2_with (go_at_call 36; refine (K.out _).mono ?_; rintro e w2 ⟨rfl, b4⟩; have B2 := hide (B1.out.trans (b4.mono B1.out.size)); clear b4)
    go_ret
    exact ⟨rfl, B2.out⟩
  · by_cases h2 : v = 0
    · have ha : aheadR x y = decide (x.id < y.id) := by
        unfold aheadR; rw [← hv, h2, Bool.eq_iff_iff]; simp
      rw [ha]
      subst h2
      clear ha hv h1
      go_enter Try.func31, Try.ntmps31
      go_upto_region 1 with fail
      rw [← HW.out, ← HY.out, ← HX.out]
      go_wp2_with (go_at_call 36; refine (K.out _).mono ?_; rintro e w2 ⟨rfl, b4⟩; have B2 := hide (B1.out.trans (b4.mono B1.out.size)); obtain ⟨e0, e1, e2, e3⟩ := (P1.out.below b4).cells; obtain ⟨f0, f1, f2, f3⟩ := (Q1.out.below b4).cells; clear b4)
      go_ret
      exact ⟨rfl, B2.out⟩
    · have ha : aheadR x y = false := by unfold aheadR; rw [← hv]; simp; omega
      rw [ha]
      have h2' : (v == 0) = false := by simpa using h2
      clear ha hv h2
      go_enter Try.func31, Try.ntmps31
      go_upto_region 1 with fail
      rw [← HW.out, ← HY.out, ← HX.out]
      go_wp2_with (go_at_call 36; refine (K.out _).mono ?_; rintro e w2 ⟨rfl, b4⟩; have B2 := hide (B1.out.trans (b4.mono B1.out.size)); clear b4)
      go_ret
      exact ⟨ret_bool (decide_eq_false (by omega)), B2.out⟩
set_option maxHeartbeats 2000000 in
theorem rqadd_err {w : World} {G : Nat → Prop} {S : Nat} {l : List Rt} (h : Rq w G S l) (id c lv d : Int) (he : addE l id ⟨c, lv, d⟩ ≠ 0) :
    Calls Try.prog 11 #[.pointer (some ⟨S, 0, none⟩), .int .i64 id, .agg #[.int .i64 c, .int .i64 lv, .int .i64 d]] w fun e w' => e = .returned (.int .i64 (addE l id ⟨c, lv, d⟩ : Nat)) ∧ Below w.heap.size w w' := by
  obtain ⟨w1, hw1⟩ : ∃ w1, w1 = w.alloc (.cells #[.int .i64 c, .int .i64 lv, .int .i64 d] 31) := ⟨_, rfl⟩
  have B1 := hide (show Below w.heap.size w w1 from by rw [hw1]; exact (Below.refl w.heap.size w).alloc (Nat.le_refl _) _)
  have P1 := hide (show PrAt w1 w.heap.size c lv d from by rw [hw1]; exact prAt_new w c lv d)
  have H1 := hide (h.below B1.out)
  obtain ⟨a0, a1, a2⟩ := P1.out.cells
  obtain ⟨X, hX⟩ : ∃ X, X = w.heap.size := ⟨_, rfl⟩
  rw [← hX] at P1 a0 a1 a2
  have HX := hide hX
  have HW := hide hw1
  clear hw1 hX h
  have M := hide (fun W => rmay_any W c lv d)
  by_cases h1 : id < 0
  · rw [show addE l id ⟨c, lv, d⟩ = 2 by unfold addE; rw [if_pos (.inl h1)]]
    clear he
    go_enter Try.func11, Try.ntmps11
    go_upto_region 1 with fail
    rw [← HW.out, ← HX.out]
    go_wp2_with fail
    go_ret
    exact ⟨rfl, B1.out⟩
  · cases hm : mayP ⟨c, lv, d⟩ with
    | false =>
      rw [show addE l id ⟨c, lv, d⟩ = 2 by unfold addE; rw [if_pos (.inr hm)]]
      rw [hm] at M
      clear he hm
      go_enter Try.func11, Try.ntmps11
      go_upto_region 1 with fail
      rw [← HW.out, ← HX.out]
      go_wp2_with (go_at_call 29; refine (M.out _).mono ?_; rintro e w2 ⟨rfl, b2⟩; have B2 := hide (B1.out.trans (b2.mono B1.out.size)); clear b2)
      go_ret
      exact ⟨rfl, B2.out⟩
    | true =>
      have hE : addE l id ⟨c, lv, d⟩ = if hasR l id = true then 5 else 0 := by unfold addE; rw [if_neg (by rw [hm]; simp; omega)]
      rw [hE] at he ⊢
      rw [hm] at M
      clear hE hm
      rcases posR_cases l id with ⟨i, hi, _, _, e3, e4⟩ | ⟨_, e3, e4⟩
      · rw [e4]
        have AT := hide (fun (W : World) (hW : Rq W G S l) => by have := rqat_any hW id; rw [e3] at this; exact this)
        have i0 : (0 : Int) ≤ (i : Int) := by omega
        clear e3 e4 he
        go_enter Try.func11, Try.ntmps11
        go_upto_region 1 with fail
        rw [← HW.out, ← HX.out]
        go_wp2_with (first
          | (go_at_call 29; refine (M.out _).mono ?_; rintro e w2 ⟨rfl, b2⟩; have B2 := hide (B1.out.trans (b2.mono B1.out.size)); have H2 := hide (H1.out.below b2); clear b2)
          | (go_at_call 30; refine (AT.out _ H2.out).mono ?_; rintro e w' ⟨rfl, rfl⟩))
        go_ret
        exact ⟨rfl, B2.out⟩
      · rw [e4] at he
        exact absurd rfl he
end Go.Proofs.Ytccokhalcdljiaa
