/-
  The document's own queue: Change; Add as one; a queue that is none yet.
-/
import Derived.Test.YtccokhalcdljiaaRqAdd
namespace Go.Proofs.Ytccokhalcdljiaa
open Go.ChangeShapes Go.WideShapes Go.ChangeAt Go.RowKit
set_option linter.unusedVariables false
/-- A call of one side: what it answers, what is then. -/
def SideR (P : World → (Nat → Prop) → Prop) (U : Nat → Prop) (w : World) (v : Value) (e : Ending) (w' : World) : Prop :=
  e = .returned v ∧ ∃ U', P w' U' ∧ Touch U w w' ∧ ∀ i, U' i → U i ∨ w.heap.size ≤ i
theorem rqadd_any {w : World} {G : Nat → Prop} {S : Nat} {l : List Rt} (h : Rq w G S l) (id c lv d : Int) (hid : (Lit.int .i64 id).wf = true) (hp : PrWf ⟨c, lv, d⟩) (hfew : l.length < 1000) :
    Calls Try.prog 11 #[.pointer (some ⟨S, 0, none⟩), .int .i64 id, .agg #[.int .i64 c, .int .i64 lv, .int .i64 d]] w (SideR (fun w' U' => Rq w' U' S (addR l id ⟨c, lv, d⟩)) G w (.int .i64 (addE l id ⟨c, lv, d⟩ : Nat))) := by
  by_cases e : addE l id ⟨c, lv, d⟩ = 0
  · refine (rqadd_ok h id c lv d hid hp e hfew).mono ?_
    rintro en w' ⟨rfl, G', g1, g2, g3⟩
    exact ⟨by rw [e]; rfl, G', g1, g2, g3⟩
  · refine (rqadd_err h id c lv d e).mono ?_
    rintro en w' ⟨rfl, b⟩
    exact ⟨rfl, G, by unfold addR; rw [if_neg e]; exact h.below b, Touch.of_below b, fun i hi => .inl hi⟩
theorem rqdrop_side {w : World} {G : Nat → Prop} {S : Nat} {l : List Rt} (h : Rq w G S l) (id : Int) :
    Calls Try.prog 13 #[.pointer (some ⟨S, 0, none⟩), .int .i64 id] w (SideR (fun w' U' => Rq w' U' S (dropR l id)) G w (.bool (hasR l id))) :=
  (rqdrop_any h id).mono fun e w' ⟨h1, h2⟩ => ⟨h1, h2⟩
set_option maxHeartbeats 2000000 in
theorem rqchg_any {w : World} {G : Nat → Prop} {S : Nat} {l : List Rt} (h : Rq w G S l) (id c lv d : Int) (hid : (Lit.int .i64 id).wf = true) (hp : PrWf ⟨c, lv, d⟩) (hfew : l.length < 1000) :
    Calls Try.prog 15 #[.pointer (some ⟨S, 0, none⟩), .int .i64 id, .agg #[.int .i64 c, .int .i64 lv, .int .i64 d]] w (SideR (fun w' U' => Rq w' U' S (chgR l id ⟨c, lv, d⟩)) G w (.int .i64 (chgE l id ⟨c, lv, d⟩ : Nat))) := by
  obtain ⟨w1, hw1⟩ : ∃ w1, w1 = w.alloc (.cells #[.int .i64 c, .int .i64 lv, .int .i64 d] 31) := ⟨_, rfl⟩
  have B1 := hide (show Below w.heap.size w w1 from by rw [hw1]; exact (Below.refl w.heap.size w).alloc (Nat.le_refl _) _)
  have P1 := hide (show PrAt w1 w.heap.size c lv d from by rw [hw1]; exact prAt_new w c lv d)
  have H1 := hide (h.below B1.out)
  obtain ⟨a0, a1, a2⟩ := P1.out.cells
  obtain ⟨X, hX⟩ : ∃ X, X = w.heap.size := ⟨_, rfl⟩
  rw [← hX] at P1 a0 a1 a2
  have HX := hide hX
  have HW := hide hw1
  have NX := hide (show ¬ G X from fun e => by have := h.lt X e; omega)
  clear hw1 hX h
  have M := hide (fun W => rmay_any W c lv d)
  cases hm : mayP ⟨c, lv, d⟩ with
  | false =>
    have e1 : chgE l id ⟨c, lv, d⟩ = 2 := by unfold chgE; rw [if_pos hm]
    have e2 : chgR l id ⟨c, lv, d⟩ = l := by unfold chgR; rw [if_neg (by rw [e1]; omega)]
    rw [e1, e2]
    rw [hm] at M
    clear hm e1 e2
    go_enter Try.func15, Try.ntmps15
    go_upto_region 1 with fail
    rw [← HW.out, ← HX.out]
    go_wp2_with (go_at_call 29; refine (M.out _).mono ?_; rintro e w2 ⟨rfl, b2⟩; have B2 := hide (B1.out.trans (b2.mono B1.out.size)); have H2 := hide (H1.out.below b2); clear b2)
    go_ret
    exact ⟨rfl, G, H2.out, Touch.of_below B2.out, fun i hi => .inl hi⟩
  | true =>
    rw [hm] at M
    cases hh : hasR l id with
    | false =>
      have e1 : chgE l id ⟨c, lv, d⟩ = 4 := by unfold chgE; rw [if_neg (by rw [hm]; simp), if_neg (by rw [hh]; simp)]
      have e2 : chgR l id ⟨c, lv, d⟩ = l := by unfold chgR; rw [if_neg (by rw [e1]; omega)]
      have e3 : dropR l id = l := dropR_none (fun x hx e => by have := (hasR_iff l id).mpr ⟨x, hx, e⟩; rw [hh] at this; cases this)
      rw [e1, e2]
      have DR := hide (fun (W : World) (hW : Rq W G S l) => by have := rqdrop_side hW id; rw [hh, e3] at this; exact this)
      clear hm hh e1 e2 e3
      go_enter Try.func15, Try.ntmps15
      go_upto_region 1 with fail
      rw [← HW.out, ← HX.out]
      go_wp2_with (first
        | (go_at_call 29; refine (M.out _).mono ?_; rintro e w2 ⟨rfl, b2⟩; have B2 := hide (B1.out.trans (b2.mono B1.out.size)); have H2 := hide (H1.out.below b2); clear b2)
        | (go_at_call 13; refine (DR.out _ H2.out).mono ?_; rintro e w3 ⟨rfl, hd⟩; have D3 := hide hd; clear hd))
      go_ret
      obtain ⟨U', p1, p2, p3⟩ := D3.out
      exact ⟨rfl, U', p1, (Touch.of_below B2.out).trans p2 (fun i e => .inl e), fun i hi => (p3 i hi).imp (fun e => e) (fun e => Nat.le_trans B2.out.size e)⟩
    | true =>
      have e1 : chgE l id ⟨c, lv, d⟩ = 0 := by unfold chgE; rw [if_neg (by rw [hm]; simp), if_pos hh]
      obtain ⟨e2, e3⟩ := chg_add e1
      rw [e1, e3]
      have dl : (dropR l id).length < 1000 := Nat.lt_of_le_of_lt (List.length_filter_le _ _) hfew
      have DR := hide (fun (W : World) (hW : Rq W G S l) => by have := rqdrop_side hW id; rw [hh] at this; exact this)
      have AD := hide (fun (W : World) (V : Nat → Prop) (hW : Rq W V S (dropR l id)) => by have := rqadd_any hW id c lv d hid hp dl; rw [e2] at this; exact this)
      clear hm hh e1 e2 e3 hid hp
      go_enter Try.func15, Try.ntmps15
      go_upto_region 1 with fail
      rw [← HW.out, ← HX.out]
      go_wp2_with (first
        | (go_at_call 29; refine (M.out _).mono ?_; rintro e w2 ⟨rfl, b2⟩; have B2 := hide (B1.out.trans (b2.mono B1.out.size)); have H2 := hide (H1.out.below b2); have P2 := hide (P1.out.below b2); clear b2)
        | (go_at_call 13; refine (DR.out _ H2.out).mono ?_; rintro e w3 ⟨rfl, hd⟩; obtain ⟨U3, p1, p2, p3⟩ := hd; have D3 := hide p1; have T3 := hide ((Touch.of_below B2.out).trans p2 (fun i e => .inl e)); have G3 := hide (show ∀ i, U3 i → G i ∨ w.heap.size ≤ i from fun i hi => (p3 i hi).imp (fun e => e) (fun e => Nat.le_trans B2.out.size e)); obtain ⟨x0, x1, x2⟩ := (show PrAt w3 X c lv d from (p2.block X (lt_of_heap P2.out) NX.out).trans P2.out).cells; clear p1 p2 p3)
        | (go_at_call 11; refine (AD.out _ _ D3.out).mono ?_; rintro e w4 ⟨rfl, hd⟩; have D4 := hide hd; clear hd))
      go_ret
      obtain ⟨U', p1, p2, p3⟩ := D4.out
      exact ⟨rfl, U', p1, T3.out.trans p2 G3.out, fun i hi => (p3 i hi).elim (G3.out i) (fun e => .inr (Nat.le_trans T3.out.size e))⟩
/-- A queue that has nobody. -/
theorem rq_new (w : World) : Rq (w.alloc (.cells #[.slice none 0 0] 29)) (fun i => i = w.heap.size) w.heap.size [] :=
  ⟨⟨none, 0, heap_alloc_new _ _, World.ownsRow_nil _ _ _ _, fun g hg => by cases hg⟩, rfl, (fun i hi => by have hi : i = w.heap.size := hi; rw [hi]; simp), good_nil, Nat.zero_le _⟩
end Go.Proofs.Ytccokhalcdljiaa
