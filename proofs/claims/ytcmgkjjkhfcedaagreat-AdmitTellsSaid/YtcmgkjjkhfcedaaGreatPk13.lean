/-
  What the walks lean on, part 13: AmMay18 PpCmp2.
-/
import Derived.Test.YtcmgkjjkhfcedaaGreatPk12
/-
  The program's admit (stage 18): May (written by tools/gen/ammayc.py).
-/
namespace Go.Proofs.YtcmgkjjkhfcedaaGreat
open Go.ChangeShapes Go.WideShapes Go.ChangeAt Go.RowKit
set_option linter.unusedVariables false
set_option linter.unusedSimpArgs false
theorem apart_iff {ts : List Tk} (h : ∀ t ∈ ts, -1 ≤ t.line) : (apartT (ts.map tpOf) = true ↔ ∀ (k i : Nat) (x y : Tk), k < i → ts[k]? = some x → ts[i]? = some y → (decide (x.line ≠ -1) && decide (x.line = y.line)) = false) := by
  constructor
  · intro ha k i x y hk hx hy
    have := apart_at ha k i (tpOf x) (tpOf y) hk (by rw [List.getElem?_map, hx]; rfl) (by rw [List.getElem?_map, hy]; rfl)
    have hx1 := h x (List.mem_of_getElem? hx)
    cases e : (decide (x.line ≠ -1) && decide (x.line = y.line))
    · rfl
    · simp only [Bool.and_eq_true, decide_eq_true_eq] at e
      exact absurd ⟨by show 0 ≤ y.line; omega, by show x.line = y.line; exact e.2⟩ this
  · intro ha
    refine apart_all fun k i a b hk h1 h2 => ?_
    rw [List.getElem?_map] at h1 h2
    obtain ⟨x, hx, rfl⟩ := Option.map_eq_some_iff.1 h1
    obtain ⟨y, hy, rfl⟩ := Option.map_eq_some_iff.1 h2
    rintro ⟨q1, q2⟩
    have q1' : 0 ≤ y.line := q1
    have q2' : x.line = y.line := q2
    have := ha k i x y hk hx hy
    simp only [Bool.and_eq_false_iff, decide_eq_false_iff_not] at this
    rcases this with h | h
    · exact h (by omega)
    · exact h q2'
theorem may_parts (c : Cf) (h1 : c.ts.length = c.tn) (h2 : c.es.length = c.en) (h3 : c.ms.length = c.mn) (h4 : c.gs.length = c.gn) (R : Bool)
    (hR : R = true ↔ ∀ (k i : Nat) (x y : Tk), k < i → c.ts[k]? = some x → c.ts[i]? = some y → (decide (x.line ≠ -1) && decide (x.line = y.line)) = false) :
    mayC (cpOf c) = (goodMu c.ms && decide (8 ≤ c.frames ∧ c.frames ≤ 64) && decide (1 ≤ c.dog ∧ c.dog ≤ 1099511627776) && (decide ((c.gn : Int) ≤ 4) && c.gs.all (fun x => gapOk x)) && (decide ((c.en : Int) ≤ 6) && c.es.all (fun x => effOk (x.lev, x.qn))) && (decide ((c.tn : Int) ≤ 8) && c.ts.all (fun x => mayT c.mn c.gn (tpOf x))) && R) := by
  have d1 : decide ((c.tn : Int) ≤ 8) = decide (c.tn ≤ 8) := by rw [Bool.eq_iff_iff]; simp only [decide_eq_true_eq]; omega
  have d2 : decide ((c.en : Int) ≤ 6) = decide (c.en ≤ 6) := by rw [Bool.eq_iff_iff]; simp only [decide_eq_true_eq]; omega
  have d4 : decide ((c.gn : Int) ≤ 4) = decide (c.gn ≤ 4) := by rw [Bool.eq_iff_iff]; simp only [decide_eq_true_eq]; omega
  have e0 : mayC (cpOf c) = (decide (c.tn ≤ 8) && decide (c.en ≤ 6) && goodMu c.ms && decide (c.gn ≤ 4) && decide (8 ≤ c.frames ∧ c.frames ≤ 64) && decide (1 ≤ c.dog ∧ c.dog ≤ 1099511627776) && c.gs.all (fun x => gapOk x) && c.ts.all (fun x => mayT c.mn c.gn (tpOf x)) && apartT (c.ts.map tpOf) && c.es.all (fun x => effOk (x.lev, x.qn))) := by
    unfold mayC cpOf
    dsimp only
    rw [List.length_map, List.length_map, h1, h2, h3, h4, List.all_map (f := tpOf), List.all_map (f := fun e : Ef => (e.lev, e.qn))]
    rfl
  rw [e0, d1, d2, d4]
  cases ha : c.ts.all (fun x => mayT c.mn c.gn (tpOf x)) with
  | false => simp
  | true =>
    have hl : ∀ t ∈ c.ts, -1 ≤ t.line := fun t ht => by
      have h := List.all_eq_true.1 ha t ht
      unfold mayT at h
      simp only [Bool.and_eq_true, decide_eq_true_eq] at h
      have h5 : -1 ≤ (tpOf t).line ∧ _ := h.1.1.1.2
      exact h5.1
    have e : R = apartT (c.ts.map tpOf) := by rw [Bool.eq_iff_iff, hR]; exact (apart_iff hl).symm
    rw [e]
    ac_rfl
set_option maxRecDepth 20000 in
set_option maxHeartbeats 8000000 in
theorem amay_any (w : World) (c : Cf) (hc : CfFit w c) (hg : greatCf c = false) :
    Calls Tryz.prog 6 #[.agg (cfVals c).toArray] w fun e w' => e = .returned (.bool (mayC (cpOf c))) ∧ Below w.heap.size w w' := by
  obtain ⟨R, hR⟩ : ∃ R : Bool, R = true ↔ ∀ (k i : Nat) (x y : Tk), k < i → c.ts[k]? = some x → c.ts[i]? = some y → (decide (x.line ≠ -1) && decide (x.line = y.line)) = false := by
    by_cases h : ∀ (k i : Nat) (x y : Tk), k < i → c.ts[k]? = some x → c.ts[i]? = some y → (decide (x.line ≠ -1) && decide (x.line = y.line)) = false
    · exact ⟨true, fun _ => h, fun _ => rfl⟩
    · exact ⟨false, fun e => (by cases e), fun e => absurd e h⟩
  rw [may_parts c hc.tasks.reads.1 hc.best.reads.1 hc.mutexes.reads.1 hc.gaps.reads.1 R hR]
  obtain ⟨ta, tn, tc, ts, ea, en, ec, es, ma, mn, mc, ms, ga, gn, gc, gs, frames, dog⟩ := c
  show Calls Tryz.prog 6 #[.agg #[.slice ta tn tc, .slice ea en ec, .slice ma mn mc, .slice ga gn gc, .int .i64 frames, .int .i64 dog]] w _
  dsimp only at hR ⊢
  have bounds : tn ≤ 12 ∧ en ≤ 12 ∧ mn ≤ 12 ∧ gn ≤ 12 ∧ ∀ t ∈ ts, t.un ≤ 12 := by
    unfold greatCf at hg
    simp only [Bool.or_eq_false_iff, decide_eq_false_iff_not] at hg
    refine ⟨by omega, by omega, by omega, by omega, fun t ht => ?_⟩
    have h := hg.1.2
    cases e : bigTk t
    · unfold bigTk at e
      simp only [Bool.or_eq_false_iff, decide_eq_false_iff_not] at e
      omega
    · rw [List.any_eq_true.2 ⟨t, ht, e⟩] at h; cases h
  obtain ⟨tn12, en12, mn12, gn12, hun⟩ := bounds
  obtain ⟨c1, h1⟩ : ∃ b, b = goodMu ms := ⟨_, rfl⟩
  obtain ⟨c2, h2⟩ : ∃ b, b = decide (8 ≤ frames ∧ frames ≤ 64) := ⟨_, rfl⟩
  obtain ⟨c3, h3⟩ : ∃ b, b = decide (1 ≤ dog ∧ dog ≤ 1099511627776) := ⟨_, rfl⟩
  obtain ⟨c4, h4⟩ : ∃ b, b = (decide ((gn : Int) ≤ 4) && gs.all (fun x => gapOk x)) := ⟨_, rfl⟩
  obtain ⟨c5, h5⟩ : ∃ b, b = (decide ((en : Int) ≤ 6) && es.all (fun x => effOk (x.lev, x.qn))) := ⟨_, rfl⟩
  obtain ⟨c6, h6⟩ : ∃ b, b = (decide ((tn : Int) ≤ 8) && ts.all (fun x => mayT mn gn (tpOf x))) := ⟨_, rfl⟩
  have hmf : ∀ (fn : Fn) (first cap : Array Value) (w : World), (Instr.makeFunc fn first cap).run Tryz.prog w = .ok (.func fn first cap) w := fun _ _ _ _ => rfl
  have I1 := hide (show ∀ W, Below w.heap.size w W → Calls Tryz.prog 19 #[.slice ma mn mc] W fun e w' => (c1 = true ∧ ∃ T, e = .returned (.tuple #[.pointer (some ⟨T, 0, none⟩), .int .i64 0]) ∧ Below W.heap.size W w') ∨ (c1 = false ∧ e = .returned (.tuple #[.pointer none, .int .i64 2]) ∧ Below W.heap.size W w') from fun W b => (pnew_any W ma mn mc ms (hc.mutexes.reads.below b) hc.mutexes.2.2.2.1 (by omega)).mono (by
    rintro e w' (⟨h, T, Q, he, _, hb, _⟩ | ⟨h, he, hb⟩)
    · exact .inl ⟨h1.trans h, T, he, hb⟩
    · exact .inr ⟨h1.trans h, he, hb⟩))
  have I2 := hide (fun W => awithin_is frames 8 64 c2 h2 W)
  have I3 := hide (fun W => awithin_is dog 1 1099511627776 c3 h3 W)
  have I4 := hide (show ∀ W, Below w.heap.size w W → Calls Tryz.prog 21 #[.slice ga gn gc, .int .i64 4, .func (.func 22) #[] #[]] W fun e w' => e = .returned (.bool c4) ∧ Below W.heap.size W w' from fun W b => by rw [h4]; exact aeach_gap W ga gn gc gs (hc.gaps.reads.below b) (by omega) 4)
  have I5 := hide (show ∀ W, Below w.heap.size w W → Calls Tryz.prog 23 #[.slice ea en ec, .int .i64 6, .func (.func 24) #[] #[]] W fun e w' => e = .returned (.bool c5) ∧ Below W.heap.size W w' from fun W b => by rw [h5]; exact aeach_eff W ea en ec es (hc.best.reads.below b) (by omega) 6)
  have I6 := hide (show ∀ W, Below w.heap.size w W → Calls Tryz.prog 25 #[.slice ta tn tc, .int .i64 8, .func (.func 26) #[.agg #[.slice ta tn tc, .slice ea en ec, .slice ma mn mc, .slice ga gn gc, .int .i64 frames, .int .i64 dog]] #[]] W fun e w' => e = .returned (.bool c6) ∧ Below W.heap.size W w' from fun W b => by rw [h6]; exact aeach_tk W ta tn tc ea en ec ma mn mc ga gn gc frames dog mn12 gn12 ta tn tc ts (hc.tasks.reads.below b) (by omega) 8 (fun x hx => ⟨(hc.tasks.2.2.2.2.1 x hx).uses.reads.below b, hun x hx⟩))
  have I7 := hide (show ∀ W, Below w.heap.size w W → Calls Tryz.prog 27 #[.slice ta tn tc] W fun e w' => e = .returned (.bool R) ∧ Below W.heap.size W w' from fun W b => aapart_any W ta tn tc ts (hc.tasks.reads.below b) (by omega) hc.tasks.2.1 hc.tasks.2.2.1 R hR)
  rw [← h1, ← h2, ← h3, ← h4, ← h5, ← h6]
  obtain ⟨W0, hW⟩ : ∃ W0, W0 = w.alloc (.cells #[.slice ta tn tc, .slice ea en ec, .slice ma mn mc, .slice ga gn gc, .int .i64 frames, .int .i64 dog] 27) := ⟨_, rfl⟩
  have hb := heap_alloc_new w (.cells #[.slice ta tn tc, .slice ea en ec, .slice ma mn mc, .slice ga gn gc, .int .i64 frames, .int .i64 dog] 27)
  have B0 := hide ((Below.refl w.heap.size w).alloc (Nat.le_refl _) (.cells #[.slice ta tn tc, .slice ea en ec, .slice ma mn mc, .slice ga gn gc, .int .i64 frames, .int .i64 dog] 27))
  rw [← hW] at hb B0
  have SC := hide (show ∀ Y : World, Below W0.heap.size W0 Y → Y.cell? ⟨w.heap.size, 0, none⟩ = some (.slice ta tn tc) ∧ Y.cell? ⟨w.heap.size, 1, none⟩ = some (.slice ea en ec) ∧ Y.cell? ⟨w.heap.size, 2, none⟩ = some (.slice ma mn mc) ∧ Y.cell? ⟨w.heap.size, 3, none⟩ = some (.slice ga gn gc) ∧ Y.cell? ⟨w.heap.size, 4, none⟩ = some (.int .i64 frames) ∧ Y.cell? ⟨w.heap.size, 5, none⟩ = some (.int .i64 dog) from fun Y b => by
    have e := (b.block _ (lt_of_heap hb)).trans hb
    refine ⟨?_, ?_, ?_, ?_, ?_, ?_⟩ <;> (rw [cell_of_row _ _ _ _ _ _ e]; rfl))
  have HW := hide hW
  obtain ⟨k0, k1, k2, k3, k4, k5⟩ := SC.out W0 (Below.refl _ _)
  clear hc hg hun hW hb tn12 en12 mn12 gn12 h1 h2 h3 h4 h5 h6 hR
  cases c1 with
  | false =>
    go_enter Tryz.func6, Tryz.ntmps6
    go_upto_region 1 with fail
    rw [← HW.out]
    go_wp2_with (first
      | (go_at_call 19; refine (I1.out _ B0.out).mono ?_; rintro e w3 (⟨hq, T, rfl, b3⟩ | ⟨hq, rfl, b3⟩) <;> first | (cases hq; done) | (have D3 := hide b3; clear b3 hq; clear k0 k1 k2 k3 k4 k5; obtain ⟨k0, k1, k2, k3, k4, k5⟩ := SC.out _ D3.out))
      | (go_at_call 20; with_reducible refine (I2.out _).mono ?_; rintro e w' ⟨rfl, rfl⟩)
      | (go_at_call 20; with_reducible refine (I3.out _).mono ?_; rintro e w' ⟨rfl, rfl⟩)
      | (go_at_call 21; refine (I4.out _ (B0.out.trans (D3.out.mono B0.out.size))).mono ?_; rintro e w4 ⟨rfl, b3⟩; have D4 := hide (D3.out.trans (b3.mono D3.out.size)); clear b3; clear k0 k1 k2 k3 k4 k5; obtain ⟨k0, k1, k2, k3, k4, k5⟩ := SC.out _ D4.out)
      | (go_at_call 23; refine (I5.out _ (B0.out.trans (D4.out.mono B0.out.size))).mono ?_; rintro e w5 ⟨rfl, b3⟩; have D5 := hide (D4.out.trans (b3.mono D4.out.size)); clear b3; clear k0 k1 k2 k3 k4 k5; obtain ⟨k0, k1, k2, k3, k4, k5⟩ := SC.out _ D5.out)
      | (go_at_call 25; refine (I6.out _ (B0.out.trans (D5.out.mono B0.out.size))).mono ?_; rintro e w6 ⟨rfl, b3⟩; have D6 := hide (D5.out.trans (b3.mono D5.out.size)); clear b3; clear k0 k1 k2 k3 k4 k5; obtain ⟨k0, k1, k2, k3, k4, k5⟩ := SC.out _ D6.out)
      | (go_at_call 27; refine (I7.out _ (B0.out.trans (D6.out.mono B0.out.size))).mono ?_; rintro e w7 ⟨rfl, b3⟩; have D7 := hide (D6.out.trans (b3.mono D6.out.size)); clear b3; clear k0 k1 k2 k3 k4 k5; obtain ⟨k0, k1, k2, k3, k4, k5⟩ := SC.out _ D7.out)
      | fail)
    go_ret
    exact ⟨rfl, by first | exact B0.out.trans (D7.out.mono B0.out.size) | exact B0.out.trans (D6.out.mono B0.out.size) | exact B0.out.trans (D5.out.mono B0.out.size) | exact B0.out.trans (D4.out.mono B0.out.size) | exact B0.out.trans (D3.out.mono B0.out.size)⟩
  | true =>
    cases c2 with
    | false =>
      go_enter Tryz.func6, Tryz.ntmps6
      go_upto_region 1 with fail
      rw [← HW.out]
      go_wp2_with (first
        | (go_at_call 19; refine (I1.out _ B0.out).mono ?_; rintro e w3 (⟨hq, T, rfl, b3⟩ | ⟨hq, rfl, b3⟩) <;> first | (cases hq; done) | (have D3 := hide b3; clear b3 hq; clear k0 k1 k2 k3 k4 k5; obtain ⟨k0, k1, k2, k3, k4, k5⟩ := SC.out _ D3.out))
        | (go_at_call 20; with_reducible refine (I2.out _).mono ?_; rintro e w' ⟨rfl, rfl⟩)
        | (go_at_call 20; with_reducible refine (I3.out _).mono ?_; rintro e w' ⟨rfl, rfl⟩)
        | (go_at_call 21; refine (I4.out _ (B0.out.trans (D3.out.mono B0.out.size))).mono ?_; rintro e w4 ⟨rfl, b3⟩; have D4 := hide (D3.out.trans (b3.mono D3.out.size)); clear b3; clear k0 k1 k2 k3 k4 k5; obtain ⟨k0, k1, k2, k3, k4, k5⟩ := SC.out _ D4.out)
        | (go_at_call 23; refine (I5.out _ (B0.out.trans (D4.out.mono B0.out.size))).mono ?_; rintro e w5 ⟨rfl, b3⟩; have D5 := hide (D4.out.trans (b3.mono D4.out.size)); clear b3; clear k0 k1 k2 k3 k4 k5; obtain ⟨k0, k1, k2, k3, k4, k5⟩ := SC.out _ D5.out)
        | (go_at_call 25; refine (I6.out _ (B0.out.trans (D5.out.mono B0.out.size))).mono ?_; rintro e w6 ⟨rfl, b3⟩; have D6 := hide (D5.out.trans (b3.mono D5.out.size)); clear b3; clear k0 k1 k2 k3 k4 k5; obtain ⟨k0, k1, k2, k3, k4, k5⟩ := SC.out _ D6.out)
        | (go_at_call 27; refine (I7.out _ (B0.out.trans (D6.out.mono B0.out.size))).mono ?_; rintro e w7 ⟨rfl, b3⟩; have D7 := hide (D6.out.trans (b3.mono D6.out.size)); clear b3; clear k0 k1 k2 k3 k4 k5; obtain ⟨k0, k1, k2, k3, k4, k5⟩ := SC.out _ D7.out)
        | fail)
      go_ret
      exact ⟨rfl, by first | exact B0.out.trans (D7.out.mono B0.out.size) | exact B0.out.trans (D6.out.mono B0.out.size) | exact B0.out.trans (D5.out.mono B0.out.size) | exact B0.out.trans (D4.out.mono B0.out.size) | exact B0.out.trans (D3.out.mono B0.out.size)⟩
    | true =>
      cases c3 with
      | false =>
        go_enter Tryz.func6, Tryz.ntmps6
        go_upto_region 1 with fail
        rw [← HW.out]
        go_wp2_with (first
          | (go_at_call 19; refine (I1.out _ B0.out).mono ?_; rintro e w3 (⟨hq, T, rfl, b3⟩ | ⟨hq, rfl, b3⟩) <;> first | (cases hq; done) | (have D3 := hide b3; clear b3 hq; clear k0 k1 k2 k3 k4 k5; obtain ⟨k0, k1, k2, k3, k4, k5⟩ := SC.out _ D3.out))
          | (go_at_call 20; with_reducible refine (I2.out _).mono ?_; rintro e w' ⟨rfl, rfl⟩)
          | (go_at_call 20; with_reducible refine (I3.out _).mono ?_; rintro e w' ⟨rfl, rfl⟩)
          | (go_at_call 21; refine (I4.out _ (B0.out.trans (D3.out.mono B0.out.size))).mono ?_; rintro e w4 ⟨rfl, b3⟩; have D4 := hide (D3.out.trans (b3.mono D3.out.size)); clear b3; clear k0 k1 k2 k3 k4 k5; obtain ⟨k0, k1, k2, k3, k4, k5⟩ := SC.out _ D4.out)
          | (go_at_call 23; refine (I5.out _ (B0.out.trans (D4.out.mono B0.out.size))).mono ?_; rintro e w5 ⟨rfl, b3⟩; have D5 := hide (D4.out.trans (b3.mono D4.out.size)); clear b3; clear k0 k1 k2 k3 k4 k5; obtain ⟨k0, k1, k2, k3, k4, k5⟩ := SC.out _ D5.out)
          | (go_at_call 25; refine (I6.out _ (B0.out.trans (D5.out.mono B0.out.size))).mono ?_; rintro e w6 ⟨rfl, b3⟩; have D6 := hide (D5.out.trans (b3.mono D5.out.size)); clear b3; clear k0 k1 k2 k3 k4 k5; obtain ⟨k0, k1, k2, k3, k4, k5⟩ := SC.out _ D6.out)
          | (go_at_call 27; refine (I7.out _ (B0.out.trans (D6.out.mono B0.out.size))).mono ?_; rintro e w7 ⟨rfl, b3⟩; have D7 := hide (D6.out.trans (b3.mono D6.out.size)); clear b3; clear k0 k1 k2 k3 k4 k5; obtain ⟨k0, k1, k2, k3, k4, k5⟩ := SC.out _ D7.out)
          | fail)
        go_ret
        exact ⟨rfl, by first | exact B0.out.trans (D7.out.mono B0.out.size) | exact B0.out.trans (D6.out.mono B0.out.size) | exact B0.out.trans (D5.out.mono B0.out.size) | exact B0.out.trans (D4.out.mono B0.out.size) | exact B0.out.trans (D3.out.mono B0.out.size)⟩
      | true =>
        cases c4 with
        | false =>
          go_enter Tryz.func6, Tryz.ntmps6
          go_upto_region 1 with fail
          rw [← HW.out]
          go_wp2_with (first
            | (go_at_call 19; refine (I1.out _ B0.out).mono ?_; rintro e w3 (⟨hq, T, rfl, b3⟩ | ⟨hq, rfl, b3⟩) <;> first | (cases hq; done) | (have D3 := hide b3; clear b3 hq; clear k0 k1 k2 k3 k4 k5; obtain ⟨k0, k1, k2, k3, k4, k5⟩ := SC.out _ D3.out))
            | (go_at_call 20; with_reducible refine (I2.out _).mono ?_; rintro e w' ⟨rfl, rfl⟩)
            | (go_at_call 20; with_reducible refine (I3.out _).mono ?_; rintro e w' ⟨rfl, rfl⟩)
            | (go_at_call 21; refine (I4.out _ (B0.out.trans (D3.out.mono B0.out.size))).mono ?_; rintro e w4 ⟨rfl, b3⟩; have D4 := hide (D3.out.trans (b3.mono D3.out.size)); clear b3; clear k0 k1 k2 k3 k4 k5; obtain ⟨k0, k1, k2, k3, k4, k5⟩ := SC.out _ D4.out)
            | (go_at_call 23; refine (I5.out _ (B0.out.trans (D4.out.mono B0.out.size))).mono ?_; rintro e w5 ⟨rfl, b3⟩; have D5 := hide (D4.out.trans (b3.mono D4.out.size)); clear b3; clear k0 k1 k2 k3 k4 k5; obtain ⟨k0, k1, k2, k3, k4, k5⟩ := SC.out _ D5.out)
            | (go_at_call 25; refine (I6.out _ (B0.out.trans (D5.out.mono B0.out.size))).mono ?_; rintro e w6 ⟨rfl, b3⟩; have D6 := hide (D5.out.trans (b3.mono D5.out.size)); clear b3; clear k0 k1 k2 k3 k4 k5; obtain ⟨k0, k1, k2, k3, k4, k5⟩ := SC.out _ D6.out)
            | (go_at_call 27; refine (I7.out _ (B0.out.trans (D6.out.mono B0.out.size))).mono ?_; rintro e w7 ⟨rfl, b3⟩; have D7 := hide (D6.out.trans (b3.mono D6.out.size)); clear b3; clear k0 k1 k2 k3 k4 k5; obtain ⟨k0, k1, k2, k3, k4, k5⟩ := SC.out _ D7.out)
            | fail)
          go_ret
          exact ⟨rfl, by first | exact B0.out.trans (D7.out.mono B0.out.size) | exact B0.out.trans (D6.out.mono B0.out.size) | exact B0.out.trans (D5.out.mono B0.out.size) | exact B0.out.trans (D4.out.mono B0.out.size) | exact B0.out.trans (D3.out.mono B0.out.size)⟩
        | true =>
          cases c5 with
          | false =>
            go_enter Tryz.func6, Tryz.ntmps6
            go_upto_region 1 with fail
            rw [← HW.out]
            go_wp2_with (first
              | (go_at_call 19; refine (I1.out _ B0.out).mono ?_; rintro e w3 (⟨hq, T, rfl, b3⟩ | ⟨hq, rfl, b3⟩) <;> first | (cases hq; done) | (have D3 := hide b3; clear b3 hq; clear k0 k1 k2 k3 k4 k5; obtain ⟨k0, k1, k2, k3, k4, k5⟩ := SC.out _ D3.out))
              | (go_at_call 20; with_reducible refine (I2.out _).mono ?_; rintro e w' ⟨rfl, rfl⟩)
              | (go_at_call 20; with_reducible refine (I3.out _).mono ?_; rintro e w' ⟨rfl, rfl⟩)
              | (go_at_call 21; refine (I4.out _ (B0.out.trans (D3.out.mono B0.out.size))).mono ?_; rintro e w4 ⟨rfl, b3⟩; have D4 := hide (D3.out.trans (b3.mono D3.out.size)); clear b3; clear k0 k1 k2 k3 k4 k5; obtain ⟨k0, k1, k2, k3, k4, k5⟩ := SC.out _ D4.out)
              | (go_at_call 23; refine (I5.out _ (B0.out.trans (D4.out.mono B0.out.size))).mono ?_; rintro e w5 ⟨rfl, b3⟩; have D5 := hide (D4.out.trans (b3.mono D4.out.size)); clear b3; clear k0 k1 k2 k3 k4 k5; obtain ⟨k0, k1, k2, k3, k4, k5⟩ := SC.out _ D5.out)
              | (go_at_call 25; refine (I6.out _ (B0.out.trans (D5.out.mono B0.out.size))).mono ?_; rintro e w6 ⟨rfl, b3⟩; have D6 := hide (D5.out.trans (b3.mono D5.out.size)); clear b3; clear k0 k1 k2 k3 k4 k5; obtain ⟨k0, k1, k2, k3, k4, k5⟩ := SC.out _ D6.out)
              | (go_at_call 27; refine (I7.out _ (B0.out.trans (D6.out.mono B0.out.size))).mono ?_; rintro e w7 ⟨rfl, b3⟩; have D7 := hide (D6.out.trans (b3.mono D6.out.size)); clear b3; clear k0 k1 k2 k3 k4 k5; obtain ⟨k0, k1, k2, k3, k4, k5⟩ := SC.out _ D7.out)
              | fail)
            go_ret
            exact ⟨rfl, by first | exact B0.out.trans (D7.out.mono B0.out.size) | exact B0.out.trans (D6.out.mono B0.out.size) | exact B0.out.trans (D5.out.mono B0.out.size) | exact B0.out.trans (D4.out.mono B0.out.size) | exact B0.out.trans (D3.out.mono B0.out.size)⟩
          | true =>
            cases c6 with
            | false =>
              go_enter Tryz.func6, Tryz.ntmps6
              go_upto_region 1 with fail
              rw [← HW.out]
              go_wp2_with (first
                | (go_at_call 19; refine (I1.out _ B0.out).mono ?_; rintro e w3 (⟨hq, T, rfl, b3⟩ | ⟨hq, rfl, b3⟩) <;> first | (cases hq; done) | (have D3 := hide b3; clear b3 hq; clear k0 k1 k2 k3 k4 k5; obtain ⟨k0, k1, k2, k3, k4, k5⟩ := SC.out _ D3.out))
                | (go_at_call 20; with_reducible refine (I2.out _).mono ?_; rintro e w' ⟨rfl, rfl⟩)
                | (go_at_call 20; with_reducible refine (I3.out _).mono ?_; rintro e w' ⟨rfl, rfl⟩)
                | (go_at_call 21; refine (I4.out _ (B0.out.trans (D3.out.mono B0.out.size))).mono ?_; rintro e w4 ⟨rfl, b3⟩; have D4 := hide (D3.out.trans (b3.mono D3.out.size)); clear b3; clear k0 k1 k2 k3 k4 k5; obtain ⟨k0, k1, k2, k3, k4, k5⟩ := SC.out _ D4.out)
                | (go_at_call 23; refine (I5.out _ (B0.out.trans (D4.out.mono B0.out.size))).mono ?_; rintro e w5 ⟨rfl, b3⟩; have D5 := hide (D4.out.trans (b3.mono D4.out.size)); clear b3; clear k0 k1 k2 k3 k4 k5; obtain ⟨k0, k1, k2, k3, k4, k5⟩ := SC.out _ D5.out)
                | (go_at_call 25; refine (I6.out _ (B0.out.trans (D5.out.mono B0.out.size))).mono ?_; rintro e w6 ⟨rfl, b3⟩; have D6 := hide (D5.out.trans (b3.mono D5.out.size)); clear b3; clear k0 k1 k2 k3 k4 k5; obtain ⟨k0, k1, k2, k3, k4, k5⟩ := SC.out _ D6.out)
                | (go_at_call 27; refine (I7.out _ (B0.out.trans (D6.out.mono B0.out.size))).mono ?_; rintro e w7 ⟨rfl, b3⟩; have D7 := hide (D6.out.trans (b3.mono D6.out.size)); clear b3; clear k0 k1 k2 k3 k4 k5; obtain ⟨k0, k1, k2, k3, k4, k5⟩ := SC.out _ D7.out)
                | fail)
              go_ret
              exact ⟨rfl, by first | exact B0.out.trans (D7.out.mono B0.out.size) | exact B0.out.trans (D6.out.mono B0.out.size) | exact B0.out.trans (D5.out.mono B0.out.size) | exact B0.out.trans (D4.out.mono B0.out.size) | exact B0.out.trans (D3.out.mono B0.out.size)⟩
            | true =>
              cases R with
              | false =>
                go_enter Tryz.func6, Tryz.ntmps6
                go_upto_region 1 with fail
                rw [← HW.out]
                go_wp2_with (first
                  | (go_at_call 19; refine (I1.out _ B0.out).mono ?_; rintro e w3 (⟨hq, T, rfl, b3⟩ | ⟨hq, rfl, b3⟩) <;> first | (cases hq; done) | (have D3 := hide b3; clear b3 hq; clear k0 k1 k2 k3 k4 k5; obtain ⟨k0, k1, k2, k3, k4, k5⟩ := SC.out _ D3.out))
                  | (go_at_call 20; with_reducible refine (I2.out _).mono ?_; rintro e w' ⟨rfl, rfl⟩)
                  | (go_at_call 20; with_reducible refine (I3.out _).mono ?_; rintro e w' ⟨rfl, rfl⟩)
                  | (go_at_call 21; refine (I4.out _ (B0.out.trans (D3.out.mono B0.out.size))).mono ?_; rintro e w4 ⟨rfl, b3⟩; have D4 := hide (D3.out.trans (b3.mono D3.out.size)); clear b3; clear k0 k1 k2 k3 k4 k5; obtain ⟨k0, k1, k2, k3, k4, k5⟩ := SC.out _ D4.out)
                  | (go_at_call 23; refine (I5.out _ (B0.out.trans (D4.out.mono B0.out.size))).mono ?_; rintro e w5 ⟨rfl, b3⟩; have D5 := hide (D4.out.trans (b3.mono D4.out.size)); clear b3; clear k0 k1 k2 k3 k4 k5; obtain ⟨k0, k1, k2, k3, k4, k5⟩ := SC.out _ D5.out)
                  | (go_at_call 25; refine (I6.out _ (B0.out.trans (D5.out.mono B0.out.size))).mono ?_; rintro e w6 ⟨rfl, b3⟩; have D6 := hide (D5.out.trans (b3.mono D5.out.size)); clear b3; clear k0 k1 k2 k3 k4 k5; obtain ⟨k0, k1, k2, k3, k4, k5⟩ := SC.out _ D6.out)
                  | (go_at_call 27; refine (I7.out _ (B0.out.trans (D6.out.mono B0.out.size))).mono ?_; rintro e w7 ⟨rfl, b3⟩; have D7 := hide (D6.out.trans (b3.mono D6.out.size)); clear b3; clear k0 k1 k2 k3 k4 k5; obtain ⟨k0, k1, k2, k3, k4, k5⟩ := SC.out _ D7.out)
                  | fail)
                go_ret
                exact ⟨rfl, by first | exact B0.out.trans (D7.out.mono B0.out.size) | exact B0.out.trans (D6.out.mono B0.out.size) | exact B0.out.trans (D5.out.mono B0.out.size) | exact B0.out.trans (D4.out.mono B0.out.size) | exact B0.out.trans (D3.out.mono B0.out.size)⟩
              | true =>
                go_enter Tryz.func6, Tryz.ntmps6
                go_upto_region 1 with fail
                rw [← HW.out]
                go_wp2_with (first
                  | (go_at_call 19; refine (I1.out _ B0.out).mono ?_; rintro e w3 (⟨hq, T, rfl, b3⟩ | ⟨hq, rfl, b3⟩) <;> first | (cases hq; done) | (have D3 := hide b3; clear b3 hq; clear k0 k1 k2 k3 k4 k5; obtain ⟨k0, k1, k2, k3, k4, k5⟩ := SC.out _ D3.out))
                  | (go_at_call 20; with_reducible refine (I2.out _).mono ?_; rintro e w' ⟨rfl, rfl⟩)
                  | (go_at_call 20; with_reducible refine (I3.out _).mono ?_; rintro e w' ⟨rfl, rfl⟩)
                  | (go_at_call 21; refine (I4.out _ (B0.out.trans (D3.out.mono B0.out.size))).mono ?_; rintro e w4 ⟨rfl, b3⟩; have D4 := hide (D3.out.trans (b3.mono D3.out.size)); clear b3; clear k0 k1 k2 k3 k4 k5; obtain ⟨k0, k1, k2, k3, k4, k5⟩ := SC.out _ D4.out)
                  | (go_at_call 23; refine (I5.out _ (B0.out.trans (D4.out.mono B0.out.size))).mono ?_; rintro e w5 ⟨rfl, b3⟩; have D5 := hide (D4.out.trans (b3.mono D4.out.size)); clear b3; clear k0 k1 k2 k3 k4 k5; obtain ⟨k0, k1, k2, k3, k4, k5⟩ := SC.out _ D5.out)
                  | (go_at_call 25; refine (I6.out _ (B0.out.trans (D5.out.mono B0.out.size))).mono ?_; rintro e w6 ⟨rfl, b3⟩; have D6 := hide (D5.out.trans (b3.mono D5.out.size)); clear b3; clear k0 k1 k2 k3 k4 k5; obtain ⟨k0, k1, k2, k3, k4, k5⟩ := SC.out _ D6.out)
                  | (go_at_call 27; refine (I7.out _ (B0.out.trans (D6.out.mono B0.out.size))).mono ?_; rintro e w7 ⟨rfl, b3⟩; have D7 := hide (D6.out.trans (b3.mono D6.out.size)); clear b3; clear k0 k1 k2 k3 k4 k5; obtain ⟨k0, k1, k2, k3, k4, k5⟩ := SC.out _ D7.out)
                  | fail)
                go_ret
                exact ⟨rfl, by first | exact B0.out.trans (D7.out.mono B0.out.size) | exact B0.out.trans (D6.out.mono B0.out.size) | exact B0.out.trans (D5.out.mono B0.out.size) | exact B0.out.trans (D4.out.mono B0.out.size) | exact B0.out.trans (D3.out.mono B0.out.size)⟩
end Go.Proofs.YtcmgkjjkhfcedaaGreat
/-
  The program's prio: Compare.
-/
namespace Go.Proofs.YtcmgkjjkhfcedaaGreat
open Go.ChangeShapes Go.WideShapes Go.ChangeAt Go.RowKit
set_option linter.unusedVariables false
theorem turn_first (w : World) : (Instr.index 132 (.agg turnsV) (.int .i64 0)).run Tryz.prog w = .ok (.func (.func 102) #[] #[]) w := by kernel_rfl
theorem turn_second (w : World) : (Instr.index 132 (.agg turnsV) (.int .i64 1)).run Tryz.prog w = .ok (.func (.func 103) #[] #[]) w := by kernel_rfl
set_option maxHeartbeats 4000000 in
theorem pcmp_any (w : World) (c l d x y z : Int) : Calls Tryz.prog 66 #[.agg #[.int .i64 c, .int .i64 l, .int .i64 d], .agg #[.int .i64 x, .int .i64 y, .int .i64 z]] w fun e w' => e = .returned (.int .i64 (cmpP ⟨c, l, d⟩ ⟨x, y, z⟩)) ∧ Below w.heap.size w w' := by
  obtain ⟨w1, hw1⟩ : ∃ w1, w1 = (w.alloc (.cells #[.int .i64 c, .int .i64 l, .int .i64 d] 105)).alloc (.cells #[.int .i64 x, .int .i64 y, .int .i64 z] 105) := ⟨_, rfl⟩
  have B1 := hide (show Below w.heap.size w w1 from by rw [hw1]; exact (((Below.refl w.heap.size w).alloc (Nat.le_refl _) _).alloc (by simp) _))
  have P1 := hide (show PrAt w1 w.heap.size c l d from by rw [hw1]; exact (prAt_new w c l d).below ((Below.refl _ _).alloc (Nat.le_refl _) _))
  have Q1 := hide (show PrAt w1 (w.heap.size + 1) x y z from by rw [hw1]; have := prAt_new (w.alloc (.cells #[.int .i64 c, .int .i64 l, .int .i64 d] 105)) x y z; simpa using this)
  have HW := hide hw1
  have t1 := turn_first
  have t2 := turn_second
  clear hw1
  go_enter Tryz.func66, Tryz.ntmps66
  go_upto_region 1 with fail
  rw [← HW.out]
  obtain ⟨X, hX⟩ : ∃ X, X = w.heap.size := ⟨_, rfl⟩
  obtain ⟨Y, hY⟩ : ∃ Y, Y = w.heap.size + 1 := ⟨_, rfl⟩
  rw [← hY, ← hX]
  rw [← hX] at P1
  rw [← hY] at Q1
  clear hX hY HW
  go_wp2_with (go_at_call 89; refine (pturns_any _).mono ?_; rintro e w2 ⟨rfl, b2⟩; have B2 := hide (B1.out.trans (b2.mono B1.out.size)); have P2 := hide (P1.out.below b2); have Q2 := hide (Q1.out.below b2); clear b2)
  go_loopw [9] (fun i wr => ∃ k : Nat, k ≤ 2 ∧ i = .int .i64 k ∧ (0 < k → c = x) ∧ (1 < k → inI c l d y z = 0) ∧ Hid (Below w.heap.size w wr ∧ PrAt wr X c l d ∧ PrAt wr Y x y z)) (fun i _ => 2 - (intOf i).toNat)
  case atStart => exact ⟨0, by omega, by first | trivial | rfl, by omega, by omega, B2.out, P2.out, Q2.out⟩
  case round =>
    clear B1 P1 Q1 B2 P2 Q2
    obtain ⟨k, hk, rfl, g0, g1, hZ⟩ := hrel
    have B3 := hide hZ.out.1
    have P3 := hide hZ.out.2.1
    have Q3 := hide hZ.out.2.2
    obtain ⟨p0, p1, p2⟩ := P3.out.cells
    obtain ⟨q0, q1, q2⟩ := Q3.out.cells
    clear hZ
    match k, hk with
    | 0, _ =>
      clear g0 g1 t2
      rw [show ((0 : Nat) : Int) = 0 from rfl]
      have K := hide (fun W => pbyClass_any W c l d x y z)
      by_cases h : c = x
      · subst h
        have K' := hide (show ∀ W, Calls Tryz.prog 102 #[.agg #[.int .i64 c, .int .i64 l, .int .i64 d], .agg #[.int .i64 c, .int .i64 y, .int .i64 z]] W fun e w' => e = .returned (.int .i64 0) ∧ Below W.heap.size W w' from fun W => by have := K.out W; rw [sgnI_self] at this; exact this)
        clear K
        go_wp2_with (go_at_call 102; refine (K'.out _).mono ?_; rintro e w4 ⟨rfl, b4⟩; have B4 := hide (B3.out.trans (b4.mono B3.out.size)); have P4 := hide (P3.out.below b4); have Q4 := hide (Q3.out.below b4); clear b4)
        go_roundw
        case rel => exact ⟨1, by omega, rfl, by simp, by omega, B4.out, P4.out, Q4.out⟩
        case measure => simp [intOf]
      · have e1 : cmpP ⟨c, l, d⟩ ⟨x, y, z⟩ = sgnI c x := cmpP_turn1 h
        obtain ⟨u, hu⟩ : ∃ u, u = sgnI c x := ⟨_, rfl⟩
        have un : (u != 0) = true := by have := sgnI_ne h; rw [hu]; simpa using this
        have K' := hide (show ∀ W, Calls Tryz.prog 102 #[.agg #[.int .i64 c, .int .i64 l, .int .i64 d], .agg #[.int .i64 x, .int .i64 y, .int .i64 z]] W fun e w' => e = .returned (.int .i64 u) ∧ Below W.heap.size W w' from fun W => by have := K.out W; rw [← hu] at this; exact this)
        have E1 := hide (e1.trans hu.symm)
        clear K e1 hu h
        go_wp2_with (go_at_call 102; refine (K'.out _).mono ?_; rintro e w4 ⟨rfl, b4⟩; have B4 := hide (B3.out.trans (b4.mono B3.out.size)); clear b4)
        go_ret
        exact ⟨ret_int E1.out.symm, B4.out⟩
    | 1, _ =>
      obtain rfl := g0 (by omega)
      clear g0 g1 t1
      rw [show ((1 : Nat) : Int) = 1 from rfl]
      have K := hide (fun W => pinClass_any W c l d c y z)
      have E1 := hide (cmpP_turn2 c l d y z)
      obtain ⟨u, hu⟩ : ∃ u, u = inI c l d y z := ⟨_, rfl⟩
      have K' := hide (show ∀ W, Calls Tryz.prog 103 #[.agg #[.int .i64 c, .int .i64 l, .int .i64 d], .agg #[.int .i64 c, .int .i64 y, .int .i64 z]] W fun e w' => e = .returned (.int .i64 u) ∧ Below W.heap.size W w' from fun W => by have := K.out W; rw [← hu] at this; exact this)
      have HU := hide hu
      clear K hu
      by_cases h : u = 0
      · have un : (u != 0) = false := by simpa using h
        go_wp2_with (go_at_call 103; refine (K'.out _).mono ?_; rintro e w4 ⟨rfl, b4⟩; have B4 := hide (B3.out.trans (b4.mono B3.out.size)); have P4 := hide (P3.out.below b4); have Q4 := hide (Q3.out.below b4); clear b4)
        go_roundw
        case rel => exact ⟨2, by omega, rfl, by simp, fun _ => by rw [← HU.out]; exact h, B4.out, P4.out, Q4.out⟩
        case measure => simp [intOf]
      · have un : (u != 0) = true := by simpa using h
        go_wp2_with (go_at_call 103; refine (K'.out _).mono ?_; rintro e w4 ⟨rfl, b4⟩; have B4 := hide (B3.out.trans (b4.mono B3.out.size)); clear b4)
        go_ret
        exact ⟨ret_int (HU.out.trans E1.out.symm), B4.out⟩
    | 2, _ =>
      obtain rfl := g0 (by omega)
      have e0 := g1 (by omega)
      have E1 := hide ((cmpP_turn2 c l d y z).trans e0)
      clear g0 g1 e0 t1 t2
      rw [show ((2 : Nat) : Int) = 2 from rfl]
      go_wp2_with fail
      go_ret
      exact ⟨ret_int E1.out.symm, B3.out⟩
end Go.Proofs.YtcmgkjjkhfcedaaGreat
