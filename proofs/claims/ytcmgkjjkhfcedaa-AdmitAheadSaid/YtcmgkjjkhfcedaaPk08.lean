/-
  What the walks lean on, part 8: AmMay18 PpCmp2 DmAlone RtBoth DmBoth.
-/
import Derived.Test.YtcmgkjjkhfcedaaPk07
/-
  The program's admit (stage 18): May (written by tools/gen/ammayc.py).
-/
namespace Go.Proofs.Ytcmgkjjkhfcedaa
open Go.ChangeShapes Go.WideShapes Go.ChangeAt Go.RowKit
set_option linter.unusedVariables false
set_option linter.unusedSimpArgs false
theorem apart_iff {ts : List Tk} (h : ∀ t ∈ ts, -1 ≤ t.line) : (apartT (ts.map tpOf) = true ↔ ∀ (k i : Nat) (x y : Tk), k < i → ts[k]? = some x → ts[i]? = some y → (decide (x.line ≠ -1) && decide (x.line = y.line)) = false) := by
  constructor
  · intro ha k i x y hk hx hy
    have := apart_at ha k i (tpOf x) (tpOf y) hk (by rw [List.getElem?_map, hx]; rfl) (by rw [List.getElem?_map, hy]; rfl)
    have hx1 := h x (List.mem_of_getElem? hx)
    cases e : (decide (x.line ≠ -1) && decide (x.line = y.line))
    · rfl
    · simp only [Bool.and_eq_true, decide_eq_true_eq] at e
      exact absurd ⟨by show 0 ≤ y.line; omega, by show x.line = y.line; exact e.2⟩ this
  · intro ha
    refine apart_all fun k i a b hk h1 h2 => ?_
    rw [List.getElem?_map] at h1 h2
    obtain ⟨x, hx, rfl⟩ := Option.map_eq_some_iff.1 h1
    obtain ⟨y, hy, rfl⟩ := Option.map_eq_some_iff.1 h2
    rintro ⟨q1, q2⟩
    have q1' : 0 ≤ y.line := q1
    have q2' : x.line = y.line := q2
    have := ha k i x y hk hx hy
    simp only [Bool.and_eq_false_iff, decide_eq_false_iff_not] at this
    rcases this with h | h
    · exact h (by omega)
    · exact h q2'
theorem may_parts (c : Cf) (h1 : c.ts.length = c.tn) (h2 : c.es.length = c.en) (h3 : c.ms.length = c.mn) (h4 : c.gs.length = c.gn) (R : Bool)
    (hR : R = true ↔ ∀ (k i : Nat) (x y : Tk), k < i → c.ts[k]? = some x → c.ts[i]? = some y → (decide (x.line ≠ -1) && decide (x.line = y.line)) = false) :
    mayC (cpOf c) = (goodMu c.ms && decide (8 ≤ c.frames ∧ c.frames ≤ 64) && decide (1 ≤ c.dog ∧ c.dog ≤ 1099511627776) && (decide ((c.gn : Int) ≤ 4) && c.gs.all (fun x => gapOk x)) && (decide ((c.en : Int) ≤ 6) && c.es.all (fun x => effOk (x.lev, x.qn))) && (decide ((c.tn : Int) ≤ 8) && c.ts.all (fun x => mayT c.mn c.gn (tpOf x))) && R) := by
  have d1 : decide ((c.tn : Int) ≤ 8) = decide (c.tn ≤ 8) := by rw [Bool.eq_iff_iff]; simp only [decide_eq_true_eq]; omega
  have d2 : decide ((c.en : Int) ≤ 6) = decide (c.en ≤ 6) := by rw [Bool.eq_iff_iff]; simp only [decide_eq_true_eq]; omega
  have d4 : decide ((c.gn : Int) ≤ 4) = decide (c.gn ≤ 4) := by rw [Bool.eq_iff_iff]; simp only [decide_eq_true_eq]; omega
  have e0 : mayC (cpOf c) = (decide (c.tn ≤ 8) && decide (c.en ≤ 6) && goodMu c.ms && decide (c.gn ≤ 4) && decide (8 ≤ c.frames ∧ c.frames ≤ 64) && decide (1 ≤ c.dog ∧ c.dog ≤ 1099511627776) && c.gs.all (fun x => gapOk x) && c.ts.all (fun x => mayT c.mn c.gn (tpOf x)) && apartT (c.ts.map tpOf) && c.es.all (fun x => effOk (x.lev, x.qn))) := by
    unfold mayC cpOf
    dsimp only
    rw [List.length_map, List.length_map, h1, h2, h3, h4, List.all_map (f := tpOf), List.all_map (f := fun e : Ef => (e.lev, e.qn))]
    rfl
  rw [e0, d1, d2, d4]
  cases ha : c.ts.all (fun x => mayT c.mn c.gn (tpOf x)) with
  | false => simp
  | true =>
    have hl : ∀ t ∈ c.ts, -1 ≤ t.line := fun t ht => by
      have h := List.all_eq_true.1 ha t ht
      unfold mayT at h
      simp only [Bool.and_eq_true, decide_eq_true_eq] at h
      have h5 : -1 ≤ (tpOf t).line ∧ _ := h.1.1.1.2
      exact h5.1
    have e : R = apartT (c.ts.map tpOf) := by rw [Bool.eq_iff_iff, hR]; exact (apart_iff hl).symm
    rw [e]
    ac_rfl
set_option maxRecDepth 20000 in
set_option maxHeartbeats 8000000 in
theorem amay_any (w : World) (c : Cf) (hc : CfFit w c) (hg : greatCf c = false) :
    Calls Try.prog 11 #[.agg (cfVals c).toArray] w fun e w' => e = .returned (.bool (mayC (cpOf c))) ∧ Below w.heap.size w w' := by
  obtain ⟨R, hR⟩ : ∃ R : Bool, R = true ↔ ∀ (k i : Nat) (x y : Tk), k < i → c.ts[k]? = some x → c.ts[i]? = some y → (decide (x.line ≠ -1) && decide (x.line = y.line)) = false := by
    by_cases h : ∀ (k i : Nat) (x y : Tk), k < i → c.ts[k]? = some x → c.ts[i]? = some y → (decide (x.line ≠ -1) && decide (x.line = y.line)) = false
    · exact ⟨true, fun _ => h, fun _ => rfl⟩
    · exact ⟨false, fun e => (by cases e), fun e => absurd e h⟩
  rw [may_parts c hc.tasks.reads.1 hc.best.reads.1 hc.mutexes.reads.1 hc.gaps.reads.1 R hR]
  obtain ⟨ta, tn, tc, ts, ea, en, ec, es, ma, mn, mc, ms, ga, gn, gc, gs, frames, dog⟩ := c
  show Calls Try.prog 11 #[.agg #[.slice ta tn tc, .slice ea en ec, .slice ma mn mc, .slice ga gn gc, .int .i64 frames, .int .i64 dog]] w _
  dsimp only at hR ⊢
  have bounds : tn ≤ 12 ∧ en ≤ 12 ∧ mn ≤ 12 ∧ gn ≤ 12 ∧ ∀ t ∈ ts, t.un ≤ 12 := by
    unfold greatCf at hg
    simp only [Bool.or_eq_false_iff, decide_eq_false_iff_not] at hg
    refine ⟨by omega, by omega, by omega, by omega, fun t ht => ?_⟩
    have h := hg.1.2
    cases e : bigTk t
    · unfold bigTk at e
      simp only [Bool.or_eq_false_iff, decide_eq_false_iff_not] at e
      omega
    · rw [List.any_eq_true.2 ⟨t, ht, e⟩] at h; cases h
  obtain ⟨tn12, en12, mn12, gn12, hun⟩ := bounds
  obtain ⟨c1, h1⟩ : ∃ b, b = goodMu ms := ⟨_, rfl⟩
  obtain ⟨c2, h2⟩ : ∃ b, b = decide (8 ≤ frames ∧ frames ≤ 64) := ⟨_, rfl⟩
  obtain ⟨c3, h3⟩ : ∃ b, b = decide (1 ≤ dog ∧ dog ≤ 1099511627776) := ⟨_, rfl⟩
  obtain ⟨c4, h4⟩ : ∃ b, b = (decide ((gn : Int) ≤ 4) && gs.all (fun x => gapOk x)) := ⟨_, rfl⟩
  obtain ⟨c5, h5⟩ : ∃ b, b = (decide ((en : Int) ≤ 6) && es.all (fun x => effOk (x.lev, x.qn))) := ⟨_, rfl⟩
  obtain ⟨c6, h6⟩ : ∃ b, b = (decide ((tn : Int) ≤ 8) && ts.all (fun x => mayT mn gn (tpOf x))) := ⟨_, rfl⟩
  have hmf : ∀ (fn : Fn) (first cap : Array Value) (w : World), (Instr.makeFunc fn first cap).run Try.prog w = .ok (.func fn first cap) w := fun _ _ _ _ => rfl
  have I1 := hide (show ∀ W, Below w.heap.size w W → Calls Try.prog 20 #[.slice ma mn mc] W fun e w' => (c1 = true ∧ ∃ T, e = .returned (.tuple #[.pointer (some ⟨T, 0, none⟩), .int .i64 0]) ∧ Below W.heap.size W w') ∨ (c1 = false ∧ e = .returned (.tuple #[.pointer none, .int .i64 2]) ∧ Below W.heap.size W w') from fun W b => (pnew_any W ma mn mc ms (hc.mutexes.reads.below b) hc.mutexes.2.2.2.1 (by omega)).mono (by
    rintro e w' (⟨h, T, Q, he, _, hb, _⟩ | ⟨h, he, hb⟩)
    · exact .inl ⟨h1.trans h, T, he, hb⟩
    · exact .inr ⟨h1.trans h, he, hb⟩))
  have I2 := hide (fun W => awithin_is frames 8 64 c2 h2 W)
  have I3 := hide (fun W => awithin_is dog 1 1099511627776 c3 h3 W)
  have I4 := hide (show ∀ W, Below w.heap.size w W → Calls Try.prog 22 #[.slice ga gn gc, .int .i64 4, .func (.func 23) #[] #[]] W fun e w' => e = .returned (.bool c4) ∧ Below W.heap.size W w' from fun W b => by rw [h4]; exact aeach_gap W ga gn gc gs (hc.gaps.reads.below b) (by omega) 4)
  have I5 := hide (show ∀ W, Below w.heap.size w W → Calls Try.prog 24 #[.slice ea en ec, .int .i64 6, .func (.func 25) #[] #[]] W fun e w' => e = .returned (.bool c5) ∧ Below W.heap.size W w' from fun W b => by rw [h5]; exact aeach_eff W ea en ec es (hc.best.reads.below b) (by omega) 6)
  have I6 := hide (show ∀ W, Below w.heap.size w W → Calls Try.prog 26 #[.slice ta tn tc, .int .i64 8, .func (.func 27) #[.agg #[.slice ta tn tc, .slice ea en ec, .slice ma mn mc, .slice ga gn gc, .int .i64 frames, .int .i64 dog]] #[]] W fun e w' => e = .returned (.bool c6) ∧ Below W.heap.size W w' from fun W b => by rw [h6]; exact aeach_tk W ta tn tc ea en ec ma mn mc ga gn gc frames dog mn12 gn12 ta tn tc ts (hc.tasks.reads.below b) (by omega) 8 (fun x hx => ⟨(hc.tasks.2.2.2.2.1 x hx).uses.reads.below b, hun x hx⟩))
  have I7 := hide (show ∀ W, Below w.heap.size w W → Calls Try.prog 28 #[.slice ta tn tc] W fun e w' => e = .returned (.bool R) ∧ Below W.heap.size W w' from fun W b => aapart_any W ta tn tc ts (hc.tasks.reads.below b) (by omega) hc.tasks.2.1 hc.tasks.2.2.1 R hR)
  rw [← h1, ← h2, ← h3, ← h4, ← h5, ← h6]
  obtain ⟨W0, hW⟩ : ∃ W0, W0 = w.alloc (.cells #[.slice ta tn tc, .slice ea en ec, .slice ma mn mc, .slice ga gn gc, .int .i64 frames, .int .i64 dog] 27) := ⟨_, rfl⟩
  have hb := heap_alloc_new w (.cells #[.slice ta tn tc, .slice ea en ec, .slice ma mn mc, .slice ga gn gc, .int .i64 frames, .int .i64 dog] 27)
  have B0 := hide ((Below.refl w.heap.size w).alloc (Nat.le_refl _) (.cells #[.slice ta tn tc, .slice ea en ec, .slice ma mn mc, .slice ga gn gc, .int .i64 frames, .int .i64 dog] 27))
  rw [← hW] at hb B0
  have SC := hide (show ∀ Y : World, Below W0.heap.size W0 Y → Y.cell? ⟨w.heap.size, 0, none⟩ = some (.slice ta tn tc) ∧ Y.cell? ⟨w.heap.size, 1, none⟩ = some (.slice ea en ec) ∧ Y.cell? ⟨w.heap.size, 2, none⟩ = some (.slice ma mn mc) ∧ Y.cell? ⟨w.heap.size, 3, none⟩ = some (.slice ga gn gc) ∧ Y.cell? ⟨w.heap.size, 4, none⟩ = some (.int .i64 frames) ∧ Y.cell? ⟨w.heap.size, 5, none⟩ = some (.int .i64 dog) from fun Y b => by
    have e := (b.block _ (lt_of_heap hb)).trans hb
    refine ⟨?_, ?_, ?_, ?_, ?_, ?_⟩ <;> (rw [cell_of_row _ _ _ _ _ _ e]; rfl))
  have HW := hide hW
  obtain ⟨k0, k1, k2, k3, k4, k5⟩ := SC.out W0 (Below.refl _ _)
  clear hc hg hun hW hb tn12 en12 mn12 gn12 h1 h2 h3 h4 h5 h6 hR
  cases c1 with
  | false =>
    go_enter Try.func11, Try.ntmps11
    go_upto_region 1 with fail
    rw [← HW.out]
    go_wp2_with (first
      | (go_at_call 20; refine (I1.out _ B0.out).mono ?_; rintro e w3 (⟨hq, T, rfl, b3⟩ | ⟨hq, rfl, b3⟩) <;> first | (cases hq; done) | (have D3 := hide b3; clear b3 hq; clear k0 k1 k2 k3 k4 k5; obtain ⟨k0, k1, k2, k3, k4, k5⟩ := SC.out _ D3.out))
      | (go_at_call 21; with_reducible refine (I2.out _).mono ?_; rintro e w' ⟨rfl, rfl⟩)
      | (go_at_call 21; with_reducible refine (I3.out _).mono ?_; rintro e w' ⟨rfl, rfl⟩)
      | (go_at_call 22; refine (I4.out _ (B0.out.trans (D3.out.mono B0.out.size))).mono ?_; rintro e w4 ⟨rfl, b3⟩; have D4 := hide (D3.out.trans (b3.mono D3.out.size)); clear b3; clear k0 k1 k2 k3 k4 k5; obtain ⟨k0, k1, k2, k3, k4, k5⟩ := SC.out _ D4.out)
      | (go_at_call 24; refine (I5.out _ (B0.out.trans (D4.out.mono B0.out.size))).mono ?_; rintro e w5 ⟨rfl, b3⟩; have D5 := hide (D4.out.trans (b3.mono D4.out.size)); clear b3; clear k0 k1 k2 k3 k4 k5; obtain ⟨k0, k1, k2, k3, k4, k5⟩ := SC.out _ D5.out)
      | (go_at_call 26; refine (I6.out _ (B0.out.trans (D5.out.mono B0.out.size))).mono ?_; rintro e w6 ⟨rfl, b3⟩; have D6 := hide (D5.out.trans (b3.mono D5.out.size)); clear b3; clear k0 k1 k2 k3 k4 k5; obtain ⟨k0, k1, k2, k3, k4, k5⟩ := SC.out _ D6.out)
      | (go_at_call 28; refine (I7.out _ (B0.out.trans (D6.out.mono B0.out.size))).mono ?_; rintro e w7 ⟨rfl, b3⟩; have D7 := hide (D6.out.trans (b3.mono D6.out.size)); clear b3; clear k0 k1 k2 k3 k4 k5; obtain ⟨k0, k1, k2, k3, k4, k5⟩ := SC.out _ D7.out)
      | fail)
    go_ret
    exact ⟨rfl, by first | exact B0.out.trans (D7.out.mono B0.out.size) | exact B0.out.trans (D6.out.mono B0.out.size) | exact B0.out.trans (D5.out.mono B0.out.size) | exact B0.out.trans (D4.out.mono B0.out.size) | exact B0.out.trans (D3.out.mono B0.out.size)⟩
  | true =>
    cases c2 with
    | false =>
      go_enter Try.func11, Try.ntmps11
      go_upto_region 1 with fail
      rw [← HW.out]
      go_wp2_with (first
        | (go_at_call 20; refine (I1.out _ B0.out).mono ?_; rintro e w3 (⟨hq, T, rfl, b3⟩ | ⟨hq, rfl, b3⟩) <;> first | (cases hq; done) | (have D3 := hide b3; clear b3 hq; clear k0 k1 k2 k3 k4 k5; obtain ⟨k0, k1, k2, k3, k4, k5⟩ := SC.out _ D3.out))
        | (go_at_call 21; with_reducible refine (I2.out _).mono ?_; rintro e w' ⟨rfl, rfl⟩)
        | (go_at_call 21; with_reducible refine (I3.out _).mono ?_; rintro e w' ⟨rfl, rfl⟩)
        | (go_at_call 22; refine (I4.out _ (B0.out.trans (D3.out.mono B0.out.size))).mono ?_; rintro e w4 ⟨rfl, b3⟩; have D4 := hide (D3.out.trans (b3.mono D3.out.size)); clear b3; clear k0 k1 k2 k3 k4 k5; obtain ⟨k0, k1, k2, k3, k4, k5⟩ := SC.out _ D4.out)
        | (go_at_call 24; refine (I5.out _ (B0.out.trans (D4.out.mono B0.out.size))).mono ?_; rintro e w5 ⟨rfl, b3⟩; have D5 := hide (D4.out.trans (b3.mono D4.out.size)); clear b3; clear k0 k1 k2 k3 k4 k5; obtain ⟨k0, k1, k2, k3, k4, k5⟩ := SC.out _ D5.out)
        | (go_at_call 26; refine (I6.out _ (B0.out.trans (D5.out.mono B0.out.size))).mono ?_; rintro e w6 ⟨rfl, b3⟩; have D6 := hide (D5.out.trans (b3.mono D5.out.size)); clear b3; clear k0 k1 k2 k3 k4 k5; obtain ⟨k0, k1, k2, k3, k4, k5⟩ := SC.out _ D6.out)
        | (go_at_call 28; refine (I7.out _ (B0.out.trans (D6.out.mono B0.out.size))).mono ?_; rintro e w7 ⟨rfl, b3⟩; have D7 := hide (D6.out.trans (b3.mono D6.out.size)); clear b3; clear k0 k1 k2 k3 k4 k5; obtain ⟨k0, k1, k2, k3, k4, k5⟩ := SC.out _ D7.out)
        | fail)
      go_ret
      exact ⟨rfl, by first | exact B0.out.trans (D7.out.mono B0.out.size) | exact B0.out.trans (D6.out.mono B0.out.size) | exact B0.out.trans (D5.out.mono B0.out.size) | exact B0.out.trans (D4.out.mono B0.out.size) | exact B0.out.trans (D3.out.mono B0.out.size)⟩
    | true =>
      cases c3 with
      | false =>
        go_enter Try.func11, Try.ntmps11
        go_upto_region 1 with fail
        rw [← HW.out]
        go_wp2_with (first
          | (go_at_call 20; refine (I1.out _ B0.out).mono ?_; rintro e w3 (⟨hq, T, rfl, b3⟩ | ⟨hq, rfl, b3⟩) <;> first | (cases hq; done) | (have D3 := hide b3; clear b3 hq; clear k0 k1 k2 k3 k4 k5; obtain ⟨k0, k1, k2, k3, k4, k5⟩ := SC.out _ D3.out))
          | (go_at_call 21; with_reducible refine (I2.out _).mono ?_; rintro e w' ⟨rfl, rfl⟩)
          | (go_at_call 21; with_reducible refine (I3.out _).mono ?_; rintro e w' ⟨rfl, rfl⟩)
          | (go_at_call 22; refine (I4.out _ (B0.out.trans (D3.out.mono B0.out.size))).mono ?_; rintro e w4 ⟨rfl, b3⟩; have D4 := hide (D3.out.trans (b3.mono D3.out.size)); clear b3; clear k0 k1 k2 k3 k4 k5; obtain ⟨k0, k1, k2, k3, k4, k5⟩ := SC.out _ D4.out)
          | (go_at_call 24; refine (I5.out _ (B0.out.trans (D4.out.mono B0.out.size))).mono ?_; rintro e w5 ⟨rfl, b3⟩; have D5 := hide (D4.out.trans (b3.mono D4.out.size)); clear b3; clear k0 k1 k2 k3 k4 k5; obtain ⟨k0, k1, k2, k3, k4, k5⟩ := SC.out _ D5.out)
          | (go_at_call 26; refine (I6.out _ (B0.out.trans (D5.out.mono B0.out.size))).mono ?_; rintro e w6 ⟨rfl, b3⟩; have D6 := hide (D5.out.trans (b3.mono D5.out.size)); clear b3; clear k0 k1 k2 k3 k4 k5; obtain ⟨k0, k1, k2, k3, k4, k5⟩ := SC.out _ D6.out)
          | (go_at_call 28; refine (I7.out _ (B0.out.trans (D6.out.mono B0.out.size))).mono ?_; rintro e w7 ⟨rfl, b3⟩; have D7 := hide (D6.out.trans (b3.mono D6.out.size)); clear b3; clear k0 k1 k2 k3 k4 k5; obtain ⟨k0, k1, k2, k3, k4, k5⟩ := SC.out _ D7.out)
          | fail)
        go_ret
        exact ⟨rfl, by first | exact B0.out.trans (D7.out.mono B0.out.size) | exact B0.out.trans (D6.out.mono B0.out.size) | exact B0.out.trans (D5.out.mono B0.out.size) | exact B0.out.trans (D4.out.mono B0.out.size) | exact B0.out.trans (D3.out.mono B0.out.size)⟩
      | true =>
        cases c4 with
        | false =>
          go_enter Try.func11, Try.ntmps11
          go_upto_region 1 with fail
          rw [← HW.out]
          go_wp2_with (first
            | (go_at_call 20; refine (I1.out _ B0.out).mono ?_; rintro e w3 (⟨hq, T, rfl, b3⟩ | ⟨hq, rfl, b3⟩) <;> first | (cases hq; done) | (have D3 := hide b3; clear b3 hq; clear k0 k1 k2 k3 k4 k5; obtain ⟨k0, k1, k2, k3, k4, k5⟩ := SC.out _ D3.out))
            | (go_at_call 21; with_reducible refine (I2.out _).mono ?_; rintro e w' ⟨rfl, rfl⟩)
            | (go_at_call 21; with_reducible refine (I3.out _).mono ?_; rintro e w' ⟨rfl, rfl⟩)
            | (go_at_call 22; refine (I4.out _ (B0.out.trans (D3.out.mono B0.out.size))).mono ?_; rintro e w4 ⟨rfl, b3⟩; have D4 := hide (D3.out.trans (b3.mono D3.out.size)); clear b3; clear k0 k1 k2 k3 k4 k5; obtain ⟨k0, k1, k2, k3, k4, k5⟩ := SC.out _ D4.out)
            | (go_at_call 24; refine (I5.out _ (B0.out.trans (D4.out.mono B0.out.size))).mono ?_; rintro e w5 ⟨rfl, b3⟩; have D5 := hide (D4.out.trans (b3.mono D4.out.size)); clear b3; clear k0 k1 k2 k3 k4 k5; obtain ⟨k0, k1, k2, k3, k4, k5⟩ := SC.out _ D5.out)
            | (go_at_call 26; refine (I6.out _ (B0.out.trans (D5.out.mono B0.out.size))).mono ?_; rintro e w6 ⟨rfl, b3⟩; have D6 := hide (D5.out.trans (b3.mono D5.out.size)); clear b3; clear k0 k1 k2 k3 k4 k5; obtain ⟨k0, k1, k2, k3, k4, k5⟩ := SC.out _ D6.out)
            | (go_at_call 28; refine (I7.out _ (B0.out.trans (D6.out.mono B0.out.size))).mono ?_; rintro e w7 ⟨rfl, b3⟩; have D7 := hide (D6.out.trans (b3.mono D6.out.size)); clear b3; clear k0 k1 k2 k3 k4 k5; obtain ⟨k0, k1, k2, k3, k4, k5⟩ := SC.out _ D7.out)
            | fail)
          go_ret
          exact ⟨rfl, by first | exact B0.out.trans (D7.out.mono B0.out.size) | exact B0.out.trans (D6.out.mono B0.out.size) | exact B0.out.trans (D5.out.mono B0.out.size) | exact B0.out.trans (D4.out.mono B0.out.size) | exact B0.out.trans (D3.out.mono B0.out.size)⟩
        | true =>
          cases c5 with
          | false =>
            go_enter Try.func11, Try.ntmps11
            go_upto_region 1 with fail
            rw [← HW.out]
            go_wp2_with (first
              | (go_at_call 20; refine (I1.out _ B0.out).mono ?_; rintro e w3 (⟨hq, T, rfl, b3⟩ | ⟨hq, rfl, b3⟩) <;> first | (cases hq; done) | (have D3 := hide b3; clear b3 hq; clear k0 k1 k2 k3 k4 k5; obtain ⟨k0, k1, k2, k3, k4, k5⟩ := SC.out _ D3.out))
              | (go_at_call 21; with_reducible refine (I2.out _).mono ?_; rintro e w' ⟨rfl, rfl⟩)
              | (go_at_call 21; with_reducible refine (I3.out _).mono ?_; rintro e w' ⟨rfl, rfl⟩)
              | (go_at_call 22; refine (I4.out _ (B0.out.trans (D3.out.mono B0.out.size))).mono ?_; rintro e w4 ⟨rfl, b3⟩; have D4 := hide (D3.out.trans (b3.mono D3.out.size)); clear b3; clear k0 k1 k2 k3 k4 k5; obtain ⟨k0, k1, k2, k3, k4, k5⟩ := SC.out _ D4.out)
              | (go_at_call 24; refine (I5.out _ (B0.out.trans (D4.out.mono B0.out.size))).mono ?_; rintro e w5 ⟨rfl, b3⟩; have D5 := hide (D4.out.trans (b3.mono D4.out.size)); clear b3; clear k0 k1 k2 k3 k4 k5; obtain ⟨k0, k1, k2, k3, k4, k5⟩ := SC.out _ D5.out)
              | (go_at_call 26; refine (I6.out _ (B0.out.trans (D5.out.mono B0.out.size))).mono ?_; rintro e w6 ⟨rfl, b3⟩; have D6 := hide (D5.out.trans (b3.mono D5.out.size)); clear b3; clear k0 k1 k2 k3 k4 k5; obtain ⟨k0, k1, k2, k3, k4, k5⟩ := SC.out _ D6.out)
              | (go_at_call 28; refine (I7.out _ (B0.out.trans (D6.out.mono B0.out.size))).mono ?_; rintro e w7 ⟨rfl, b3⟩; have D7 := hide (D6.out.trans (b3.mono D6.out.size)); clear b3; clear k0 k1 k2 k3 k4 k5; obtain ⟨k0, k1, k2, k3, k4, k5⟩ := SC.out _ D7.out)
              | fail)
            go_ret
            exact ⟨rfl, by first | exact B0.out.trans (D7.out.mono B0.out.size) | exact B0.out.trans (D6.out.mono B0.out.size) | exact B0.out.trans (D5.out.mono B0.out.size) | exact B0.out.trans (D4.out.mono B0.out.size) | exact B0.out.trans (D3.out.mono B0.out.size)⟩
          | true =>
            cases c6 with
            | false =>
              go_enter Try.func11, Try.ntmps11
              go_upto_region 1 with fail
              rw [← HW.out]
              go_wp2_with (first
                | (go_at_call 20; refine (I1.out _ B0.out).mono ?_; rintro e w3 (⟨hq, T, rfl, b3⟩ | ⟨hq, rfl, b3⟩) <;> first | (cases hq; done) | (have D3 := hide b3; clear b3 hq; clear k0 k1 k2 k3 k4 k5; obtain ⟨k0, k1, k2, k3, k4, k5⟩ := SC.out _ D3.out))
                | (go_at_call 21; with_reducible refine (I2.out _).mono ?_; rintro e w' ⟨rfl, rfl⟩)
                | (go_at_call 21; with_reducible refine (I3.out _).mono ?_; rintro e w' ⟨rfl, rfl⟩)
                | (go_at_call 22; refine (I4.out _ (B0.out.trans (D3.out.mono B0.out.size))).mono ?_; rintro e w4 ⟨rfl, b3⟩; have D4 := hide (D3.out.trans (b3.mono D3.out.size)); clear b3; clear k0 k1 k2 k3 k4 k5; obtain ⟨k0, k1, k2, k3, k4, k5⟩ := SC.out _ D4.out)
                | (go_at_call 24; refine (I5.out _ (B0.out.trans (D4.out.mono B0.out.size))).mono ?_; rintro e w5 ⟨rfl, b3⟩; have D5 := hide (D4.out.trans (b3.mono D4.out.size)); clear b3; clear k0 k1 k2 k3 k4 k5; obtain ⟨k0, k1, k2, k3, k4, k5⟩ := SC.out _ D5.out)
                | (go_at_call 26; refine (I6.out _ (B0.out.trans (D5.out.mono B0.out.size))).mono ?_; rintro e w6 ⟨rfl, b3⟩; have D6 := hide (D5.out.trans (b3.mono D5.out.size)); clear b3; clear k0 k1 k2 k3 k4 k5; obtain ⟨k0, k1, k2, k3, k4, k5⟩ := SC.out _ D6.out)
                | (go_at_call 28; refine (I7.out _ (B0.out.trans (D6.out.mono B0.out.size))).mono ?_; rintro e w7 ⟨rfl, b3⟩; have D7 := hide (D6.out.trans (b3.mono D6.out.size)); clear b3; clear k0 k1 k2 k3 k4 k5; obtain ⟨k0, k1, k2, k3, k4, k5⟩ := SC.out _ D7.out)
                | fail)
              go_ret
              exact ⟨rfl, by first | exact B0.out.trans (D7.out.mono B0.out.size) | exact B0.out.trans (D6.out.mono B0.out.size) | exact B0.out.trans (D5.out.mono B0.out.size) | exact B0.out.trans (D4.out.mono B0.out.size) | exact B0.out.trans (D3.out.mono B0.out.size)⟩
            | true =>
              cases R with
              | false =>
                go_enter Try.func11, Try.ntmps11
                go_upto_region 1 with fail
                rw [← HW.out]
                go_wp2_with (first
                  | (go_at_call 20; refine (I1.out _ B0.out).mono ?_; rintro e w3 (⟨hq, T, rfl, b3⟩ | ⟨hq, rfl, b3⟩) <;> first | (cases hq; done) | (have D3 := hide b3; clear b3 hq; clear k0 k1 k2 k3 k4 k5; obtain ⟨k0, k1, k2, k3, k4, k5⟩ := SC.out _ D3.out))
                  | (go_at_call 21; with_reducible refine (I2.out _).mono ?_; rintro e w' ⟨rfl, rfl⟩)
                  | (go_at_call 21; with_reducible refine (I3.out _).mono ?_; rintro e w' ⟨rfl, rfl⟩)
                  | (go_at_call 22; refine (I4.out _ (B0.out.trans (D3.out.mono B0.out.size))).mono ?_; rintro e w4 ⟨rfl, b3⟩; have D4 := hide (D3.out.trans (b3.mono D3.out.size)); clear b3; clear k0 k1 k2 k3 k4 k5; obtain ⟨k0, k1, k2, k3, k4, k5⟩ := SC.out _ D4.out)
                  | (go_at_call 24; refine (I5.out _ (B0.out.trans (D4.out.mono B0.out.size))).mono ?_; rintro e w5 ⟨rfl, b3⟩; have D5 := hide (D4.out.trans (b3.mono D4.out.size)); clear b3; clear k0 k1 k2 k3 k4 k5; obtain ⟨k0, k1, k2, k3, k4, k5⟩ := SC.out _ D5.out)
                  | (go_at_call 26; refine (I6.out _ (B0.out.trans (D5.out.mono B0.out.size))).mono ?_; rintro e w6 ⟨rfl, b3⟩; have D6 := hide (D5.out.trans (b3.mono D5.out.size)); clear b3; clear k0 k1 k2 k3 k4 k5; obtain ⟨k0, k1, k2, k3, k4, k5⟩ := SC.out _ D6.out)
                  | (go_at_call 28; refine (I7.out _ (B0.out.trans (D6.out.mono B0.out.size))).mono ?_; rintro e w7 ⟨rfl, b3⟩; have D7 := hide (D6.out.trans (b3.mono D6.out.size)); clear b3; clear k0 k1 k2 k3 k4 k5; obtain ⟨k0, k1, k2, k3, k4, k5⟩ := SC.out _ D7.out)
                  | fail)
                go_ret
                exact ⟨rfl, by first | exact B0.out.trans (D7.out.mono B0.out.size) | exact B0.out.trans (D6.out.mono B0.out.size) | exact B0.out.trans (D5.out.mono B0.out.size) | exact B0.out.trans (D4.out.mono B0.out.size) | exact B0.out.trans (D3.out.mono B0.out.size)⟩
              | true =>
                go_enter Try.func11, Try.ntmps11
                go_upto_region 1 with fail
                rw [← HW.out]
                go_wp2_with (first
                  | (go_at_call 20; refine (I1.out _ B0.out).mono ?_; rintro e w3 (⟨hq, T, rfl, b3⟩ | ⟨hq, rfl, b3⟩) <;> first | (cases hq; done) | (have D3 := hide b3; clear b3 hq; clear k0 k1 k2 k3 k4 k5; obtain ⟨k0, k1, k2, k3, k4, k5⟩ := SC.out _ D3.out))
                  | (go_at_call 21; with_reducible refine (I2.out _).mono ?_; rintro e w' ⟨rfl, rfl⟩)
                  | (go_at_call 21; with_reducible refine (I3.out _).mono ?_; rintro e w' ⟨rfl, rfl⟩)
                  | (go_at_call 22; refine (I4.out _ (B0.out.trans (D3.out.mono B0.out.size))).mono ?_; rintro e w4 ⟨rfl, b3⟩; have D4 := hide (D3.out.trans (b3.mono D3.out.size)); clear b3; clear k0 k1 k2 k3 k4 k5; obtain ⟨k0, k1, k2, k3, k4, k5⟩ := SC.out _ D4.out)
                  | (go_at_call 24; refine (I5.out _ (B0.out.trans (D4.out.mono B0.out.size))).mono ?_; rintro e w5 ⟨rfl, b3⟩; have D5 := hide (D4.out.trans (b3.mono D4.out.size)); clear b3; clear k0 k1 k2 k3 k4 k5; obtain ⟨k0, k1, k2, k3, k4, k5⟩ := SC.out _ D5.out)
                  | (go_at_call 26; refine (I6.out _ (B0.out.trans (D5.out.mono B0.out.size))).mono ?_; rintro e w6 ⟨rfl, b3⟩; have D6 := hide (D5.out.trans (b3.mono D5.out.size)); clear b3; clear k0 k1 k2 k3 k4 k5; obtain ⟨k0, k1, k2, k3, k4, k5⟩ := SC.out _ D6.out)
                  | (go_at_call 28; refine (I7.out _ (B0.out.trans (D6.out.mono B0.out.size))).mono ?_; rintro e w7 ⟨rfl, b3⟩; have D7 := hide (D6.out.trans (b3.mono D6.out.size)); clear b3; clear k0 k1 k2 k3 k4 k5; obtain ⟨k0, k1, k2, k3, k4, k5⟩ := SC.out _ D7.out)
                  | fail)
                go_ret
                exact ⟨rfl, by first | exact B0.out.trans (D7.out.mono B0.out.size) | exact B0.out.trans (D6.out.mono B0.out.size) | exact B0.out.trans (D5.out.mono B0.out.size) | exact B0.out.trans (D4.out.mono B0.out.size) | exact B0.out.trans (D3.out.mono B0.out.size)⟩
end Go.Proofs.Ytcmgkjjkhfcedaa
/-
  The program's prio: Compare.
-/
namespace Go.Proofs.Ytcmgkjjkhfcedaa
open Go.ChangeShapes Go.WideShapes Go.ChangeAt Go.RowKit
set_option linter.unusedVariables false
theorem turn_first (w : World) : (Instr.index 118 (.agg turnsV) (.int .i64 0)).run Try.prog w = .ok (.func (.func 82) #[] #[]) w := by kernel_rfl
theorem turn_second (w : World) : (Instr.index 118 (.agg turnsV) (.int .i64 1)).run Try.prog w = .ok (.func (.func 83) #[] #[]) w := by kernel_rfl
set_option maxHeartbeats 4000000 in
theorem pcmp_any (w : World) (c l d x y z : Int) : Calls Try.prog 57 #[.agg #[.int .i64 c, .int .i64 l, .int .i64 d], .agg #[.int .i64 x, .int .i64 y, .int .i64 z]] w fun e w' => e = .returned (.int .i64 (cmpP ⟨c, l, d⟩ ⟨x, y, z⟩)) ∧ Below w.heap.size w w' := by
  obtain ⟨w1, hw1⟩ : ∃ w1, w1 = (w.alloc (.cells #[.int .i64 c, .int .i64 l, .int .i64 d] 98)).alloc (.cells #[.int .i64 x, .int .i64 y, .int .i64 z] 98) := ⟨_, rfl⟩
  have B1 := hide (show Below w.heap.size w w1 from by rw [hw1]; exact (((Below.refl w.heap.size w).alloc (Nat.le_refl _) _).alloc (by simp) _))
  have P1 := hide (show PrAt w1 w.heap.size c l d from by rw [hw1]; exact (prAt_new w c l d).below ((Below.refl _ _).alloc (Nat.le_refl _) _))
  have Q1 := hide (show PrAt w1 (w.heap.size + 1) x y z from by rw [hw1]; have := prAt_new (w.alloc (.cells #[.int .i64 c, .int .i64 l, .int .i64 d] 98)) x y z; simpa using this)
  have HW := hide hw1
  have t1 := turn_first
  have t2 := turn_second
  clear hw1
  go_enter Try.func57, Try.ntmps57
  go_upto_region 1 with fail
  rw [← HW.out]
  obtain ⟨X, hX⟩ : ∃ X, X = w.heap.size := ⟨_, rfl⟩
  obtain ⟨Y, hY⟩ : ∃ Y, Y = w.heap.size + 1 := ⟨_, rfl⟩
  rw [← hY, ← hX]
  rw [← hX] at P1
  rw [← hY] at Q1
  clear hX hY HW
  go_wp2_with (go_at_call 72; refine (pturns_any _).mono ?_; rintro e w2 ⟨rfl, b2⟩; have B2 := hide (B1.out.trans (b2.mono B1.out.size)); have P2 := hide (P1.out.below b2); have Q2 := hide (Q1.out.below b2); clear b2)
  go_loopw [9] (fun i wr => ∃ k : Nat, k ≤ 2 ∧ i = .int .i64 k ∧ (0 < k → c = x) ∧ (1 < k → inI c l d y z = 0) ∧ Hid (Below w.heap.size w wr ∧ PrAt wr X c l d ∧ PrAt wr Y x y z)) (fun i _ => 2 - (intOf i).toNat)
  case atStart => exact ⟨0, by omega, by first | trivial | rfl, by omega, by omega, B2.out, P2.out, Q2.out⟩
  case round =>
    clear B1 P1 Q1 B2 P2 Q2
    obtain ⟨k, hk, rfl, g0, g1, hZ⟩ := hrel
    have B3 := hide hZ.out.1
    have P3 := hide hZ.out.2.1
    have Q3 := hide hZ.out.2.2
    obtain ⟨p0, p1, p2⟩ := P3.out.cells
    obtain ⟨q0, q1, q2⟩ := Q3.out.cells
    clear hZ
    match k, hk with
    | 0, _ =>
      clear g0 g1 t2
      rw [show ((0 : Nat) : Int) = 0 from rfl]
      have K := hide (fun W => pbyClass_any W c l d x y z)
      by_cases h : c = x
      · subst h
        have K' := hide (show ∀ W, Calls Try.prog 82 #[.agg #[.int .i64 c, .int .i64 l, .int .i64 d], .agg #[.int .i64 c, .int .i64 y, .int .i64 z]] W fun e w' => e = .returned (.int .i64 0) ∧ Below W.heap.size W w' from fun W => by have := K.out W; rw [sgnI_self] at this; exact this)
        clear K
        go_wp2_with (go_at_call 82; refine (K'.out _).mono ?_; rintro e w4 ⟨rfl, b4⟩; have B4 := hide (B3.out.trans (b4.mono B3.out.size)); have P4 := hide (P3.out.below b4); have Q4 := hide (Q3.out.below b4); clear b4)
        go_roundw
        case rel => exact ⟨1, by omega, rfl, by simp, by omega, B4.out, P4.out, Q4.out⟩
        case measure => simp [intOf]
      · have e1 : cmpP ⟨c, l, d⟩ ⟨x, y, z⟩ = sgnI c x := cmpP_turn1 h
        obtain ⟨u, hu⟩ : ∃ u, u = sgnI c x := ⟨_, rfl⟩
        have un : (u != 0) = true := by have := sgnI_ne h; rw [hu]; simpa using this
        have K' := hide (show ∀ W, Calls Try.prog 82 #[.agg #[.int .i64 c, .int .i64 l, .int .i64 d], .agg #[.int .i64 x, .int .i64 y, .int .i64 z]] W fun e w' => e = .returned (.int .i64 u) ∧ Below W.heap.size W w' from fun W => by have := K.out W; rw [← hu] at this; exact this)
        have E1 := hide (e1.trans hu.symm)
        clear K e1 hu h
        go_wp2_with (go_at_call 82; refine (K'.out _).mono ?_; rintro e w4 ⟨rfl, b4⟩; have B4 := hide (B3.out.trans (b4.mono B3.out.size)); clear b4)
        go_ret
        exact ⟨ret_int E1.out.symm, B4.out⟩
    | 1, _ =>
      obtain rfl := g0 (by omega)
      clear g0 g1 t1
      rw [show ((1 : Nat) : Int) = 1 from rfl]
      have K := hide (fun W => pinClass_any W c l d c y z)
      have E1 := hide (cmpP_turn2 c l d y z)
      obtain ⟨u, hu⟩ : ∃ u, u = inI c l d y z := ⟨_, rfl⟩
      have K' := hide (show ∀ W, Calls Try.prog 83 #[.agg #[.int .i64 c, .int .i64 l, .int .i64 d], .agg #[.int .i64 c, .int .i64 y, .int .i64 z]] W fun e w' => e = .returned (.int .i64 u) ∧ Below W.heap.size W w' from fun W => by have := K.out W; rw [← hu] at this; exact this)
      have HU := hide hu
      clear K hu
      by_cases h : u = 0
      · have un : (u != 0) = false := by simpa using h
        go_wp2_with (go_at_call 83; refine (K'.out _).mono ?_; rintro e w4 ⟨rfl, b4⟩; have B4 := hide (B3.out.trans (b4.mono B3.out.size)); have P4 := hide (P3.out.below b4); have Q4 := hide (Q3.out.below b4); clear b4)
        go_roundw
        case rel => exact ⟨2, by omega, rfl, by simp, fun _ => by rw [← HU.out]; exact h, B4.out, P4.out, Q4.out⟩
        case measure => simp [intOf]
      · have un : (u != 0) = true := by simpa using h
        go_wp2_with (go_at_call 83; refine (K'.out _).mono ?_; rintro e w4 ⟨rfl, b4⟩; have B4 := hide (B3.out.trans (b4.mono B3.out.size)); clear b4)
        go_ret
        exact ⟨ret_int (HU.out.trans E1.out.symm), B4.out⟩
    | 2, _ =>
      obtain rfl := g0 (by omega)
      have e0 := g1 (by omega)
      have E1 := hide ((cmpP_turn2 c l d y z).trans e0)
      clear g0 g1 e0 t1 t2
      rw [show ((2 : Nat) : Int) = 2 from rfl]
      go_wp2_with fail
      go_ret
      exact ⟨ret_int E1.out.symm, B3.out⟩
end Go.Proofs.Ytcmgkjjkhfcedaa
/-
  Plain facts of one job by deadlines alone (DemandAlone).
-/
namespace Go.Proofs.Ytcmgkjjkhfcedaa
set_option linter.unusedVariables false
theorem sum3_small {a b c : Int} (a0 : 0 ≤ a) (b0 : 0 ≤ b) (c0 : 0 ≤ c) (h : a + b + c ≤ 1000000) : sum [a, b, c] = a + b + c := by
  rw [sum_three, cl_in a a0 (by omega), cl_in b b0 (by omega), cl_in (a + b) (by omega) (by omega), cl_in c c0 (by omega), cl_in _ (by omega) (by omega)]
/-- The numbers of the law. -/
structure Alo (block per dl cost : Int) : Prop where
  b0 : 0 ≤ block
  b1 : block < 50
  p0 : 60 ≤ per
  p1 : per < 160
  d0 : 1 ≤ dl
  d1 : dl ≤ 60
  c0 : 1 ≤ cost
  c1 : cost ≤ 30
section
variable {block per dl cost : Int}
theorem alone_up (H : Alo block per dl cost) {s : Int} (h : 1 ≤ s) (h2 : s ≤ per) : up s per = 1 := by
  have b0 := H.b0
  have b1 := H.b1
  have p0 := H.p0
  have p1 := H.p1
  have d0 := H.d0
  have d1 := H.d1
  have c0 := H.c0
  have c1 := H.c1
  unfold up
  rw [cl_in s (by omega) (by omega), dv_in per (by omega) (by omega)]
  refine Int.ediv_eq_of_nonneg_of_lt_mul' _ _ 1 (by omega) (by omega) (by omega)
theorem alone_up2 (H : Alo block per dl cost) : up (2 * per) per = 2 := by
  have b0 := H.b0
  have b1 := H.b1
  have p0 := H.p0
  have p1 := H.p1
  have d0 := H.d0
  have d1 := H.d1
  have c0 := H.c0
  have c1 := H.c1
  unfold up
  rw [cl_in (2 * per) (by omega) (by omega), dv_in per (by omega) (by omega)]
  refine Int.ediv_eq_of_nonneg_of_lt_mul' _ _ 2 (by omega) (by omega) (by omega)
theorem alone_work (H : Alo block per dl cost) (s : Int) : workP s [⟨per, cost⟩] = mul (up s per) cost := by
  have b0 := H.b0
  have b1 := H.b1
  have p0 := H.p0
  have p1 := H.p1
  have d0 := H.d0
  have d1 := H.d1
  have c0 := H.c0
  have c1 := H.c1
  have : workP s [⟨per, cost⟩] = cl (0 + cl (mul (up s per) cost)) := rfl
  rw [this, Int.zero_add, cl_cl, cl_in _ (mul_lo _ _) (mul_hi _ _)]
theorem alone_need (H : Alo block per dl cost) {s : Int} (k : Int) (hk : up s per = k) (k0 : 0 ≤ k) (k1 : k ≤ 1000) : needP 0 block [⟨per, cost⟩] s = block + k * cost := by
  have b0 := H.b0
  have b1 := H.b1
  have p0 := H.p0
  have p1 := H.p1
  have d0 := H.d0
  have d1 := H.d1
  have c0 := H.c0
  have c1 := H.c1
  have m0 : 0 ≤ k * cost := Int.mul_nonneg k0 (by omega)
  have m1 : k * cost ≤ 1000 * 30 := Int.mul_le_mul k1 c1 (by omega) (by omega)
  unfold needP
  rw [alone_work H s, hk, mul_within k cost (by rw [cl_in k k0 (by omega), cl_in cost (by omega) (by omega)]; omega), cl_in k k0 (by omega), cl_in cost (by omega) (by omega), sum3_small (by omega) b0 m0 (by omega)]
  omega
theorem alone_need_lo (H : Alo block per dl cost) {s : Int} (h : 1 ≤ s) : block + cost ≤ needP 0 block [⟨per, cost⟩] s := by
  have b0 := H.b0
  have b1 := H.b1
  have p0 := H.p0
  have p1 := H.p1
  have d0 := H.d0
  have d1 := H.d1
  have c0 := H.c0
  have c1 := H.c1
  have e := alone_need H (s := 1) 1 (alone_up H (by omega) (by omega)) (by omega) (by omega)
  have := needP_mono h 0 block [⟨per, cost⟩]
  omega
theorem alone_needE (H : Alo block per dl cost) {s : Int} (h : 1 ≤ s) (h2 : s ≤ 60) : needE s [⟨per, dl, cost⟩] = if dl ≤ s then cost else 0 := by
  have b0 := H.b0
  have b1 := H.b1
  have p0 := H.p0
  have p1 := H.p1
  have d0 := H.d0
  have d1 := H.d1
  have c0 := H.c0
  have c1 := H.c1
  have e : needE s [⟨per, dl, cost⟩] = cl (0 + cl (dueE s ⟨per, dl, cost⟩)) := rfl
  rw [e, Int.zero_add, cl_cl, cl_in _ (dueE_lo _ _) (dueE_hi _ _)]
  unfold dueE
  show (if cl dl ≤ cl s then mul cost (jobsE s ⟨per, dl, cost⟩) else 0) = _
  rw [cl_in dl (by omega) (by omega), cl_in s (by omega) (by omega)]
  by_cases hd : dl ≤ s
  · rw [if_pos hd, if_pos hd]
    have j : jobsE s ⟨per, dl, cost⟩ = 1 := by
      unfold jobsE
      show down (cl s - cl dl) per + 1 = 1
      rw [cl_in dl (by omega) (by omega), cl_in s (by omega) (by omega)]
      unfold down
      rw [cl_in (s - dl) (by omega) (by omega), dv_in per (by omega) (by omega), Int.ediv_eq_zero_of_lt (by omega) (by omega)]
      rfl
    rw [j, mul_within _ _ (by rw [cl_in cost (by omega) (by omega), cl_in 1 (by omega) (by omega)]; omega), cl_in cost (by omega) (by omega), cl_in 1 (by omega) (by omega), Int.mul_one]
  · rw [if_neg hd, if_neg hd]
theorem alone_bad (H : Alo block per dl cost) {s : Int} (h : 1 ≤ s) (h2 : s ≤ 60) : badE block [] [⟨per, dl, cost⟩] s ↔ dl ≤ s ∧ s < block + cost := by
  have b0 := H.b0
  have b1 := H.b1
  have p0 := H.p0
  have p1 := H.p1
  have d0 := H.d0
  have d1 := H.d1
  have c0 := H.c0
  have c1 := H.c1
  have w0 : workP s [] = 0 := rfl
  unfold badE
  rw [w0, alone_needE H h h2]
  by_cases hd : dl ≤ s
  · rw [if_pos hd, sum3_small b0 (by omega) (by omega) (by omega)]; omega
  · rw [if_neg hd]; omega
theorem alone_is (H : Alo block per dl cost) {r : Int} {ok : Bool} (h : IsResp 0 block [⟨per, cost⟩] 600 r ok) : ok = true ∧ block + cost ≤ r ∧ (block + cost ≤ per → r = block + cost) := by
  have b0 := H.b0
  have b1 := H.b1
  have p0 := H.p0
  have p1 := H.p1
  have d0 := H.d0
  have d1 := H.d1
  have c0 := H.c0
  have c1 := H.c1
  have cm : cl 600 = 600 := cl_in 600 (by omega) (by omega)
  rcases h with ⟨e, a1, a2, a3, a4, a5⟩ | ⟨e, _, hn⟩
  · have lo := alone_need_lo H a1
    refine ⟨e, by omega, fun hp => ?_⟩
    have en := alone_need H (s := block + cost) 1 (alone_up H (by omega) hp) (by omega) (by omega)
    rcases Int.lt_or_le (block + cost) r with hlt | hle
    · exact absurd (show needP 0 block [⟨per, cost⟩] (block + cost) ≤ block + cost by omega) (a5 _ (by omega) hlt)
    · omega
  · have en := alone_need H (s := 2 * per) 2 (alone_up2 H) (by omega) (by omega)
    exact absurd (show needP 0 block [⟨per, cost⟩] (2 * per) ≤ 2 * per by omega) (hn _ (by omega) (by omega) (by omega))
/-- DemandAlone. -/
theorem alone_fits (H : Alo block per dl cost) {x r : Int} {ok is : Bool} (h : IsFits block [] [⟨per, dl, cost⟩] 600 x ok) (hr : IsResp 0 block [⟨per, cost⟩] 600 r is) : is = true ∧ (block + cost ≤ dl → ok = true) ∧ (dl < block + cost → ok = false ∧ x = dl) := by
  have b0 := H.b0
  have b1 := H.b1
  have p0 := H.p0
  have p1 := H.p1
  have d0 := H.d0
  have d1 := H.d1
  have c0 := H.c0
  have c1 := H.c1
  obtain ⟨e1, e2, e3⟩ := alone_is H hr
  subst e1
  refine ⟨rfl, ?_, ?_⟩
  · intro hle
    have er := e3 (by omega)
    rcases h with ⟨r', hr', _, _⟩ | ⟨r', hr', h⟩
    · have := (IsResp.same hr hr').2; cases this
    · have e := (IsResp.same hr hr').1
      rcases h with ⟨_, c2, c3, c4, _⟩ | ⟨e4, _⟩
      · have := (alone_bad H c2 (by omega)).1 c4
        omega
      · exact e4
  · intro hlt
    have bd := (alone_bad H d0 d1).2 ⟨Int.le_refl _, hlt⟩
    rcases h with ⟨r', hr', _, _⟩ | ⟨r', hr', h⟩
    · have := (IsResp.same hr hr').2; cases this
    · have e := (IsResp.same hr hr').1
      rcases h with ⟨e4, c2, c3, c4, c5⟩ | ⟨_, _, c5⟩
      · refine ⟨e4, ?_⟩
        rcases Int.lt_trichotomy x dl with hx | hx | hx
        · have := (alone_bad H c2 (by omega)).1 c4
          omega
        · exact hx
        · exact absurd bd (c5 dl d0 hx)
      · exact absurd bd (c5 dl d0 (by omega))
end
end Go.Proofs.Ytcmgkjjkhfcedaa
/-
  Contracts of the program's response times (PRta); awake of stage 16.
-/
namespace Go.Proofs.Ytcmgkjjkhfcedaa
open Go.ChangeShapes Go.WideShapes Go.ChangeAt Go.RowKit
set_option linter.unusedVariables false
/-- The program's rta. -/
structure PRta : Prop where
  work : ∀ (w : World) (span : Int) (a : Option Addr) (n c : Nat) (ps : List Pt), Reads 2 ptVals w a n ps → (∀ x ∈ ps, PtFit w x) → n ≤ 100 → (Lit.int .i64 span).wf = true →
    Calls Try.prog 66 #[.int .i64 span, .slice a n c] w fun e w' => e = .returned (.int .i64 (workP span ps)) ∧ Below w.heap.size w w'
  resp : ∀ (w : World) (own block : Int) (a : Option Addr) (n c : Nat) (ps : List Pt) (most : Int), Reads 2 ptVals w a n ps → (∀ x ∈ ps, PtFit w x) → n ≤ 100 → (Lit.int .i64 own).wf = true → (Lit.int .i64 block).wf = true → (Lit.int .i64 most).wf = true →
    Calls Try.prog 44 #[.int .i64 own, .int .i64 block, .slice a n c, .int .i64 most] w fun e w' => ∃ v, e = .returned v ∧ RespIs own block ps most v ∧ Below w.heap.size w w'
theorem reads_block {α : Type} {z : Nat} {vals : α → List Value} (hv : ∀ x, (vals x).length = z) {w : World} {B : Nat} {xs : List α} {t : TypeId} {fr : Nat × Nat} (h : w.heap[B]? = some (.cells (xs.flatMap vals).toArray t fr)) : Reads z vals w (some ⟨B, 0, none⟩) xs.length xs := by
  refine ⟨rfl, fun _ => ⟨B, 0, rfl, fun i x hx j u hu => ?_⟩⟩
  have hj : j < z := by rw [← hv x]; exact (List.getElem?_eq_some_iff.1 hu).1
  rw [cell_of_row _ _ _ _ _ _ h, List.getElem?_toArray, Nat.zero_add, flat_at hv hx hj]
  exact hu
def awA : List Pt := [⟨10, 2⟩, ⟨15, 4⟩]
theorem aw13 : IsResp 3 2 awA 100 13 true := by
  refine .inl ⟨rfl, by omega, by decide, by omega, by decide, fun s h1 h2 => ?_⟩
  have h : s = 1 ∨ s = 2 ∨ s = 3 ∨ s = 4 ∨ s = 5 ∨ s = 6 ∨ s = 7 ∨ s = 8 ∨ s = 9 ∨ s = 10 ∨ s = 11 ∨ s = 12 := by omega
  rcases h with rfl | rfl | rfl | rfl | rfl | rfl | rfl | rfl | rfl | rfl | rfl | rfl <;> decide
theorem RespIs.get {own block : Int} {ps : List Pt} {most : Int} {v : Value} (h : RespIs own block ps most v) {r : Int} {ok : Bool} (h' : IsResp own block ps most r ok) : v = .tuple #[.int .i64 r, .bool ok] := by
  obtain ⟨r', ok', rfl, hr⟩ := h
  obtain ⟨e1, e2⟩ := hr.same h'
  rw [e1, e2]
end Go.Proofs.Ytcmgkjjkhfcedaa
/-
  Jobs by deadlines that come in; contracts of the program's demand (PDemand); awake of stage 17.
-/
namespace Go.Proofs.Ytcmgkjjkhfcedaa
open Go.ChangeShapes Go.WideShapes Go.ChangeAt Go.RowKit
set_option linter.unusedVariables false
def erVals (e : Er) : List Value := [.int .i64 e.per, .int .i64 e.dl, .int .i64 e.cost]
def ErFit (_ : World) (e : Er) : Prop := (Lit.int .i64 e.per).wf = true ∧ (Lit.int .i64 e.dl).wf = true ∧ (Lit.int .i64 e.cost).wf = true
theorem erVals_len (e : Er) : (erVals e).length = 3 := rfl
theorem erVals_cell (e : Er) : ∀ v ∈ erVals e, v.oneCell' = true := by
  intro v hv
  simp [erVals] at hv
  rcases hv with rfl | rfl | rfl <;> rfl
section
variable {H : Type} {enc : TypeId × Value → H} {w : World} {base : Nat} {spare : Nat → Bool} {held : Bool}
theorem er_open (m : Nat) (cs : List Value) (x : DataW H × List MemPlace) (hl : cs.length = 3) (h : DataW.trod enc Try.prog w base spare held m 90 cs = some x) : ∃ o, cs = erVals o ∧ ErFit w o := by
  obtain ⟨c, e0, w0⟩ := field_int Try.underlying90 h 0 0 3 rfl Try.underlying3 (by kernel_rfl)
  obtain ⟨l, e1, w1⟩ := field_int Try.underlying90 h 1 1 3 rfl Try.underlying3 (by kernel_rfl)
  obtain ⟨d, e2, w2⟩ := field_int Try.underlying90 h 2 2 3 rfl Try.underlying3 (by kernel_rfl)
  refine ⟨⟨c, l, d⟩, ?_, w0, w1, w2⟩
  match cs, hl with
  | [v0, v1, v2], _ =>
    simp at e0 e1 e2
    simp [erVals, e0, e1, e2]
end
def FitsIs (block : Int) (ps : List Pt) (es : List Er) (most : Int) (v : Value) : Prop := ∃ x ok, v = .tuple #[.int .i64 x, .bool ok] ∧ IsFits block ps es most x ok
theorem FitsIs.get {block : Int} {ps : List Pt} {es : List Er} {most : Int} {v : Value} (h : FitsIs block ps es most v) {x : Int} {ok : Bool} (h' : IsFits block ps es most x ok) : v = .tuple #[.int .i64 x, .bool ok] := by
  obtain ⟨r', ok', rfl, hr⟩ := h
  obtain ⟨e1, e2⟩ := hr.same h'
  rw [e1, e2]
/-- The program's demand. -/
structure PDemand : Prop where
  need : ∀ (w : World) (span : Int) (a : Option Addr) (n c : Nat) (es : List Er), Reads 3 erVals w a n es → (∀ x ∈ es, ErFit w x) → n ≤ 100 → (Lit.int .i64 span).wf = true →
    Calls Try.prog 81 #[.int .i64 span, .slice a n c] w fun e w' => e = .returned (.int .i64 (needE span es)) ∧ Below w.heap.size w w'
  busy : ∀ (w : World) (block : Int) (a : Option Addr) (n c : Nat) (ps : List Pt) (most : Int), Reads 2 ptVals w a n ps → (∀ x ∈ ps, PtFit w x) → n ≤ 100 → (Lit.int .i64 block).wf = true → (Lit.int .i64 most).wf = true →
    Calls Try.prog 67 #[.int .i64 block, .slice a n c, .int .i64 most] w fun e w' => ∃ v, e = .returned v ∧ RespIs 0 block ps most v ∧ Below w.heap.size w w'
  fits : ∀ (w : World) (block : Int) (a : Option Addr) (n c : Nat) (ps : List Pt) (b : Option Addr) (m d : Nat) (es : List Er) (most : Int), Reads 2 ptVals w a n ps → (∀ x ∈ ps, PtFit w x) → n ≤ 100 → Reads 3 erVals w b m es → (∀ x ∈ es, ErFit w x) → m ≤ 100 → (a = none → c = 0) → (b = none → d = 0) → n ≤ c → m ≤ d → (Lit.int .i64 block).wf = true → (Lit.int .i64 most).wf = true →
    Calls Try.prog 45 #[.int .i64 block, .slice a n c, .slice b m d, .int .i64 most] w fun e w' => ∃ v, e = .returned v ∧ FitsIs block ps es most v ∧ Below w.heap.size w w'
theorem aw9 : IsResp 0 3 ([⟨10, 2⟩] ++ [(⟨20, 8, 4⟩ : Er)].map partE) 100 9 true := by
  refine .inl ⟨rfl, by omega, by decide, by omega, by decide, fun s h1 h2 => ?_⟩
  have h : s = 1 ∨ s = 2 ∨ s = 3 ∨ s = 4 ∨ s = 5 ∨ s = 6 ∨ s = 7 ∨ s = 8 := by omega
  rcases h with rfl | rfl | rfl | rfl | rfl | rfl | rfl | rfl <;> decide
theorem aw8 : IsFits 3 [⟨10, 2⟩] [⟨20, 8, 4⟩] 100 8 false := by
  refine .inr ⟨9, aw9, .inl ⟨rfl, by omega, by omega, ?_, fun s h1 h2 => ?_⟩⟩
  · unfold badE; decide
  · have h : s = 1 ∨ s = 2 ∨ s = 3 ∨ s = 4 ∨ s = 5 ∨ s = 6 ∨ s = 7 := by omega
    unfold badE
    rcases h with rfl | rfl | rfl | rfl | rfl | rfl | rfl <;> decide
end Go.Proofs.Ytcmgkjjkhfcedaa
