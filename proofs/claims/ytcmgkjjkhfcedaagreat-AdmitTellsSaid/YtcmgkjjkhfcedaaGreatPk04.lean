/-
  What the walks lean on, part 4: AdRefB Same AdAwake PrPlain FrLow.
-/
import Derived.Deep.QuietTactic
import Derived.BigQuiet
import Derived.Laws.OwnMore
import Derived.Laws.StructEq
import Derived.Test.YtcmgkjjkhfcedaaGreatPk03
/-
  The document's own admit (coxswainref18): May (written by tools/gen/adrefb.py).
-/
namespace Go.Proofs.YtcmgkjjkhfcedaaGreat
open Go.ChangeShapes Go.WideShapes Go.ChangeAt Go.RowKit
set_option linter.unusedVariables false
set_option linter.unusedSimpArgs false
theorem apart_all : ∀ {ts : List Tp}, (∀ (k i : Nat) (a b : Tp), k < i → ts[k]? = some a → ts[i]? = some b → ¬ (0 ≤ b.line ∧ a.line = b.line)) → apartT ts = true := by
  intro ts
  induction ts with
  | nil => intro _; rfl
  | cons t ts ih =>
    intro h
    simp only [apartT, Bool.and_eq_true]
    refine ⟨List.all_eq_true.2 fun x hx => ?_, ih fun k i a b hk h1 h2 => h (k + 1) (i + 1) a b (by omega) (by simpa using h1) (by simpa using h2)⟩
    obtain ⟨i, hi⟩ := List.getElem?_of_mem hx
    exact decide_eq_true (h 0 (i + 1) t x (by omega) rfl (by simpa using hi))
theorem apart_at {ts : List Tp} : apartT ts = true → ∀ (k i : Nat) (a b : Tp), k < i → ts[k]? = some a → ts[i]? = some b → ¬ (0 ≤ b.line ∧ a.line = b.line) := by
  induction ts with
  | nil => intro _ k i a b _ h _; cases h
  | cons t ts ih =>
    intro h k i a b hk h1 h2
    simp only [apartT, Bool.and_eq_true] at h
    cases i with
    | zero => omega
    | succ i =>
      cases k with
      | zero =>
        injection h1 with h1
        subst h1
        exact of_decide_eq_true ((List.all_eq_true.1 h.1) b (List.mem_of_getElem? (by simpa using h2)))
      | succ k => exact ih h.2 k i a b (by omega) (by simpa using h1) (by simpa using h2)
theorem all_false {α : Type} {f : α → Bool} {l : List α} {i : Nat} {x : α} (h : l[i]? = some x) (hf : f x = false) : l.all f = false := by
  cases e : l.all f
  · rfl
  · have := List.all_eq_true.1 e x (List.mem_of_getElem? h)
    rw [hf] at this; cases this
set_option maxRecDepth 20000 in
set_option maxHeartbeats 8000000 in
theorem rmayC_any (w : World) (c : Cf) (hc : CfFit w c) (hg : greatCf c = false) :
    Calls Tryz.prog 7 #[.agg (cfVals c).toArray] w fun e w' => e = .returned (.bool (mayC (cpOf c))) ∧ Below w.heap.size w w' := by
  obtain ⟨ta, tn, tc, ts, ea, en, ec, es, ma, mn, mc, ms, ga, gn, gc, gs, frames, dog⟩ := c
  show Calls Tryz.prog 7 #[.agg #[.slice ta tn tc, .slice ea en ec, .slice ma mn mc, .slice ga gn gc, .int .i64 frames, .int .i64 dog]] w _
  have bounds : tn ≤ 12 ∧ en ≤ 12 ∧ mn ≤ 12 ∧ gn ≤ 12 ∧ ∀ t ∈ ts, t.un ≤ 12 := by
    unfold greatCf at hg
    simp only [Bool.or_eq_false_iff, decide_eq_false_iff_not] at hg
    refine ⟨by omega, by omega, by omega, by omega, fun t ht => ?_⟩
    have h := hg.1.2
    cases e : bigTk t
    · unfold bigTk at e
      simp only [Bool.or_eq_false_iff, decide_eq_false_iff_not] at e
      omega
    · rw [List.any_eq_true.2 ⟨t, ht, e⟩] at h; cases h
  obtain ⟨tn12, en12, mn12, gn12, hun⟩ := bounds
  have F := hide hc
  have RT := hide hc.tasks.reads
  have RE := hide hc.best.reads
  have RM := hide hc.mutexes.reads
  have RG := hide hc.gaps.reads
  have TL := hide (show ts.length = tn from RT.out.1)
  have EL := hide (show es.length = en from RE.out.1)
  have ML := hide (show ms.length = mn from RM.out.1)
  have GL := hide (show gs.length = gn from RG.out.1)
  have TF := hide (show ∀ t ∈ ts, TkFit w t ∧ t.un ≤ 1000 from fun t ht => ⟨hc.tasks.2.2.2.2.1 t ht, by have := hun t ht; omega⟩)
  obtain ⟨b1, h1⟩ : ∃ b, b = goodMu ms := ⟨_, rfl⟩
  obtain ⟨b2, h2⟩ : ∃ b, b = decide (8 ≤ frames ∧ frames ≤ 64) := ⟨_, rfl⟩
  obtain ⟨b3, h3⟩ : ∃ b, b = decide (1 ≤ dog ∧ dog ≤ 1099511627776) := ⟨_, rfl⟩
  obtain ⟨c1, hc1⟩ : ∃ b, b = gs.all (fun g => decide (1 ≤ g ∧ g ≤ 1000)) := ⟨_, rfl⟩
  obtain ⟨c2, hc2⟩ : ∃ b, b = (ts.map tpOf).all (mayT mn gn) := ⟨_, rfl⟩
  obtain ⟨c3, hc3⟩ : ∃ b, b = apartT (ts.map tpOf) := ⟨_, rfl⟩
  obtain ⟨c4, hc4⟩ : ∃ b, b = es.all (fun e => decide (0 ≤ e.lev ∧ e.lev ≤ 15) && decide (e.qn ≤ 40)) := ⟨_, rfl⟩
  obtain ⟨R, hR⟩ : ∃ R, R = mayC (cpOf ⟨ta, tn, tc, ts, ea, en, ec, es, ma, mn, mc, ms, ga, gn, gc, gs, frames, dog⟩) := ⟨_, rfl⟩
  have HRR := hide (show R = (decide (tn ≤ 8) && decide (en ≤ 6) && b1 && decide (gn ≤ 4) && b2 && b3 && c1 && c2 && c3 && c4) from by
    rw [hR, h1, h2, h3, hc1, hc2, hc3, hc4]
    unfold mayC cpOf
    dsimp only
    rw [List.length_map, List.length_map, TL.out, EL.out, ML.out, GL.out, List.all_map (f := fun e : Ef => (e.lev, e.qn))]
    rfl)
  rw [← hR]
  have I1 := hide (fun (W : World) (b : Below w.heap.size w W) => show Calls Tryz.prog 28 #[.slice ma mn mc] W fun e w' => e = .returned (.bool b1) ∧ W = w' from by rw [h1]; exact rgood_any ma mn mc ms W (RM.out.below b) (by unfold maxLen; omega))
  have I2 := hide (fun W => rin_is frames 8 64 b2 h2 W)
  have I3 := hide (fun W => rin_is dog 1 1099511627776 b3 h3 W)
  have HC1 := hide hc1
  have HC2 := hide hc2
  have HC3 := hide hc3
  have HC4 := hide hc4
  obtain ⟨W0, hW⟩ : ∃ W0, W0 = w.alloc (.cells #[.slice ta tn tc, .slice ea en ec, .slice ma mn mc, .slice ga gn gc, .int .i64 frames, .int .i64 dog] 27) := ⟨_, rfl⟩
  have hb := heap_alloc_new w (.cells #[.slice ta tn tc, .slice ea en ec, .slice ma mn mc, .slice ga gn gc, .int .i64 frames, .int .i64 dog] 27)
  have B0 := hide ((Below.refl w.heap.size w).alloc (Nat.le_refl _) (.cells #[.slice ta tn tc, .slice ea en ec, .slice ma mn mc, .slice ga gn gc, .int .i64 frames, .int .i64 dog] 27))
  rw [← hW] at hb B0
  have SC := hide (show ∀ Y : World, Below W0.heap.size W0 Y → Y.cell? ⟨w.heap.size, 0, none⟩ = some (.slice ta tn tc) ∧ Y.cell? ⟨w.heap.size, 1, none⟩ = some (.slice ea en ec) ∧ Y.cell? ⟨w.heap.size, 2, none⟩ = some (.slice ma mn mc) ∧ Y.cell? ⟨w.heap.size, 3, none⟩ = some (.slice ga gn gc) ∧ Y.cell? ⟨w.heap.size, 4, none⟩ = some (.int .i64 frames) ∧ Y.cell? ⟨w.heap.size, 5, none⟩ = some (.int .i64 dog) from fun Y b => by
    have e := (b.block _ (lt_of_heap hb)).trans hb
    refine ⟨?_, ?_, ?_, ?_, ?_, ?_⟩ <;> (rw [cell_of_row _ _ _ _ _ _ e]; rfl))
  have HW := hide hW
  obtain ⟨k0, k1, k2, k3, k4, k5⟩ := SC.out W0 (Below.refl _ _)
  clear hc hg hun h1 h2 h3 hc1 hc2 hc3 hc4 hR hW hb
  go_enter Tryz.func7, Tryz.ntmps7
  go_upto_region 1 with fail
  rw [← HW.out]
  by_cases h8 : tn ≤ 8
  · have qh8 : ¬ (8 : Int) < (tn : Int) := by omega
    by_cases h6 : en ≤ 6
    · have qh6 : ¬ (6 : Int) < (en : Int) := by omega
      cases b1 with
      | false =>
        go_wp2_with (first | (go_at_call 28; with_reducible refine (I1.out _ B0.out).mono ?_; rintro e w' ⟨rfl, rfl⟩) | (go_at_call 29; with_reducible refine (I2.out _).mono ?_; rintro e w' ⟨rfl, rfl⟩) | (go_at_call 29; with_reducible refine (I3.out _).mono ?_; rintro e w' ⟨rfl, rfl⟩))
        go_ret
        exact ⟨by rw [HRR.out]; simp, B0.out⟩
      | true =>
        by_cases h4 : gn ≤ 4
        · have qh4 : ¬ (4 : Int) < (gn : Int) := by omega
          cases b2 with
          | false =>
            go_wp2_with (first | (go_at_call 28; with_reducible refine (I1.out _ B0.out).mono ?_; rintro e w' ⟨rfl, rfl⟩) | (go_at_call 29; with_reducible refine (I2.out _).mono ?_; rintro e w' ⟨rfl, rfl⟩) | (go_at_call 29; with_reducible refine (I3.out _).mono ?_; rintro e w' ⟨rfl, rfl⟩))
            go_ret
            exact ⟨by rw [HRR.out]; simp, B0.out⟩
          | true =>
            cases b3 with
            | false =>
              go_wp2_with (first | (go_at_call 28; with_reducible refine (I1.out _ B0.out).mono ?_; rintro e w' ⟨rfl, rfl⟩) | (go_at_call 29; with_reducible refine (I2.out _).mono ?_; rintro e w' ⟨rfl, rfl⟩) | (go_at_call 29; with_reducible refine (I3.out _).mono ?_; rintro e w' ⟨rfl, rfl⟩))
              go_ret
              exact ⟨by rw [HRR.out]; simp, B0.out⟩
            | true =>
              have HA := hide (show R = (c1 && c2 && c3 && c4) from by rw [HRR.out, decide_eq_true h8, decide_eq_true h6, decide_eq_true h4]; simp)
              clear HRR
              go_wp2_with (first | (go_at_call 28; with_reducible refine (I1.out _ B0.out).mono ?_; rintro e w' ⟨rfl, rfl⟩) | (go_at_call 29; with_reducible refine (I2.out _).mono ?_; rintro e w' ⟨rfl, rfl⟩) | (go_at_call 29; with_reducible refine (I3.out _).mono ?_; rintro e w' ⟨rfl, rfl⟩))
              go_loopw [3] (fun iv wr => ∃ i : Nat, i ≤ gn ∧ iv = .int .i64 (i : Int) ∧ Hid (∀ j u, j < i → gs[j]? = some u → decide (1 ≤ u ∧ u ≤ 1000) = true) ∧ W0 = wr) (fun iv _ => gn - (intOf iv).toNat)
              case atStart => exact ⟨0, Nat.zero_le _, rfl, (fun j u hj => absurd hj (by omega)), rfl⟩
              case round =>
                obtain ⟨i, hi, rfl, hZ, rfl⟩ := hrel
                by_cases hlt : i < gn
                · have i0 : (0 : Int) ≤ (i : Int) := by omega
                  have i1 : (i : Int) < (gn : Int) := by omega
                  obtain ⟨u, b, off, hx, rfl, hcu⟩ := RG.out.at_ hlt
                  have cu : W0.cell? ⟨b, off + i, none⟩ = some (.int .i64 u) := by
                    have h := hcu 0 _ rfl
                    rw [Nat.mul_one, Nat.add_zero] at h
                    exact (B0.out.cell (lt_of_cell? h)).trans h
                  have HX := hide hx
                  obtain ⟨bu, hbu⟩ : ∃ b, b = decide (1 ≤ u ∧ u ≤ 1000) := ⟨_, rfl⟩
                  have IU := hide (fun W => rin_is u 1 1000 bu hbu W)
                  have EU := hide hbu.symm
                  clear hcu hx hbu
                  cases bu with
                  | false =>
                    have NO := hide (show c1 = false from by rw [HC1.out]; exact all_false HX.out EU.out)
                    go_wp2_with (go_at_call 29; refine (IU.out _).mono ?_; rintro e w' ⟨rfl, rfl⟩)
                    go_ret
                    exact ⟨by rw [HA.out, NO.out]; rfl, B0.out⟩
                  | true =>
                    go_wp2_with (go_at_call 29; refine (IU.out _).mono ?_; rintro e w' ⟨rfl, rfl⟩)
                    go_roundw
                    case rel =>
                      refine ⟨i + 1, by omega, by go_num, fun j x hj hx => ?_, trivial⟩
                      by_cases hji : j < i
                      · exact hZ.out j x hji hx
                      · obtain rfl : j = i := by omega
                        rw [HX.out] at hx; injection hx with hx; subst hx; exact EU.out
                    case measure => simp [intOf]; omega
                · obtain rfl : gn = i := by omega
                  have Y1 := hide (show c1 = true from by
                    rw [HC1.out]
                    exact List.all_eq_true.2 fun x hx => by
                      obtain ⟨j, hj⟩ := List.getElem?_of_mem hx
                      exact hZ.out j x (by have := (List.getElem?_eq_some_iff.1 hj).1; have := GL.out; omega) hj)
                  clear hi hlt hZ
                  go_wp2_with fail
                  go_loopw [4] (fun iv wr => ∃ i : Nat, i ≤ tn ∧ iv = .int .i64 (i : Int) ∧ Hid ((∀ j u, j < i → ts[j]? = some u → mayT mn gn (tpOf u) = true) ∧ (∀ k j a b, k < j → j < i → ts[k]? = some a → ts[j]? = some b → ¬ (0 ≤ b.line ∧ a.line = b.line)) ∧ Below W0.heap.size W0 wr)) (fun iv _ => tn - (intOf iv).toNat)
                  case atStart => exact ⟨0, Nat.zero_le _, rfl, (fun j u hj => absurd hj (by omega)), (fun k j a b _ hj => absurd hj (by omega)), Below.refl _ _⟩
                  case round =>
                    obtain ⟨i, hi, rfl, hZ⟩ := hrel
                    rename World => w1
                    have B1 := hide hZ.out.2.2
                    have M1 := hide hZ.out.1
                    have P1 := hide hZ.out.2.1
                    clear hZ k0 k1 k2 k3 k4 k5
                    obtain ⟨k0, k1, k2, k3, k4, k5⟩ := SC.out w1 B1.out
                    by_cases hlt : i < tn
                    · have i0 : (0 : Int) ≤ (i : Int) := by omega
                      have i1 : (i : Int) < (tn : Int) := by omega
                      obtain ⟨t, bt, ot, hx, rfl, hct⟩ := RT.out.at_ hlt
                      have HX := hide hx
                      have TFT := hide (TF.out t (List.mem_of_getElem? hx))
                      have BW := hide (B0.out.trans (B1.out.mono B0.out.size))
                      obtain ⟨bm, hbm⟩ : ∃ b, b = mayT mn gn (tpOf t) := ⟨_, rfl⟩
                      have MT := hide (show ∀ Y : World, Below w1.heap.size w1 Y → Calls Tryz.prog 30 #[.agg #[.int .i64 t.cls, .int .i64 t.lev, .int .i64 t.per, .int .i64 t.dl, .int .i64 t.bud, .int .i64 t.line, .slice t.ua t.un t.uc, .slice t.qa t.qn t.qc], .int .i64 (mn : Int), .int .i64 (gn : Int)] Y fun e w' => e = .returned (.bool bm) ∧ Below Y.heap.size Y w' from fun Y b => by
                        rw [hbm]
                        exact rmaytask_any Y t ((TFT.out.1.below BW.out).below b) TFT.out.2 mn gn (by omega) (by omega))
                      have EM := hide hbm.symm
                      have SF := hide (show ∀ Y : World, Below w1.heap.size w1 Y → Y.cell? ⟨w.heap.size, 0, none⟩ = some (.slice (some ⟨bt, ot, none⟩) tn tc) ∧ Y.cell? ⟨w.heap.size, 2, none⟩ = some (.slice ma mn mc) ∧ Y.cell? ⟨w.heap.size, 3, none⟩ = some (.slice ga gn gc) ∧ Y.cell? ⟨bt, ot + i * 8, none⟩ = some (.int .i64 t.cls) ∧ Y.cell? ⟨bt, ot + i * 8 + 1, none⟩ = some (.int .i64 t.lev) ∧ Y.cell? ⟨bt, ot + i * 8 + 2, none⟩ = some (.int .i64 t.per) ∧ Y.cell? ⟨bt, ot + i * 8 + 3, none⟩ = some (.int .i64 t.dl) ∧ Y.cell? ⟨bt, ot + i * 8 + 4, none⟩ = some (.int .i64 t.bud) ∧ Y.cell? ⟨bt, ot + i * 8 + 5, none⟩ = some (.int .i64 t.line) ∧ Y.cell? ⟨bt, ot + i * 8 + 6, none⟩ = some (.slice t.ua t.un t.uc) ∧ Y.cell? ⟨bt, ot + i * 8 + 7, none⟩ = some (.slice t.qa t.qn t.qc) from fun Y b => by
                        have h := SC.out Y (B1.out.trans (b.mono B1.out.size))
                        have r := fun j u (hj : (tkVals t)[j]? = some u) => ((BW.out.trans (b.mono BW.out.size)).cell (lt_of_cell? (hct j u hj))).trans (hct j u hj)
                        exact ⟨h.1, h.2.2.1, h.2.2.2.1, r 0 _ rfl, r 1 _ rfl, r 2 _ rfl, r 3 _ rfl, r 4 _ rfl, r 5 _ rfl, r 6 _ rfl, r 7 _ rfl⟩)
                      have D1 := hide (show Below w1.heap.size w1 w1.drew from below_drewN (Below.refl _ w1) 1)
                      clear hx hbm hct k0 k1 k2 k3 k4 k5
                      generalize hcls : t.cls = cls at MT SF
                      generalize hlev : t.lev = lev at MT SF
                      generalize hper : t.per = per at MT SF
                      generalize hdl : t.dl = dl at MT SF
                      generalize hbud : t.bud = bud at MT SF
                      obtain ⟨line, hline⟩ : ∃ line, line = t.line := ⟨_, rfl⟩
                      rw [← hline] at MT SF
                      have LN := hide hline
                      clear hcls hlev hper hdl hbud hline
                      obtain ⟨k0, k2, k3, t0, t1, t2, t3, t4, t5, t6, t7⟩ := SF.out w1 (Below.refl _ _)
                      go_upto_region 11 with fail
                      cases bm with
                      | false =>
                        have NO := hide (show c2 = false from by
                          rw [HC2.out]
                          exact all_false (x := tpOf t) (i := i) (by rw [List.getElem?_map, HX.out]; rfl) EM.out)
                        go_region_held3 (fun W => W.cell? ⟨w.heap.size, 0, none⟩ = some (.slice (some ⟨bt, ot, none⟩) tn tc) ∧ W.cell? ⟨w.heap.size, 2, none⟩ = some (.slice ma mn mc) ∧ W.cell? ⟨w.heap.size, 3, none⟩ = some (.slice ga gn gc) ∧ W.cell? ⟨bt, ot + i * 8, none⟩ = some (.int .i64 cls) ∧ W.cell? ⟨bt, ot + i * 8 + 1, none⟩ = some (.int .i64 lev) ∧ W.cell? ⟨bt, ot + i * 8 + 2, none⟩ = some (.int .i64 per) ∧ W.cell? ⟨bt, ot + i * 8 + 3, none⟩ = some (.int .i64 dl) ∧ W.cell? ⟨bt, ot + i * 8 + 4, none⟩ = some (.int .i64 bud) ∧ W.cell? ⟨bt, ot + i * 8 + 5, none⟩ = some (.int .i64 line) ∧ W.cell? ⟨bt, ot + i * 8 + 6, none⟩ = some (.slice t.ua t.un t.uc) ∧ W.cell? ⟨bt, ot + i * 8 + 7, none⟩ = some (.slice t.qa t.qn t.qc)) (first | exact SF.out _ D1.out | exact SF.out _ C2.out) (first | (go_at_call 30; refine (MT.out _ D1.out).mono ?_; rintro e w2 ⟨rfl, b2⟩; have C2 := hide (D1.out.trans (b2.mono D1.out.size)); clear b2))
                        go_wp2_with fail
                        go_ret
                        exact ⟨by rw [HA.out, NO.out, Y1.out]; rfl, B0.out.trans ((B1.out.trans (C2.out.mono B1.out.size)).mono B0.out.size)⟩
                      | true =>
                        go_region_held3 (fun W => W.cell? ⟨w.heap.size, 0, none⟩ = some (.slice (some ⟨bt, ot, none⟩) tn tc) ∧ W.cell? ⟨w.heap.size, 2, none⟩ = some (.slice ma mn mc) ∧ W.cell? ⟨w.heap.size, 3, none⟩ = some (.slice ga gn gc) ∧ W.cell? ⟨bt, ot + i * 8, none⟩ = some (.int .i64 cls) ∧ W.cell? ⟨bt, ot + i * 8 + 1, none⟩ = some (.int .i64 lev) ∧ W.cell? ⟨bt, ot + i * 8 + 2, none⟩ = some (.int .i64 per) ∧ W.cell? ⟨bt, ot + i * 8 + 3, none⟩ = some (.int .i64 dl) ∧ W.cell? ⟨bt, ot + i * 8 + 4, none⟩ = some (.int .i64 bud) ∧ W.cell? ⟨bt, ot + i * 8 + 5, none⟩ = some (.int .i64 line) ∧ W.cell? ⟨bt, ot + i * 8 + 6, none⟩ = some (.slice t.ua t.un t.uc) ∧ W.cell? ⟨bt, ot + i * 8 + 7, none⟩ = some (.slice t.qa t.qn t.qc)) (first | exact SF.out _ D1.out | exact SF.out _ C2.out) (first | (go_at_call 30; refine (MT.out _ D1.out).mono ?_; rintro e w2 ⟨rfl, b2⟩; have C2 := hide (D1.out.trans (b2.mono D1.out.size)); clear b2))
                        clear k0 k2 k3 t0 t1 t2 t3 t4 t5 t6 t7
                        go_wp2_with fail
                        go_loopw [5] (fun kv wr => ∃ k : Nat, k ≤ i ∧ kv = .int .i64 (k : Int) ∧ Hid ((∀ q a, q < k → ts[q]? = some a → ¬ (0 ≤ line ∧ a.line = line)) ∧ Below w1.heap.size w1 wr)) (fun kv _ => i - (intOf kv).toNat)
                        case atStart => exact ⟨0, Nat.zero_le _, rfl, (fun q a hq => absurd hq (by omega)), C2.out⟩
                        case round =>
                          obtain ⟨k, hk, rfl, hZ⟩ := hrel
                          rename World => w3
                          have N3 := hide hZ.out.1
                          have C3 := hide hZ.out.2
                          clear hZ
                          by_cases hlk : k < i
                          · have j0 : (0 : Int) ≤ (k : Int) := by omega
                            have j1 : (k : Int) < (i : Int) := by omega
                            have j2 : (k : Int) < (tn : Int) := by omega
                            obtain ⟨a, ha⟩ : ∃ a, ts[k]? = some a := ⟨_, List.getElem?_eq_getElem (by have := TL.out; omega)⟩
                            have HAK := hide ha
                            have BW3 := hide (BW.out.trans (C3.out.mono BW.out.size))
                            have ca : w3.cell? ⟨bt, ot + k * 8 + 5, none⟩ = some (.int .i64 a.line) := by
                              obtain ⟨x, b', o', hx', e', hc'⟩ := (RT.out.below BW3.out).at_ (i := k) (by omega)
                              injection e' with e'
                              injection e' with e1 e2
                              subst e1 e2
                              rw [ha] at hx'; injection hx' with hx'; subst hx'
                              exact hc' 5 _ rfl
                            obtain ⟨k0, _, _, _, _, _, _, _, t5, _, _⟩ := SF.out w3 C3.out
                            obtain ⟨al, hal⟩ : ∃ al, al = a.line := ⟨_, rfl⟩
                            rw [← hal] at ca
                            have HAL := hide hal
                            clear ha hal
                            by_cases l0 : 0 ≤ line
                            · have f0 : (0 ≤ line) = True := eq_true l0
                              by_cases l1 : al = line
                              · have NO := hide (show c3 = false from by
                                  rw [HC3.out]
                                  cases e : apartT (ts.map tpOf)
                                  · rfl
                                  · exact absurd ⟨by show 0 ≤ t.line; rw [← LN.out]; exact l0, by show a.line = t.line; rw [← LN.out, ← HAL.out]; exact l1⟩ (apart_at e k i (tpOf a) (tpOf t) hlk (by rw [List.getElem?_map, HAK.out]; rfl) (by rw [List.getElem?_map, HX.out]; rfl)))
                                rw [l1] at ca
                                clear l0 l1
                                go_upto_region 16 with fail
                                go_region_held3 (fun W => W.cell? ⟨w.heap.size, 0, none⟩ = some (.slice (some ⟨bt, ot, none⟩) tn tc) ∧ W.cell? ⟨bt, ot + i * 8 + 5, none⟩ = some (.int .i64 line) ∧ W.cell? ⟨bt, ot + k * 8 + 5, none⟩ = some (.int .i64 line)) (exact ⟨k0, t5, ca⟩) (fail)
                                go_wp2_with fail
                                go_ret
                                exact ⟨by rw [HA.out, NO.out, Y1.out]; simp, B0.out.trans ((B1.out.trans ((below_drewN C3.out 1).mono B1.out.size)).mono B0.out.size)⟩
                              · have NX := hide (show ¬ (0 ≤ line ∧ a.line = line) from fun e => l1 (by rw [HAL.out]; exact e.2))
                                have f1 : (al = line) = False := eq_false l1
                                clear l0
                                go_upto_region 16 with fail
                                go_region_held3 (fun W => W.cell? ⟨w.heap.size, 0, none⟩ = some (.slice (some ⟨bt, ot, none⟩) tn tc) ∧ W.cell? ⟨bt, ot + i * 8 + 5, none⟩ = some (.int .i64 line) ∧ W.cell? ⟨bt, ot + k * 8 + 5, none⟩ = some (.int .i64 al)) (exact ⟨k0, t5, ca⟩) (fail)
                                go_wp2_with fail
                                go_roundw
                                case rel => exact ⟨k + 1, by omega, by go_num, (fun q x hq hx => by
                                  by_cases hqk : q < k
                                  · exact N3.out q x hqk hx
                                  · obtain rfl : q = k := by omega
                                    rw [HAK.out] at hx; injection hx with hx; subst hx; exact NX.out), below_drewN C3.out 1⟩
                                case measure => simp [intOf]; omega
                            · have NX := hide (show ¬ (0 ≤ line ∧ a.line = line) from fun e => l0 e.1)
                              have f0 : (0 ≤ line) = False := eq_false l0
                              go_upto_region 16 with fail
                              go_quiet (fail)
                              obtain ⟨w4, hw4⟩ : ∃ w4, w4 = w3.drewN nq := ⟨_, rfl⟩
                              rw [← hw4]
                              have C4 := hide (show Below w1.heap.size w1 w4 from by rw [hw4]; exact below_drewN C3.out nq)
                              clear hw4
                              go_wp2_with fail
                              go_roundw
                              case rel => exact ⟨k + 1, by omega, by go_num, (fun q x hq hx => by
                                by_cases hqk : q < k
                                · exact N3.out q x hqk hx
                                · obtain rfl : q = k := by omega
                                  rw [HAK.out] at hx; injection hx with hx; subst hx; exact NX.out), C4.out⟩
                              case measure => simp [intOf]; omega
                          · obtain rfl : k = i := by omega
                            go_wp2_with fail
                            go_roundw
                            case rel =>
                              refine ⟨k + 1, by omega, by go_num, (fun j x hj hx => ?_), (fun q j a b hq hj ha hb => ?_), B1.out.trans (C3.out.mono B1.out.size)⟩
                              · by_cases hji : j < k
                                · exact M1.out j x hji hx
                                · obtain rfl : j = k := by omega
                                  rw [HX.out] at hx; injection hx with hx; subst hx; exact EM.out
                              · by_cases hji : j < k
                                · exact P1.out q j a b hq hji ha hb
                                · obtain rfl : j = k := by omega
                                  rw [HX.out] at hb; injection hb with hb; subst hb
                                  have := N3.out q a hq ha
                                  rw [LN.out] at this
                                  exact this
                            case measure => simp [intOf]; omega
                    · obtain rfl : tn = i := by omega
                      have Y2 := hide (show c2 = true from by
                        rw [HC2.out]
                        exact List.all_eq_true.2 fun x hx => by
                          obtain ⟨u, hu, rfl⟩ := List.mem_map.1 hx
                          obtain ⟨j, hj⟩ := List.getElem?_of_mem hu
                          exact M1.out j u (by have := (List.getElem?_eq_some_iff.1 hj).1; have := TL.out; omega) hj)
                      have Y3 := hide (show c3 = true from by
                        rw [HC3.out]
                        refine apart_all fun q j a b hq ha hb => ?_
                        rw [List.getElem?_map] at ha hb
                        obtain ⟨x, hx, rfl⟩ := Option.map_eq_some_iff.1 ha
                        obtain ⟨y, hy, rfl⟩ := Option.map_eq_some_iff.1 hb
                        exact P1.out q j x y hq (by have := (List.getElem?_eq_some_iff.1 hy).1; have := TL.out; omega) hx hy)
                      clear M1 P1
                      go_wp2_with fail
                      go_loopw [6] (fun iv wr => ∃ i : Nat, i ≤ en ∧ iv = .int .i64 (i : Int) ∧ Hid (∀ j u, j < i → es[j]? = some u → (decide (0 ≤ u.lev ∧ u.lev ≤ 15) && decide (u.qn ≤ 40)) = true) ∧ w1 = wr) (fun iv _ => en - (intOf iv).toNat)
                      case atStart => exact ⟨0, Nat.zero_le _, rfl, (fun j u hj => absurd hj (by omega)), rfl⟩
                      case round =>
                        obtain ⟨i, hi, rfl, hZ, rfl⟩ := hrel
                        by_cases hlt : i < en
                        · have i0 : (0 : Int) ≤ (i : Int) := by omega
                          have i1 : (i : Int) < (en : Int) := by omega
                          obtain ⟨u, b, off, hx, rfl, hcu⟩ := RE.out.at_ hlt
                          have BW := B0.out.trans (B1.out.mono B0.out.size)
                          have cu : w1.cell? ⟨b, off + i * 2, none⟩ = some (.int .i64 u.lev) := (BW.cell (lt_of_cell? (hcu 0 _ rfl))).trans (hcu 0 _ rfl)
                          have cq : w1.cell? ⟨b, off + i * 2 + 1, none⟩ = some (.slice u.qa u.qn u.qc) := (BW.cell (lt_of_cell? (hcu 1 _ rfl))).trans (hcu 1 _ rfl)
                          have HX := hide hx
                          obtain ⟨ulev, hul⟩ : ∃ ulev, ulev = u.lev := ⟨_, rfl⟩
                          rw [← hul] at cu
                          obtain ⟨bu, hbu⟩ : ∃ b, b = decide (0 ≤ ulev ∧ ulev ≤ 15) := ⟨_, rfl⟩
                          have IU := hide (fun W => rin_is ulev 0 15 bu hbu W)
                          have EU := hide (show decide (0 ≤ u.lev ∧ u.lev ≤ 15) = bu from by rw [hbu, hul])
                          obtain ⟨qn, hqn⟩ : ∃ qn, qn = u.qn := ⟨_, rfl⟩
                          rw [← hqn] at cq
                          have HQN := hide hqn
                          clear hcu hx hbu hqn hul BW
                          cases bu with
                          | false =>
                            have NO := hide (show c4 = false from by rw [HC4.out]; exact all_false HX.out (by rw [EU.out]; rfl))
                            go_wp2_with (go_at_call 29; refine (IU.out _).mono ?_; rintro e w' ⟨rfl, rfl⟩)
                            go_ret
                            exact ⟨by rw [HA.out, NO.out, Y1.out, Y2.out, Y3.out]; rfl, B0.out.trans (B1.out.mono B0.out.size)⟩
                          | true =>
                            by_cases h40 : qn ≤ 40
                            · have q40 : ¬ (40 : Int) < (qn : Int) := by omega
                              have OKU := hide (show (decide (0 ≤ u.lev ∧ u.lev ≤ 15) && decide (u.qn ≤ 40)) = true from by rw [← HQN.out, decide_eq_true h40, EU.out]; rfl)
                              go_wp2_with (go_at_call 29; refine (IU.out _).mono ?_; rintro e w' ⟨rfl, rfl⟩)
                              go_roundw
                              case rel =>
                                refine ⟨i + 1, by omega, by go_num, fun j x hj hx => ?_, trivial⟩
                                by_cases hji : j < i
                                · exact hZ.out j x hji hx
                                · obtain rfl : j = i := by omega
                                  rw [HX.out] at hx; injection hx with hx; subst hx; exact OKU.out
                              case measure => simp [intOf]; omega
                            · have q40 : (40 : Int) < (qn : Int) := by omega
                              have NO := hide (show c4 = false from by rw [HC4.out]; exact all_false HX.out (by show (decide (0 ≤ u.lev ∧ u.lev ≤ 15) && decide (u.qn ≤ 40)) = false; rw [← HQN.out, decide_eq_false h40, Bool.and_false]))
                              go_wp2_with (go_at_call 29; refine (IU.out _).mono ?_; rintro e w' ⟨rfl, rfl⟩)
                              go_ret
                              exact ⟨by rw [HA.out, NO.out, Y1.out, Y2.out, Y3.out]; rfl, B0.out.trans (B1.out.mono B0.out.size)⟩
                        · obtain rfl : en = i := by omega
                          have Y4 := hide (show c4 = true from by
                            rw [HC4.out]
                            exact List.all_eq_true.2 fun x hx => by
                              obtain ⟨j, hj⟩ := List.getElem?_of_mem hx
                              exact hZ.out j x (by have := (List.getElem?_eq_some_iff.1 hj).1; have := EL.out; omega) hj)
                          go_wp2_with fail
                          go_ret
                          exact ⟨by rw [HA.out, Y4.out, Y1.out, Y2.out, Y3.out]; rfl, B0.out.trans (B1.out.mono B0.out.size)⟩
        · have qh4 : (4 : Int) < (gn : Int) := by omega
          go_wp2_with (first | (go_at_call 28; with_reducible refine (I1.out _ B0.out).mono ?_; rintro e w' ⟨rfl, rfl⟩) | (go_at_call 29; with_reducible refine (I2.out _).mono ?_; rintro e w' ⟨rfl, rfl⟩) | (go_at_call 29; with_reducible refine (I3.out _).mono ?_; rintro e w' ⟨rfl, rfl⟩))
          go_ret
          exact ⟨by rw [HRR.out, decide_eq_false h4]; simp, B0.out⟩
    · have qh6 : (6 : Int) < (en : Int) := by omega
      go_wp2_with (first | (go_at_call 28; with_reducible refine (I1.out _ B0.out).mono ?_; rintro e w' ⟨rfl, rfl⟩) | (go_at_call 29; with_reducible refine (I2.out _).mono ?_; rintro e w' ⟨rfl, rfl⟩) | (go_at_call 29; with_reducible refine (I3.out _).mono ?_; rintro e w' ⟨rfl, rfl⟩))
      go_ret
      exact ⟨by rw [HRR.out, decide_eq_false h6]; simp, B0.out⟩
  · have qh8 : (8 : Int) < (tn : Int) := by omega
    go_wp2_with (first | (go_at_call 28; with_reducible refine (I1.out _ B0.out).mono ?_; rintro e w' ⟨rfl, rfl⟩) | (go_at_call 29; with_reducible refine (I2.out _).mono ?_; rintro e w' ⟨rfl, rfl⟩) | (go_at_call 29; with_reducible refine (I3.out _).mono ?_; rintro e w' ⟨rfl, rfl⟩))
    go_ret
    exact ⟨by rw [HRR.out, decide_eq_false h8]; simp, B0.out⟩
end Go.Proofs.YtcmgkjjkhfcedaaGreat
/-
  Contracts of what the statements share: whether two slices of integers are the same; a slice of integers written over.
-/
namespace Go.Proofs.YtcmgkjjkhfcedaaGreat
open Go.ChangeShapes Go.WideShapes Go.ChangeAt Go.RowKit
set_option linter.unusedVariables false
theorem int_info : (Tryz.prog.info? 3).map (fun i => (i.zero, i.size, i.bytes)) = some (some (.int .i64 0), 1, 8) := by kernel_rfl
set_option maxHeartbeats 800000 in
theorem same_any (a b : Option Addr) (n c d : Nat) (xs : List Int) (w : World) (ha : Ints .i64 w a n xs) (hb : Ints .i64 w b n xs) (hn : n ≤ 9223372036854775807) :
    Calls Tryz.prog 16 #[.slice a n c, .slice b n d] w fun e w' => e = .returned (.bool true) ∧ Below w.heap.size w w' := by
  obtain ⟨hl, hc⟩ := ha
  obtain ⟨_, hd⟩ := hb
  clear hl
  have e0 : ((n : Int) == (n : Int)) = true := by simp
  have e1 : ((n : Int) != (n : Int)) = false := by simp
  go_enter Tryz.func16, Tryz.ntmps16
  go_wp2_with fail
  go_loopw [5] (fun i wr => ∃ k : Nat, k ≤ n ∧ i = .int .i64 k ∧ ∃ m, wr = w.drewN m) (fun i _ => n - (intOf i).toNat)
  case atStart => exact ⟨0, Nat.zero_le _, rfl, 0, rfl⟩
  case round =>
    obtain ⟨k, hk, rfl, m, rfl⟩ := hrel
    by_cases hlt : k < n
    · obtain ⟨b1, o1, rfl, hcs⟩ := hc (by omega)
      obtain ⟨b2, o2, rfl, hds⟩ := hd (by omega)
      have h1 := hcs k hlt
      have h2 := hds k hlt
      clear hcs hds hc hd
      go_wp2_with fail
      go_quiet (fail)
      go_wp2_with fail
      go_roundw
      case rel => exact ⟨k + 1, by omega, by go_num, _, rfl⟩
      case measure => simp [intOf]; omega
    · clear hc hd
      go_wp2_with fail
      go_ret
      exact ⟨rfl, below_drewN (Below.refl _ _) _⟩
theorem same_own (u v : Value) (n : Nat) (xs : List Int) (w : World) {b1 b2 : Nat} (hu : w.ownsRow b1 3 1 u n (xs.map (Value.int .i64))) (hv : w.ownsRow b2 3 1 v n (xs.map (Value.int .i64))) (hn : n ≤ 9223372036854775807) :
    Calls Tryz.prog 16 #[u, v] w fun e w' => e = .returned (.bool true) ∧ Below w.heap.size w w' := by
  obtain ⟨A, c, rfl, hi, _⟩ := own_ints hu
  obtain ⟨B, d, rfl, hj, _⟩ := own_ints hv
  exact same_any A B n c d xs w hi hj hn
set_option maxHeartbeats 800000 in
theorem over_any (v : Value) (n : Nat) (xs : List Value) (w : World) {B : Nat} (hv : w.ownsRow B 3 1 v n xs) (hB : B ≤ w.heap.size) (hn : n ≤ 1000000) :
    Calls Tryz.prog 17 #[v] w fun e w' => e = .returned (.tuple #[]) ∧ Below B w w' := by
  obtain ⟨i0, hi0, hz0, hz1, hz2⟩ := info_parts int_info
  obtain ⟨a, c, rfl⟩ : ∃ a c, v = .slice a n c := by
    rcases hv.2 with ⟨rfl, rfl⟩ | ⟨g, cap, cur, rfl, _⟩
    · exact ⟨none, 0, rfl⟩
    · exact ⟨_, _, rfl⟩
  go_enter Tryz.func17, Tryz.ntmps17
  go_wp2_with fail
  go_loopw [2] (fun i wr => ∃ (k : Nat) (ys : List Value), k ≤ n ∧ i = .int .i64 k ∧ wr.ownsRow B 3 1 (.slice a n c) n ys ∧ Below B w wr) (fun i _ => n - (intOf i).toNat)
  case atStart => exact ⟨0, xs, Nat.zero_le _, rfl, hv, Below.refl _ _⟩
  case round =>
    obtain ⟨k, ys, hk, rfl, ho, hb⟩ := hrel
    by_cases hlt : k < n
    · obtain ⟨g, cap, e⟩ : ∃ g cap, (Value.slice a n c) = .slice (some ⟨g, 0, none⟩) n cap := by
        rcases ho.2 with ⟨_, h⟩ | ⟨g, cap, cur, e, _⟩
        · omega
        · exact ⟨_, _, e⟩
      injection e with e1 _ e2
      subst e1 e2
      have hl : ys.length = n := by have := ho.1; omega
      have hc := ho.cellAt k (by omega)
      rw [List.getElem?_eq_getElem (by omega)] at hc
      have hf := ho.frozenAt k
      have hlo := (ho.lt g rfl).1
      have S := (ho.stored k (.int .i64 (-999))).1
      have B1 := hb.setCell (p := ⟨g, k, none⟩) hlo (.int .i64 (-999))
      clear ho hb hv
      go_wp2_with fail
      go_roundw
      case rel => exact ⟨k + 1, _, by omega, by go_num, S, B1⟩
      case measure => simp [intOf]; omega
    · have hb0 : B ≤ wr.heap.size := Nat.le_trans hB hb.size
      clear hv
      go_wp2_with (at_builtin; refine wpList_append_src rfl (.tmp 12) (.tmp 13) _ rfl B 3 i0 _ 8 Tryz.underlying25 hi0 hz0 hz1 hz2 rfl _ _ _ rfl (ho.alloc _) .i64 _ 1 _ [-999] rfl (ints_cell1 _ _ _ _ _ rfl) (fun h => by cases h) (by unfold maxLen; omega) (by omega) (by simp; omega) ?_; intro v' w' o' g' t'; have hr' := (hb.alloc hb0 _).grown g' (by simp; omega) (own_lo ho); clear g' t' ho hb)
      go_end0
      exact ⟨rfl, hr'⟩
end Go.Proofs.YtcmgkjjkhfcedaaGreat
/-
  What every program answers that is one (stage 18).
-/
namespace Go.Proofs.YtcmgkjjkhfcedaaGreat
open Go.ChangeShapes Go.WideShapes Go.ChangeAt Go.RowKit
set_option linter.unusedVariables false
set_option linter.unusedSimpArgs false
def tkA : Tk := ⟨2, 9, 100, 40, 5, -1, none, 0, 0, [], none, 0, 0, []⟩
def tkB (X : Nat) : Tk := ⟨1, 0, 200, 100, 10, -1, some ⟨X + 1, 0, none⟩, 1, 1, [0], none, 0, 0, []⟩
def cfA (X : Nat) : Cf := ⟨some ⟨X + 2, 0, none⟩, 2, 2, [tkA, tkB X], none, 0, 0, [], some ⟨X, 0, none⟩, 1, 1, [⟨1, 6⟩], none, 0, 0, [], 8, 500⟩
def cpA : Cp := ⟨[⟨2, 9, 100, 40, 5, -1, [], 0⟩, ⟨1, 0, 200, 100, 10, -1, [0], 0⟩], [], [⟨1, 6⟩], [], 8, 500⟩
theorem cpA_of (X : Nat) : cpOf (cfA X) = cpA := rfl
theorem cpA_may : mayC cpA = true := by decide
theorem cpA_blk : blkC cpA 1 = 17 := by decide
theorem great_cfA (X : Nat) : greatCf (cfA X) = false := by rfl
theorem respA : RespT cpA 0 ⟨2, 9, 100, 40, 5, -1, [], 0⟩ 16 true := by
  have hn : ∀ s, needP 5 (blkT cpA ⟨2, 9, 100, 40, 5, -1, [], 0⟩) (partsT cpA 0 ⟨2, 9, 100, 40, 5, -1, [], 0⟩) s = 16 := fun s => by
    have e1 : partsT cpA 0 ⟨2, 9, 100, 40, 5, -1, [], 0⟩ = [] := by rfl
    have e2 : blkT cpA ⟨2, 9, 100, 40, 5, -1, [], 0⟩ = 11 := by decide
    rw [e1, e2]
    show sum [5, 11, 0] = 16
    decide
  unfold RespT
  rw [if_pos rfl]
  refine .inl ⟨rfl, by omega, by decide, by omega, ?_, fun s h1 h2 => ?_⟩
  · show needP 5 _ _ 16 ≤ 16
    rw [hn]; omega
  · show ¬ needP 5 _ _ s ≤ s
    rw [hn]; omega
theorem respB : RespT cpA 1 ⟨1, 0, 200, 100, 10, -1, [0], 0⟩ 100 true := by
  have e1 : partsT cpA 1 ⟨1, 0, 200, 100, 10, -1, [0], 0⟩ = [⟨100, 5⟩] := by rfl
  have e2 : blkT cpA ⟨1, 0, 200, 100, 10, -1, [0], 0⟩ = 17 := by decide
  have e3 : earliesT cpA = [⟨200, 100, 10⟩] := by rfl
  have hn : ∀ n : Fin 33, 1 ≤ n.val → needP 0 17 ([⟨100, 5⟩] ++ [(⟨200, 100, 10⟩ : Er)].map partE) (n.val : Int) = 32 := by decide
  have he : ∀ n : Fin 33, needE (n.val : Int) [⟨200, 100, 10⟩] = 0 := by decide
  have at_ : ∀ s : Int, 1 ≤ s → s ≤ 32 → ∃ n : Fin 33, 1 ≤ n.val ∧ s = (n.val : Int) := fun s h1 h2 => ⟨⟨s.toNat, by omega⟩, by show 1 ≤ s.toNat; omega, by show s = ((s.toNat : Nat) : Int); omega⟩
  unfold RespT
  rw [if_neg (by decide), e1, e2, e3]
  refine ⟨32, .inr ⟨32, .inl ⟨rfl, by omega, by decide, by omega, ?_, fun s h1 h2 => ?_⟩, .inr ⟨rfl, rfl, fun s h1 h2 => ?_⟩⟩, rfl⟩
  · have := hn ⟨32, by omega⟩ (by show 1 ≤ 32; omega)
    show needP 0 17 _ 32 ≤ 32
    rw [show (32 : Int) = ((32 : Nat) : Int) from rfl, this]; omega
  · obtain ⟨n, q1, rfl⟩ := at_ s h1 (by omega)
    rw [hn n q1]; omega
  · obtain ⟨n, q1, rfl⟩ := at_ s h1 h2
    rintro ⟨h, _⟩
    rw [he n] at h
    omega
theorem admA {ok : Bool} {rs : List Int} (h : AdmT cpA ok rs) : ok = true ∧ rs = [16, 100] := by
  have e : ok = true := h.yes cpA_may fun i a ha => by
    match i, ha with
    | 0, ha => injection ha with ha; subst ha; exact ⟨⟨16, respA⟩, by decide⟩
    | 1, ha => injection ha with ha; subst ha; exact ⟨⟨100, respB⟩, by decide⟩
    | i + 2, ha => cases ha
  subst e
  refine ⟨rfl, ?_⟩
  have hl : rs.length = 2 := by rcases h with ⟨_, _, hl, _⟩ | ⟨e, _⟩; exact hl; cases e
  obtain ⟨r0, h0, hr0, _⟩ := h.at_ (i := 0) rfl
  obtain ⟨r1, h1, hr1, _⟩ := h.at_ (i := 1) rfl
  have e0 := (hr0.same respA).1
  have e1 := (hr1.same respB).1
  match rs, hl with
  | [a, b], _ =>
    injection h0 with h0
    injection h1 with h1
    rw [h0, h1, e0, e1]
theorem built_muA : Tryz.prog.built 52 [(0, .int .i64 1), (1, .int .i64 6)] = some #[.int .i64 1, .int .i64 6] := by kernel_rfl
theorem built_tkA : Tryz.prog.built 47 [(0, .int .i64 2), (1, .int .i64 9), (2, .int .i64 100), (3, .int .i64 40), (4, .int .i64 5), (5, .int .i64 (-1))] = some (tkVals tkA).toArray := by kernel_rfl
theorem built_tkB (X : Nat) : Tryz.prog.built 47 [(0, .int .i64 1), (2, .int .i64 200), (3, .int .i64 100), (4, .int .i64 10), (5, .int .i64 (-1)), (6, .slice (some ⟨X + 1, 0, none⟩) 1 1)] = some (tkVals (tkB X)).toArray := by kernel_rfl
theorem built_cfA (X : Nat) : Tryz.prog.built 27 [(4, .int .i64 8), (5, .int .i64 500), (2, .slice (some ⟨X, 0, none⟩) 1 1), (0, .slice (some ⟨X + 2, 0, none⟩) 2 2)] = some (cfVals (cfA X)).toArray := by kernel_rfl
theorem came_block {α : Type} {z : Nat} {vals : α → List Value} {fits : World → α → Prop} (hv : ∀ x, (vals x).length = z) {w : World} {B : Nat} {xs : List α} {t : TypeId} {fr : Nat × Nat} (h : w.heap[B]? = some (.cells (xs.flatMap vals).toArray t fr)) (hl : xs.length ≤ maxLen) (hf : ∀ x ∈ xs, fits w x) : Came z vals fits w (some ⟨B, 0, none⟩) xs.length xs.length xs := by
  refine ⟨rfl, Nat.le_refl _, hl, (fun e => by cases e), hf, fun _ => ⟨B, 0, rfl, lt_of_heap h, fun i x hx j u hu => ?_⟩⟩
  have hj : j < z := by rw [← hv x]; exact (List.getElem?_eq_some_iff.1 hu).1
  rw [cell_of_row _ _ _ _ _ _ h, List.getElem?_toArray, Nat.zero_add, flat_at hv hx hj]
  exact hu
theorem came_none {α : Type} {z : Nat} {vals : α → List Value} {fits : World → α → Prop} (w : World) : Came z vals fits w none 0 0 [] := ⟨rfl, Nat.le_refl _, Nat.zero_le _, fun _ => rfl, (fun x hx => by cases hx), fun h => absurd h (by omega)⟩
set_option maxRecDepth 20000 in
set_option maxHeartbeats 4000000 in
theorem adawake_any (C : PAdmit) (w : World) : Calls Tryz.prog 5 #[] w fun e w' => e = .returned (.bool true) ∧ Below w.heap.size w w' := by
  obtain ⟨w4, hw4⟩ : ∃ w4, w4 = ((((w.alloc (.cells #[.int .i64 1, .int .i64 6] 52)).alloc (.cells #[.int .i64 0] 3)).alloc (.cells #[.int .i64 2, .int .i64 9, .int .i64 100, .int .i64 40, .int .i64 5, .int .i64 (-1), .slice none 0 0, .slice none 0 0, .int .i64 1, .int .i64 0, .int .i64 200, .int .i64 100, .int .i64 10, .int .i64 (-1), .slice (some ⟨w.heap.size + 1, 0, none⟩) 1 1, .slice none 0 0] 47)).alloc (.cells #[.slice (some ⟨w.heap.size + 1 + 1, 0, none⟩) 2 2, .slice none 0 0, .slice (some ⟨w.heap.size, 0, none⟩) 1 1, .slice none 0 0, .int .i64 8, .int .i64 500] 27)) := ⟨_, rfl⟩
  have b4 : Below w.heap.size w w4 := by rw [hw4]; exact ((((Below.refl _ _).alloc (Nat.le_refl _) _).alloc (by simp) _).alloc (by simp; omega) _).alloc (by simp; omega) _
  have s1 : (w.alloc (.cells #[.int .i64 1, .int .i64 6] 52)).heap.size = w.heap.size + 1 := by simp
  have s2 : ((w.alloc (.cells #[.int .i64 1, .int .i64 6] 52)).alloc (.cells #[.int .i64 0] 3)).heap.size = w.heap.size + 2 := by simp
  have s3 : (((w.alloc (.cells #[.int .i64 1, .int .i64 6] 52)).alloc (.cells #[.int .i64 0] 3)).alloc (.cells #[.int .i64 2, .int .i64 9, .int .i64 100, .int .i64 40, .int .i64 5, .int .i64 (-1), .slice none 0 0, .slice none 0 0, .int .i64 1, .int .i64 0, .int .i64 200, .int .i64 100, .int .i64 10, .int .i64 (-1), .slice (some ⟨w.heap.size + 1, 0, none⟩) 1 1, .slice none 0 0] 47)).heap.size = w.heap.size + 3 := by simp
  have m0 : w4.heap[w.heap.size]? = some (.cells ([(⟨1, 6⟩ : Mu)].flatMap muVals).toArray 52 (0, 0)) := by
    rw [hw4]
    exact (heap_alloc_old _ _ (by rw [s3]; omega)).trans ((heap_alloc_old _ _ (by rw [s2]; omega)).trans ((heap_alloc_old _ _ (by rw [s1]; omega)).trans (heap_alloc_new w _)))
  have m1 : w4.heap[w.heap.size + 1]? = some (.cells ([(0 : Int)].flatMap nuVals).toArray 3 (0, 0)) := by
    have h := heap_alloc_new (w.alloc (.cells #[.int .i64 1, .int .i64 6] 52)) (.cells #[.int .i64 0] 3)
    rw [s1] at h
    rw [hw4]
    exact (heap_alloc_old _ _ (by rw [s3]; omega)).trans ((heap_alloc_old _ _ (by rw [s2]; omega)).trans h)
  have m2 : w4.heap[w.heap.size + 2]? = some (.cells ([tkA, tkB w.heap.size].flatMap tkVals).toArray 47 (0, 0)) := by
    have h := heap_alloc_new ((w.alloc (.cells #[.int .i64 1, .int .i64 6] 52)).alloc (.cells #[.int .i64 0] 3)) (.cells #[.int .i64 2, .int .i64 9, .int .i64 100, .int .i64 40, .int .i64 5, .int .i64 (-1), .slice none 0 0, .slice none 0 0, .int .i64 1, .int .i64 0, .int .i64 200, .int .i64 100, .int .i64 10, .int .i64 (-1), .slice (some ⟨w.heap.size + 1, 0, none⟩) 1 1, .slice none 0 0] 47)
    rw [s2] at h
    rw [hw4]
    exact (heap_alloc_old _ _ (by rw [s3]; omega)).trans h
  have m3 : w4.heap[w.heap.size + 3]? = some (.cells #[.slice (some ⟨w.heap.size + 1 + 1, 0, none⟩) 2 2, .slice none 0 0, .slice (some ⟨w.heap.size, 0, none⟩) 1 1, .slice none 0 0, .int .i64 8, .int .i64 500] 27 (0, 0)) := by
    have h := heap_alloc_new (((w.alloc (.cells #[.int .i64 1, .int .i64 6] 52)).alloc (.cells #[.int .i64 0] 3)).alloc (.cells #[.int .i64 2, .int .i64 9, .int .i64 100, .int .i64 40, .int .i64 5, .int .i64 (-1), .slice none 0 0, .slice none 0 0, .int .i64 1, .int .i64 0, .int .i64 200, .int .i64 100, .int .i64 10, .int .i64 (-1), .slice (some ⟨w.heap.size + 1, 0, none⟩) 1 1, .slice none 0 0] 47)) (.cells #[.slice (some ⟨w.heap.size + 1 + 1, 0, none⟩) 2 2, .slice none 0 0, .slice (some ⟨w.heap.size, 0, none⟩) 1 1, .slice none 0 0, .int .i64 8, .int .i64 500] 27)
    rw [s3] at h
    rw [hw4]
    exact h
  have F := hide (show CfFit w4 (cfA w.heap.size) from by
    have hb : TkFit w4 (tkB w.heap.size) := ⟨show (Lit.int .i64 1).wf = true by decide, show (Lit.int .i64 0).wf = true by decide, show (Lit.int .i64 200).wf = true by decide, show (Lit.int .i64 100).wf = true by decide, show (Lit.int .i64 10).wf = true by decide, show (Lit.int .i64 (-1)).wf = true by decide, came_block (xs := [(0 : Int)]) nuVals_len m1 (by unfold maxLen; decide) (fun x hx => by rw [List.mem_singleton] at hx; rw [hx]; show (Lit.int .i64 0).wf = true; decide), came_none w4⟩
    have ha : TkFit w4 tkA := ⟨by decide, by decide, by decide, by decide, by decide, by decide, came_none w4, came_none w4⟩
    refine ⟨came_block (xs := [tkA, tkB w.heap.size]) tkVals_len m2 (by unfold maxLen; show 2 ≤ _; decide) (fun x hx => ?_), came_none w4, came_block (xs := [(⟨1, 6⟩ : Mu)]) muVals_len m0 (by unfold maxLen; decide) (fun x hx => by rw [List.mem_singleton] at hx; rw [hx]; exact ⟨by decide, by decide⟩), came_none w4, show (Lit.int .i64 8).wf = true by decide, show (Lit.int .i64 500).wf = true by decide⟩
    rcases List.mem_cons.1 hx with rfl | hx
    · exact ha
    · rw [List.mem_singleton] at hx; rw [hx]; exact hb)
  have AD := hide (show Calls Tryz.prog 14 #[.agg (cfVals (cfA w.heap.size)).toArray] w4 fun e w' => ∃ v, e = .returned (.tuple #[.bool true, v]) ∧ w'.ownsRow w4.heap.size 3 1 v 2 ([(16 : Int), 100].map (Value.int .i64)) ∧ Below w4.heap.size w4 w' from by
    refine (C.adm w4 (cfA w.heap.size) F.out (great_cfA w.heap.size)).mono ?_
    rintro e w' ⟨v, ok, rs, rfl, h, ho, b⟩
    obtain ⟨rfl, rfl⟩ := admA (by rw [cpA_of] at h; exact h)
    exact ⟨v, rfl, ho, b⟩)
  have BK := hide (show ∀ Y : World, Below w4.heap.size w4 Y → Calls Tryz.prog 8 #[.agg (cfVals (cfA w.heap.size)).toArray, .int .i64 1] Y fun e w' => e = .returned (.int .i64 17) ∧ Below Y.heap.size Y w' from fun Y b => by
    have := C.blk Y (cfA w.heap.size) (F.out.below b) (great_cfA w.heap.size) 1 (by decide)
    rw [cpA_of, cpA_blk] at this
    exact this)
  have MY := hide (show ∀ Y : World, Below w4.heap.size w4 Y → Calls Tryz.prog 6 #[.agg (cfVals (cfA w.heap.size)).toArray] Y fun e w' => e = .returned (.bool true) ∧ Below Y.heap.size Y w' from fun Y b => by
    have := C.may Y (cfA w.heap.size) (F.out.below b) (great_cfA w.heap.size)
    rw [cpA_of, cpA_may] at this
    exact this)
  have SC := hide (show ∀ Y : World, Below w4.heap.size w4 Y → Y.cell? ⟨w.heap.size + 1 + 1 + 1, 0, none⟩ = some (.slice (some ⟨w.heap.size + 1 + 1, 0, none⟩) 2 2) ∧ Y.cell? ⟨w.heap.size + 1 + 1 + 1, 1, none⟩ = some (.slice none 0 0) ∧ Y.cell? ⟨w.heap.size + 1 + 1 + 1, 2, none⟩ = some (.slice (some ⟨w.heap.size, 0, none⟩) 1 1) ∧ Y.cell? ⟨w.heap.size + 1 + 1 + 1, 3, none⟩ = some (.slice none 0 0) ∧ Y.cell? ⟨w.heap.size + 1 + 1 + 1, 4, none⟩ = some (.int .i64 8) ∧ Y.cell? ⟨w.heap.size + 1 + 1 + 1, 5, none⟩ = some (.int .i64 500) from fun Y b => by
    have e := (b.block _ (lt_of_heap m3)).trans m3
    refine ⟨?_, ?_, ?_, ?_, ?_, ?_⟩ <;> (show Y.cell? ⟨w.heap.size + 3, _, none⟩ = _; rw [cell_of_row _ _ _ _ _ _ e]; rfl))
  have B4 := hide b4
  have HW := hide hw4
  have hb1 := built_muA
  have hb2 := built_tkA
  have hb3 := built_tkB w.heap.size
  have hb4 := built_cfA w.heap.size
  clear C hw4 b4 s1 s2 s3 m0 m1 m2 m3
  go_enter Tryz.func5, Tryz.ntmps5
  go_upto_region 2 with fail
  rw [← HW.out]
  obtain ⟨k0, k1, k2, k3, k4, k5⟩ := SC.out w4 (Below.refl _ _)
  clear hb1 hb2 hb3 hb4
  go_upto_region 3 with (go_at_call 14; refine AD.out.mono ?_; rintro e w5 ⟨v, rfl, o5, b5⟩; have O5 := hide o5; have B5 := hide b5; clear o5 b5)
  have b5 := B5.out
  obtain ⟨k0', k1', k2', k3', k4', k5'⟩ := SC.out w5 b5
  have LT := hide (show Ints .i64 (w5.alloc (.cells #[.int .i64 16, .int .i64 100] 3)) (some ⟨w5.heap.size, 0, none⟩) 2 [16, 100] from by
    refine ⟨rfl, fun _ => ⟨_, 0, rfl, fun i hi => ?_⟩⟩
    rw [Nat.zero_add]
    have := cells_new w5 [.int .i64 16, .int .i64 100] 3 _ rfl i
    rw [addr_add, Nat.zero_add] at this
    refine this _ ?_
    match i, hi with
    | 0, _ => rfl
    | 1, _ => rfl)
  have b6 : Below w4.heap.size w4 (w5.alloc (.cells #[.int .i64 16, .int .i64 100] 3)) := b5.alloc b5.size _
  obtain ⟨A, c', ev, hI, _⟩ := own_ints O5.out
  have SM := hide (show Calls Tryz.prog 16 #[v, .slice (some ⟨w5.heap.size, 0, none⟩) 2 2] (w5.alloc (.cells #[.int .i64 16, .int .i64 100] 3)) fun e w' => e = .returned (.bool true) ∧ Below (w5.alloc (.cells #[.int .i64 16, .int .i64 100] 3)).heap.size (w5.alloc (.cells #[.int .i64 16, .int .i64 100] 3)) w' from by
    rw [ev]
    have h0 := same_any A (some ⟨w5.heap.size, 0, none⟩) 2 c' 2 [16, 100] _ (hI.below ((Below.refl _ w5).alloc (Nat.le_refl _) (.cells #[.int .i64 16, .int .i64 100] 3))) LT.out (by decide)
    exact h0.mono (by rintro e w' ⟨rfl, h⟩; exact ⟨rfl, by first | exact h | (rw [h]; exact Below.refl _ _) | (rw [← h]; exact Below.refl _ _)⟩))
  have B6 := hide b6
  clear b5 b6 ev hI k0 k1 k2 k3 k4 k5 k0' k1' k2' k3' k4' k5'
  go_wp2_with (first
    | (go_at_call 16; refine SM.out.mono ?_; rintro e w7 ⟨rfl, b7⟩; have B7 := hide (B6.out.trans (b7.mono B6.out.size)); clear b7; obtain ⟨k0, k1, k2, k3, k4, k5⟩ := SC.out w7 B7.out)
    | (go_at_call 8; refine (BK.out _ B7.out).mono ?_; rintro e w8 ⟨rfl, b8⟩; have B8 := hide (B7.out.trans (b8.mono B7.out.size)); clear b8 k0 k1 k2 k3 k4 k5; obtain ⟨k0, k1, k2, k3, k4, k5⟩ := SC.out w8 B8.out)
    | (go_at_call 6; refine (MY.out _ B8.out).mono ?_; rintro e w9 ⟨rfl, b9⟩; have B9 := hide (B8.out.trans (b9.mono B8.out.size)); clear b9 k0 k1 k2 k3 k4 k5))
  go_ret
  exact ⟨rfl, B4.out.trans (B9.out.mono B4.out.size)⟩
end Go.Proofs.YtcmgkjjkhfcedaaGreat
/-
  Priorities: plain words and facts (stage 7).
-/
namespace Go.Proofs.YtcmgkjjkhfcedaaGreat
open Go.ChangeShapes Go.WideShapes Go.ChangeAt Go.RowKit
set_option linter.unusedVariables false
/-- A priority: class, level, due. -/
structure Pr where
  c : Int
  l : Int
  d : Int
def mayP (p : Pr) : Bool :=
  if p.c = 0 then decide (0 ≤ p.l ∧ p.l ≤ 15 ∧ p.d = 0) else if p.c = 1 then decide (p.l = 0 ∧ 0 ≤ p.d ∧ p.d ≤ 1099511627776) else if p.c = 2 then decide (0 ≤ p.l ∧ p.l ≤ 63 ∧ p.d = 0) else false
/-- Is a greater than b? -/
def gtP (a b : Pr) : Bool := if a.c ≠ b.c then decide (b.c < a.c) else if a.c = 1 then decide (a.d < b.d) else decide (b.l < a.l)
def cmpP (a b : Pr) : Int := if gtP a b = true then 1 else if gtP b a = true then -1 else 0
def eqP (a b : Pr) : Bool := a.c == b.c && a.l == b.l && a.d == b.d
def maxP (x : Pr) (ys : List Pr) : Pr := ys.foldl (fun b y => if gtP y b = true then y else b) x
theorem eqP_refl (a : Pr) : eqP a a = true := by simp [eqP]
theorem gtP_irrefl (a : Pr) : gtP a a = false := by simp [gtP]
theorem gtP_asymm {a b : Pr} (h : gtP a b = true) : gtP b a = false := by
  unfold gtP at *
  by_cases e : a.c = b.c
  · rw [if_neg (by simpa using e)] at h
    rw [if_neg (by simpa using e.symm)]
    by_cases e1 : a.c = 1
    · rw [if_pos e1] at h; rw [if_pos (by omega)]; simp at h ⊢; omega
    · rw [if_neg e1] at h; rw [if_neg (by omega)]; simp at h ⊢; omega
  · rw [if_pos e] at h
    rw [if_pos (fun e2 => e e2.symm)]
    simp at h ⊢; omega
theorem cmpP_self (a : Pr) : cmpP a a = 0 := by simp [cmpP, gtP_irrefl]
theorem cmpP_swap (a b : Pr) : cmpP b a = -cmpP a b := by
  unfold cmpP
  cases h1 : gtP a b with
  | true => simp [gtP_asymm h1]
  | false =>
    cases h2 : gtP b a with
    | true => simp
    | false => simp
theorem cmpP_vals (a b : Pr) : cmpP a b = 1 ∨ cmpP a b = -1 ∨ cmpP a b = 0 := by
  unfold cmpP
  split
  · exact .inl rfl
  · split
    · exact .inr (.inl rfl)
    · exact .inr (.inr rfl)
/-- What the order compares, as one number's sign along each part. -/
theorem cmpP_ge {a b : Pr} : 0 ≤ cmpP a b ↔ b.c < a.c ∨ a.c = b.c ∧ (a.c = 1 ∧ a.d ≤ b.d ∨ a.c ≠ 1 ∧ b.l ≤ a.l) := by
  have h : 0 ≤ cmpP a b ↔ gtP b a = false := by
    unfold cmpP
    cases h1 : gtP a b with
    | true => simp [gtP_asymm h1]
    | false => cases h2 : gtP b a <;> simp
  rw [h]
  unfold gtP
  by_cases e : a.c = b.c
  · rw [if_neg (by simpa using e.symm)]
    by_cases e1 : b.c = 1
    · rw [if_pos e1]; simp; omega
    · rw [if_neg e1]; simp; omega
  · rw [if_pos (fun e2 => e e2.symm)]; simp; omega
theorem cmpP_gt {a b : Pr} : 0 < cmpP a b ↔ b.c < a.c ∨ a.c = b.c ∧ (a.c = 1 ∧ a.d < b.d ∨ a.c ≠ 1 ∧ b.l < a.l) := by
  have h : 0 < cmpP a b ↔ gtP a b = true := by
    unfold cmpP
    cases h1 : gtP a b with
    | true => simp
    | false => cases h2 : gtP b a <;> simp
  rw [h]
  unfold gtP
  by_cases e : a.c = b.c
  · rw [if_neg (by simpa using e)]
    by_cases e1 : a.c = 1
    · rw [if_pos e1]; simp; omega
    · rw [if_neg e1]; simp; omega
  · rw [if_pos e]; simp; omega
/-- Along three. -/
theorem cmpP_trans {a b c : Pr} (h1 : 0 ≤ cmpP a b) (h2 : 0 ≤ cmpP b c) : 0 ≤ cmpP a c ∧ (0 < cmpP a b ∨ 0 < cmpP b c → 0 < cmpP a c) := by
  rw [cmpP_ge] at *
  rw [cmpP_gt, cmpP_gt, cmpP_gt]
  omega
theorem cmpP_zero {a b : Pr} : cmpP a b = 0 ↔ 0 ≤ cmpP a b ∧ ¬ 0 < cmpP a b := by omega
/-- Of those that may be, unlike ones are never the same. -/
theorem cmpP_may {a b : Pr} (ha : mayP a = true) (hb : mayP b = true) : (cmpP a b == 0) = eqP a b := by
  rw [Bool.eq_iff_iff]
  rw [show ((cmpP a b == 0) = true ↔ cmpP a b = 0) from by simp, cmpP_zero, cmpP_ge, cmpP_gt]
  unfold eqP mayP at *
  simp only [Bool.and_eq_true, beq_iff_eq]
  by_cases a0 : a.c = 0
  · rw [if_pos a0] at ha
    by_cases b0 : b.c = 0
    · rw [if_pos b0] at hb; simp at ha hb; omega
    · constructor <;> intro h <;> omega
  · rw [if_neg a0] at ha
    by_cases a1 : a.c = 1
    · rw [if_pos a1] at ha
      by_cases b1 : b.c = 1
      · rw [if_neg (by omega), if_pos b1] at hb; simp at ha hb; omega
      · constructor <;> intro h <;> omega
    · rw [if_neg a1] at ha
      by_cases a2 : a.c = 2
      · rw [if_pos a2] at ha
        by_cases b2 : b.c = 2
        · rw [if_neg (by omega), if_neg (by omega), if_pos b2] at hb; simp at ha hb; omega
        · constructor <;> intro h <;> omega
      · rw [if_neg a2] at ha; cases ha
theorem prio_eql (w : World) (a0 a1 a2 b0 b1 b2 : Int) : (binOp .eql 105 (.agg #[.int .i64 a0, .int .i64 a1, .int .i64 a2]) (.agg #[.int .i64 b0, .int .i64 b1, .int .i64 b2])).run Tryz.prog w = .ok (.bool (a0 == b0 && a1 == b1 && a2 == b2)) w := by
  rw [run_eql_struct, run_equalIn_agg w 9999 _ _ _ (by kernel_rfl) (by kernel_rfl)]
  simp only [Program.fieldsOf, Tryz.underlying105]
  simp [Op.eqFields, go_sem, Tryz.underlying3]
  by_cases e0 : a0 = b0 <;> by_cases e1 : a1 = b1 <;> by_cases e2 : a2 = b2 <;> simp [e0, e1, e2]
theorem prio_neq (w : World) (a0 a1 a2 b0 b1 b2 : Int) : (binOp .neq 105 (.agg #[.int .i64 a0, .int .i64 a1, .int .i64 a2]) (.agg #[.int .i64 b0, .int .i64 b1, .int .i64 b2])).run Tryz.prog w = .ok (.bool (!(a0 == b0 && a1 == b1 && a2 == b2))) w := by
  rw [run_neq_struct, run_equalIn_agg w 9999 _ _ _ (by kernel_rfl) (by kernel_rfl)]
  simp only [Program.fieldsOf, Tryz.underlying105]
  simp [Op.eqFields, go_sem, Tryz.underlying3]
  by_cases e0 : a0 = b0 <;> by_cases e1 : a1 = b1 <;> by_cases e2 : a2 = b2 <;> simp [e0, e1, e2]
end Go.Proofs.YtcmgkjjkhfcedaaGreat
/-
  The contract of Low (coxswainlaw0): some number below n.
-/
namespace Go.Proofs.YtcmgkjjkhfcedaaGreat
open Go.ChangeShapes Go.WideShapes Go.ChangeAt Go.RowKit
set_option linter.unusedVariables false
theorem low_wrapN (x : Int) (n : Nat) (hn : 0 < n) (hb : n ≤ 1000000) : ∃ r : Nat, r < n ∧ wrap64 ((IntKind.u64.wrap x).tmod (n : Int)) = r := by
  have h : IntKind.u64.wrap x = x % 18446744073709551616 := by simp [IntKind.wrap, IntKind.bits, IntKind.signed]
  rw [h, Int.tmod_eq_emod_of_nonneg (by omega)]
  have h0 : 0 ≤ (x % 18446744073709551616) % (n : Int) := Int.emod_nonneg _ (by omega)
  have h1 : (x % 18446744073709551616) % (n : Int) < n := Int.emod_lt_of_pos _ (by omega)
  generalize (x % 18446744073709551616) % (n : Int) = y at *
  obtain ⟨r, rfl⟩ := Int.eq_ofNat_of_zero_le h0
  refine ⟨r, by omega, ?_⟩
  unfold wrap64
  omega
end Go.Proofs.YtcmgkjjkhfcedaaGreat
