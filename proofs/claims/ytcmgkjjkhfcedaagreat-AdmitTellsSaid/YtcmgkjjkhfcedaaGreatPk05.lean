/-
  What the walks lean on, part 5: AdHas AdRefC GStep AdRefD.
-/
import Derived.Deep.RegionLaw
import Derived.Test.YtcmgkjjkhfcedaaGreatPk04
/-
  Whether a list of parts has one, from a place on (the law's own has), and what it finds of a list that comes along another one.
-/
namespace Go.Proofs.YtcmgkjjkhfcedaaGreat
open Go.ChangeShapes Go.WideShapes Go.ChangeAt Go.RowKit
set_option linter.unusedVariables false
set_option linter.unusedSimpArgs false
theorem quiet_hs {P : Program} {f : FuncId} {args : Array Value} {w : World} {n : Nat} {v : Value} (h : Calls P f args (w.drewN n) fun e w' => e = .returned v ∧ w.drewN n = w') : Calls P f args (w.drewN n) fun e w' => e = .returned v ∧ ∃ m, w' = w.drewN m :=
  h.mono fun e w' ⟨he, hw⟩ => ⟨he, n, hw.symm⟩
theorem pt_eql (w : World) (a b c d : Int) : (binOp .eql 36 (.agg #[.int .i64 a, .int .i64 b]) (.agg #[.int .i64 c, .int .i64 d])).run Tryz.prog w = .ok (.bool (decide (a = c) && decide (b = d))) w := by
  rw [run_eql_struct, run_equalIn_agg w 9999 _ _ _ (by kernel_rfl) (by kernel_rfl)]
  simp only [Program.fieldsOf, Tryz.underlying36]
  simp [Op.eqFields, go_sem, Tryz.underlying3]
  by_cases e0 : a = c <;> by_cases e1 : b = d <;> simp [e0, e1]
/-- The first place from k on at which a part stands: the place behind it. -/
def HasP (l : List Pt) (k : Nat) (p : Pt) (x : Int) (ok : Bool) : Prop :=
  (∃ i : Nat, k ≤ i ∧ l[i]? = some p ∧ (∀ j, k ≤ j → j < i → l[j]? ≠ some p) ∧ x = (i : Int) + 1 ∧ ok = true) ∨ ((∀ j, k ≤ j → l[j]? ≠ some p) ∧ x = 0 ∧ ok = false)
/-- One behind the other. -/
theorem sub_first {p : Pt} {r : List Pt} : ∀ {l : List Pt}, (p :: r).Sublist l → ∃ i, l[i]? = some p ∧ (∀ j, j < i → l[j]? ≠ some p) ∧ r.Sublist (l.drop (i + 1)) := by
  intro l
  induction l with
  | nil => intro h; cases h
  | cons x l ih =>
    intro h
    by_cases e : x = p
    · subst e
      exact ⟨0, rfl, fun j hj => absurd hj (by omega), by simpa using List.cons_sublist_cons.1 h⟩
    · have h2 : (p :: r).Sublist l := by
        cases h with
        | cons _ h => exact h
        | cons_cons _ h => exact absurd rfl e
      obtain ⟨i, h3, h4, h5⟩ := ih h2
      refine ⟨i + 1, by simpa using h3, fun j hj => ?_, by simpa using h5⟩
      cases j with
      | zero => simpa using e
      | succ j => simpa using h4 j (by omega)
theorem HasP.next {a b : List Pt} {k j : Nat} {p : Pt} {x : Int} {ok : Bool} (h : HasP a k p x ok) (hs : (b.drop j).Sublist (a.drop k)) (hp : b[j]? = some p) : ok = true ∧ ∃ k' : Nat, x = (k' : Int) ∧ k' ≤ a.length ∧ (b.drop (j + 1)).Sublist (a.drop k') := by
  have hj := (List.getElem?_eq_some_iff.1 hp)
  have hd : b.drop j = p :: b.drop (j + 1) := by rw [List.drop_eq_getElem_cons hj.1, hj.2]
  rw [hd] at hs
  obtain ⟨i, h1, h2, h3⟩ := sub_first hs
  rw [List.getElem?_drop] at h1
  rcases h with ⟨q, q1, q2, q3, q4, q5⟩ | ⟨q1, _, _⟩
  · have e : q = k + i := by
      rcases Nat.lt_trichotomy q (k + i) with e | e | e
      · have := h2 (q - k) (by omega)
        rw [List.getElem?_drop, show k + (q - k) = q by omega] at this
        exact absurd q2 this
      · exact e
      · exact absurd h1 (q3 (k + i) (by omega) e)
    subst e
    refine ⟨q5, k + i + 1, by rw [q4]; omega, (List.getElem?_eq_some_iff.1 q2).1, ?_⟩
    rw [List.drop_drop] at h3
    exact h3
  · exact absurd h1 (q1 (k + i) (by omega))
theorem HasP.mem {a g : List Pt} {f : List Pt} {p : Pt} {x : Int} {ok : Bool} (h : HasP a g.length p x ok) (ha : a = g ++ f) (hp : p ∈ f) : ok = true := by
  rcases h with ⟨_, _, _, _, _, e⟩ | ⟨q1, _, _⟩
  · exact e
  · obtain ⟨i, hi⟩ := List.getElem?_of_mem hp
    exact absurd (by rw [ha, List.getElem?_append_right (by omega)]; rw [show g.length + i - g.length = i by omega]; exact hi) (q1 (g.length + i) (by omega))
end Go.Proofs.YtcmgkjjkhfcedaaGreat
/-
  The document's own admit (coxswainref18): is, counts.
-/
namespace Go.Proofs.YtcmgkjjkhfcedaaGreat
open Go.ChangeShapes Go.WideShapes Go.ChangeAt Go.RowKit
set_option linter.unusedVariables false
set_option linter.unusedSimpArgs false
/-- Whether there is such a task, and the configuration may be. -/
def isC (c : Cp) (task : Int) : Bool := mayC c && decide (0 ≤ task ∧ task < (c.ts.length : Int))
set_option maxRecDepth 20000 in
set_option maxHeartbeats 4000000 in
theorem ris18_any (w : World) (c : Cf) (hc : CfFit w c) (hg : greatCf c = false) (task : Int) :
    Calls Tryz.prog 38 #[.agg (cfVals c).toArray, .int .i64 task] w fun e w' => e = .returned (.bool (isC (cpOf c) task)) ∧ Below w.heap.size w w' := by
  obtain ⟨cc, hcc⟩ : ∃ cc, cc = c := ⟨_, rfl⟩
  obtain ⟨ta, tn, tc, ts, ea, en, ec, es, ma, mn, mc, ms, ga, gn, gc, gs, frames, dog⟩ := c
  show Calls Tryz.prog 38 #[.agg #[.slice ta tn tc, .slice ea en ec, .slice ma mn mc, .slice ga gn gc, .int .i64 frames, .int .i64 dog], .int .i64 task] w _
  obtain ⟨W0, hW⟩ : ∃ W0, W0 = w.alloc (.cells #[.slice ta tn tc, .slice ea en ec, .slice ma mn mc, .slice ga gn gc, .int .i64 frames, .int .i64 dog] 27) := ⟨_, rfl⟩
  have hb := heap_alloc_new w (.cells #[.slice ta tn tc, .slice ea en ec, .slice ma mn mc, .slice ga gn gc, .int .i64 frames, .int .i64 dog] 27)
  have B0 := hide ((Below.refl w.heap.size w).alloc (Nat.le_refl _) (.cells #[.slice ta tn tc, .slice ea en ec, .slice ma mn mc, .slice ga gn gc, .int .i64 frames, .int .i64 dog] 27))
  rw [← hW] at hb B0
  have SC := hide (show ∀ Y : World, Below W0.heap.size W0 Y → Y.cell? ⟨w.heap.size, 0, none⟩ = some (.slice ta tn tc) ∧ Y.cell? ⟨w.heap.size, 1, none⟩ = some (.slice ea en ec) ∧ Y.cell? ⟨w.heap.size, 2, none⟩ = some (.slice ma mn mc) ∧ Y.cell? ⟨w.heap.size, 3, none⟩ = some (.slice ga gn gc) ∧ Y.cell? ⟨w.heap.size, 4, none⟩ = some (.int .i64 frames) ∧ Y.cell? ⟨w.heap.size, 5, none⟩ = some (.int .i64 dog) from fun Y b => by
    have e := (b.block _ (lt_of_heap hb)).trans hb
    refine ⟨?_, ?_, ?_, ?_, ?_, ?_⟩ <;> (rw [cell_of_row _ _ _ _ _ _ e]; rfl))
  obtain ⟨P, hP⟩ : ∃ P, P = mayC (cpOf cc) := ⟨_, rfl⟩
  have tn12 : tn ≤ 12 := by
    unfold greatCf at hg
    simp only [Bool.or_eq_false_iff, decide_eq_false_iff_not] at hg
    omega
  obtain ⟨T1, hT1⟩ : ∃ T1, T1 = (tn : Int) - 1 := ⟨_, rfl⟩
  have wt : IntKind.i64.wrap ((tn : Int) - 1) = T1 := by rw [hT1]; exact IntWalk.i64_in _ (by omega)
  obtain ⟨q, hq⟩ : ∃ q, q = decide (0 ≤ task ∧ task ≤ T1) := ⟨_, rfl⟩
  have IQ := hide (fun W => rin_is task 0 T1 q hq W)
  have TL : ts.length = tn := hc.tasks.reads.1
  have RV := hide (show isC (cpOf cc) task = (P && q) from by
    unfold isC
    rw [hP, hq, hT1, hcc]
    have e : (cpOf ⟨ta, tn, tc, ts, ea, en, ec, es, ma, mn, mc, ms, ga, gn, gc, gs, frames, dog⟩).ts.length = tn := by show (ts.map tpOf).length = tn; rw [List.length_map, TL]
    rw [e]
    congr 1
    rw [Bool.eq_iff_iff]
    simp only [decide_eq_true_eq]
    omega)
  have MY := hide (show Calls Tryz.prog 7 #[.agg #[.slice ta tn tc, .slice ea en ec, .slice ma mn mc, .slice ga gn gc, .int .i64 frames, .int .i64 dog]] W0 fun e w' => e = .returned (.bool P) ∧ Below W0.heap.size W0 w' from by
    have := rmayC_any W0 _ (hc.below B0.out) hg
    rw [← hcc] at this
    rw [hP]
    rw [hcc] at this ⊢
    exact this)
  rw [← hcc, RV.out]
  have HW := hide hW
  obtain ⟨k0, k1, k2, k3, k4, k5⟩ := SC.out W0 (Below.refl _ _)
  clear hc hg hW hb hP hq hT1 TL RV hcc tn12
  go_enter Tryz.func38, Tryz.ntmps38
  go_upto_region 1 with fail
  rw [← HW.out]
  cases P with
  | false =>
    go_wp2_with (go_at_call 7; refine MY.out.mono ?_; rintro e w1 ⟨rfl, b1⟩; have B1 := hide (B0.out.trans (b1.mono B0.out.size)); clear b1)
    go_ret
    exact ⟨rfl, B1.out⟩
  | true =>
    go_wp2_with (first
      | (go_at_call 7; refine MY.out.mono ?_; rintro e w1 ⟨rfl, b1⟩; have C1 := hide b1; have B1 := hide (B0.out.trans (b1.mono B0.out.size)); clear b1 k0 k1 k2 k3 k4 k5; obtain ⟨k0, k1, k2, k3, k4, k5⟩ := SC.out _ C1.out)
      | (go_at_call 29; refine (IQ.out _).mono ?_; rintro e w' ⟨rfl, rfl⟩))
    go_ret
    exact ⟨rfl, B1.out⟩
theorem tk_range {w : World} {b off n : Nat} {ts : List Tk} (h : Reads 8 tkVals w (some ⟨b, off, none⟩) n ts) {i : Nat} {t : Tk} (ht : ts[i]? = some t) : ∀ (j : Nat) (u : Value), (tkVals t)[j]? = some u → w.cell? ⟨b, off + i * 8 + j, none⟩ = some u := by
  have hi : i < n := by rw [← h.1]; exact (List.getElem?_eq_some_iff.1 ht).1
  obtain ⟨x, b', off', hx, e, hc⟩ := h.at_ hi
  injection e with e
  injection e with e1 e2
  subst e1 e2
  rw [ht] at hx
  injection hx with hx
  subst hx
  exact hc
theorem alloc_two (w : World) (a b : Obj) : ((w.alloc a).alloc b).heap[w.heap.size + 1]? = some b := by
  have := heap_alloc_new (w.alloc a) b
  simpa using this
set_option maxRecDepth 20000 in
set_option maxHeartbeats 4000000 in
theorem rcounts_any (w : World) (c : Cf) (hc : CfFit w c) {i k : Nat} {x y : Tk} (hx : c.ts[i]? = some x) (hy : c.ts[k]? = some y) :
    Calls Tryz.prog 39 #[.agg (cfVals c).toArray, .int .i64 (i : Int), .int .i64 (k : Int)] w fun e w' => e = .returned (.bool (countsT (tpOf x) (tpOf y))) ∧ Below w.heap.size w w' := by
  obtain ⟨ta, tn, tc, ts, ea, en, ec, es, ma, mn, mc, ms, ga, gn, gc, gs, frames, dog⟩ := c
  show Calls Tryz.prog 39 #[.agg #[.slice ta tn tc, .slice ea en ec, .slice ma mn mc, .slice ga gn gc, .int .i64 frames, .int .i64 dog], .int .i64 (i : Int), .int .i64 (k : Int)] w _
  obtain ⟨W0, hW⟩ : ∃ W0, W0 = w.alloc (.cells #[.slice ta tn tc, .slice ea en ec, .slice ma mn mc, .slice ga gn gc, .int .i64 frames, .int .i64 dog] 27) := ⟨_, rfl⟩
  have hb := heap_alloc_new w (.cells #[.slice ta tn tc, .slice ea en ec, .slice ma mn mc, .slice ga gn gc, .int .i64 frames, .int .i64 dog] 27)
  have B0 := hide ((Below.refl w.heap.size w).alloc (Nat.le_refl _) (.cells #[.slice ta tn tc, .slice ea en ec, .slice ma mn mc, .slice ga gn gc, .int .i64 frames, .int .i64 dog] 27))
  rw [← hW] at hb B0
  have RT := hide hc.tasks.reads
  have TL : ts.length = tn := RT.out.1
  have hi : i < tn := by have := (List.getElem?_eq_some_iff.1 hx).1; dsimp only at this; omega
  have hk : k < tn := by have := (List.getElem?_eq_some_iff.1 hy).1; dsimp only at this; omega
  obtain ⟨bt, ot, rfl⟩ : ∃ bt ot, ta = some ⟨bt, ot, none⟩ := by
    obtain ⟨_, b, off, _, e, _⟩ := RT.out.at_ hi
    exact ⟨b, off, e⟩
  have i0 : (0 : Int) ≤ (i : Int) := by omega
  have i1 : (i : Int) < (tn : Int) := by omega
  have m0 : (0 : Int) ≤ (k : Int) := by omega
  have m1 : (k : Int) < (tn : Int) := by omega
  have HX := hide hx
  have HY := hide hy
  obtain ⟨x_cls, x_lev, x_per, x_dl, x_bud, x_line, x_ua, x_un, x_uc, x_us, x_qa, x_qn, x_qc, x_qs⟩ := x
  obtain ⟨y_cls, y_lev, y_per, y_dl, y_bud, y_line, y_ua, y_un, y_uc, y_us, y_qa, y_qn, y_qc, y_qs⟩ := y
  have RG := hide (show ∀ Y : World, Below W0.heap.size W0 Y → Y.cell? ⟨w.heap.size, 0, none⟩ = some (.slice (some ⟨bt, ot, none⟩) tn tc) ∧ Y.cell? ⟨bt, ot + i * 8, none⟩ = some (.int .i64 x_cls) ∧ Y.cell? ⟨bt, ot + i * 8 + 1, none⟩ = some (.int .i64 x_lev) ∧ Y.cell? ⟨bt, ot + i * 8 + 2, none⟩ = some (.int .i64 x_per) ∧ Y.cell? ⟨bt, ot + i * 8 + 3, none⟩ = some (.int .i64 x_dl) ∧ Y.cell? ⟨bt, ot + i * 8 + 4, none⟩ = some (.int .i64 x_bud) ∧ Y.cell? ⟨bt, ot + i * 8 + 5, none⟩ = some (.int .i64 x_line) ∧ Y.cell? ⟨bt, ot + i * 8 + 6, none⟩ = some (.slice x_ua x_un x_uc) ∧ Y.cell? ⟨bt, ot + i * 8 + 7, none⟩ = some (.slice x_qa x_qn x_qc) ∧ Y.cell? ⟨bt, ot + k * 8, none⟩ = some (.int .i64 y_cls) ∧ Y.cell? ⟨bt, ot + k * 8 + 1, none⟩ = some (.int .i64 y_lev) ∧ Y.cell? ⟨bt, ot + k * 8 + 2, none⟩ = some (.int .i64 y_per) ∧ Y.cell? ⟨bt, ot + k * 8 + 3, none⟩ = some (.int .i64 y_dl) ∧ Y.cell? ⟨bt, ot + k * 8 + 4, none⟩ = some (.int .i64 y_bud) ∧ Y.cell? ⟨bt, ot + k * 8 + 5, none⟩ = some (.int .i64 y_line) ∧ Y.cell? ⟨bt, ot + k * 8 + 6, none⟩ = some (.slice y_ua y_un y_uc) ∧ Y.cell? ⟨bt, ot + k * 8 + 7, none⟩ = some (.slice y_qa y_qn y_qc) from fun Y b => by
    have B := B0.out.trans (b.mono B0.out.size)
    have rx := tk_range (RT.out.below B) HX.out
    have ry := tk_range (RT.out.below B) HY.out
    have e := (b.block _ (lt_of_heap hb)).trans hb
    exact ⟨by rw [cell_of_row _ _ _ _ _ _ e]; rfl, rx 0 _ rfl, rx 1 _ rfl, rx 2 _ rfl, rx 3 _ rfl, rx 4 _ rfl, rx 5 _ rfl, rx 6 _ rfl, rx 7 _ rfl, ry 0 _ rfl, ry 1 _ rfl, ry 2 _ rfl, ry 3 _ rfl, ry 4 _ rfl, ry 5 _ rfl, ry 6 _ rfl, ry 7 _ rfl⟩)
  have HW := hide hW
  obtain ⟨R, hR⟩ : ∃ R, R = countsT (tpOf ⟨x_cls, x_lev, x_per, x_dl, x_bud, x_line, x_ua, x_un, x_uc, x_us, x_qa, x_qn, x_qc, x_qs⟩) (tpOf ⟨y_cls, y_lev, y_per, y_dl, y_bud, y_line, y_ua, y_un, y_uc, y_us, y_qa, y_qn, y_qc, y_qs⟩) := ⟨_, rfl⟩
  have HR := hide (show R = (decide (x_cls = 1) || (decide (y_cls = 2) && decide (x_lev ≤ y_lev))) from hR)
  rw [← hR]
  clear hc hx hy hW hb hi hk TL hR
  go_enter Tryz.func39, Tryz.ntmps39
  go_upto_region 1 with fail
  rw [← HW.out]
  go_cut [7, 8] (fun p q wx => ∃ P Q : Nat, p = .pointer (some ⟨P, 0, none⟩) ∧ q = .pointer (some ⟨Q, 0, none⟩) ∧ Hid (wx.heap[P]? = some (.cells #[.int .i64 x_cls, .int .i64 x_lev, .int .i64 x_per, .int .i64 x_dl, .int .i64 x_bud, .int .i64 x_line, .slice x_ua x_un x_uc, .slice x_qa x_qn x_qc] 47 (0, 0)) ∧ wx.heap[Q]? = some (.cells #[.int .i64 y_cls, .int .i64 y_lev, .int .i64 y_per, .int .i64 y_dl, .int .i64 y_bud, .int .i64 y_line, .slice y_ua y_un y_uc, .slice y_qa y_qn y_qc] 47 (0, 0)) ∧ Below W0.heap.size W0 wx))
  case first =>
    go_region_held3 (fun W => W.cell? ⟨w.heap.size, 0, none⟩ = some (.slice (some ⟨bt, ot, none⟩) tn tc) ∧ W.cell? ⟨bt, ot + i * 8, none⟩ = some (.int .i64 x_cls) ∧ W.cell? ⟨bt, ot + i * 8 + 1, none⟩ = some (.int .i64 x_lev) ∧ W.cell? ⟨bt, ot + i * 8 + 2, none⟩ = some (.int .i64 x_per) ∧ W.cell? ⟨bt, ot + i * 8 + 3, none⟩ = some (.int .i64 x_dl) ∧ W.cell? ⟨bt, ot + i * 8 + 4, none⟩ = some (.int .i64 x_bud) ∧ W.cell? ⟨bt, ot + i * 8 + 5, none⟩ = some (.int .i64 x_line) ∧ W.cell? ⟨bt, ot + i * 8 + 6, none⟩ = some (.slice x_ua x_un x_uc) ∧ W.cell? ⟨bt, ot + i * 8 + 7, none⟩ = some (.slice x_qa x_qn x_qc) ∧ W.cell? ⟨bt, ot + k * 8, none⟩ = some (.int .i64 y_cls) ∧ W.cell? ⟨bt, ot + k * 8 + 1, none⟩ = some (.int .i64 y_lev) ∧ W.cell? ⟨bt, ot + k * 8 + 2, none⟩ = some (.int .i64 y_per) ∧ W.cell? ⟨bt, ot + k * 8 + 3, none⟩ = some (.int .i64 y_dl) ∧ W.cell? ⟨bt, ot + k * 8 + 4, none⟩ = some (.int .i64 y_bud) ∧ W.cell? ⟨bt, ot + k * 8 + 5, none⟩ = some (.int .i64 y_line) ∧ W.cell? ⟨bt, ot + k * 8 + 6, none⟩ = some (.slice y_ua y_un y_uc) ∧ W.cell? ⟨bt, ot + k * 8 + 7, none⟩ = some (.slice y_qa y_qn y_qc)) (first | exact RG.out _ (below_drewN (Below.refl _ W0) 1) | exact RG.out _ ((below_drewN (Below.refl _ W0) 1).alloc (Nat.le_refl _) _) | exact RG.out _ (((below_drewN (Below.refl _ W0) 1).alloc (Nat.le_refl _) _).alloc (by simp) _)) (fail)
    · go_wp2_with fail
      go_meet
      exact ⟨_, _, rfl, rfl, (heap_alloc_old _ _ (by simp)).trans (heap_alloc_new W0 _), (alloc_two W0 _ _), below_drewN (((Below.refl _ W0).alloc (Nat.le_refl _) _).alloc (by simp) _) 1⟩
    · go_wp2_with fail
      go_meet
      exact ⟨_, _, rfl, rfl, (alloc_two W0 _ _), (heap_alloc_old _ _ (by simp)).trans (heap_alloc_new W0 _), below_drewN (((Below.refl _ W0).alloc (Nat.le_refl _) _).alloc (by simp) _) 1⟩
  case rest =>
    obtain ⟨P, Q, rfl, rfl, hX⟩ := hcut
    rename World => w4
    have X4 := hide hX
    have B4 := hide (B0.out.trans (X4.out.2.2.mono B0.out.size))
    clear hX
    have x0 : w4.cell? ⟨P, 0, none⟩ = some (.int .i64 x_cls) := by rw [cell_of_row _ _ _ _ _ _ X4.out.1]; rfl
    have x1 : w4.cell? ⟨P, 1, none⟩ = some (.int .i64 x_lev) := by rw [cell_of_row _ _ _ _ _ _ X4.out.1]; rfl
    have y0 : w4.cell? ⟨Q, 0, none⟩ = some (.int .i64 y_cls) := by rw [cell_of_row _ _ _ _ _ _ X4.out.2.1]; rfl
    have y1 : w4.cell? ⟨Q, 1, none⟩ = some (.int .i64 y_lev) := by rw [cell_of_row _ _ _ _ _ _ X4.out.2.1]; rfl
    by_cases a0 : x_cls = 1
    · have V := hide (show R = true from by rw [HR.out]; simp [a0])
      go_wp2_with fail
      go_ret
      exact ⟨by rw [V.out]; rfl, B4.out⟩
    · by_cases a1 : y_cls = 2
      · by_cases a2 : x_lev ≤ y_lev
        · have V := hide (show R = true from by rw [HR.out]; simp [a1, a2])
          go_wp2_with fail
          go_ret
          exact ⟨by rw [V.out]; rfl, B4.out⟩
        · have V := hide (show R = false from by rw [HR.out]; simp [a0, a2])
          go_wp2_with fail
          go_ret
          exact ⟨by rw [V.out]; rfl, B4.out⟩
      · have V := hide (show R = false from by rw [HR.out]; simp [a0, a1])
        go_wp2_with fail
        go_ret
        exact ⟨by rw [V.out]; rfl, B4.out⟩
end Go.Proofs.YtcmgkjjkhfcedaaGreat
/-
  An append of elements of several cells in a region that draws; a row of one's own as one that came in.
-/
namespace Go.Proofs.YtcmgkjjkhfcedaaGreat
open Go.ChangeShapes Go.WideShapes Go.ChangeAt Go.RowKit
set_option linter.unusedVariables false
theorem step_append_reads {α : Type} {zz : Nat} {vals : α → List Value} {P : Program} {ops : Array Oper} {o : Oper} {a : Act} {w : World} {K : Act → World → Prop} {Q : Exit → Act → World → Prop} {E : Prop} (hgd : o.guard = none) (s x : Operand) (ty : TypeId)
    (ho : o.op = .call { callee := .builtin .append, args := #[s, x], argTypes := #[ty, ty] }) (base : Nat) (e : TypeId) (i : TypeInfo) (zv : Value) (bytes : Nat) (ht : P.underlying ty = some (.slice e)) (hi : P.info? e = some i) (hz : i.zero = some zv)
    (hsize : i.size = zz) (hby : i.bytes = bytes) (hzs : zv.cells.size = zz) (hsz : 0 < zz) (v : Value) (n : Nat) (xs : List Value) (hs : a.eval s = v) (hown : w.ownsRow base e zz v n xs)
    (A : Option Addr) (m c : Nat) (ys : List α) (hx : a.eval x = .slice A m c) (hv : ∀ x, (vals x).length = zz) (h1 : ∀ x, ∀ v ∈ vals x, v.oneCell' = true) (hr : Reads zz vals w A m ys) (hnil : A = none → c = 0)
    (h63 : n + m ≤ maxLen) (hbytes : (n + m) * bytes ≤ 140737488355328) (hbase : base ≤ w.heap.size)
    (h : ∀ v' w', w'.ownsRow base e zz v' (n + m) (xs ++ ys.flatMap vals) → w.grownBy w' v.ownBlock → K (a.put o.dst v') w') :
    if Region.wanted o (yielded ops a.tmps) = true then Oper.wp P o a w K Q else E := by
  have hw : Region.wanted o (yielded ops a.tmps) = true := by simp [Region.wanted, hgd]
  rw [if_pos hw]
  cases A with
  | none =>
    obtain rfl := hr.isNil rfl
    obtain rfl : ys = [] := List.eq_nil_of_length_eq_zero hr.1
    obtain rfl := hnil rfl
    have hrun := run_append_owned_none (P := P) (w := w) base ty o.type e i zz ht hi v n xs hown
    unfold Oper.wp execOp
    simp only [ho, resolve, invoke, builtin, Sem.run_bind, Sem.run_pure, Result.andThen_ok, List.map_toArray, List.map_cons, List.map_nil, hs, hx, hrun]
    exact h v w (by simpa using hown) (World.grownBy.refl w _)
  | some ad =>
    obtain ⟨v', w', hrun, h2, h3, _, _⟩ := run_append_own_at (P := P) w base ty o.type e i zv zz bytes ht hi hz hsize hby hzs hsz v n xs hown ad m c (ys.flatMap vals) (by rw [flat_length hv, hr.1]) (hr.cells hv ad rfl) (flat_cell h1 ys) h63 hbytes hbase
    unfold Oper.wp execOp
    simp only [ho, resolve, invoke, builtin, Sem.run_bind, Sem.run_pure, Result.andThen_ok, List.map_toArray, List.map_cons, List.map_nil, hs, hx, hrun]
    exact h v' w' h2 h3
theorem came_own {α : Type} {z : Nat} {vals : α → List Value} {fits : World → α → Prop} (hv : ∀ x, (vals x).length = z) (hz : 0 < z) {w : World} {B n : Nat} {e : TypeId} {v : Value} {xs : List α} (h : w.ownsRow B e z v n (xs.flatMap vals)) (hf : ∀ x ∈ xs, fits w x) : ∃ a c, v = .slice a n c ∧ Came z vals fits w a n c xs := by
  obtain ⟨a, c, rfl, h1, h2, h3, h4⟩ := own_reads hv hz h
  refine ⟨a, c, rfl, h1.1, h2, h3, h4, hf, fun hn => ?_⟩
  obtain ⟨b, off, e, hc⟩ := h1.2 hn
  refine ⟨b, off, e, ?_, hc⟩
  have hx : xs[0]? = some (xs[0]'(by rw [h1.1]; exact hn)) := List.getElem?_eq_getElem _
  have hj : 0 < (vals (xs[0]'(by rw [h1.1]; exact hn))).length := by rw [hv]; exact hz
  exact lt_of_cell? (hc 0 _ hx 0 _ (List.getElem?_eq_getElem hj))
end Go.Proofs.YtcmgkjjkhfcedaaGreat
/-
  The document's own admit (coxswainref18): Blocking (written by tools/gen/adrefd.py).
-/
namespace Go.Proofs.YtcmgkjjkhfcedaaGreat
open Go.ChangeShapes Go.WideShapes Go.ChangeAt Go.RowKit
set_option linter.unusedVariables false
set_option linter.unusedSimpArgs false
theorem sumMu_hi (ms : List Mu) (r : Int) : sumMu ms r ≤ 1099511627776 := by
  have : ∀ (ms : List Mu) (s : Int), s ≤ 1099511627776 → ms.foldl (sumS r) s ≤ 1099511627776 := by
    intro ms
    induction ms with
    | nil => intro s h; exact h
    | cons m ms ih =>
      intro s h
      rw [List.foldl_cons]
      refine ih _ ?_
      unfold sumS
      split
      · exact cl_hi _
      · exact h
  exact this ms 0 (by omega)
theorem int_info18 : (Tryz.prog.info? 3).map (fun i => (i.zero, i.size, i.bytes)) = some (some (.int .i64 0), 1, 8) := by kernel_rfl
theorem nu_ints {w : World} {a : Option Addr} {n : Nat} {zs : List Int} (h : Reads 1 nuVals w a n zs) : Ints .i64 w a n zs := by
  refine ⟨h.1, fun hn => ?_⟩
  obtain ⟨b, off, e, hc⟩ := h.2 hn
  refine ⟨b, off, e, fun j hj => ?_⟩
  have hx : zs[j]? = some (zs[j]'(by rw [h.1]; exact hj)) := List.getElem?_eq_getElem _
  have := hc j _ hx 0 _ rfl
  rw [Nat.mul_one, Nat.add_zero] at this
  rw [this, List.getD_eq_getElem?_getD, hx]
  rfl
theorem isC_some {c : Cp} {task : Int} (h : isC c task = true) : ∃ (i : Nat) (a : Tp), task = (i : Int) ∧ c.ts[i]? = some a ∧ mayC c = true := by
  unfold isC at h
  simp only [Bool.and_eq_true, decide_eq_true_eq] at h
  obtain ⟨hm, h0, h1⟩ := h
  exact ⟨task.toNat, c.ts[task.toNat]'(by omega), by omega, List.getElem?_eq_getElem _, hm⟩
theorem isC_no {c : Cp} {task : Int} (h : isC c task = false) : blkC c task = 0 ∧ partsC c task = [] ∧ RespC c task 0 false := by
  unfold isC at h
  unfold blkC partsC RespC
  by_cases hm : mayC c = true ∧ 0 ≤ task
  · rw [if_pos hm, if_pos hm, if_pos hm]
    have e : c.ts[task.toNat]? = none := by
      rw [List.getElem?_eq_none_iff]
      simp [hm.1, hm.2] at h
      omega
    rw [e]
    exact ⟨rfl, rfl, rfl, rfl⟩
  · rw [if_neg hm, if_neg hm, if_neg hm]
    exact ⟨rfl, rfl, rfl, rfl⟩
theorem uses_take {ts : List Tk} {x : Tp} {k : Nat} {y : Tk} (h : ts[k]? = some y) : usesT ((ts.take (k + 1)).map tpOf) x = usesT ((ts.take k).map tpOf) x ++ (if countsT x (tpOf y) = true then y.us else []) := by
  unfold usesT
  rw [List.take_add_one, h, List.map_append, List.filter_append, List.flatMap_append]
  congr 1
  show List.flatMap (·.us) (List.filter (countsT x) [tpOf y]) = _
  by_cases e : countsT x (tpOf y) = true
  · rw [List.filter_cons, if_pos e, if_pos e]; simp [tpOf]
  · rw [List.filter_cons, if_neg e, if_neg e]; rfl
theorem uses_len {ts : List Tk} {x : Tp} (h : ∀ t ∈ ts, t.us.length ≤ 12) : ∀ k, (usesT ((ts.take k).map tpOf) x).length ≤ 12 * k := by
  intro k
  induction k with
  | zero => simp [usesT]
  | succ k ih =>
    cases hk : ts[k]? with
    | none =>
      have e : ts.take (k + 1) = ts.take k := by rw [List.take_of_length_le (by have := List.getElem?_eq_none_iff.1 hk; omega), List.take_of_length_le (by have := List.getElem?_eq_none_iff.1 hk; omega)]
      rw [e]; omega
    | some y =>
      rw [uses_take hk, List.length_append]
      have h2 := h y (List.mem_of_getElem? hk)
      split
      · omega
      · rw [List.length_nil]; omega
set_option maxRecDepth 20000 in
set_option maxHeartbeats 8000000 in
theorem rblk18_any (w : World) (c : Cf) (hc : CfFit w c) (hg : greatCf c = false) (task : Int) :
    Calls Tryz.prog 9 #[.agg (cfVals c).toArray, .int .i64 task] w fun e w' => e = .returned (.int .i64 (blkC (cpOf c) task)) ∧ Below w.heap.size w w' := by
  obtain ⟨cc, hcc⟩ : ∃ cc, cc = c := ⟨_, rfl⟩
  have HC := hide hcc
  have HG := hide (show greatCf cc = false from by rw [hcc]; exact hg)
  have FC := hide (show CfFit w cc from by rw [hcc]; exact hc)
  obtain ⟨ta, tn, tc, ts, ea, en, ec, es, ma, mn, mc, ms, ga, gn, gc, gs, frames, dog⟩ := c
  show Calls Tryz.prog 9 #[.agg #[.slice ta tn tc, .slice ea en ec, .slice ma mn mc, .slice ga gn gc, .int .i64 frames, .int .i64 dog], .int .i64 task] w _
  have F := hide hc
  have bounds : tn ≤ 12 ∧ en ≤ 12 ∧ mn ≤ 12 ∧ gn ≤ 12 ∧ ∀ t ∈ ts, t.un ≤ 12 := by
    unfold greatCf at hg
    simp only [Bool.or_eq_false_iff, decide_eq_false_iff_not] at hg
    refine ⟨by omega, by omega, by omega, by omega, fun t ht => ?_⟩
    have h := hg.1.2
    cases e : bigTk t
    · unfold bigTk at e
      simp only [Bool.or_eq_false_iff, decide_eq_false_iff_not] at e
      omega
    · rw [List.any_eq_true.2 ⟨t, ht, e⟩] at h; cases h
  obtain ⟨tn12, en12, mn12, gn12, hun⟩ := bounds
  have HUN := hide hun
  have TN := hide tn12
  have MN := hide mn12
  have GN := hide gn12
  have RT := hide F.out.tasks.reads
  have TL := hide (show ts.length = tn from RT.out.1)
  obtain ⟨W0, hW⟩ : ∃ W0, W0 = w.alloc (.cells #[.slice ta tn tc, .slice ea en ec, .slice ma mn mc, .slice ga gn gc, .int .i64 frames, .int .i64 dog] 27) := ⟨_, rfl⟩
  have hb := heap_alloc_new w (.cells #[.slice ta tn tc, .slice ea en ec, .slice ma mn mc, .slice ga gn gc, .int .i64 frames, .int .i64 dog] 27)
  have B0 := hide ((Below.refl w.heap.size w).alloc (Nat.le_refl _) (.cells #[.slice ta tn tc, .slice ea en ec, .slice ma mn mc, .slice ga gn gc, .int .i64 frames, .int .i64 dog] 27))
  rw [← hW] at hb B0
  have SC := hide (show ∀ Y : World, Below W0.heap.size W0 Y → Y.cell? ⟨w.heap.size, 0, none⟩ = some (.slice ta tn tc) ∧ Y.cell? ⟨w.heap.size, 1, none⟩ = some (.slice ea en ec) ∧ Y.cell? ⟨w.heap.size, 2, none⟩ = some (.slice ma mn mc) ∧ Y.cell? ⟨w.heap.size, 3, none⟩ = some (.slice ga gn gc) ∧ Y.cell? ⟨w.heap.size, 4, none⟩ = some (.int .i64 frames) ∧ Y.cell? ⟨w.heap.size, 5, none⟩ = some (.int .i64 dog) from fun Y b => by
    have e := (b.block _ (lt_of_heap hb)).trans hb
    refine ⟨?_, ?_, ?_, ?_, ?_, ?_⟩ <;> (rw [cell_of_row _ _ _ _ _ _ e]; rfl))
  have HW := hide hW
  have CI := hide (show ∀ Y : World, Below W0.heap.size W0 Y → CfFit Y cc from fun Y b => (FC.out.below B0.out).below b)
  obtain ⟨k0, k1, k2, k3, k4, k5⟩ := SC.out W0 (Below.refl _ _)
  clear hcc hc hg hun hW hb tn12 en12 mn12 gn12
  obtain ⟨q, hq⟩ : ∃ q, q = isC (cpOf cc) task := ⟨_, rfl⟩
  have IS := hide (show ∀ Y : World, Below W0.heap.size W0 Y → Calls Tryz.prog 38 #[.agg #[.slice ta tn tc, .slice ea en ec, .slice ma mn mc, .slice ga gn gc, .int .i64 frames, .int .i64 dog], .int .i64 task] Y fun e w' => e = .returned (.bool q) ∧ Below Y.heap.size Y w' from fun Y b => by
    have h := ris18_any Y cc (CI.out Y b) HG.out task
    rw [← hq, HC.out] at h
    exact h)
  have HQ := hide hq
  clear hq
  obtain ⟨R, hR⟩ : ∃ R, R = blkC (cpOf cc) task := ⟨_, rfl⟩
  rw [← HC.out, ← hR]
  have HR := hide hR
  clear hR
  cases q with
  | false =>
    have V := hide (show R = 0 from by rw [HR.out]; exact (isC_no HQ.out.symm).1)
    go_enter Tryz.func9, Tryz.ntmps9
    go_upto_region 1 with fail
    rw [← HW.out]
    go_wp2_with (go_at_call 38; refine (IS.out _ (Below.refl _ _)).mono ?_; rintro e w1 ⟨rfl, b1⟩; have B1 := hide (B0.out.trans (b1.mono B0.out.size)); clear b1)
    go_ret
    exact ⟨by rw [V.out]; rfl, B1.out⟩
  | true =>
    obtain ⟨i, a, rfl, ha, hm⟩ := isC_some HQ.out.symm
    obtain ⟨x, hx, hxa⟩ : ∃ x, ts[i]? = some x ∧ tpOf x = a := by
      rw [HC.out] at ha
      obtain ⟨x, h1, h2⟩ := Option.map_eq_some_iff.1 (show (ts[i]?).map tpOf = some a from by rw [← List.getElem?_map]; exact ha)
      exact ⟨x, h1, h2⟩
    subst hxa
    have V := hide (show R = blkM ms (usesT (ts.map tpOf) (tpOf x)) from by
      rw [HR.out, blkC_at hm ha, HC.out]; rfl)
    have HX := hide hx
    have HM := hide hm
    have ULN := hide (show ∀ t ∈ ts, t.us.length ≤ 12 from fun t ht => by
      have h1 := HUN.out t ht
      have h2 := (F.out.tasks.2.2.2.2.1 t ht).uses.1
      omega)
    have CT := hide (show ∀ Y : World, Below W0.heap.size W0 Y → ∀ (k : Nat) (y : Tk), ts[k]? = some y → Calls Tryz.prog 39 #[.agg #[.slice ta tn tc, .slice ea en ec, .slice ma mn mc, .slice ga gn gc, .int .i64 frames, .int .i64 dog], .int .i64 (i : Int), .int .i64 (k : Int)] Y fun e w' => e = .returned (.bool (countsT (tpOf x) (tpOf y))) ∧ Below Y.heap.size Y w' from fun Y b k y hy => by
      have h := rcounts_any Y cc (CI.out Y b) (i := i) (k := k) (x := x) (y := y) (by rw [HC.out]; exact HX.out) (by rw [HC.out]; exact hy)
      rw [HC.out] at h
      exact h)
    obtain ⟨i0, hi0, hz0, hz1, hz2⟩ := info_parts int_info18
    have I0 := hide (show Tryz.prog.info? 3 = some i0 ∧ i0.zero = some _ ∧ i0.size = 1 ∧ i0.bytes = 8 from ⟨hi0, hz0, hz1, hz2⟩)
    clear hx ha hm hi0 hz0 hz1 hz2
    go_enter Tryz.func9, Tryz.ntmps9
    go_upto_region 1 with fail
    rw [← HW.out]
    go_wp2_with (go_at_call 38; refine (IS.out _ (Below.refl _ _)).mono ?_; rintro e w1 ⟨rfl, b1⟩; have B1 := hide b1; clear b1)
    clear k0 k1 k2 k3 k4 k5
    go_loopw [5, 6] (fun v kv wr => ∃ k : Nat, k ≤ tn ∧ kv = .int .i64 (k : Int) ∧ Hid (∃ us, us = usesT ((ts.take k).map tpOf) (tpOf x) ∧ wr.ownsRow W0.heap.size 3 1 v us.length (us.map (Value.int .i64)) ∧ Below W0.heap.size W0 wr)) (fun _ kv _ => tn - (intOf kv).toNat)
    case atStart => exact ⟨0, Nat.zero_le _, rfl, [], rfl, World.ownsRow_nil _ _ _ _, B1.out⟩
    case round =>
      obtain ⟨k, hk, rfl, hZ⟩ := hrel
      obtain ⟨us, hus, ho, hb⟩ := hZ.out
      have US := hide hus
      have O := hide ho
      have B := hide hb
      clear hZ hus ho hb
      have UB := hide (show us.length ≤ 12 * k from by rw [US.out]; exact uses_len ULN.out k)
      obtain ⟨k0, k1, k2, k3, k4, k5⟩ := SC.out wr B.out
      by_cases hlt : k < tn
      · have j0 : (0 : Int) ≤ (k : Int) := by omega
        have j1 : (k : Int) < (tn : Int) := by omega
        obtain ⟨y, bt, ot, hy, rfl, hcy⟩ := RT.out.at_ hlt
        have HY := hide hy
        have TKN := TN.out
        have CY := hide (CT.out wr B.out k y hy)
        obtain ⟨cq, hcq⟩ : ∃ cq, cq = countsT (tpOf x) (tpOf y) := ⟨_, rfl⟩
        rw [← hcq] at CY
        have NXT := hide (show usesT ((ts.take (k + 1)).map tpOf) (tpOf x) = us ++ (if cq = true then y.us else []) from by rw [uses_take hy, US.out, hcq])
        have CC := hide (show ∀ Y : World, Below W0.heap.size W0 Y → Y.cell? ⟨bt, ot + k * 8 + 6, none⟩ = some (.slice y.ua y.un y.uc) from fun Y b => ((B0.out.trans (b.mono B0.out.size)).cell (lt_of_cell? (hcy 6 _ rfl))).trans (hcy 6 _ rfl))
        have UC := hide (F.out.tasks.2.2.2.2.1 y (List.mem_of_getElem? hy)).uses
        have UN := hide (HUN.out y (List.mem_of_getElem? hy))
        clear hy hcq hcy
        cases cq with
        | false =>
          go_wp2_with (go_at_call 39; refine CY.out.mono ?_; rintro e w3 ⟨rfl, b3⟩; have C3 := hide b3; have B3 := hide (B.out.trans (b3.mono B.out.size)); clear b3)
          go_roundw
          case rel => exact ⟨k + 1, by omega, by go_num, us, by rw [NXT.out]; simp, (Touch.of_below (S := fun _ => False) C3.out).own O.out (fun _ _ e => e), B3.out⟩
          case measure => simp [intOf]; omega
        | true =>
          have YI := hide (show ∀ Y : World, Below W0.heap.size W0 Y → Ints .i64 Y y.ua y.un y.us from fun Y b => nu_ints (UC.out.reads.below (B0.out.trans (b.mono B0.out.size))))
          go_wp2_with (first
            | (go_at_call 39; refine CY.out.mono ?_; rintro e w3 ⟨rfl, b3⟩; have C3 := hide b3; have B3 := hide (B.out.trans (b3.mono B.out.size)); clear b3 k0 k1 k2 k3 k4 k5; obtain ⟨k0, k1, k2, k3, k4, k5⟩ := SC.out w3 B3.out; have cy := CC.out w3 B3.out; have O3 := hide ((Touch.of_below (S := fun _ => False) C3.out).own O.out (fun _ _ e => e)))
            | (at_builtin; refine wpList_append_src rfl (.tmp 25) (.tmp 31) _ rfl W0.heap.size 3 i0 _ 8 Tryz.underlying25 I0.out.1 I0.out.2.1 I0.out.2.2.1 I0.out.2.2.2 rfl _ _ _ rfl O3.out .i64 y.ua y.un y.uc y.us rfl (YI.out _ B3.out) UC.out.2.2.2.1 (by have := UB.out; have := UN.out; have := TN.out; unfold maxLen; omega) (by have := UB.out; have := UN.out; have := TN.out; omega) B3.out.size ?_; intro v4 w4 o4 g4 _; have O4 := hide o4; have B4 := hide (show Below W0.heap.size W0 w4 from B3.out.grown g4 B3.out.size (fun j hj => (O3.out.lt j hj).1)); clear o4 g4))
          go_roundw
          case rel => exact ⟨k + 1, by omega, by go_num, us ++ y.us, by rw [NXT.out]; simp, by rw [List.length_append, List.map_append, UC.out.1]; exact O4.out, B4.out⟩
          case measure => simp [intOf]; omega
      · obtain rfl : tn = k := by omega
        have UALL := hide (show us = usesT (ts.map tpOf) (tpOf x) from by rw [US.out, List.take_of_length_le (by have := TL.out; omega)])
        have RM := hide (show Reads 2 muVals wr ma mn ms from (F.out.mutexes.reads.below (B0.out.trans (B.out.mono B0.out.size))))
        obtain ⟨A, ca, rfl, hI, _⟩ := own_ints O.out
        have II := hide hI
        have LE := hide (rleast_any ma mn mc ms A us.length ca us wr RM.out hI (by have := MN.out; unfold maxLen; omega) (by have := UB.out; have := TN.out; unfold maxLen; omega))
        have SU := hide (show ∀ (Y : World), Below wr.heap.size wr Y → ∀ r, Calls Tryz.prog 41 #[.slice ma mn mc, .int .i64 r] Y fun e w' => e = .returned (.int .i64 (sumMu ms r)) ∧ Below Y.heap.size Y w' from fun Y b r => (rsum10_any ma mn mc ms r Y (RM.out.below b) (by have := MN.out; unfold maxLen; omega)).mono (by rintro e w' ⟨rfl, h⟩; exact ⟨rfl, by first | exact h | (rw [← h]; exact Below.refl _ _) | (obtain ⟨q, rfl⟩ := h; exact below_drewN (Below.refl _ _) q)⟩))
        obtain ⟨lr, hlr⟩ : ∃ lr, lr = (leastMu ms us).1 := ⟨_, rfl⟩
        obtain ⟨la, hla⟩ : ∃ la, la = (leastMu ms us).2 := ⟨_, rfl⟩
        rw [← hlr, ← hla] at LE
        have VV := hide (show R = 11 + (if la = true then sumMu ms lr else 0) from by rw [V.out, ← UALL.out, hlr, hla]; rfl)
        obtain ⟨sm, hsm⟩ : ∃ sm, sm = sumMu ms lr := ⟨_, rfl⟩
        have SU1 := hide (show ∀ (Y : World), Below wr.heap.size wr Y → Calls Tryz.prog 41 #[.slice ma mn mc, .int .i64 lr] Y fun e w' => e = .returned (.int .i64 sm) ∧ Below Y.heap.size Y w' from fun Y b => by rw [hsm]; exact SU.out Y b lr)
        obtain ⟨TOP, hTOP⟩ : ∃ TOP, TOP = 11 + sm := ⟨_, rfl⟩
        have wS : IntKind.i64.wrap (11 + sm) = TOP := by rw [hTOP]; exact IntWalk.i64_in _ (by have := sumMu_hi ms lr; have := sumMu_lo ms lr; omega)
        rw [← hsm] at VV
        have HTOP := hide hTOP
        clear hTOP hlr hla hsm hI RM
        cases la with
        | false =>
          go_wp2_with (go_at_call 40; refine LE.out.mono ?_; rintro e w5 ⟨rfl, q5, rfl⟩; have B5 := hide (show Below W0.heap.size W0 (wr.drewN q5) from below_drewN B.out q5))
          go_ret
          exact ⟨by rw [VV.out]; rfl, B0.out.trans (B5.out.mono B0.out.size)⟩
        | true =>
          have VT := hide (show R = TOP from by rw [VV.out, HTOP.out]; rfl)
          go_wp2_with (first
            | (go_at_call 40; refine LE.out.mono ?_; rintro e w5 ⟨rfl, q5, rfl⟩; obtain ⟨w6, hw6⟩ : ∃ w6, w6 = wr.drewN q5 := ⟨_, rfl⟩; rw [← hw6]; have C6 := hide (show Below wr.heap.size wr w6 from by rw [hw6]; exact below_drewN (Below.refl _ _) q5); clear hw6 k0 k1 k2 k3 k4 k5; obtain ⟨k0, k1, k2, k3, k4, k5⟩ := SC.out w6 (B.out.trans (C6.out.mono B.out.size)))
            | (go_at_call 41; refine (SU1.out _ C6.out).mono ?_; rintro e w7 ⟨rfl, b7⟩; have B7 := hide ((B.out.trans (C6.out.mono B.out.size)).trans (b7.mono (B.out.trans (C6.out.mono B.out.size)).size)); clear b7))
          go_ret
          exact ⟨by rw [VT.out]; rfl, B0.out.trans (B7.out.mono B0.out.size)⟩
end Go.Proofs.YtcmgkjjkhfcedaaGreat
