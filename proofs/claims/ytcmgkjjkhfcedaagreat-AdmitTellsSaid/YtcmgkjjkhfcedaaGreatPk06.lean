/-
  What the walks lean on, part 6: AdRefE DmAlone RtBoth DmBoth DmGrows AdRefF NumSumW.
-/
import Derived.Test.YtcmgkjjkhfcedaaGreatPk05
/-
  The document's own admit (coxswainref18): Parts (written by tools/gen/adrefe.py).
-/
namespace Go.Proofs.YtcmgkjjkhfcedaaGreat
open Go.ChangeShapes Go.WideShapes Go.ChangeAt Go.RowKit
set_option linter.unusedVariables false
set_option linter.unusedSimpArgs false
theorem rbuilt_part (a b : Int) : Tryz.prog.built 37 [(0, .int .i64 a), (1, .int .i64 b)] = some #[.int .i64 a, .int .i64 b] := by kernel_rfl
theorem rpart_info18 : (Tryz.prog.info? 37).map (fun i => (i.zero, i.size, i.bytes)) = some (some (.agg #[.int .i64 0, .int .i64 0]), 2, 16) := by kernel_rfl
theorem part_block {w : World} {g : Nat} {a b : Int} {t : TypeId} (h : w.heap[g]? = some (.cells #[.int .i64 a, .int .i64 b] t (0, 0))) : Reads 2 ptVals w (some ⟨g, 0, none⟩) 1 [⟨a, b⟩] := by
  refine ⟨rfl, fun _ => ⟨g, 0, rfl, fun i x hx j u hu => ?_⟩⟩
  have hi : i = 0 := by have := (List.getElem?_eq_some_iff.1 hx).1; simp at this; omega
  subst hi
  injection hx with hx
  subst hx
  rw [show 0 + 0 * 2 + j = j from by omega, cell_of_row _ _ _ _ _ _ h, List.getElem?_toArray]
  exact hu
/-- The tasks that come ahead of the one at i, of the first k. -/
def aheadL (ts : List Tk) (i : Nat) (x : Tp) (k : Nat) : List Pt := (((ts.take k).map tpOf).zipIdx.filter fun p => decide (p.2 ≠ i) && (decide (p.1.cls = 2) && countsT x p.1)).map fun p => partT p.1
theorem aheadL_next {ts : List Tk} {i k : Nat} {x : Tp} {y : Tk} (h : ts[k]? = some y) : aheadL ts i x (k + 1) = aheadL ts i x k ++ (if (decide (k ≠ i) && (decide (y.cls = 2) && countsT x (tpOf y))) = true then [partT (tpOf y)] else []) := by
  have hk := (List.getElem?_eq_some_iff.1 h).1
  unfold aheadL
  rw [List.take_add_one, h, List.map_append, List.zipIdx_append, List.filter_append, List.map_append]
  congr 1
  have e : (0 + ((ts.take k).map tpOf).length) = k := by rw [List.length_map, List.length_take]; omega
  rw [e]
  show List.map (fun p => partT p.1) (List.filter _ [(tpOf y, k)]) = _
  by_cases hh : (decide (k ≠ i) && (decide (y.cls = 2) && countsT x (tpOf y))) = true
  · rw [if_pos hh, List.filter_cons, if_pos (by exact hh)]; rfl
  · rw [if_neg hh, List.filter_cons, if_neg (by exact hh)]; rfl
theorem zip_erase {α β : Type} (f : α → β) (p : α → Bool) : ∀ (l : List α) (i s : Nat), ((l.zipIdx s).filter fun q => decide (q.2 ≠ s + i) && p q.1).map (fun q => f q.1) = ((l.eraseIdx i).filter p).map f := by
  intro l
  induction l with
  | nil => intro i s; rfl
  | cons a l ih =>
    intro i s
    rw [List.zipIdx_cons, List.filter_cons]
    cases i with
    | zero =>
      rw [if_neg (by simp)]
      show _ = (l.filter p).map f
      have aux : ∀ (l : List α) (s n : Nat), n < s → ((l.zipIdx s).filter fun q => decide (q.2 ≠ n) && p q.1).map (fun q => f q.1) = (l.filter p).map f := by
        intro l
        induction l with
        | nil => intro s n _; rfl
        | cons b l ih2 =>
          intro s n hs
          rw [List.zipIdx_cons, List.filter_cons, List.filter_cons]
          have e : decide ((b, s).2 ≠ n) = true := decide_eq_true (by show s ≠ n; omega)
          rw [e, Bool.true_and]
          split
          · rw [List.map_cons, List.map_cons, ih2 (s + 1) n (by omega)]
          · exact ih2 (s + 1) n (by omega)
      exact aux l (s + 1) (s + 0) (by omega)
    | succ i =>
      have e : decide ((a, s).2 ≠ s + (i + 1)) = true := decide_eq_true (by show s ≠ s + (i + 1); omega)
      rw [e, Bool.true_and]
      have h2 := ih i (s + 1)
      rw [show s + 1 + i = s + (i + 1) by omega] at h2
      show _ = ((a :: l.eraseIdx i).filter p).map f
      rw [List.filter_cons]
      split
      · rw [List.map_cons, List.map_cons, h2]
      · exact h2
theorem aheadL_all (ts : List Tk) (i : Nat) (x : Tp) : aheadL ts i x ts.length = (((ts.map tpOf).eraseIdx i).filter fun b => decide (b.cls = 2) && countsT x b).map partT := by
  unfold aheadL
  rw [List.take_of_length_le (Nat.le_refl _)]
  have := zip_erase partT (fun b => decide (b.cls = 2) && countsT x b) (ts.map tpOf) i 0
  rw [Nat.zero_add] at this
  exact this
theorem aheadL_len {ts : List Tk} {i : Nat} {x : Tp} : ∀ k, (aheadL ts i x k).length ≤ k := by
  intro k
  unfold aheadL
  rw [List.length_map]
  refine Nat.le_trans (List.length_filter_le _ _) ?_
  rw [List.length_zipIdx, List.length_map, List.length_take]
  omega
set_option maxRecDepth 20000 in
set_option maxHeartbeats 8000000 in
theorem rparts18_any (w : World) (c : Cf) (hc : CfFit w c) (hg : greatCf c = false) (task : Int) :
    Calls Tryz.prog 11 #[.agg (cfVals c).toArray, .int .i64 task] w fun e w' => ∃ v, e = .returned v ∧ w'.ownsRow w.heap.size 37 2 v (partsC (cpOf c) task).length ((partsC (cpOf c) task).flatMap ptVals) ∧ Below w.heap.size w w' := by
  obtain ⟨cc, hcc⟩ : ∃ cc, cc = c := ⟨_, rfl⟩
  have HC := hide hcc
  have HG := hide (show greatCf cc = false from by rw [hcc]; exact hg)
  have FC := hide (show CfFit w cc from by rw [hcc]; exact hc)
  obtain ⟨ta, tn, tc, ts, ea, en, ec, es, ma, mn, mc, ms, ga, gn, gc, gs, frames, dog⟩ := c
  show Calls Tryz.prog 11 #[.agg #[.slice ta tn tc, .slice ea en ec, .slice ma mn mc, .slice ga gn gc, .int .i64 frames, .int .i64 dog], .int .i64 task] w _
  have F := hide hc
  have bounds : tn ≤ 12 ∧ en ≤ 12 ∧ mn ≤ 12 ∧ gn ≤ 12 ∧ ∀ t ∈ ts, t.un ≤ 12 := by
    unfold greatCf at hg
    simp only [Bool.or_eq_false_iff, decide_eq_false_iff_not] at hg
    refine ⟨by omega, by omega, by omega, by omega, fun t ht => ?_⟩
    have h := hg.1.2
    cases e : bigTk t
    · unfold bigTk at e
      simp only [Bool.or_eq_false_iff, decide_eq_false_iff_not] at e
      omega
    · rw [List.any_eq_true.2 ⟨t, ht, e⟩] at h; cases h
  obtain ⟨tn12, en12, mn12, gn12, hun⟩ := bounds
  have HUN := hide hun
  have TN := hide tn12
  have MN := hide mn12
  have GN := hide gn12
  have RT := hide F.out.tasks.reads
  have TL := hide (show ts.length = tn from RT.out.1)
  obtain ⟨W0, hW⟩ : ∃ W0, W0 = w.alloc (.cells #[.slice ta tn tc, .slice ea en ec, .slice ma mn mc, .slice ga gn gc, .int .i64 frames, .int .i64 dog] 27) := ⟨_, rfl⟩
  have hb := heap_alloc_new w (.cells #[.slice ta tn tc, .slice ea en ec, .slice ma mn mc, .slice ga gn gc, .int .i64 frames, .int .i64 dog] 27)
  have B0 := hide ((Below.refl w.heap.size w).alloc (Nat.le_refl _) (.cells #[.slice ta tn tc, .slice ea en ec, .slice ma mn mc, .slice ga gn gc, .int .i64 frames, .int .i64 dog] 27))
  rw [← hW] at hb B0
  have SC := hide (show ∀ Y : World, Below W0.heap.size W0 Y → Y.cell? ⟨w.heap.size, 0, none⟩ = some (.slice ta tn tc) ∧ Y.cell? ⟨w.heap.size, 1, none⟩ = some (.slice ea en ec) ∧ Y.cell? ⟨w.heap.size, 2, none⟩ = some (.slice ma mn mc) ∧ Y.cell? ⟨w.heap.size, 3, none⟩ = some (.slice ga gn gc) ∧ Y.cell? ⟨w.heap.size, 4, none⟩ = some (.int .i64 frames) ∧ Y.cell? ⟨w.heap.size, 5, none⟩ = some (.int .i64 dog) from fun Y b => by
    have e := (b.block _ (lt_of_heap hb)).trans hb
    refine ⟨?_, ?_, ?_, ?_, ?_, ?_⟩ <;> (rw [cell_of_row _ _ _ _ _ _ e]; rfl))
  have HW := hide hW
  have CI := hide (show ∀ Y : World, Below W0.heap.size W0 Y → CfFit Y cc from fun Y b => (FC.out.below B0.out).below b)
  obtain ⟨k0, k1, k2, k3, k4, k5⟩ := SC.out W0 (Below.refl _ _)
  clear hcc hc hg hun hW hb tn12 en12 mn12 gn12
  obtain ⟨q, hq⟩ : ∃ q, q = isC (cpOf cc) task := ⟨_, rfl⟩
  have IS := hide (show ∀ Y : World, Below W0.heap.size W0 Y → Calls Tryz.prog 38 #[.agg #[.slice ta tn tc, .slice ea en ec, .slice ma mn mc, .slice ga gn gc, .int .i64 frames, .int .i64 dog], .int .i64 task] Y fun e w' => e = .returned (.bool q) ∧ Below Y.heap.size Y w' from fun Y b => by
    have h := ris18_any Y cc (CI.out Y b) HG.out task
    rw [← hq, HC.out] at h
    exact h)
  have HQ := hide hq
  clear hq
  obtain ⟨R, hR⟩ : ∃ R, R = partsC (cpOf cc) task := ⟨_, rfl⟩
  rw [← HC.out, ← hR]
  have HR := hide hR
  clear hR
  cases q with
  | false =>
    have V := hide (show R = [] from by rw [HR.out]; exact (isC_no HQ.out.symm).2.1)
    go_enter Tryz.func11, Tryz.ntmps11
    go_upto_region 1 with fail
    rw [← HW.out]
    go_wp2_with (go_at_call 38; refine (IS.out _ (Below.refl _ _)).mono ?_; rintro e w1 ⟨rfl, b1⟩; have B1 := hide (B0.out.trans (b1.mono B0.out.size)); clear b1)
    go_ret
    exact ⟨_, rfl, by rw [V.out]; exact World.ownsRow_nil _ _ _ _, B1.out⟩
  | true =>
    obtain ⟨i, a, rfl, ha, hm⟩ := isC_some HQ.out.symm
    obtain ⟨x, hx, hxa⟩ : ∃ x, ts[i]? = some x ∧ tpOf x = a := by
      rw [HC.out] at ha
      obtain ⟨x, h1, h2⟩ := Option.map_eq_some_iff.1 (show (ts[i]?).map tpOf = some a from by rw [← List.getElem?_map]; exact ha)
      exact ⟨x, h1, h2⟩
    subst hxa
    have V := hide (show R = gs.map gapT ++ aheadL ts i (tpOf x) ts.length from by
      rw [HR.out]
      unfold partsC
      rw [if_pos ⟨hm, by omega⟩, Int.toNat_natCast, ha, aheadL_all, HC.out]
      rfl)
    have HX := hide hx
    have RGG := hide F.out.gaps.reads
    have GL := hide (show gs.length = gn from RGG.out.1)
    have CT := hide (show ∀ Y : World, Below W0.heap.size W0 Y → ∀ (k : Nat) (y : Tk), ts[k]? = some y → Calls Tryz.prog 39 #[.agg #[.slice ta tn tc, .slice ea en ec, .slice ma mn mc, .slice ga gn gc, .int .i64 frames, .int .i64 dog], .int .i64 (i : Int), .int .i64 (k : Int)] Y fun e w' => e = .returned (.bool (countsT (tpOf x) (tpOf y))) ∧ Below Y.heap.size Y w' from fun Y b k y hy => by
      have h := rcounts_any Y cc (CI.out Y b) (i := i) (k := k) (x := x) (y := y) (by rw [HC.out]; exact HX.out) (by rw [HC.out]; exact hy)
      rw [HC.out] at h
      exact h)
    obtain ⟨i0, hi0, hz0, hz1, hz2⟩ := info_parts rpart_info18
    have I0 := hide (show Tryz.prog.info? 37 = some i0 ∧ i0.zero = some _ ∧ i0.size = 2 ∧ i0.bytes = 16 from ⟨hi0, hz0, hz1, hz2⟩)
    have BP := hide rbuilt_part
    clear hx ha hm hi0 hz0 hz1 hz2
    go_enter Tryz.func11, Tryz.ntmps11
    go_upto_region 1 with fail
    rw [← HW.out]
    go_wp2_with (go_at_call 38; refine (IS.out _ (Below.refl _ _)).mono ?_; rintro e w1 ⟨rfl, b1⟩; have B1 := hide b1; clear b1)
    clear k0 k1 k2 k3 k4 k5
    go_loopw [5, 6] (fun v kv wr => ∃ k : Nat, k ≤ gn ∧ kv = .int .i64 (k : Int) ∧ Hid (wr.ownsRow W0.heap.size 37 2 v k (((gs.take k).map gapT).flatMap ptVals) ∧ Below W0.heap.size W0 wr)) (fun _ kv _ => gn - (intOf kv).toNat)
    case atStart => exact ⟨0, Nat.zero_le _, rfl, World.ownsRow_nil _ _ _ _, B1.out⟩
    case round =>
      obtain ⟨k, hk, rfl, hZ⟩ := hrel
      have O := hide hZ.out.1
      have B := hide hZ.out.2
      clear hZ
      obtain ⟨k0, k1, k2, k3, k4, k5⟩ := SC.out wr B.out
      have GNN := GN.out
      by_cases hlt : k < gn
      · have j0 : (0 : Int) ≤ (k : Int) := by omega
        have j1 : (k : Int) < (gn : Int) := by omega
        obtain ⟨u, b, off, hu, rfl, hcu⟩ := RGG.out.at_ hlt
        have cu : wr.cell? ⟨b, off + k, none⟩ = some (.int .i64 u) := by
          have h := hcu 0 _ rfl
          rw [Nat.mul_one, Nat.add_zero] at h
          exact ((B0.out.trans (B.out.mono B0.out.size)).cell (lt_of_cell? h)).trans h
        have hbp := BP.out u 2
        have NX := hide (show ((gs.take (k + 1)).map gapT).flatMap ptVals = ((gs.take k).map gapT).flatMap ptVals ++ [(⟨u, 2⟩ : Pt)].flatMap ptVals from by rw [List.take_add_one, hu, List.map_append, List.flatMap_append]; rfl)
        obtain ⟨wa, hwa⟩ : ∃ wa, wa = wr.alloc (.cells #[.int .i64 u, .int .i64 2] 37) := ⟨_, rfl⟩
        have RA := hide (show Reads 2 ptVals wa (some ⟨wr.heap.size, 0, none⟩) 1 [⟨u, 2⟩] from by rw [hwa]; exact part_block (heap_alloc_new wr _))
        have OA := hide (show wa.ownsRow W0.heap.size 37 2 _ k (((gs.take k).map gapT).flatMap ptVals) from by rw [hwa]; exact O.out.alloc _)
        have BA := hide (show Below W0.heap.size W0 wa from by rw [hwa]; exact B.out.alloc B.out.size _)
        clear hu hcu
        subst hwa
        go_wp2_with (first
          | (refine wpList_build rfl 37 _ rfl (by kernel_rfl) ?_)
          | (at_builtin; refine wpList_append_reads rfl (.tmp 20) (.tmp 27) _ rfl W0.heap.size 37 i0 _ 16 Tryz.underlying33 I0.out.1 I0.out.2.1 I0.out.2.2.1 I0.out.2.2.2 rfl (by omega) _ k _ rfl OA.out _ 1 _ [(⟨u, 2⟩ : Pt)] rfl ptVals_len ptVals_cell RA.out (fun h => by cases h) (by unfold maxLen; omega) (by omega) BA.out.size ?_; intro v4 w4 o4 g4; have O4 := hide o4; have B4 := hide (show Below W0.heap.size W0 w4 from BA.out.grown g4 BA.out.size (fun j hj => (OA.out.lt j hj).1)); clear o4 g4))
        go_roundw
        case rel => exact ⟨k + 1, by omega, by go_num, by rw [NX.out]; exact O4.out, B4.out⟩
        case measure => simp [intOf]; omega
      · obtain rfl : gn = k := by omega
        have O := hide (show wr.ownsRow W0.heap.size 37 2 _ gn ((gs.map gapT).flatMap ptVals) from by have h := O.out; rw [List.take_of_length_le (by have := GL.out; omega)] at h; exact h)
        clear hk hlt
        go_wp2_with fail
        go_loopw [5, 7] (fun v kv wx => ∃ k : Nat, k ≤ tn ∧ kv = .int .i64 (k : Int) ∧ Hid (wx.ownsRow W0.heap.size 37 2 v (gn + (aheadL ts i (tpOf x) k).length) ((gs.map gapT ++ aheadL ts i (tpOf x) k).flatMap ptVals) ∧ Below W0.heap.size W0 wx)) (fun _ kv _ => tn - (intOf kv).toNat)
        case atStart => exact ⟨0, Nat.zero_le _, rfl, by rw [show aheadL ts i (tpOf x) 0 = [] from rfl, List.append_nil]; exact O.out, B.out⟩
        case round =>
          obtain ⟨k, hk, rfl, hZ⟩ := hrel
          rename World => wx
          clear O B k0 k1 k2 k3 k4 k5
          have O := hide hZ.out.1
          have B := hide hZ.out.2
          clear hZ
          obtain ⟨k0, k1, k2, k3, k4, k5⟩ := SC.out wx B.out
          by_cases hlt : k < tn
          · have j0 : (0 : Int) ≤ (k : Int) := by omega
            have j1 : (k : Int) < (tn : Int) := by omega
            have TKN := TN.out
            obtain ⟨y, bt, ot, hy, rfl, hcy⟩ := RT.out.at_ hlt
            have NXT := hide (aheadL_next (i := i) (x := tpOf x) hy)
            have CY := hide (CT.out wx B.out k y hy)
            have CC := hide (show ∀ Y : World, Below W0.heap.size W0 Y → Y.cell? ⟨bt, ot + k * 8, none⟩ = some (.int .i64 y.cls) ∧ Y.cell? ⟨bt, ot + k * 8 + 2, none⟩ = some (.int .i64 y.per) ∧ Y.cell? ⟨bt, ot + k * 8 + 4, none⟩ = some (.int .i64 y.bud) from fun Y b => ⟨((B0.out.trans (b.mono B0.out.size)).cell (lt_of_cell? (hcy 0 _ rfl))).trans (hcy 0 _ rfl), ((B0.out.trans (b.mono B0.out.size)).cell (lt_of_cell? (hcy 2 _ rfl))).trans (hcy 2 _ rfl), ((B0.out.trans (b.mono B0.out.size)).cell (lt_of_cell? (hcy 4 _ rfl))).trans (hcy 4 _ rfl)⟩)
            obtain ⟨cq, hcq⟩ : ∃ cq, cq = countsT (tpOf x) (tpOf y) := ⟨_, rfl⟩
            obtain ⟨ycls, hycls⟩ : ∃ z, z = y.cls := ⟨_, rfl⟩
            obtain ⟨yper, hyper⟩ : ∃ z, z = y.per := ⟨_, rfl⟩
            obtain ⟨ybud, hybud⟩ : ∃ z, z = y.bud := ⟨_, rfl⟩
            rw [← hcq] at CY
            rw [← hycls, ← hyper, ← hybud] at CC
            rw [← hcq, ← hycls] at NXT
            have PT := hide (show partT (tpOf y) = ⟨yper, ybud⟩ from by rw [hyper, hybud]; rfl)
            have ALN := hide (aheadL_len (ts := ts) (i := i) (x := tpOf x) k)
            obtain ⟨c0, c2, c4⟩ := CC.out wx B.out
            clear hy hcq hcy hycls hyper hybud
            by_cases e0 : (k : Int) = (i : Int)
            · have NN := hide (show aheadL ts i (tpOf x) (k + 1) = aheadL ts i (tpOf x) k from by rw [NXT.out, show decide (k ≠ i) = false from decide_eq_false (by omega)]; simp)
              have f0 : ((k : Int) = (i : Int)) = True := eq_true e0
              clear e0
              go_wp2_with fail
              go_roundw
              case rel => exact ⟨k + 1, by omega, by go_num, by rw [NN.out]; exact O.out, B.out⟩
              case measure => simp [intOf]; omega
            · by_cases e1 : ycls = 2
              · subst e1
                cases cq with
                | false =>
                  have NN := hide (show aheadL ts i (tpOf x) (k + 1) = aheadL ts i (tpOf x) k from by rw [NXT.out]; simp)
                  go_wp2_with (go_at_call 39; refine CY.out.mono ?_; rintro e w3 ⟨rfl, b3⟩; have C3 := hide b3; have B3 := hide (B.out.trans (b3.mono B.out.size)); clear b3)
                  go_roundw
                  case rel => exact ⟨k + 1, by omega, by go_num, by rw [NN.out]; exact (Touch.of_below (S := fun _ => False) C3.out).own O.out (fun _ _ e => e), B3.out⟩
                  case measure => simp [intOf]; omega
                | true =>
                  have NN := hide (show aheadL ts i (tpOf x) (k + 1) = aheadL ts i (tpOf x) k ++ [⟨yper, ybud⟩] from by rw [NXT.out, show decide (k ≠ i) = true from decide_eq_true (by omega), PT.out]; simp)
                  go_upto_region 12 with (go_at_call 39; refine CY.out.mono ?_; rintro e w3 ⟨rfl, b3⟩; have C3 := hide b3; have B3 := hide (B.out.trans (b3.mono B.out.size)); clear b3)
                  clear c0 c2 c4 k0 k1 k2 k3 k4 k5
                  rename_i Q9 K9 a9 h9
                  have O3 := hide ((Touch.of_below (S := fun _ => False) C3.out).own O.out (fun _ _ e => e))
                  have D1 := hide (show Below w3.heap.size w3 w3.drew from below_drewN (Below.refl _ w3) 1)
                  have SF := hide (show ∀ Y : World, Below w3.heap.size w3 Y → Y.cell? ⟨w.heap.size, 0, none⟩ = some (.slice (some ⟨bt, ot, none⟩) tn tc) ∧ Y.cell? ⟨bt, ot + k * 8 + 2, none⟩ = some (.int .i64 yper) ∧ Y.cell? ⟨bt, ot + k * 8 + 4, none⟩ = some (.int .i64 ybud) from fun Y b => ⟨(SC.out Y (B3.out.trans (b.mono B3.out.size))).1, (CC.out Y (B3.out.trans (b.mono B3.out.size))).2.1, (CC.out Y (B3.out.trans (b.mono B3.out.size))).2.2⟩)
                  have SF2 := hide (show ∀ Y : World, Below W0.heap.size W0 Y → Y.cell? ⟨w.heap.size, 0, none⟩ = some (.slice (some ⟨bt, ot, none⟩) tn tc) ∧ Y.cell? ⟨bt, ot + k * 8 + 2, none⟩ = some (.int .i64 yper) ∧ Y.cell? ⟨bt, ot + k * 8 + 4, none⟩ = some (.int .i64 ybud) from fun Y b => ⟨(SC.out Y b).1, (CC.out Y b).2.1, (CC.out Y b).2.2⟩)
                  have hbp := BP.out yper ybud
                  obtain ⟨L, hL⟩ : ∃ L, L = aheadL ts i (tpOf x) k := ⟨_, rfl⟩
                  rw [← hL] at O3 NN ALN
                  clear hL
                  refine wp_region_noPanic ?_
                  refine wp_region_held_drew (S := (fun W => W.cell? ⟨w.heap.size, 0, none⟩ = some (.slice (some ⟨bt, ot, none⟩) tn tc) ∧ W.cell? ⟨bt, ot + k * 8 + 2, none⟩ = some (.int .i64 yper) ∧ W.cell? ⟨bt, ot + k * 8 + 4, none⟩ = some (.int .i64 ybud))) (by kernel_rfl) (SF.out _ D1.out) (fun hHeld => ?_)
                  refine wpAnyH_take (i := 0) (v := ?_) rfl (by kernel_rfl) (by kernel_rfl) (by kernel_rfl) (fun _ _ _ h => h) (Or.inl ⟨by kernel_rfl, ?_⟩) (by assumption) ?_
                  rotate_left
                  · intro w hSw
                    (try dsimp only at hSw)
                    go_simp
                    try with_reducible rfl
                  try simp only [Act.put, List.getElem_toArray, List.getElem_cons_zero, List.getElem_cons_succ, List.setIfInBounds_toArray, List.set_cons_zero, List.set_cons_succ]
                  refine wpAnyH_take (i := 1) (v := ?_) rfl (by kernel_rfl) (by kernel_rfl) (by kernel_rfl) (fun _ _ _ h => h) (Or.inl ⟨by kernel_rfl, ?_⟩) (by assumption) ?_
                  rotate_left
                  · intro w hSw
                    (try dsimp only at hSw)
                    go_simp
                    try with_reducible rfl
                  try simp only [Act.put, List.getElem_toArray, List.getElem_cons_zero, List.getElem_cons_succ, List.setIfInBounds_toArray, List.set_cons_zero, List.set_cons_succ]
                  refine wpAnyH_take (i := 2) (v := ?_) rfl (by kernel_rfl) (by kernel_rfl) (by kernel_rfl) (fun _ _ _ h => h) (Or.inl ⟨by kernel_rfl, ?_⟩) (by assumption) ?_
                  rotate_left
                  · intro w hSw
                    (try dsimp only at hSw)
                    go_simp
                    try with_reducible rfl
                  try simp only [Act.put, List.getElem_toArray, List.getElem_cons_zero, List.getElem_cons_succ, List.setIfInBounds_toArray, List.set_cons_zero, List.set_cons_succ]
                  refine wpAnyH_take (i := 3) (v := ?_) rfl (by kernel_rfl) (by kernel_rfl) (by kernel_rfl) (fun _ _ _ h => h) (Or.inl ⟨by kernel_rfl, ?_⟩) (by assumption) ?_
                  rotate_left
                  · intro w hSw
                    (try dsimp only at hSw)
                    go_simp
                    try with_reducible rfl
                  try simp only [Act.put, List.getElem_toArray, List.getElem_cons_zero, List.getElem_cons_succ, List.setIfInBounds_toArray, List.set_cons_zero, List.set_cons_succ]
                  refine wpAnyH_take (i := 4) (v := ?_) rfl (by kernel_rfl) (by kernel_rfl) (by kernel_rfl) (fun _ _ _ h => h) (Or.inl ⟨by kernel_rfl, ?_⟩) (by assumption) ?_
                  rotate_left
                  · intro w hSw
                    (try dsimp only at hSw)
                    go_simp
                    try with_reducible rfl
                  try simp only [Act.put, List.getElem_toArray, List.getElem_cons_zero, List.getElem_cons_succ, List.setIfInBounds_toArray, List.set_cons_zero, List.set_cons_succ]
                  refine wpAnyH_take (i := 5) (v := ?_) rfl (by kernel_rfl) (by kernel_rfl) (by kernel_rfl) (fun _ _ _ h => h) (Or.inl ⟨by kernel_rfl, ?_⟩) (by assumption) ?_
                  rotate_left
                  · intro w hSw
                    (try dsimp only at hSw)
                    go_simp
                    try with_reducible rfl
                  try simp only [Act.put, List.getElem_toArray, List.getElem_cons_zero, List.getElem_cons_succ, List.setIfInBounds_toArray, List.set_cons_zero, List.set_cons_succ]
                  refine wpAnyH_take (i := 6) (v := ?_) rfl (by kernel_rfl) (by kernel_rfl) (by kernel_rfl) (fun _ _ _ h => h) (Or.inl ⟨by kernel_rfl, ?_⟩) (by assumption) ?_
                  rotate_left
                  · intro w hSw
                    (try dsimp only at hSw)
                    go_simp
                    try with_reducible rfl
                  try simp only [Act.put, List.getElem_toArray, List.getElem_cons_zero, List.getElem_cons_succ, List.setIfInBounds_toArray, List.set_cons_zero, List.set_cons_succ]
                  refine wpAnyH_take (i := 7) (v := ?_) rfl (by kernel_rfl) (by kernel_rfl) (by kernel_rfl) (fun _ _ _ h => h) (Or.inl ⟨by kernel_rfl, ?_⟩) (by assumption) ?_
                  rotate_left
                  · intro w hSw
                    (try dsimp only at hSw)
                    go_simp
                    try with_reducible rfl
                  try simp only [Act.put, List.getElem_toArray, List.getElem_cons_zero, List.getElem_cons_succ, List.setIfInBounds_toArray, List.set_cons_zero, List.set_cons_succ]
                  refine wpAnyH_take (i := 8) (v := ?_) rfl (by kernel_rfl) (by kernel_rfl) (by kernel_rfl) (fun _ _ _ h => h) (Or.inl ⟨by kernel_rfl, ?_⟩) (by assumption) ?_
                  rotate_left
                  · intro w hSw
                    (try dsimp only at hSw)
                    go_simp
                    try with_reducible rfl
                  try simp only [Act.put, List.getElem_toArray, List.getElem_cons_zero, List.getElem_cons_succ, List.setIfInBounds_toArray, List.set_cons_zero, List.set_cons_succ]
                  refine wpAnyH_take (i := 9) (v := ?_) rfl (by kernel_rfl) (by kernel_rfl) (by kernel_rfl) (fun _ _ _ h => h) (Or.inl ⟨by kernel_rfl, ?_⟩) (by assumption) ?_
                  rotate_left
                  · intro w hSw
                    (try dsimp only at hSw)
                    go_simp
                    try with_reducible rfl
                  try simp only [Act.put, List.getElem_toArray, List.getElem_cons_zero, List.getElem_cons_succ, List.setIfInBounds_toArray, List.set_cons_zero, List.set_cons_succ]
                  refine wpAnyH_take (i := 10) (v := ?_) rfl (by kernel_rfl) (by kernel_rfl) (by kernel_rfl) (fun _ _ _ h => h) (Or.inl ⟨by kernel_rfl, ?_⟩) (by assumption) ?_
                  rotate_left
                  · intro w hSw
                    (try dsimp only at hSw)
                    go_simp
                    try with_reducible rfl
                  try simp only [Act.put, List.getElem_toArray, List.getElem_cons_zero, List.getElem_cons_succ, List.setIfInBounds_toArray, List.set_cons_zero, List.set_cons_succ]
                  refine wpAnyH_take (i := 11) (v := ?_) rfl (by kernel_rfl) (by kernel_rfl) (by kernel_rfl) (fun _ _ _ h => h) (Or.inl ⟨by kernel_rfl, ?_⟩) (by assumption) ?_
                  rotate_left
                  · intro w hSw
                    (try dsimp only at hSw)
                    go_simp
                    try with_reducible rfl
                  try simp only [Act.put, List.getElem_toArray, List.getElem_cons_zero, List.getElem_cons_succ, List.setIfInBounds_toArray, List.set_cons_zero, List.set_cons_succ]
                  refine wpAnyH_take (i := 12) (v := ?_) rfl (by kernel_rfl) (by kernel_rfl) (by kernel_rfl) (fun _ _ _ h => h) (Or.inl ⟨by kernel_rfl, ?_⟩) (by assumption) ?_
                  rotate_left
                  · intro w hSw
                    (try dsimp only at hSw)
                    go_simp
                    try with_reducible rfl
                  try simp only [Act.put, List.getElem_toArray, List.getElem_cons_zero, List.getElem_cons_succ, List.setIfInBounds_toArray, List.set_cons_zero, List.set_cons_succ]
                  refine wpAnyH_take (i := 13) (v := ?_) rfl (by kernel_rfl) (by kernel_rfl) (by kernel_rfl) (fun _ _ _ h => h) (Or.inl ⟨by kernel_rfl, ?_⟩) (by assumption) ?_
                  rotate_left
                  · intro w hSw
                    (try dsimp only at hSw)
                    go_simp
                    try with_reducible rfl
                  try simp only [Act.put, List.getElem_toArray, List.getElem_cons_zero, List.getElem_cons_succ, List.setIfInBounds_toArray, List.set_cons_zero, List.set_cons_succ]
                  refine wpAnyH_ready (rs := [14]) (by kernel_rfl) (by simp) ?_
                  refine AllReadyH.cons rfl (fun K hK => ?_) AllReadyH.nil
                  go_simp
                  go_wp2_with fail
                  refine hK _ _ (SF.out _ (D1.out.alloc D1.out.size _)) (fun hHeld => ?_)
                  clear hK K
                  try simp only [Act.put, List.getElem_toArray, List.getElem_cons_zero, List.getElem_cons_succ, List.setIfInBounds_toArray, List.set_cons_zero, List.set_cons_succ]
                  refine wpAnyH_ready (rs := [15]) (by kernel_rfl) (by simp) ?_
                  refine AllReadyH.cons rfl (fun K hK => ?_) AllReadyH.nil
                  obtain ⟨wa, hwa⟩ : ∃ wa, wa = w3.drew.alloc (.cells #[.int .i64 yper, .int .i64 ybud] 37) := ⟨_, rfl⟩
                  have RA := hide (show Reads 2 ptVals wa (some ⟨w3.heap.size, 0, none⟩) 1 [⟨yper, ybud⟩] from by rw [hwa]; exact part_block (heap_alloc_new w3.drew _))
                  have OA := hide (show wa.ownsRow W0.heap.size 37 2 _ (gn + L.length) ((gs.map gapT ++ L).flatMap ptVals) from by rw [hwa]; exact O3.out.drew.alloc _)
                  have BA3 := hide (show Below w3.heap.size w3 wa from by rw [hwa]; exact D1.out.alloc D1.out.size _)
                  have BA := hide (B3.out.trans (BA3.out.mono B3.out.size))
                  subst hwa
                  refine step_append_reads rfl (.tmp 54) (.tmp 68) _ rfl W0.heap.size 37 i0 _ 16 Tryz.underlying33 I0.out.1 I0.out.2.1 I0.out.2.2.1 I0.out.2.2.2 rfl (by omega) _ (gn + L.length) _ rfl OA.out _ 1 _ [(⟨yper, ybud⟩ : Pt)] rfl ptVals_len ptVals_cell RA.out (fun h => by cases h) (by have := ALN.out; have := GN.out; have := TN.out; unfold maxLen; omega) (by have := ALN.out; have := GN.out; have := TN.out; omega) BA.out.size ?_
                  intro v4 w4 o4 g4
                  have O4 := hide o4
                  have B4 := hide (show Below W0.heap.size W0 w4 from BA.out.grown g4 BA.out.size (fun j hj => (OA.out.lt j hj).1))
                  clear o4 g4
                  refine hK _ _ (SF2.out _ B4.out) (fun hHeld => ?_)
                  clear hK K
                  try simp only [Act.put, List.getElem_toArray, List.getElem_cons_zero, List.getElem_cons_succ, List.setIfInBounds_toArray, List.set_cons_zero, List.set_cons_succ]
                  refine wpAnyH_take (i := 16) (v := ?_) rfl (by kernel_rfl) (by kernel_rfl) (by kernel_rfl) (fun _ _ _ h => h) (Or.inl ⟨by kernel_rfl, ?_⟩) (by assumption) ?_
                  rotate_left
                  · intro w hSw
                    (try dsimp only at hSw)
                    go_simp
                    try with_reducible rfl
                  try simp only [Act.put, List.getElem_toArray, List.getElem_cons_zero, List.getElem_cons_succ, List.setIfInBounds_toArray, List.set_cons_zero, List.set_cons_succ]
                  refine wpAnyH_done (by kernel_rfl) ?_ _
                  go_simp
                  refine NoPanic.normal ?_
                  refine a9 _ _ ?_
                  clear hHeld
                  go_wp2_with fail
                  go_roundw
                  case rel => exact ⟨k + 1, by omega, by go_num, by rw [NN.out, ← List.append_assoc, List.flatMap_append, List.length_append, ← Nat.add_assoc]; exact O4.out, B4.out⟩
                  case measure => simp [intOf]; omega
              · have NN := hide (show aheadL ts i (tpOf x) (k + 1) = aheadL ts i (tpOf x) k from by rw [NXT.out, show decide (ycls = 2) = false from decide_eq_false e1]; simp)
                go_wp2_with fail
                go_roundw
                case rel => exact ⟨k + 1, by omega, by go_num, by rw [NN.out]; exact O.out, B.out⟩
                case measure => simp [intOf]; omega
          · obtain rfl : tn = k := by omega
            have TLL := TL.out
            go_wp2_with fail
            go_ret
            exact ⟨_, rfl, by rw [V.out, TLL, List.length_append, List.length_map, GL.out]; exact own_base O.out B0.out.size, B0.out.trans (B.out.mono B0.out.size)⟩
end Go.Proofs.YtcmgkjjkhfcedaaGreat
/-
  Plain facts of one job by deadlines alone (DemandAlone).
-/
namespace Go.Proofs.YtcmgkjjkhfcedaaGreat
set_option linter.unusedVariables false
theorem sum3_small {a b c : Int} (a0 : 0 ≤ a) (b0 : 0 ≤ b) (c0 : 0 ≤ c) (h : a + b + c ≤ 1000000) : sum [a, b, c] = a + b + c := by
  rw [sum_three, cl_in a a0 (by omega), cl_in b b0 (by omega), cl_in (a + b) (by omega) (by omega), cl_in c c0 (by omega), cl_in _ (by omega) (by omega)]
/-- The numbers of the law. -/
structure Alo (block per dl cost : Int) : Prop where
  b0 : 0 ≤ block
  b1 : block < 50
  p0 : 60 ≤ per
  p1 : per < 160
  d0 : 1 ≤ dl
  d1 : dl ≤ 60
  c0 : 1 ≤ cost
  c1 : cost ≤ 30
section
variable {block per dl cost : Int}
theorem alone_up (H : Alo block per dl cost) {s : Int} (h : 1 ≤ s) (h2 : s ≤ per) : up s per = 1 := by
  have b0 := H.b0
  have b1 := H.b1
  have p0 := H.p0
  have p1 := H.p1
  have d0 := H.d0
  have d1 := H.d1
  have c0 := H.c0
  have c1 := H.c1
  unfold up
  rw [cl_in s (by omega) (by omega), dv_in per (by omega) (by omega)]
  refine Int.ediv_eq_of_nonneg_of_lt_mul' _ _ 1 (by omega) (by omega) (by omega)
theorem alone_up2 (H : Alo block per dl cost) : up (2 * per) per = 2 := by
  have b0 := H.b0
  have b1 := H.b1
  have p0 := H.p0
  have p1 := H.p1
  have d0 := H.d0
  have d1 := H.d1
  have c0 := H.c0
  have c1 := H.c1
  unfold up
  rw [cl_in (2 * per) (by omega) (by omega), dv_in per (by omega) (by omega)]
  refine Int.ediv_eq_of_nonneg_of_lt_mul' _ _ 2 (by omega) (by omega) (by omega)
theorem alone_work (H : Alo block per dl cost) (s : Int) : workP s [⟨per, cost⟩] = mul (up s per) cost := by
  have b0 := H.b0
  have b1 := H.b1
  have p0 := H.p0
  have p1 := H.p1
  have d0 := H.d0
  have d1 := H.d1
  have c0 := H.c0
  have c1 := H.c1
  have : workP s [⟨per, cost⟩] = cl (0 + cl (mul (up s per) cost)) := rfl
  rw [this, Int.zero_add, cl_cl, cl_in _ (mul_lo _ _) (mul_hi _ _)]
theorem alone_need (H : Alo block per dl cost) {s : Int} (k : Int) (hk : up s per = k) (k0 : 0 ≤ k) (k1 : k ≤ 1000) : needP 0 block [⟨per, cost⟩] s = block + k * cost := by
  have b0 := H.b0
  have b1 := H.b1
  have p0 := H.p0
  have p1 := H.p1
  have d0 := H.d0
  have d1 := H.d1
  have c0 := H.c0
  have c1 := H.c1
  have m0 : 0 ≤ k * cost := Int.mul_nonneg k0 (by omega)
  have m1 : k * cost ≤ 1000 * 30 := Int.mul_le_mul k1 c1 (by omega) (by omega)
  unfold needP
  rw [alone_work H s, hk, mul_within k cost (by rw [cl_in k k0 (by omega), cl_in cost (by omega) (by omega)]; omega), cl_in k k0 (by omega), cl_in cost (by omega) (by omega), sum3_small (by omega) b0 m0 (by omega)]
  omega
theorem alone_need_lo (H : Alo block per dl cost) {s : Int} (h : 1 ≤ s) : block + cost ≤ needP 0 block [⟨per, cost⟩] s := by
  have b0 := H.b0
  have b1 := H.b1
  have p0 := H.p0
  have p1 := H.p1
  have d0 := H.d0
  have d1 := H.d1
  have c0 := H.c0
  have c1 := H.c1
  have e := alone_need H (s := 1) 1 (alone_up H (by omega) (by omega)) (by omega) (by omega)
  have := needP_mono h 0 block [⟨per, cost⟩]
  omega
theorem alone_needE (H : Alo block per dl cost) {s : Int} (h : 1 ≤ s) (h2 : s ≤ 60) : needE s [⟨per, dl, cost⟩] = if dl ≤ s then cost else 0 := by
  have b0 := H.b0
  have b1 := H.b1
  have p0 := H.p0
  have p1 := H.p1
  have d0 := H.d0
  have d1 := H.d1
  have c0 := H.c0
  have c1 := H.c1
  have e : needE s [⟨per, dl, cost⟩] = cl (0 + cl (dueE s ⟨per, dl, cost⟩)) := rfl
  rw [e, Int.zero_add, cl_cl, cl_in _ (dueE_lo _ _) (dueE_hi _ _)]
  unfold dueE
  show (if cl dl ≤ cl s then mul cost (jobsE s ⟨per, dl, cost⟩) else 0) = _
  rw [cl_in dl (by omega) (by omega), cl_in s (by omega) (by omega)]
  by_cases hd : dl ≤ s
  · rw [if_pos hd, if_pos hd]
    have j : jobsE s ⟨per, dl, cost⟩ = 1 := by
      unfold jobsE
      show down (cl s - cl dl) per + 1 = 1
      rw [cl_in dl (by omega) (by omega), cl_in s (by omega) (by omega)]
      unfold down
      rw [cl_in (s - dl) (by omega) (by omega), dv_in per (by omega) (by omega), Int.ediv_eq_zero_of_lt (by omega) (by omega)]
      rfl
    rw [j, mul_within _ _ (by rw [cl_in cost (by omega) (by omega), cl_in 1 (by omega) (by omega)]; omega), cl_in cost (by omega) (by omega), cl_in 1 (by omega) (by omega), Int.mul_one]
  · rw [if_neg hd, if_neg hd]
theorem alone_bad (H : Alo block per dl cost) {s : Int} (h : 1 ≤ s) (h2 : s ≤ 60) : badE block [] [⟨per, dl, cost⟩] s ↔ dl ≤ s ∧ s < block + cost := by
  have b0 := H.b0
  have b1 := H.b1
  have p0 := H.p0
  have p1 := H.p1
  have d0 := H.d0
  have d1 := H.d1
  have c0 := H.c0
  have c1 := H.c1
  have w0 : workP s [] = 0 := rfl
  unfold badE
  rw [w0, alone_needE H h h2]
  by_cases hd : dl ≤ s
  · rw [if_pos hd, sum3_small b0 (by omega) (by omega) (by omega)]; omega
  · rw [if_neg hd]; omega
theorem alone_is (H : Alo block per dl cost) {r : Int} {ok : Bool} (h : IsResp 0 block [⟨per, cost⟩] 600 r ok) : ok = true ∧ block + cost ≤ r ∧ (block + cost ≤ per → r = block + cost) := by
  have b0 := H.b0
  have b1 := H.b1
  have p0 := H.p0
  have p1 := H.p1
  have d0 := H.d0
  have d1 := H.d1
  have c0 := H.c0
  have c1 := H.c1
  have cm : cl 600 = 600 := cl_in 600 (by omega) (by omega)
  rcases h with ⟨e, a1, a2, a3, a4, a5⟩ | ⟨e, _, hn⟩
  · have lo := alone_need_lo H a1
    refine ⟨e, by omega, fun hp => ?_⟩
    have en := alone_need H (s := block + cost) 1 (alone_up H (by omega) hp) (by omega) (by omega)
    rcases Int.lt_or_le (block + cost) r with hlt | hle
    · exact absurd (show needP 0 block [⟨per, cost⟩] (block + cost) ≤ block + cost by omega) (a5 _ (by omega) hlt)
    · omega
  · have en := alone_need H (s := 2 * per) 2 (alone_up2 H) (by omega) (by omega)
    exact absurd (show needP 0 block [⟨per, cost⟩] (2 * per) ≤ 2 * per by omega) (hn _ (by omega) (by omega) (by omega))
/-- DemandAlone. -/
theorem alone_fits (H : Alo block per dl cost) {x r : Int} {ok is : Bool} (h : IsFits block [] [⟨per, dl, cost⟩] 600 x ok) (hr : IsResp 0 block [⟨per, cost⟩] 600 r is) : is = true ∧ (block + cost ≤ dl → ok = true) ∧ (dl < block + cost → ok = false ∧ x = dl) := by
  have b0 := H.b0
  have b1 := H.b1
  have p0 := H.p0
  have p1 := H.p1
  have d0 := H.d0
  have d1 := H.d1
  have c0 := H.c0
  have c1 := H.c1
  obtain ⟨e1, e2, e3⟩ := alone_is H hr
  subst e1
  refine ⟨rfl, ?_, ?_⟩
  · intro hle
    have er := e3 (by omega)
    rcases h with ⟨r', hr', _, _⟩ | ⟨r', hr', h⟩
    · have := (IsResp.same hr hr').2; cases this
    · have e := (IsResp.same hr hr').1
      rcases h with ⟨_, c2, c3, c4, _⟩ | ⟨e4, _⟩
      · have := (alone_bad H c2 (by omega)).1 c4
        omega
      · exact e4
  · intro hlt
    have bd := (alone_bad H d0 d1).2 ⟨Int.le_refl _, hlt⟩
    rcases h with ⟨r', hr', _, _⟩ | ⟨r', hr', h⟩
    · have := (IsResp.same hr hr').2; cases this
    · have e := (IsResp.same hr hr').1
      rcases h with ⟨e4, c2, c3, c4, c5⟩ | ⟨_, _, c5⟩
      · refine ⟨e4, ?_⟩
        rcases Int.lt_trichotomy x dl with hx | hx | hx
        · have := (alone_bad H c2 (by omega)).1 c4
          omega
        · exact hx
        · exact absurd bd (c5 dl d0 hx)
      · exact absurd bd (c5 dl d0 (by omega))
end
end Go.Proofs.YtcmgkjjkhfcedaaGreat
/-
  Contracts of the program's response times (PRta); awake of stage 16.
-/
namespace Go.Proofs.YtcmgkjjkhfcedaaGreat
open Go.ChangeShapes Go.WideShapes Go.ChangeAt Go.RowKit
set_option linter.unusedVariables false
/-- The program's rta. -/
structure PRta : Prop where
  work : ∀ (w : World) (span : Int) (a : Option Addr) (n c : Nat) (ps : List Pt), Reads 2 ptVals w a n ps → (∀ x ∈ ps, PtFit w x) → n ≤ 100 → (Lit.int .i64 span).wf = true →
    Calls Tryz.prog 77 #[.int .i64 span, .slice a n c] w fun e w' => e = .returned (.int .i64 (workP span ps)) ∧ Below w.heap.size w w'
  resp : ∀ (w : World) (own block : Int) (a : Option Addr) (n c : Nat) (ps : List Pt) (most : Int), Reads 2 ptVals w a n ps → (∀ x ∈ ps, PtFit w x) → n ≤ 100 → (Lit.int .i64 own).wf = true → (Lit.int .i64 block).wf = true → (Lit.int .i64 most).wf = true →
    Calls Tryz.prog 49 #[.int .i64 own, .int .i64 block, .slice a n c, .int .i64 most] w fun e w' => ∃ v, e = .returned v ∧ RespIs own block ps most v ∧ Below w.heap.size w w'
theorem reads_block {α : Type} {z : Nat} {vals : α → List Value} (hv : ∀ x, (vals x).length = z) {w : World} {B : Nat} {xs : List α} {t : TypeId} {fr : Nat × Nat} (h : w.heap[B]? = some (.cells (xs.flatMap vals).toArray t fr)) : Reads z vals w (some ⟨B, 0, none⟩) xs.length xs := by
  refine ⟨rfl, fun _ => ⟨B, 0, rfl, fun i x hx j u hu => ?_⟩⟩
  have hj : j < z := by rw [← hv x]; exact (List.getElem?_eq_some_iff.1 hu).1
  rw [cell_of_row _ _ _ _ _ _ h, List.getElem?_toArray, Nat.zero_add, flat_at hv hx hj]
  exact hu
def awA : List Pt := [⟨10, 2⟩, ⟨15, 4⟩]
theorem aw13 : IsResp 3 2 awA 100 13 true := by
  refine .inl ⟨rfl, by omega, by decide, by omega, by decide, fun s h1 h2 => ?_⟩
  have h : s = 1 ∨ s = 2 ∨ s = 3 ∨ s = 4 ∨ s = 5 ∨ s = 6 ∨ s = 7 ∨ s = 8 ∨ s = 9 ∨ s = 10 ∨ s = 11 ∨ s = 12 := by omega
  rcases h with rfl | rfl | rfl | rfl | rfl | rfl | rfl | rfl | rfl | rfl | rfl | rfl <;> decide
theorem RespIs.get {own block : Int} {ps : List Pt} {most : Int} {v : Value} (h : RespIs own block ps most v) {r : Int} {ok : Bool} (h' : IsResp own block ps most r ok) : v = .tuple #[.int .i64 r, .bool ok] := by
  obtain ⟨r', ok', rfl, hr⟩ := h
  obtain ⟨e1, e2⟩ := hr.same h'
  rw [e1, e2]
end Go.Proofs.YtcmgkjjkhfcedaaGreat
/-
  Jobs by deadlines that come in; contracts of the program's demand (PDemand); awake of stage 17.
-/
namespace Go.Proofs.YtcmgkjjkhfcedaaGreat
open Go.ChangeShapes Go.WideShapes Go.ChangeAt Go.RowKit
set_option linter.unusedVariables false
def erVals (e : Er) : List Value := [.int .i64 e.per, .int .i64 e.dl, .int .i64 e.cost]
def ErFit (_ : World) (e : Er) : Prop := (Lit.int .i64 e.per).wf = true ∧ (Lit.int .i64 e.dl).wf = true ∧ (Lit.int .i64 e.cost).wf = true
theorem erVals_len (e : Er) : (erVals e).length = 3 := rfl
theorem erVals_cell (e : Er) : ∀ v ∈ erVals e, v.oneCell' = true := by
  intro v hv
  simp [erVals] at hv
  rcases hv with rfl | rfl | rfl <;> rfl
section
variable {H : Type} {enc : TypeId × Value → H} {w : World} {base : Nat} {spare : Nat → Bool} {held : Bool}
theorem er_open (m : Nat) (cs : List Value) (x : DataW H × List MemPlace) (hl : cs.length = 3) (h : DataW.trod enc Tryz.prog w base spare held m 88 cs = some x) : ∃ o, cs = erVals o ∧ ErFit w o := by
  obtain ⟨c, e0, w0⟩ := field_int Tryz.underlying88 h 0 0 3 rfl Tryz.underlying3 (by kernel_rfl)
  obtain ⟨l, e1, w1⟩ := field_int Tryz.underlying88 h 1 1 3 rfl Tryz.underlying3 (by kernel_rfl)
  obtain ⟨d, e2, w2⟩ := field_int Tryz.underlying88 h 2 2 3 rfl Tryz.underlying3 (by kernel_rfl)
  refine ⟨⟨c, l, d⟩, ?_, w0, w1, w2⟩
  match cs, hl with
  | [v0, v1, v2], _ =>
    simp at e0 e1 e2
    simp [erVals, e0, e1, e2]
end
def FitsIs (block : Int) (ps : List Pt) (es : List Er) (most : Int) (v : Value) : Prop := ∃ x ok, v = .tuple #[.int .i64 x, .bool ok] ∧ IsFits block ps es most x ok
theorem FitsIs.get {block : Int} {ps : List Pt} {es : List Er} {most : Int} {v : Value} (h : FitsIs block ps es most v) {x : Int} {ok : Bool} (h' : IsFits block ps es most x ok) : v = .tuple #[.int .i64 x, .bool ok] := by
  obtain ⟨r', ok', rfl, hr⟩ := h
  obtain ⟨e1, e2⟩ := hr.same h'
  rw [e1, e2]
/-- The program's demand. -/
structure PDemand : Prop where
  need : ∀ (w : World) (span : Int) (a : Option Addr) (n c : Nat) (es : List Er), Reads 3 erVals w a n es → (∀ x ∈ es, ErFit w x) → n ≤ 100 → (Lit.int .i64 span).wf = true →
    Calls Tryz.prog 98 #[.int .i64 span, .slice a n c] w fun e w' => e = .returned (.int .i64 (needE span es)) ∧ Below w.heap.size w w'
  busy : ∀ (w : World) (block : Int) (a : Option Addr) (n c : Nat) (ps : List Pt) (most : Int), Reads 2 ptVals w a n ps → (∀ x ∈ ps, PtFit w x) → n ≤ 100 → (Lit.int .i64 block).wf = true → (Lit.int .i64 most).wf = true →
    Calls Tryz.prog 78 #[.int .i64 block, .slice a n c, .int .i64 most] w fun e w' => ∃ v, e = .returned v ∧ RespIs 0 block ps most v ∧ Below w.heap.size w w'
  fits : ∀ (w : World) (block : Int) (a : Option Addr) (n c : Nat) (ps : List Pt) (b : Option Addr) (m d : Nat) (es : List Er) (most : Int), Reads 2 ptVals w a n ps → (∀ x ∈ ps, PtFit w x) → n ≤ 100 → Reads 3 erVals w b m es → (∀ x ∈ es, ErFit w x) → m ≤ 100 → (a = none → c = 0) → (b = none → d = 0) → n ≤ c → m ≤ d → (Lit.int .i64 block).wf = true → (Lit.int .i64 most).wf = true →
    Calls Tryz.prog 50 #[.int .i64 block, .slice a n c, .slice b m d, .int .i64 most] w fun e w' => ∃ v, e = .returned v ∧ FitsIs block ps es most v ∧ Below w.heap.size w w'
theorem aw9 : IsResp 0 3 ([⟨10, 2⟩] ++ [(⟨20, 8, 4⟩ : Er)].map partE) 100 9 true := by
  refine .inl ⟨rfl, by omega, by decide, by omega, by decide, fun s h1 h2 => ?_⟩
  have h : s = 1 ∨ s = 2 ∨ s = 3 ∨ s = 4 ∨ s = 5 ∨ s = 6 ∨ s = 7 ∨ s = 8 := by omega
  rcases h with rfl | rfl | rfl | rfl | rfl | rfl | rfl | rfl <;> decide
theorem aw8 : IsFits 3 [⟨10, 2⟩] [⟨20, 8, 4⟩] 100 8 false := by
  refine .inr ⟨9, aw9, .inl ⟨rfl, by omega, by omega, ?_, fun s h1 h2 => ?_⟩⟩
  · unfold badE; decide
  · have h : s = 1 ∨ s = 2 ∨ s = 3 ∨ s = 4 ∨ s = 5 ∨ s = 6 ∨ s = 7 := by omega
    unfold badE
    rcases h with rfl | rfl | rfl | rfl | rfl | rfl | rfl <;> decide
end Go.Proofs.YtcmgkjjkhfcedaaGreat
/-
  The walk of DemandGrows, over the contracts of the program's demand.
-/
namespace Go.Proofs.YtcmgkjjkhfcedaaGreat
open Go.ChangeShapes Go.WideShapes Go.ChangeAt Go.RowKit
set_option linter.unusedVariables false
theorem mod2000 (a : Int) : ∃ r : Int, (0 ≤ r ∧ r < 2000) ∧ wrap64 ((IntKind.u64.wrap a).tmod 2000) = r := by
  have h : IntKind.u64.wrap a = a % 18446744073709551616 := by simp [IntKind.wrap, IntKind.bits, IntKind.signed]
  rw [h, Int.tmod_eq_emod_of_nonneg (by omega)]
  have h1 : 0 ≤ (a % 18446744073709551616) % 2000 := Int.emod_nonneg _ (by omega)
  have h2 : (a % 18446744073709551616) % 2000 < 2000 := Int.emod_lt_of_pos _ (by omega)
  generalize (a % 18446744073709551616) % 2000 = y at *
  exact ⟨y, ⟨h1, h2⟩, by unfold wrap64; omega⟩
theorem needE_one (t : Int) (e : Er) : needE t [e] = dueE t e := by
  have := needE_snoc t [] e
  rw [List.nil_append] at this
  rw [this]
  show cl (0 + dueE t e) = _
  rw [Int.zero_add, cl_in _ (dueE_lo _ _) (dueE_hi _ _)]
theorem reads_er {w : World} {a : Option Addr} {n : Nat} {xs : List Er} (h : Reads 3 erVals w a n xs) {i : Nat} (hi : i < n) : ∃ x b off, xs[i]? = some x ∧ a = some ⟨b, off, none⟩ ∧ w.cell? ⟨b, off + i * 3, none⟩ = some (.int .i64 x.per) ∧ w.cell? ⟨b, off + i * 3 + 1, none⟩ = some (.int .i64 x.dl) ∧ w.cell? ⟨b, off + i * 3 + 2, none⟩ = some (.int .i64 x.cost) := by
  obtain ⟨x, b, off, hx, rfl, hc⟩ := h.at_ hi
  exact ⟨x, b, off, hx, rfl, hc 0 _ rfl, hc 1 _ rfl, hc 2 _ rfl⟩
end Go.Proofs.YtcmgkjjkhfcedaaGreat
/-
  The document's own demand (coxswainref17): Need, Busy (ahead of chapter 18's Admit).
-/
namespace Go.Proofs.YtcmgkjjkhfcedaaGreat
open Go.ChangeShapes Go.WideShapes Go.ChangeAt Go.RowKit
set_option linter.unusedVariables false
theorem take_getE {es : List Er} {i : Nat} {x : Er} (h : es[i]? = some x) : es.take (i + 1) = es.take i ++ [x] := by
  rw [List.take_add_one, h]; rfl
theorem needE_nextIn {span : Int} {es : List Er} {i : Nat} {x : Er} (h : es[i]? = some x) (hd : cl x.dl ≤ cl span) : needE span (es.take (i + 1)) = cl (cl (needE span (es.take i)) + cl (mul x.cost (down (cl span - cl x.dl) x.per + 1))) := by
  rw [take_getE h, needE_snoc, cl_in (needE span (es.take i)) (needE_lo _ _) (needE_hi _ _)]
  unfold dueE
  rw [if_pos hd, cl_in (mul x.cost (down (cl span - cl x.dl) x.per + 1)) (mul_lo _ _) (mul_hi _ _)]
  rfl
theorem needE_nextOut {span : Int} {es : List Er} {i : Nat} {x : Er} (h : es[i]? = some x) (hd : ¬ cl x.dl ≤ cl span) : needE span (es.take (i + 1)) = needE span (es.take i) := by
  rw [take_getE h, needE_snoc]
  unfold dueE
  rw [if_neg hd, Int.add_zero, cl_in (needE span (es.take i)) (needE_lo _ _) (needE_hi _ _)]
set_option maxHeartbeats 4000000 in
theorem rneed17_any (w : World) (span : Int) (a : Option Addr) (n c : Nat) (es : List Er) (hr : Reads 3 erVals w a n es) (hn : n ≤ 1000) :
    Calls Tryz.prog 85 #[.int .i64 span, .slice a n c] w fun e w' => e = .returned (.int .i64 (needE span es)) ∧ ∃ m, w' = w.drewN m := by
  have HR := hide (show ∀ m, Reads 3 erVals (w.drewN m) a n es from fun m => hr.below (below_drewN (Below.refl _ w) m))
  have HL := hide hr.1
  have HN := hide hn
  have n2 : (n : Int) ≤ 1000 := by omega
  have CS := hide (fun (W : World) => rclip_any span W)
  have DO := hide (fun (W : World) (a b : Int) => rdown_any a b W)
  have MU := hide (fun (W : World) (a b : Int) => rmul_any a b W)
  have AD := hide (fun (W : World) (a b : Int) => radd_any a b W)
  clear hr hn
  obtain ⟨S, hS⟩ : ∃ S, S = cl span := ⟨_, rfl⟩
  have S0 : 0 ≤ S := by rw [hS]; exact cl_lo _
  have S1 : S ≤ 1099511627776 := by rw [hS]; exact cl_hi _
  rw [← hS] at CS
  have HS := hide hS
  clear hS
  go_enter Tryz.func85, Tryz.ntmps85
  go_wp2_with (go_at_call 82; refine (CS.out _).mono ?_; rintro e w' ⟨rfl, rfl⟩)
  go_loopw [5, 6] (fun sv iv wr => ∃ i m : Nat, i ≤ n ∧ iv = .int .i64 (i : Int) ∧ sv = .int .i64 (needE span (es.take i)) ∧ wr = w.drewN m) (fun _ iv _ => n - (intOf iv).toNat)
  case atStart => exact ⟨0, 0, Nat.zero_le _, rfl, rfl, rfl⟩
  case round =>
    obtain ⟨i, m, hi, rfl, rfl, rfl⟩ := hrel
    by_cases hlt : i < n
    · have i0 : (0 : Int) ≤ (i : Int) := by omega
      have i1 : (i : Int) < (n : Int) := by omega
      obtain ⟨x, b, off, hx, rfl, y0, y1, y2⟩ := reads_er (HR.out m) hlt
      have CD := hide (fun (W : World) => rclip_any x.dl W)
      have NI := hide (fun hd => needE_nextIn (span := span) hx hd)
      have NO := hide (fun hd => needE_nextOut (span := span) hx hd)
      rw [← HS.out] at NI NO
      obtain ⟨D, hD⟩ : ∃ D, D = cl x.dl := ⟨_, rfl⟩
      have D0 : 0 ≤ D := by rw [hD]; exact cl_lo _
      have D1 : D ≤ 1099511627776 := by rw [hD]; exact cl_hi _
      rw [← hD] at NI NO CD
      obtain ⟨s, hs⟩ : ∃ s, s = needE span (es.take i) := ⟨_, rfl⟩
      rw [← hs] at NI NO ⊢
      obtain ⟨W1, hW1⟩ : ∃ W1, W1 = w.drewN m := ⟨_, rfl⟩
      rw [← hW1] at y0 y1 y2 ⊢
      have HW := hide hW1
      clear hx hs hW1 hD
      by_cases hd : D ≤ S
      · have NX := hide (NI.out hd)
        have dlo := down_lo (S - D) x.per
        have dhi := down_hi (S - D) x.per
        clear NI NO
        go_upto_region 8 with (go_at_call 82; refine (CD.out _).mono ?_; rintro e w' ⟨rfl, rfl⟩)
        go_quiet ((first
          | (go_at_call 101; exact quiet_rt (DO.out _ _ _))
          | (go_at_call 99; exact quiet_rt (MU.out _ _ _))
          | (go_at_call 72; exact quiet_rt (AD.out _ _ _))))
        go_wp2_with fail
        go_roundw
        case rel => exact ⟨i + 1, _, by omega, by go_num, by rw [NX.out], by rw [HW.out]; exact World.drewN_drewN w m _⟩
        case measure => simp [intOf]; omega
      · have NX := hide (NO.out hd)
        clear NI NO
        go_wp2_with (go_at_call 82; refine (CD.out _).mono ?_; rintro e w' ⟨rfl, rfl⟩)
        go_roundw
        case rel => exact ⟨i + 1, m, by omega, by go_num, by rw [NX.out], HW.out⟩
        case measure => simp [intOf]; omega
    · obtain rfl : i = n := by omega
      go_wp2_with fail
      go_ret
      exact ⟨ret_int (by rw [List.take_of_length_le (by rw [HL.out]; exact Nat.le_refl _)]), m, rfl⟩
set_option maxHeartbeats 4000000 in
theorem rbusy17_any (w : World) (block : Int) (a : Option Addr) (n c : Nat) (ps : List Pt) (most : Int) (hr : Reads 2 ptVals w a n ps) (hn : n ≤ 1000) :
    Calls Tryz.prog 84 #[.int .i64 block, .slice a n c, .int .i64 most] w fun e w' => ∃ r ok, e = .returned (.tuple #[.int .i64 r, .bool ok]) ∧ IsResp 0 block ps most r ok ∧ ∃ m, w' = w.drewN m := by
  have RS := hide (rresp_any w 0 block a n c ps most hr hn)
  clear hr hn
  go_enter Tryz.func84, Tryz.ntmps84
  go_wp2_with (go_at_call 54; refine RS.out.mono ?_; rintro e w' ⟨v, rfl, ⟨r, ok, rfl, hR⟩, m, rfl⟩; have HR := hide hR; clear hR)
  exact bodyPost_ret (v := .tuple #[.int .i64 r, .bool ok]) (by simp [results, Tryz.results84, go_sem]) rfl ⟨_, _, rfl, HR.out, _, rfl⟩
end Go.Proofs.YtcmgkjjkhfcedaaGreat
/-
  Contracts: sums over a slice of integers, whatever the slice (nil, empty, or not).
-/
namespace Go.Proofs.YtcmgkjjkhfcedaaGreat
open Go.ChangeShapes Go.WideShapes Go.ChangeAt Go.RowKit
set_option linter.unusedVariables false
theorem sum_step (xs : List Int) (k : Nat) (h : k < xs.length) : cl (sum (xs.take k) + cl (xs[k]?.getD 0)) = sum (xs.take (k + 1)) := by
  rw [take_succ_getD xs k h, sum_snoc]; simp [List.getD]
theorem rsum_step (xs : List Int) (k : Nat) (h : k < xs.length) : cl (cl (sum (xs.take k)) + cl (xs[k]?.getD 0)) = sum (xs.take (k + 1)) := by
  rw [cl_in (sum (xs.take k)) (sum_lo _) (sum_hi _)]; exact sum_step xs k h

set_option maxHeartbeats 400000 in
theorem add_any (a : Option Addr) (n c : Nat) (xs : List Int) (w : World) (h : Ints .i64 w a n xs) (hn : n ≤ 9223372036854775807) :
    Calls Tryz.prog 35 #[.slice a n c] w fun e w' => e = .returned (.int .i64 (sum xs)) ∧ w = w' := by
  obtain ⟨hl, hc⟩ := h
  have HL := hide hl
  clear hl
  go_enter Tryz.func35, Tryz.ntmps35
  go_wp2_with fail
  go_loop [3, 8] (fun s i => ∃ k : Nat, k ≤ n ∧ i = .int .i64 k ∧ s = .int .i64 (sum (xs.take k))) (fun _ i => n - (intOf i).toNat)
  case atStart => exact ⟨0, Nat.zero_le _, rfl, rfl⟩
  case round =>
    obtain ⟨k, hk, rfl, rfl⟩ := hrel
    by_cases hlt : k < n
    · obtain ⟨b, off, rfl, hcs⟩ := hc (by omega)
      have hcell := hcs k hlt
      clear hcs hc
      have HS := hide (sum_step xs k (by rw [show xs.length = n from HL]; exact hlt))
      have s0 := sum_lo (xs.take k)
      have s1 := sum_hi (xs.take k)
      have e0 := cl_lo (xs[k]?.getD 0)
      have e1 := cl_hi (xs[k]?.getD 0)
      go_wp2_with (go_at_call 67; refine (clip_any _ _).mono ?_; rintro e w' ⟨rfl, rfl⟩)
      go_round
      case rel => exact ⟨k + 1, by omega, by go_num, ret_val HS⟩
      case measure => simp [intOf]; omega
    · clear hc
      go_wp2_with fail
      go_ret
      exact ⟨ret_int (by rw [List.take_of_length_le (by rw [show xs.length = n from HL]; omega)]), rfl⟩

set_option maxHeartbeats 400000 in
theorem rsum_any (a : Option Addr) (n c : Nat) (xs : List Int) (w : World) (h : Ints .i64 w a n xs) (hn : n ≤ 9223372036854775807) :
    Calls Tryz.prog 86 #[.slice a n c] w fun e w' => e = .returned (.int .i64 (sum xs)) ∧ w = w' := by
  obtain ⟨hl, hc⟩ := h
  have HL := hide hl
  clear hl
  go_enter Tryz.func86, Tryz.ntmps86
  go_wp2_with fail
  go_loop [3, 4] (fun s i => ∃ k : Nat, k ≤ n ∧ i = .int .i64 k ∧ s = .int .i64 (sum (xs.take k))) (fun _ i => n - (intOf i).toNat)
  case atStart => exact ⟨0, Nat.zero_le _, rfl, rfl⟩
  case round =>
    obtain ⟨k, hk, rfl, rfl⟩ := hrel
    by_cases hlt : k < n
    · obtain ⟨b, off, rfl, hcs⟩ := hc (by omega)
      have hcell := hcs k hlt
      clear hcs hc
      have HS := hide (rsum_step xs k (by rw [show xs.length = n from HL]; exact hlt))
      go_wp2_with (go_at_call 72; refine (radd_any _ _ _).mono ?_; rintro e w' ⟨rfl, rfl⟩)
      go_round
      case rel => exact ⟨k + 1, by omega, by go_num, ret_val HS⟩
      case measure => simp [intOf]; omega
    · clear hc
      go_wp2_with fail
      go_ret
      exact ⟨ret_int (by rw [List.take_of_length_le (by rw [show xs.length = n from HL]; omega)]), rfl⟩
end Go.Proofs.YtcmgkjjkhfcedaaGreat
