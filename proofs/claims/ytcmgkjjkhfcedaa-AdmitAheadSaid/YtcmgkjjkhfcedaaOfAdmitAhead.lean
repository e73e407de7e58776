/-
  Proved: for every input, coxswain's law coxswainlaw18.AdmitAhead returns true and leaves its arguments as they were. No condition.
-/
import Derived.ShutString
import Derived.Test.YtcmgkjjkhfcedaaPk14
/-
  The walk of AdmitAhead, over the contracts of the program's admit (written by tools/gen/adahead.py).
-/
namespace Go.Proofs.Ytcmgkjjkhfcedaa
open Go.ChangeShapes Go.WideShapes Go.ChangeAt Go.RowKit
set_option linter.unusedVariables false
set_option linter.unusedSimpArgs false
theorem partsC_atA {c : Cp} (hm : mayC c = true) {i : Nat} {a : Tp} (ha : c.ts[i]? = some a) : partsC c (i : Int) = partsT c i a := by
  unfold partsC
  rw [if_pos ⟨hm, by omega⟩, Int.toNat_natCast, ha]
theorem partsT_len (c : Cp) (i : Nat) (a : Tp) : c.gs.length ≤ (partsT c i a).length ∧ (partsT c i a).length ≤ c.gs.length + c.ts.length := by
  unfold partsT
  simp only [List.length_append, List.length_map]
  have h1 := List.length_filter_le (fun b => decide (b.cls = 2) && countsT a b) (c.ts.eraseIdx i)
  have h2 := (List.eraseIdx_sublist c.ts i).length_le
  omega
theorem own_slice2A {w : World} {B : Nat} {e : TypeId} {z n : Nat} {v : Value} {xs : List Value} (h : w.ownsRow B e z v n xs) : ∃ a c, v = .slice a n c := by
  rcases h.2 with ⟨rfl, rfl⟩ | ⟨g, cap, cur, rfl, _⟩
  · exact ⟨none, 0, rfl⟩
  · exact ⟨_, _, rfl⟩
theorem built_part (a b : Int) : Try.prog.built 51 [(0, .int .i64 a), (1, .int .i64 b)] = some #[.int .i64 a, .int .i64 b] := by kernel_rfl
set_option maxRecDepth 20000 in
set_option maxHeartbeats 8000000 in
theorem walk_admitAheadC (C : PAdmit) (w : World) (c : Cf) (hc : CfFit w c) (one : Int) (ho : (Lit.int .i64 one).wf = true) (two : Int) (h2 : (Lit.int .i64 two).wf = true) :
    Calls Try.prog 6 #[.agg (cfVals c).toArray, .int .i64 one, .int .i64 two] w fun e w' => e = .returned (.bool true) ∧ Below w.heap.size w w' := by
  obtain ⟨cc, hcc⟩ : ∃ cc, cc = c := ⟨_, rfl⟩
  have HC := hide hcc
  obtain ⟨ta, tn, tc, ts, ea, en, ec, es, ma, mn, mc, ms, ga, gn, gc, gs, frames, dog⟩ := c
  show Calls Try.prog 6 #[.agg #[.slice ta tn tc, .slice ea en ec, .slice ma mn mc, .slice ga gn gc, .int .i64 frames, .int .i64 dog], .int .i64 one, .int .i64 two] w _
  have F := hide hc
  obtain ⟨W0, hW⟩ : ∃ W0, W0 = w.alloc (.cells #[.slice ta tn tc, .slice ea en ec, .slice ma mn mc, .slice ga gn gc, .int .i64 frames, .int .i64 dog] 27) := ⟨_, rfl⟩
  have hb := heap_alloc_new w (.cells #[.slice ta tn tc, .slice ea en ec, .slice ma mn mc, .slice ga gn gc, .int .i64 frames, .int .i64 dog] 27)
  have B0 := hide ((Below.refl w.heap.size w).alloc (Nat.le_refl _) (.cells #[.slice ta tn tc, .slice ea en ec, .slice ma mn mc, .slice ga gn gc, .int .i64 frames, .int .i64 dog] 27))
  rw [← hW] at hb B0
  have SC := hide (show ∀ Y : World, Below W0.heap.size W0 Y → Y.cell? ⟨w.heap.size, 0, none⟩ = some (.slice ta tn tc) ∧ Y.cell? ⟨w.heap.size, 1, none⟩ = some (.slice ea en ec) ∧ Y.cell? ⟨w.heap.size, 2, none⟩ = some (.slice ma mn mc) ∧ Y.cell? ⟨w.heap.size, 3, none⟩ = some (.slice ga gn gc) ∧ Y.cell? ⟨w.heap.size, 4, none⟩ = some (.int .i64 frames) ∧ Y.cell? ⟨w.heap.size, 5, none⟩ = some (.int .i64 dog) from fun Y b => by
    have e := (b.block _ (lt_of_heap hb)).trans hb
    refine ⟨?_, ?_, ?_, ?_, ?_, ?_⟩ <;> (rw [cell_of_row _ _ _ _ _ _ e]; rfl))
  obtain ⟨G, hG⟩ : ∃ G, G = greatCf cc := ⟨_, rfl⟩
  obtain ⟨P, hP⟩ : ∃ P, P = mayC (cpOf cc) := ⟨_, rfl⟩
  have GR := hide (show Calls Try.prog 7 #[.agg #[.slice ta tn tc, .slice ea en ec, .slice ma mn mc, .slice ga gn gc, .int .i64 frames, .int .i64 dog]] W0 fun e w' => e = .returned (.bool G) ∧ Below W0.heap.size W0 w' from by
    have := greatCf_any W0 cc (by rw [hcc]; exact hc.below B0.out)
    rw [← hG, hcc] at this
    exact this)
  have MY := hide (show G = false → ∀ Y : World, Below W0.heap.size W0 Y → Calls Try.prog 11 #[.agg #[.slice ta tn tc, .slice ea en ec, .slice ma mn mc, .slice ga gn gc, .int .i64 frames, .int .i64 dog]] Y fun e w' => e = .returned (.bool P) ∧ Below Y.heap.size Y w' from fun hg Y b => by
    have := C.may Y cc (by rw [hcc]; exact (hc.below B0.out).below b) (by rw [← hG]; exact hg)
    rw [← hP, hcc] at this
    exact this)
  have BK := hide (show G = false → ∀ Y : World, Below W0.heap.size W0 Y → ∀ task : Int, (Lit.int .i64 task).wf = true → Calls Try.prog 13 #[.agg #[.slice ta tn tc, .slice ea en ec, .slice ma mn mc, .slice ga gn gc, .int .i64 frames, .int .i64 dog], .int .i64 task] Y fun e w' => e = .returned (.int .i64 (blkC (cpOf cc) task)) ∧ Below Y.heap.size Y w' from fun hg Y b task ht => by
    have := C.blk Y cc (by rw [hcc]; exact (hc.below B0.out).below b) (by rw [← hG]; exact hg) task ht
    rw [hcc] at this ⊢
    exact this)
  have AW := hide (fun (Y : World) => adawake_any C Y)
  have HP := hide hP
  have HW := hide hW
  obtain ⟨k0, k1, k2, k3, k4, k5⟩ := SC.out W0 (Below.refl _ _)
  have CC := hide C
  have GG := hide hG
  clear hc hW hb C hG hP hcc
  cases G with
  | true =>
    clear MY BK
    go_enter Try.func6, Try.ntmps6
    go_upto_region 1 with fail
    rw [← HW.out]
    go_wp2_with (first
      | (go_at_call 7; refine GR.out.mono ?_; rintro e w1 ⟨rfl, b1⟩; have B1 := hide b1; clear b1 k0 k1 k2 k3 k4 k5; obtain ⟨k0, k1, k2, k3, k4, k5⟩ := SC.out w1 B1.out)
      | (go_at_call 8; refine (AW.out _).mono ?_; rintro e w3 ⟨rfl, b3⟩; have B3 := hide (B0.out.trans ((B1.out.trans (b3.mono B1.out.size)).mono B0.out.size)); clear b3)
      )
    go_ret
    exact ⟨rfl, B3.out⟩
  | false =>
    have MYF := hide (show ∀ Y : World, Below W0.heap.size W0 Y → Calls Try.prog 11 #[.agg #[.slice ta tn tc, .slice ea en ec, .slice ma mn mc, .slice ga gn gc, .int .i64 frames, .int .i64 dog]] Y fun e w' => e = .returned (.bool P) ∧ Below Y.heap.size Y w' from fun Y b => MY.out rfl Y b)
    clear MY BK
    by_cases t0 : tn = 0
    · subst t0
      go_enter Try.func6, Try.ntmps6
      go_upto_region 1 with fail
      rw [← HW.out]
      go_wp2_with (first
        | (go_at_call 7; refine GR.out.mono ?_; rintro e w1 ⟨rfl, b1⟩; have B1 := hide b1; clear b1 k0 k1 k2 k3 k4 k5; obtain ⟨k0, k1, k2, k3, k4, k5⟩ := SC.out w1 B1.out)
        | (go_at_call 8; refine (AW.out _).mono ?_; rintro e w3 ⟨rfl, b3⟩; have B3 := hide (B0.out.trans ((B1.out.trans (b3.mono B1.out.size)).mono B0.out.size)); clear b3)
        )
      go_ret
      exact ⟨rfl, B3.out⟩
    have t1 : ¬ (tn : Int) = 0 := by omega
    cases P with
    | false =>
      go_enter Try.func6, Try.ntmps6
      go_upto_region 1 with fail
      rw [← HW.out]
      go_wp2_with (first
        | (go_at_call 7; refine GR.out.mono ?_; rintro e w1 ⟨rfl, b1⟩; have B1 := hide b1; clear b1 k0 k1 k2 k3 k4 k5; obtain ⟨k0, k1, k2, k3, k4, k5⟩ := SC.out w1 B1.out)
        | (go_at_call 11; refine (MYF.out _ B1.out).mono ?_; rintro e w2 ⟨rfl, b2⟩; have B2 := hide (B1.out.trans (b2.mono B1.out.size)); clear b2 k0 k1 k2 k3 k4 k5; obtain ⟨k0, k1, k2, k3, k4, k5⟩ := SC.out w2 B2.out)
        | (go_at_call 8; refine (AW.out _).mono ?_; rintro e w3 ⟨rfl, b3⟩; have B3 := hide (B0.out.trans ((B2.out.trans (b3.mono B2.out.size)).mono B0.out.size)); clear b3)
        )
      go_ret
      exact ⟨rfl, B3.out⟩
    | true =>
      have HM := hide (show mayC (cpOf cc) = true from HP.out.symm)
      have RT := hide F.out.tasks.reads
      have tl : ts.length = tn := RT.out.1
      have gl : gs.length = gn := F.out.gaps.reads.1
      have tn8 : tn ≤ 8 := by
        have h1 := HM.out
        rw [HC.out] at h1
        unfold mayC at h1
        simp only [Bool.and_eq_true, decide_eq_true_eq] at h1
        have h2 : (ts.map tpOf).length ≤ 8 := h1.1.1.1.1.1.1.1.1.1
        rw [List.length_map] at h2
        omega
      have gn4 : gn ≤ 4 := by
        have h1 := HM.out
        rw [HC.out] at h1
        unfold mayC at h1
        simp only [Bool.and_eq_true, decide_eq_true_eq] at h1
        have h2 : gs.length ≤ 4 := h1.1.1.1.1.1.1.2
        omega
      obtain ⟨i, hi, l1⟩ := low_det one tn (by omega) (by omega)
      obtain ⟨k, hk, l2⟩ := low_det two tn (by omega) (by omega)
      have L1 := hide l1
      have L2 := hide l2
      have HI := hide hi
      have HK := hide hk
      clear l1 l2 hi hk
      have TL := hide tl
      have GL := hide gl
      clear tl gl
      go_enter Try.func6, Try.ntmps6
      go_upto_region 1 with fail
      rw [← HW.out]
      go_upto_region 3 with (first
        | (go_at_call 7; refine GR.out.mono ?_; rintro e w1 ⟨rfl, b1⟩; have B1 := hide b1; clear b1 k0 k1 k2 k3 k4 k5; obtain ⟨k0, k1, k2, k3, k4, k5⟩ := SC.out w1 B1.out)
        | (go_at_call 11; refine (MYF.out _ B1.out).mono ?_; rintro e w2 ⟨rfl, b2⟩; have B2 := hide (B1.out.trans (b2.mono B1.out.size)); clear b2 k0 k1 k2 k3 k4 k5; obtain ⟨k0, k1, k2, k3, k4, k5⟩ := SC.out w2 B2.out)
        )
      clear t1
      go_quiet ((first
        | (go_at_call 10; with_reducible exact quiet_hs (L1.out _))
        | (go_at_call 10; with_reducible exact quiet_hs (L2.out _))))
      obtain ⟨wr3, hw3⟩ : ∃ wr3, wr3 = w2.drewN nq := ⟨_, rfl⟩
      rw [← hw3]
      have B3 := hide (show Below W0.heap.size W0 wr3 from by rw [hw3]; exact below_drewN B2.out nq)
      have hi := HI.out
      have hk := HK.out
      clear hw3
      clear k0 k1 k2 k3 k4 k5
      have tl := TL.out
      obtain ⟨x, hx⟩ : ∃ x, ts[i]? = some x := ⟨_, List.getElem?_eq_getElem (by omega)⟩
      obtain ⟨y, hy⟩ : ∃ y, ts[k]? = some y := ⟨_, List.getElem?_eq_getElem (by omega)⟩
      have HX := hide hx
      have HY := hide hy
      obtain ⟨bt, ot, rfl⟩ : ∃ bt ot, ta = some ⟨bt, ot, none⟩ := by
        obtain ⟨_, b, off, _, e, _⟩ := RT.out.at_ hi
        exact ⟨b, off, e⟩
      have i0 : (0 : Int) ≤ (i : Int) := by omega
      have i1 : (i : Int) < (tn : Int) := by omega
      have m0 : (0 : Int) ≤ (k : Int) := by omega
      have m1 : (k : Int) < (tn : Int) := by omega
      obtain ⟨x_cls, x_lev, x_per, x_dl, x_bud, x_line, x_ua, x_un, x_uc, x_us, x_qa, x_qn, x_qc, x_qs⟩ := x
      obtain ⟨y_cls, y_lev, y_per, y_dl, y_bud, y_line, y_ua, y_un, y_uc, y_us, y_qa, y_qn, y_qc, y_qs⟩ := y
      have RG := hide (show ∀ Y : World, Below wr3.heap.size wr3 Y → Y.cell? ⟨w.heap.size, 0, none⟩ = some (.slice (some ⟨bt, ot, none⟩) tn tc) ∧ Y.cell? ⟨bt, ot + i * 8, none⟩ = some (.int .i64 x_cls) ∧ Y.cell? ⟨bt, ot + i * 8 + 1, none⟩ = some (.int .i64 x_lev) ∧ Y.cell? ⟨bt, ot + i * 8 + 2, none⟩ = some (.int .i64 x_per) ∧ Y.cell? ⟨bt, ot + i * 8 + 3, none⟩ = some (.int .i64 x_dl) ∧ Y.cell? ⟨bt, ot + i * 8 + 4, none⟩ = some (.int .i64 x_bud) ∧ Y.cell? ⟨bt, ot + i * 8 + 5, none⟩ = some (.int .i64 x_line) ∧ Y.cell? ⟨bt, ot + i * 8 + 6, none⟩ = some (.slice x_ua x_un x_uc) ∧ Y.cell? ⟨bt, ot + i * 8 + 7, none⟩ = some (.slice x_qa x_qn x_qc) ∧ Y.cell? ⟨bt, ot + k * 8, none⟩ = some (.int .i64 y_cls) ∧ Y.cell? ⟨bt, ot + k * 8 + 1, none⟩ = some (.int .i64 y_lev) ∧ Y.cell? ⟨bt, ot + k * 8 + 2, none⟩ = some (.int .i64 y_per) ∧ Y.cell? ⟨bt, ot + k * 8 + 3, none⟩ = some (.int .i64 y_dl) ∧ Y.cell? ⟨bt, ot + k * 8 + 4, none⟩ = some (.int .i64 y_bud) ∧ Y.cell? ⟨bt, ot + k * 8 + 5, none⟩ = some (.int .i64 y_line) ∧ Y.cell? ⟨bt, ot + k * 8 + 6, none⟩ = some (.slice y_ua y_un y_uc) ∧ Y.cell? ⟨bt, ot + k * 8 + 7, none⟩ = some (.slice y_qa y_qn y_qc) from fun Y b => by
        have B := B0.out.trans ((B3.out.trans (b.mono B3.out.size)).mono B0.out.size)
        have rx := (RT.out.below B).range HX.out
        have ry := (RT.out.below B).range HY.out
        exact ⟨(SC.out Y (B3.out.trans (b.mono B3.out.size))).1, rx 0 _ rfl, rx 1 _ rfl, rx 2 _ rfl, rx 3 _ rfl, rx 4 _ rfl, rx 5 _ rfl, rx 6 _ rfl, rx 7 _ rfl, ry 0 _ rfl, ry 1 _ rfl, ry 2 _ rfl, ry 3 _ rfl, ry 4 _ rfl, ry 5 _ rfl, ry 6 _ rfl, ry 7 _ rfl⟩)
      clear tl hx hy hi hk
      go_upto_region 4 with fail
      go_cut [9, 10] (fun p q wx => ∃ P Q : Nat, p = .pointer (some ⟨P, 0, none⟩) ∧ q = .pointer (some ⟨Q, 0, none⟩) ∧ Hid (wx.heap[P]? = some (.cells #[.int .i64 x_cls, .int .i64 x_lev, .int .i64 x_per, .int .i64 x_dl, .int .i64 x_bud, .int .i64 x_line, .slice x_ua x_un x_uc, .slice x_qa x_qn x_qc] 34 (0, 0)) ∧ wx.heap[Q]? = some (.cells #[.int .i64 y_cls, .int .i64 y_lev, .int .i64 y_per, .int .i64 y_dl, .int .i64 y_bud, .int .i64 y_line, .slice y_ua y_un y_uc, .slice y_qa y_qn y_qc] 34 (0, 0)) ∧ Below wr3.heap.size wr3 wx))
      case first =>
        go_region_held3 (fun W => W.cell? ⟨w.heap.size, 0, none⟩ = some (.slice (some ⟨bt, ot, none⟩) tn tc) ∧ W.cell? ⟨bt, ot + i * 8, none⟩ = some (.int .i64 x_cls) ∧ W.cell? ⟨bt, ot + i * 8 + 1, none⟩ = some (.int .i64 x_lev) ∧ W.cell? ⟨bt, ot + i * 8 + 2, none⟩ = some (.int .i64 x_per) ∧ W.cell? ⟨bt, ot + i * 8 + 3, none⟩ = some (.int .i64 x_dl) ∧ W.cell? ⟨bt, ot + i * 8 + 4, none⟩ = some (.int .i64 x_bud) ∧ W.cell? ⟨bt, ot + i * 8 + 5, none⟩ = some (.int .i64 x_line) ∧ W.cell? ⟨bt, ot + i * 8 + 6, none⟩ = some (.slice x_ua x_un x_uc) ∧ W.cell? ⟨bt, ot + i * 8 + 7, none⟩ = some (.slice x_qa x_qn x_qc) ∧ W.cell? ⟨bt, ot + k * 8, none⟩ = some (.int .i64 y_cls) ∧ W.cell? ⟨bt, ot + k * 8 + 1, none⟩ = some (.int .i64 y_lev) ∧ W.cell? ⟨bt, ot + k * 8 + 2, none⟩ = some (.int .i64 y_per) ∧ W.cell? ⟨bt, ot + k * 8 + 3, none⟩ = some (.int .i64 y_dl) ∧ W.cell? ⟨bt, ot + k * 8 + 4, none⟩ = some (.int .i64 y_bud) ∧ W.cell? ⟨bt, ot + k * 8 + 5, none⟩ = some (.int .i64 y_line) ∧ W.cell? ⟨bt, ot + k * 8 + 6, none⟩ = some (.slice y_ua y_un y_uc) ∧ W.cell? ⟨bt, ot + k * 8 + 7, none⟩ = some (.slice y_qa y_qn y_qc)) (first | exact RG.out _ (below_drewN (Below.refl _ wr3) 1) | exact RG.out _ ((below_drewN (Below.refl _ wr3) 1).alloc (Nat.le_refl _) _) | exact RG.out _ (((below_drewN (Below.refl _ wr3) 1).alloc (Nat.le_refl _) _).alloc (by simp) _)) (fail)
        · go_wp2_with fail
          go_meet
          exact ⟨_, _, rfl, rfl, (heap_alloc_old _ _ (by simp)).trans (heap_alloc_new wr3 _), (alloc_second wr3 _ _), below_drewN (((Below.refl _ wr3).alloc (Nat.le_refl _) _).alloc (by simp) _) 1⟩
        · go_wp2_with fail
          go_meet
          exact ⟨_, _, rfl, rfl, (alloc_second wr3 _ _), (heap_alloc_old _ _ (by simp)).trans (heap_alloc_new wr3 _), below_drewN (((Below.refl _ wr3).alloc (Nat.le_refl _) _).alloc (by simp) _) 1⟩
      case rest =>
        obtain ⟨P, Q, rfl, rfl, hX⟩ := hcut
        rename World => w4
        have X4 := hide hX
        have B4 := hide (B3.out.trans (X4.out.2.2.mono B3.out.size))
        clear hX
        obtain ⟨k0, k1, k2, k3, k4, k5⟩ := SC.out _ B4.out
        have XC := hide (show ∀ Y : World, Below w4.heap.size w4 Y → Y.cell? ⟨P, 0, none⟩ = some (.int .i64 x_cls) ∧ Y.cell? ⟨P, 1, none⟩ = some (.int .i64 x_lev) ∧ Y.cell? ⟨Q, 0, none⟩ = some (.int .i64 y_cls) ∧ Y.cell? ⟨Q, 1, none⟩ = some (.int .i64 y_lev) ∧ Y.cell? ⟨Q, 2, none⟩ = some (.int .i64 y_per) ∧ Y.cell? ⟨Q, 4, none⟩ = some (.int .i64 y_bud) from fun Y b => by
          have e1 := (b.block P (lt_of_heap X4.out.1)).trans X4.out.1
          have e2 := (b.block Q (lt_of_heap X4.out.2.1)).trans X4.out.2.1
          refine ⟨?_, ?_, ?_, ?_, ?_, ?_⟩ <;> first | (rw [cell_of_row _ _ _ _ _ _ e1]; rfl) | (rw [cell_of_row _ _ _ _ _ _ e2]; rfl))
        obtain ⟨x0, x1, y0, y1, _, _⟩ := XC.out w4 (Below.refl _ _)
        have TX := hide (show (cpOf cc).ts[i]? = some (tpOf ⟨x_cls, x_lev, x_per, x_dl, x_bud, x_line, x_ua, x_un, x_uc, x_us, x_qa, x_qn, x_qc, x_qs⟩) from by rw [HC.out]; show (ts.map tpOf)[i]? = _; rw [List.getElem?_map, HX.out]; rfl)
        have TY := hide (show (cpOf cc).ts[k]? = some (tpOf ⟨y_cls, y_lev, y_per, y_dl, y_bud, y_line, y_ua, y_un, y_uc, y_us, y_qa, y_qn, y_qc, y_qs⟩) from by rw [HC.out]; show (ts.map tpOf)[k]? = _; rw [List.getElem?_map, HY.out]; rfl)
        obtain ⟨pa, hpa⟩ : ∃ pa, pa = partsT (cpOf cc) i (tpOf ⟨x_cls, x_lev, x_per, x_dl, x_bud, x_line, x_ua, x_un, x_uc, x_us, x_qa, x_qn, x_qc, x_qs⟩) := ⟨_, rfl⟩
        obtain ⟨pb, hpb⟩ : ∃ pb, pb = partsT (cpOf cc) k (tpOf ⟨y_cls, y_lev, y_per, y_dl, y_bud, y_line, y_ua, y_un, y_uc, y_us, y_qa, y_qn, y_qc, y_qs⟩) := ⟨_, rfl⟩
        have PA := hide hpa
        have PB := hide hpb
        have LEN := hide (show gn ≤ pa.length ∧ pa.length ≤ 12 ∧ gn ≤ pb.length ∧ pb.length ≤ 12 from by
          have h1 := partsT_len (cpOf cc) i (tpOf ⟨x_cls, x_lev, x_per, x_dl, x_bud, x_line, x_ua, x_un, x_uc, x_us, x_qa, x_qn, x_qc, x_qs⟩)
          have h2 := partsT_len (cpOf cc) k (tpOf ⟨y_cls, y_lev, y_per, y_dl, y_bud, y_line, y_ua, y_un, y_uc, y_us, y_qa, y_qn, y_qc, y_qs⟩)
          rw [← hpa] at h1
          rw [← hpb] at h2
          have h3 : (cpOf cc).gs.length = gn := by rw [HC.out]; exact GL.out
          have h4 : (cpOf cc).ts.length = tn := by rw [HC.out]; show (ts.map tpOf).length = tn; rw [List.length_map]; exact TL.out
          omega)
        have PI := hide (show ∀ Y : World, Below W0.heap.size W0 Y → Calls Try.prog 14 #[.agg #[.slice (some ⟨bt, ot, none⟩) tn tc, .slice ea en ec, .slice ma mn mc, .slice ga gn gc, .int .i64 frames, .int .i64 dog], .int .i64 (i : Nat)] Y fun e w' => ∃ a c, e = .returned (.slice a pa.length c) ∧ Reads 2 ptVals w' a pa.length pa ∧ Below Y.heap.size Y w' from fun Y b => by
          have h := CC.out.parts Y cc (by rw [HC.out]; exact (F.out.below B0.out).below b) GG.out.symm (i : Int) (by simp [Lit.wf, IntKind.min, IntKind.max, IntKind.bits, IntKind.signed]; omega)
          rw [partsC_atA HM.out TX.out, ← PA.out] at h
          rw [HC.out] at h
          refine h.mono ?_
          rintro e w' ⟨v, rfl, h1, h2⟩
          obtain ⟨a, c, rfl, h3, _⟩ := own_reads ptVals_len (by omega) h1
          exact ⟨a, c, rfl, h3, h2⟩)
        have PK := hide (show ∀ Y : World, Below W0.heap.size W0 Y → Calls Try.prog 14 #[.agg #[.slice (some ⟨bt, ot, none⟩) tn tc, .slice ea en ec, .slice ma mn mc, .slice ga gn gc, .int .i64 frames, .int .i64 dog], .int .i64 (k : Nat)] Y fun e w' => ∃ a c, e = .returned (.slice a pb.length c) ∧ Reads 2 ptVals w' a pb.length pb ∧ Below Y.heap.size Y w' from fun Y b => by
          have h := CC.out.parts Y cc (by rw [HC.out]; exact (F.out.below B0.out).below b) GG.out.symm (k : Int) (by simp [Lit.wf, IntKind.min, IntKind.max, IntKind.bits, IntKind.signed]; omega)
          rw [partsC_atA HM.out TY.out, ← PB.out] at h
          rw [HC.out] at h
          refine h.mono ?_
          rintro e w' ⟨v, rfl, h1, h2⟩
          obtain ⟨a, c, rfl, h3, _⟩ := own_reads ptVals_len (by omega) h1
          exact ⟨a, c, rfl, h3, h2⟩)
        clear hpa hpb
        obtain ⟨n1, hn1⟩ : ∃ n1, n1 = pa.length := ⟨_, rfl⟩
        obtain ⟨n2, hn2⟩ : ∃ n2, n2 = pb.length := ⟨_, rfl⟩
        rw [← hn1] at PI
        rw [← hn2] at PK
        rw [← hn1, ← hn2] at LEN
        have N1 := hide hn1
        have N2 := hide hn2
        have ge : (gn : Int) ≤ (n1 : Int) := by have := LEN.out; omega
        clear hn1 hn2
        by_cases c0 : y_cls = 2
        · by_cases c1 : x_cls = 2
          · by_cases c2 : y_lev ≤ x_lev
            · go_upto_region 6 with fail
              go_region_held3 (fun W => W.cell? ⟨w.heap.size, 0, none⟩ = some (.slice (some ⟨bt, ot, none⟩) tn tc) ∧ W.cell? ⟨w.heap.size, 1, none⟩ = some (.slice ea en ec) ∧ W.cell? ⟨w.heap.size, 2, none⟩ = some (.slice ma mn mc) ∧ W.cell? ⟨w.heap.size, 3, none⟩ = some (.slice ga gn gc) ∧ W.cell? ⟨w.heap.size, 4, none⟩ = some (.int .i64 frames) ∧ W.cell? ⟨w.heap.size, 5, none⟩ = some (.int .i64 dog)) (first | exact ⟨k0, k1, k2, k3, k4, k5⟩ | exact SC.out _ B5.out | exact SC.out _ B6.out) (first
                | (go_at_call 14; refine (PI.out _ (below_drewN B4.out 1)).mono ?_; rintro e w5 ⟨a5, c5, rfl, r5, b5⟩; have B5 := hide ((below_drewN B4.out 1).trans (b5.mono (below_drewN B4.out 1).size)); clear b5)
                | (go_at_call 8; refine (AW.out _).mono ?_; rintro e w6 ⟨rfl, b6⟩; have B6 := hide (B5.out.trans (b6.mono B5.out.size)); clear b6))
              go_wp2_with fail
              go_ret
              exact ⟨rfl, B0.out.trans (B6.out.mono B0.out.size)⟩
            · have NB := hide (show ¬ (x_cls = 2 ∧ y_lev ≤ x_lev) from fun e => c2 e.2)
              have CY := hide c0
              have AH := hide (show (pb.Sublist pa ∧ pb.length < pa.length ∧ (⟨y_per, y_bud⟩ : Pt) ∈ (((cpOf cc).ts.eraseIdx i).filter fun b => decide (b.cls = 2) && countsT (tpOf ⟨x_cls, x_lev, x_per, x_dl, x_bud, x_line, x_ua, x_un, x_uc, x_us, x_qa, x_qn, x_qc, x_qs⟩) b).map partT) from by rw [PA.out, PB.out]; exact ahead (c := cpOf cc) TX.out TY.out CY.out NB.out (mayT_facts (mayC_task HM.out TX.out)).1)
              have PAE := hide (show pa = (cpOf cc).gs.map gapT ++ (((cpOf cc).ts.eraseIdx i).filter fun b => decide (b.cls = 2) && countsT (tpOf ⟨x_cls, x_lev, x_per, x_dl, x_bud, x_line, x_ua, x_un, x_uc, x_us, x_qa, x_qn, x_qc, x_qs⟩) b).map partT from PA.out)
              go_upto_region 7 with fail
              clear x0 x1 y0 y1
              go_cut [11, 12] (fun a b wx => ∃ A ca B cb, a = .slice A n1 ca ∧ b = .slice B n2 cb ∧ Hid (Reads 2 ptVals wx A n1 pa ∧ Reads 2 ptVals wx B n2 pb ∧ Below W0.heap.size W0 wx ∧ Below w4.heap.size w4 wx))
              case first =>
                have D5 := hide (show Below W0.heap.size W0 w4.drew from below_drewN B4.out 1)
                go_region_held3 (fun W => W.cell? ⟨w.heap.size, 0, none⟩ = some (.slice (some ⟨bt, ot, none⟩) tn tc) ∧ W.cell? ⟨w.heap.size, 1, none⟩ = some (.slice ea en ec) ∧ W.cell? ⟨w.heap.size, 2, none⟩ = some (.slice ma mn mc) ∧ W.cell? ⟨w.heap.size, 3, none⟩ = some (.slice ga gn gc) ∧ W.cell? ⟨w.heap.size, 4, none⟩ = some (.int .i64 frames) ∧ W.cell? ⟨w.heap.size, 5, none⟩ = some (.int .i64 dog)) (first | exact ⟨k0, k1, k2, k3, k4, k5⟩ | exact SC.out _ (D5.out.trans (B5.out.mono D5.out.size)) | exact SC.out _ ((D5.out.trans (B5.out.mono D5.out.size)).trans (B6.out.mono (D5.out.trans (B5.out.mono D5.out.size)).size))) (first
                  | (go_at_call 14; with_reducible refine (PI.out _ (D5.out.trans (B5.out.mono D5.out.size))).mono ?_; rintro e w6 ⟨a6, c6, rfl, r6, b6⟩; have R6 := hide r6; have B6 := hide b6; clear b6 r6)
                  | (go_at_call 14; with_reducible refine (PK.out _ (D5.out.trans (B5.out.mono D5.out.size))).mono ?_; rintro e w6 ⟨a6, c6, rfl, r6, b6⟩; have R6 := hide r6; have B6 := hide b6; clear b6 r6)
                  | (go_at_call 14; with_reducible refine (PI.out _ D5.out).mono ?_; rintro e w5 ⟨a5, c5, rfl, r5, b5⟩; have R5 := hide r5; have B5 := hide b5; clear b5 r5)
                  | (go_at_call 14; with_reducible refine (PK.out _ D5.out).mono ?_; rintro e w5 ⟨a5, c5, rfl, r5, b5⟩; have R5 := hide r5; have B5 := hide b5; clear b5 r5))
                go_wp2_with fail
                go_meet
                exact ⟨a5, c5, a6, c6, rfl, rfl, R5.out.below B6.out, R6.out, (D5.out.trans (B5.out.mono D5.out.size)).trans (B6.out.mono (D5.out.trans (B5.out.mono D5.out.size)).size), (below_drewN (Below.refl _ w4) 1).trans (B5.out.trans (B6.out.mono B5.out.size))⟩
              case rest =>
                obtain ⟨A, ca, B, cb, rfl, rfl, hR⟩ := hcut
                rename World => w7
                have R7 := hide hR
                clear hR k0 k1 k2 k3 k4 k5
                have E7 := hide R7.out.2.2.1
                have F7 := hide R7.out.2.2.2
                have n1s : n1 ≤ 12 := LEN.out.2.1
                have n2s : n2 ≤ 12 := LEN.out.2.2.2
                go_wp2_with fail
                go_loopw [13, 14, 15] (fun av kv jv wr => ∃ j at_ : Nat, j ≤ n2 ∧ at_ ≤ n1 ∧ jv = .int .i64 (j : Int) ∧ av = .int .i64 (at_ : Int) ∧ kv = .bool true ∧ Hid ((pb.drop j).Sublist (pa.drop at_) ∧ Below w7.heap.size w7 wr)) (fun _ _ jv _ => n2 - (intOf jv).toNat)
                case atStart => exact ⟨0, 0, Nat.zero_le _, Nat.zero_le _, rfl, rfl, rfl, AH.out.1, Below.refl _ _⟩
                case round =>
                  obtain ⟨j, at_, hj, hat, rfl, rfl, rfl, hZ⟩ := hrel
                  rename World => w8
                  have SU := hide hZ.out.1
                  have B8 := hide hZ.out.2
                  clear hZ
                  by_cases hlt : j < n2
                  · have j0 : (0 : Int) ≤ (j : Int) := by omega
                    have j1 : (j : Int) < (n2 : Int) := by omega
                    obtain ⟨p, g, off, hp, rfl, hcp⟩ := R7.out.2.1.at_ hlt
                    obtain ⟨pp, pq⟩ := p
                    have q0 : w8.cell? ⟨g, off + j * 2, none⟩ = some (.int .i64 pp) := (B8.out.cell (lt_of_cell? (hcp 0 _ rfl))).trans (hcp 0 _ rfl)
                    have q1 : w8.cell? ⟨g, off + j * 2 + 1, none⟩ = some (.int .i64 pq) := (B8.out.cell (lt_of_cell? (hcp 1 _ rfl))).trans (hcp 1 _ rfl)
                    have HPj := hide hp
                    have HS := hide (has_walk w8 A n1 ca at_ pa ⟨pp, pq⟩ (R7.out.1.below B8.out) (by omega) hat)
                    clear hp hcp
                    go_wp2_with (go_at_call 15; refine HS.out.mono ?_; rintro e w9 ⟨⟨xx, okk, rfl, hh⟩, b9⟩; obtain ⟨rfl, k9, rfl, hk9, hs9⟩ := hh.next SU.out HPj.out; have H9 := hide hs9; have K9 := hide hk9; have B9 := hide (B8.out.trans (b9.mono B8.out.size)); clear hh b9 hk9 hs9)
                    go_roundw
                    case rel => exact ⟨j + 1, k9, by omega, by have := K9.out; have := N1.out; omega, by go_num, rfl, rfl, H9.out, B9.out⟩
                    case measure => simp [intOf]; omega
                  · obtain rfl : j = n2 := by omega
                    have B9 := hide (F7.out.trans (B8.out.mono F7.out.size))
                    obtain ⟨x0, x1, y0, y1, y2, y4⟩ := XC.out w8 B9.out
                    obtain ⟨k0, k1, k2, k3, k4, k5⟩ := SC.out w8 (E7.out.trans (B8.out.mono E7.out.size))
                    have hbp := built_part y_per y_bud
                    have OW := hide (show ∀ x ok, HasP pa gn ⟨y_per, y_bud⟩ x ok → ok = true from fun x ok hh => by
                      have h3 : (cpOf cc).gs.length = gn := by rw [HC.out]; exact GL.out
                      have h4 : ((cpOf cc).gs.map gapT).length = gn := by rw [List.length_map]; exact h3
                      rw [← h4] at hh
                      exact hh.mem PAE.out AH.out.2.2)
                    have HS := hide (has_walk w8 A n1 ca gn pa ⟨y_per, y_bud⟩ (R7.out.1.below B8.out) (by omega) LEN.out.1)
                    have LT := hide (show (j : Int) < (n1 : Int) from by
                      have h := AH.out.2.1
                      have := N1.out
                      have := N2.out
                      omega)
                    have lt := LT.out
                    clear x0 x1 y0 y1
                    go_wp2_with (first
                      | (go_at_call 15; refine HS.out.mono ?_; rintro e w9 ⟨⟨xx, okk, rfl, hh⟩, b9⟩; obtain rfl := OW.out _ _ hh; have C9 := hide ((E7.out.trans (B8.out.mono E7.out.size)).trans (b9.mono (E7.out.trans (B8.out.mono E7.out.size)).size)); clear hh b9)
                      | (go_at_call 8; refine (AW.out _).mono ?_; rintro e w10 ⟨rfl, b10⟩; have C10 := hide (C9.out.trans (b10.mono C9.out.size)); clear b10))
                    go_ret
                    exact ⟨rfl, B0.out.trans (C10.out.mono B0.out.size)⟩
          · have NB := hide (show ¬ (x_cls = 2 ∧ y_lev ≤ x_lev) from fun e => c1 e.1)
            have CY := hide c0
            have AH := hide (show (pb.Sublist pa ∧ pb.length < pa.length ∧ (⟨y_per, y_bud⟩ : Pt) ∈ (((cpOf cc).ts.eraseIdx i).filter fun b => decide (b.cls = 2) && countsT (tpOf ⟨x_cls, x_lev, x_per, x_dl, x_bud, x_line, x_ua, x_un, x_uc, x_us, x_qa, x_qn, x_qc, x_qs⟩) b).map partT) from by rw [PA.out, PB.out]; exact ahead (c := cpOf cc) TX.out TY.out CY.out NB.out (mayT_facts (mayC_task HM.out TX.out)).1)
            have PAE := hide (show pa = (cpOf cc).gs.map gapT ++ (((cpOf cc).ts.eraseIdx i).filter fun b => decide (b.cls = 2) && countsT (tpOf ⟨x_cls, x_lev, x_per, x_dl, x_bud, x_line, x_ua, x_un, x_uc, x_us, x_qa, x_qn, x_qc, x_qs⟩) b).map partT from PA.out)
            go_upto_region 7 with fail
            clear x0 x1 y0 y1
            go_cut [11, 12] (fun a b wx => ∃ A ca B cb, a = .slice A n1 ca ∧ b = .slice B n2 cb ∧ Hid (Reads 2 ptVals wx A n1 pa ∧ Reads 2 ptVals wx B n2 pb ∧ Below W0.heap.size W0 wx ∧ Below w4.heap.size w4 wx))
            case first =>
              have D5 := hide (show Below W0.heap.size W0 w4.drew from below_drewN B4.out 1)
              go_region_held3 (fun W => W.cell? ⟨w.heap.size, 0, none⟩ = some (.slice (some ⟨bt, ot, none⟩) tn tc) ∧ W.cell? ⟨w.heap.size, 1, none⟩ = some (.slice ea en ec) ∧ W.cell? ⟨w.heap.size, 2, none⟩ = some (.slice ma mn mc) ∧ W.cell? ⟨w.heap.size, 3, none⟩ = some (.slice ga gn gc) ∧ W.cell? ⟨w.heap.size, 4, none⟩ = some (.int .i64 frames) ∧ W.cell? ⟨w.heap.size, 5, none⟩ = some (.int .i64 dog)) (first | exact ⟨k0, k1, k2, k3, k4, k5⟩ | exact SC.out _ (D5.out.trans (B5.out.mono D5.out.size)) | exact SC.out _ ((D5.out.trans (B5.out.mono D5.out.size)).trans (B6.out.mono (D5.out.trans (B5.out.mono D5.out.size)).size))) (first
                | (go_at_call 14; with_reducible refine (PI.out _ (D5.out.trans (B5.out.mono D5.out.size))).mono ?_; rintro e w6 ⟨a6, c6, rfl, r6, b6⟩; have R6 := hide r6; have B6 := hide b6; clear b6 r6)
                | (go_at_call 14; with_reducible refine (PK.out _ (D5.out.trans (B5.out.mono D5.out.size))).mono ?_; rintro e w6 ⟨a6, c6, rfl, r6, b6⟩; have R6 := hide r6; have B6 := hide b6; clear b6 r6)
                | (go_at_call 14; with_reducible refine (PI.out _ D5.out).mono ?_; rintro e w5 ⟨a5, c5, rfl, r5, b5⟩; have R5 := hide r5; have B5 := hide b5; clear b5 r5)
                | (go_at_call 14; with_reducible refine (PK.out _ D5.out).mono ?_; rintro e w5 ⟨a5, c5, rfl, r5, b5⟩; have R5 := hide r5; have B5 := hide b5; clear b5 r5))
              go_wp2_with fail
              go_meet
              exact ⟨a5, c5, a6, c6, rfl, rfl, R5.out.below B6.out, R6.out, (D5.out.trans (B5.out.mono D5.out.size)).trans (B6.out.mono (D5.out.trans (B5.out.mono D5.out.size)).size), (below_drewN (Below.refl _ w4) 1).trans (B5.out.trans (B6.out.mono B5.out.size))⟩
            case rest =>
              obtain ⟨A, ca, B, cb, rfl, rfl, hR⟩ := hcut
              rename World => w7
              have R7 := hide hR
              clear hR k0 k1 k2 k3 k4 k5
              have E7 := hide R7.out.2.2.1
              have F7 := hide R7.out.2.2.2
              have n1s : n1 ≤ 12 := LEN.out.2.1
              have n2s : n2 ≤ 12 := LEN.out.2.2.2
              go_wp2_with fail
              go_loopw [13, 14, 15] (fun av kv jv wr => ∃ j at_ : Nat, j ≤ n2 ∧ at_ ≤ n1 ∧ jv = .int .i64 (j : Int) ∧ av = .int .i64 (at_ : Int) ∧ kv = .bool true ∧ Hid ((pb.drop j).Sublist (pa.drop at_) ∧ Below w7.heap.size w7 wr)) (fun _ _ jv _ => n2 - (intOf jv).toNat)
              case atStart => exact ⟨0, 0, Nat.zero_le _, Nat.zero_le _, rfl, rfl, rfl, AH.out.1, Below.refl _ _⟩
              case round =>
                obtain ⟨j, at_, hj, hat, rfl, rfl, rfl, hZ⟩ := hrel
                rename World => w8
                have SU := hide hZ.out.1
                have B8 := hide hZ.out.2
                clear hZ
                by_cases hlt : j < n2
                · have j0 : (0 : Int) ≤ (j : Int) := by omega
                  have j1 : (j : Int) < (n2 : Int) := by omega
                  obtain ⟨p, g, off, hp, rfl, hcp⟩ := R7.out.2.1.at_ hlt
                  obtain ⟨pp, pq⟩ := p
                  have q0 : w8.cell? ⟨g, off + j * 2, none⟩ = some (.int .i64 pp) := (B8.out.cell (lt_of_cell? (hcp 0 _ rfl))).trans (hcp 0 _ rfl)
                  have q1 : w8.cell? ⟨g, off + j * 2 + 1, none⟩ = some (.int .i64 pq) := (B8.out.cell (lt_of_cell? (hcp 1 _ rfl))).trans (hcp 1 _ rfl)
                  have HPj := hide hp
                  have HS := hide (has_walk w8 A n1 ca at_ pa ⟨pp, pq⟩ (R7.out.1.below B8.out) (by omega) hat)
                  clear hp hcp
                  go_wp2_with (go_at_call 15; refine HS.out.mono ?_; rintro e w9 ⟨⟨xx, okk, rfl, hh⟩, b9⟩; obtain ⟨rfl, k9, rfl, hk9, hs9⟩ := hh.next SU.out HPj.out; have H9 := hide hs9; have K9 := hide hk9; have B9 := hide (B8.out.trans (b9.mono B8.out.size)); clear hh b9 hk9 hs9)
                  go_roundw
                  case rel => exact ⟨j + 1, k9, by omega, by have := K9.out; have := N1.out; omega, by go_num, rfl, rfl, H9.out, B9.out⟩
                  case measure => simp [intOf]; omega
                · obtain rfl : j = n2 := by omega
                  have B9 := hide (F7.out.trans (B8.out.mono F7.out.size))
                  obtain ⟨x0, x1, y0, y1, y2, y4⟩ := XC.out w8 B9.out
                  obtain ⟨k0, k1, k2, k3, k4, k5⟩ := SC.out w8 (E7.out.trans (B8.out.mono E7.out.size))
                  have hbp := built_part y_per y_bud
                  have OW := hide (show ∀ x ok, HasP pa gn ⟨y_per, y_bud⟩ x ok → ok = true from fun x ok hh => by
                    have h3 : (cpOf cc).gs.length = gn := by rw [HC.out]; exact GL.out
                    have h4 : ((cpOf cc).gs.map gapT).length = gn := by rw [List.length_map]; exact h3
                    rw [← h4] at hh
                    exact hh.mem PAE.out AH.out.2.2)
                  have HS := hide (has_walk w8 A n1 ca gn pa ⟨y_per, y_bud⟩ (R7.out.1.below B8.out) (by omega) LEN.out.1)
                  have LT := hide (show (j : Int) < (n1 : Int) from by
                    have h := AH.out.2.1
                    have := N1.out
                    have := N2.out
                    omega)
                  have lt := LT.out
                  clear x0 x1 y0 y1
                  go_wp2_with (first
                    | (go_at_call 15; refine HS.out.mono ?_; rintro e w9 ⟨⟨xx, okk, rfl, hh⟩, b9⟩; obtain rfl := OW.out _ _ hh; have C9 := hide ((E7.out.trans (B8.out.mono E7.out.size)).trans (b9.mono (E7.out.trans (B8.out.mono E7.out.size)).size)); clear hh b9)
                    | (go_at_call 8; refine (AW.out _).mono ?_; rintro e w10 ⟨rfl, b10⟩; have C10 := hide (C9.out.trans (b10.mono C9.out.size)); clear b10))
                  go_ret
                  exact ⟨rfl, B0.out.trans (C10.out.mono B0.out.size)⟩
        · go_upto_region 6 with fail
          go_region_held3 (fun W => W.cell? ⟨w.heap.size, 0, none⟩ = some (.slice (some ⟨bt, ot, none⟩) tn tc) ∧ W.cell? ⟨w.heap.size, 1, none⟩ = some (.slice ea en ec) ∧ W.cell? ⟨w.heap.size, 2, none⟩ = some (.slice ma mn mc) ∧ W.cell? ⟨w.heap.size, 3, none⟩ = some (.slice ga gn gc) ∧ W.cell? ⟨w.heap.size, 4, none⟩ = some (.int .i64 frames) ∧ W.cell? ⟨w.heap.size, 5, none⟩ = some (.int .i64 dog)) (first | exact ⟨k0, k1, k2, k3, k4, k5⟩ | exact SC.out _ B5.out | exact SC.out _ B6.out) (first
            | (go_at_call 14; refine (PI.out _ (below_drewN B4.out 1)).mono ?_; rintro e w5 ⟨a5, c5, rfl, r5, b5⟩; have B5 := hide ((below_drewN B4.out 1).trans (b5.mono (below_drewN B4.out 1).size)); clear b5)
            | (go_at_call 8; refine (AW.out _).mono ?_; rintro e w6 ⟨rfl, b6⟩; have B6 := hide (B5.out.trans (b6.mono B5.out.size)); clear b6))
          go_wp2_with fail
          go_ret
          exact ⟨rfl, B0.out.trans (B6.out.mono B0.out.size)⟩
end Go.Proofs.Ytcmgkjjkhfcedaa
/-
  The walk of AdmitAhead, over the program's own admit.
-/
namespace Go.Proofs.Ytcmgkjjkhfcedaa
open Go.ChangeShapes Go.WideShapes Go.ChangeAt Go.RowKit
set_option linter.unusedVariables false
theorem walk_admitAhead (w : World) (c : Cf) (hc : CfFit w c) (one : Int) (ho : (Lit.int .i64 one).wf = true) (two : Int) (h2 : (Lit.int .i64 two).wf = true) :
    Calls Try.prog 6 #[.agg (cfVals c).toArray, .int .i64 one, .int .i64 two] w fun e w' => e = .returned (.bool true) ∧ Below w.heap.size w w' := walk_admitAheadC padmit w c hc one ho two h2
end Go.Proofs.Ytcmgkjjkhfcedaa
/-
  Proved: for every input, coxswain's law coxswainlaw18.AdmitAhead returns true and leaves its arguments as they were. No condition.
-/
namespace Go.Proofs.Ytcmgkjjkhfcedaa.admitAhead
open Go.ChangeShapes Go.WideShapes Go.ChangeAt Go.RowKit
open Go.ChangeMaps (open_string shut_string)
set_option linter.unusedVariables false

set_option maxRecDepth 100000 in
theorem lifted (os : Os) (started : os.Started) (H : Type) (enc : TypeId × Value → H) :
    ReturnsInHanded {} Try.checked os 6 .any (Rows.admitAheadSpec.pre6 enc Try.prog Try.f6 Rows.admitAheadRow.domain false) (Rows.admitAheadSpec.post enc Try.prog Try.f6 false true false false) := by
  refine returnsInHanded_of_change (C := Try.checked) own started (by kernel_rfl) Try.func6
    (ChangeSpec.witness6 (enc := enc) (C := Try.checked) false ⟨#[], #[.agg #[.slice none 0 0, .slice none 0 0, .slice none 0 0, .slice none 0 0, .int .i64 0, .int .i64 0], .int .i64 0, .int .i64 0], []⟩ 8 (by kernel_rfl) (by kernel_rfl) (by kernel_rfl) (by kernel_rfl)) ?_
  intro W base args ds gs before hval0 hW hcnd _
  have hval : ∀ (j : Nat) t v, Try.f6.params[j]? = some t → args[j]? = some v → Value.okWide Try.prog W .any base t v := hval0
  have hW' := hW
  obtain ⟨p, q, hA0, hV, rfl, hfz, hnd⟩ := hW
  have hA : DataW.TrodAll enc Try.prog W 0 (fun _ => true) true Try.f6.params.toList args.toList ds p := hA0
  rw [Try.params6] at hA hval
  obtain ⟨v0, vs0, d0, ds0, p0, q0, hargs, rfl, rfl, h0, r0⟩ := trodAll_cons hA
  obtain ⟨v1, vs1, d1, ds1, p1, q1, rfl, rfl, rfl, h1, r1⟩ := trodAll_cons r0
  obtain ⟨v2, vs2, d2, ds2, p2, q2, rfl, rfl, rfl, h2, r2⟩ := trodAll_cons r1
  obtain ⟨rfl, rfl, rfl⟩ := trodAll_nil r2
  obtain rfl : args = #[v0, v1, v2] := by cases args; simp_all
  obtain ⟨rfl, rfl⟩ := trodVars_none hV
  have k0 := h0
  have lt0 : ∀ x ∈ p0, x.block < W.heap.size := by obtain ⟨m, hm⟩ := k0; exact DataW.trod_lt m _ _ _ hm
  obtain ⟨z0, rfl, w0⟩ := struct_arg Try.underlying27 (by kernel_rfl) (hval 0 27 v0 rfl rfl) cf_open h0
  obtain ⟨a1, rfl, rfl, rfl, w1⟩ := open_int Try.underlying3 (hval 1 3 v1 rfl rfl) h1
  obtain ⟨a2, rfl, rfl, rfl, w2⟩ := open_int Try.underlying3 (hval 2 3 v2 rfl rfl) h2
  clear hA0 hval0
  refine (walk_admitAhead W z0 w0 a1 w1 a2 w2).mono fun e W' ⟨he, bel⟩ => ?_
  subst he
  exact ⟨_, rfl, _, _, _, [], _, [], hW', trodAll_mk1 (shut_bool Try.underlying4 _), (trodAll_cons_mk (Below.trod laidOut (by kernel_rfl) (of_decide_eq_true (by kernel_rfl)) k0 bel lt0) (trodAll_cons_mk (shut_int Try.underlying3 w1) (trodAll_cons_mk (shut_int Try.underlying3 w2) trodAll_mk0))), rfl, bel.frame _, fun h => by cases h⟩

theorem over : Rows.admitAheadRow.holds Try.pinned (OpenSpec.ofChange Rows.admitAheadSpec) :=
  OpenClaim.holds_of_wide 6 Try.f6 rfl rfl rfl rfl rfl rfl rfl ⟨rfl, rfl, rfl, rfl, rfl⟩ rfl rfl rfl rfl rfl (by kernel_rfl) Try.func6 (by kernel_rfl)
    (of_decide_eq_true (by kernel_rfl)) (by unfold Func.isWrapper; rw [if_neg (of_decide_eq_false (by kernel_rfl))]; exact ⟨rfl, rfl⟩)
    (fun os started H enc _ => lifted os started H enc)

/-- The statement. -/
theorem proved : Rows.AdmitAheadSaid := over
end Go.Proofs.Ytcmgkjjkhfcedaa.admitAhead
