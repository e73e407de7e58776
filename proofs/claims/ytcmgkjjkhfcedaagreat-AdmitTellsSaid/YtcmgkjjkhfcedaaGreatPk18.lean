/-
  What the walks lean on, part 18: AmResp.
-/
import Derived.Test.YtcmgkjjkhfcedaaGreatPk17
/-
  The program's admit (stage 18): Response (written by tools/gen/amresp.py).
-/
namespace Go.Proofs.YtcmgkjjkhfcedaaGreat
open Go.ChangeShapes Go.WideShapes Go.ChangeAt Go.RowKit
set_option linter.unusedVariables false
set_option linter.unusedSimpArgs false
theorem early_filter (ts : List Tk) : (ts.filter (fun x => decide (x.cls = 1))).map (fun x => earT (tpOf x)) = ((ts.map tpOf).filter (fun t => decide (t.cls = 1))).map earT := by
  rw [List.filter_map, List.map_map]
  rfl
theorem step_store_seg {P : Program} {ops : Array Oper} {o : Oper} {a : Act} {w : World} {K : Act → World → Prop} {Q : Exit → Act → World → Prop} {E : Prop} (hgd : o.guard = none) (ty : TypeId) (x y : Operand) (ho : o.op = .store ty x y)
    (g off : Nat) (cells : Array Value) (hx : a.eval x = .pointer (some ⟨g, off, none⟩)) (hy : a.eval y = .agg cells)
    (t : TypeId) (old : List Value) (hg : w.heap[g]? = some (.cells old.toArray t (0, 0))) (hi : (P.info? ty).map (·.size) = some cells.size)
    (hold : off + cells.size ≤ old.length) (h1 : cells.all (·.oneCell') = true)
    (h : ∀ w', w'.heap[g]? = some (.cells (splice old off cells.toList).toArray t (0, 0)) → Touch (fun i => i = g) w w' → K (a.put o.dst undef) w') :
    if Region.wanted o (yielded ops a.tmps) = true then Oper.wp P o a w K Q else E := by
  have hw : Region.wanted o (yielded ops a.tmps) = true := by simp [Region.wanted, hgd]
  rw [if_pos hw]
  unfold Oper.wp execOp
  simp only [ho, hx, hy, Instr.storeAt, Instr.sureAddr, Sem.run_bind, Sem.run_pure, Result.andThen_ok, run_storeVar_seg w g off t ty old.toArray cells hg hi (by simpa using hold) h1]
  exact h _ (by simpa using setRow_heap w g _ _ t _ hg) (Touch.setRow (S := fun i => i = g) (Touch.refl _ w) rfl _)
theorem task_size18 : (Tryz.prog.info? 47).map (·.size) = some 8 := by kernel_rfl
theorem task_one (cls lev per dl bud line : Int) (ua : Option Addr) (un uc : Nat) (qa : Option Addr) (qn qc : Nat) : (#[Value.int .i64 cls, .int .i64 lev, .int .i64 per, .int .i64 dl, .int .i64 bud, .int .i64 line, .slice ua un uc, .slice qa qn qc] : Array Value).all (·.oneCell') = true := by simp [Value.oneCell']
set_option maxRecDepth 20000 in
set_option maxHeartbeats 8000000 in
theorem aresp_any (w : World) (c : Cf) (hc : CfFit w c) (hg : greatCf c = false) (task : Int) :
    Calls Tryz.prog 12 #[.agg (cfVals c).toArray, .int .i64 task] w fun e w' => RespOk (cpOf c) task w e w' := by
  obtain ⟨cc, hcc⟩ : ∃ cc, cc = c := ⟨_, rfl⟩
  have HC := hide hcc
  have HG := hide (show greatCf cc = false from by rw [hcc]; exact hg)
  have FC := hide (show CfFit w cc from by rw [hcc]; exact hc)
  obtain ⟨ta, tn, tc, ts, ea, en, ec, es, ma, mn, mc, ms, ga, gn, gc, gs, frames, dog⟩ := c
  show Calls Tryz.prog 12 #[.agg #[.slice ta tn tc, .slice ea en ec, .slice ma mn mc, .slice ga gn gc, .int .i64 frames, .int .i64 dog], .int .i64 task] w _
  have F := hide hc
  have bounds : tn ≤ 12 ∧ en ≤ 12 ∧ mn ≤ 12 ∧ gn ≤ 12 ∧ ∀ t ∈ ts, t.un ≤ 12 := by
    unfold greatCf at hg
    simp only [Bool.or_eq_false_iff, decide_eq_false_iff_not] at hg
    refine ⟨by omega, by omega, by omega, by omega, fun t ht => ?_⟩
    have h := hg.1.2
    cases e : bigTk t
    · unfold bigTk at e
      simp only [Bool.or_eq_false_iff, decide_eq_false_iff_not] at e
      omega
    · rw [List.any_eq_true.2 ⟨t, ht, e⟩] at h; cases h
  obtain ⟨tn12, en12, mn12, gn12, hun⟩ := bounds
  have HUN := hide hun
  have TN := hide tn12
  have MN := hide mn12
  have GN := hide gn12
  have RT := hide F.out.tasks.reads
  have TL := hide (show ts.length = tn from RT.out.1)
  obtain ⟨W0, hW⟩ : ∃ W0, W0 = w.alloc (.cells #[.slice ta tn tc, .slice ea en ec, .slice ma mn mc, .slice ga gn gc, .int .i64 frames, .int .i64 dog] 27) := ⟨_, rfl⟩
  have hb := heap_alloc_new w (.cells #[.slice ta tn tc, .slice ea en ec, .slice ma mn mc, .slice ga gn gc, .int .i64 frames, .int .i64 dog] 27)
  have B0 := hide ((Below.refl w.heap.size w).alloc (Nat.le_refl _) (.cells #[.slice ta tn tc, .slice ea en ec, .slice ma mn mc, .slice ga gn gc, .int .i64 frames, .int .i64 dog] 27))
  rw [← hW] at hb B0
  have SC := hide (show ∀ Y : World, Below W0.heap.size W0 Y → Y.cell? ⟨w.heap.size, 0, none⟩ = some (.slice ta tn tc) ∧ Y.cell? ⟨w.heap.size, 1, none⟩ = some (.slice ea en ec) ∧ Y.cell? ⟨w.heap.size, 2, none⟩ = some (.slice ma mn mc) ∧ Y.cell? ⟨w.heap.size, 3, none⟩ = some (.slice ga gn gc) ∧ Y.cell? ⟨w.heap.size, 4, none⟩ = some (.int .i64 frames) ∧ Y.cell? ⟨w.heap.size, 5, none⟩ = some (.int .i64 dog) from fun Y b => by
    have e := (b.block _ (lt_of_heap hb)).trans hb
    refine ⟨?_, ?_, ?_, ?_, ?_, ?_⟩ <;> (rw [cell_of_row _ _ _ _ _ _ e]; rfl))
  have HW := hide hW
  have CI := hide (show ∀ Y : World, Below W0.heap.size W0 Y → CfFit Y cc from fun Y b => (FC.out.below B0.out).below b)
  obtain ⟨k0, k1, k2, k3, k4, k5⟩ := SC.out W0 (Below.refl _ _)
  clear hcc hc hg hun hW hb tn12 en12 mn12 gn12
  obtain ⟨q, hq⟩ : ∃ q, q = isC (cpOf cc) task := ⟨_, rfl⟩
  have IS := hide (show ∀ Y : World, Below W0.heap.size W0 Y → Calls Tryz.prog 31 #[.agg #[.slice ta tn tc, .slice ea en ec, .slice ma mn mc, .slice ga gn gc, .int .i64 frames, .int .i64 dog], .int .i64 task] Y fun e w' => e = .returned (.bool q) ∧ Below Y.heap.size Y w' from fun Y b => by
    have h := ahas_any Y cc (CI.out Y b) HG.out task
    rw [← hq, HC.out] at h
    exact h)
  have HQ := hide hq
  clear hq
  rw [← HC.out]
  cases q with
  | false =>
    have V := hide ((isC_no HQ.out.symm).2.2)
    go_enter Tryz.func12, Tryz.ntmps12
    go_upto_region 1 with fail
    rw [← HW.out]
    go_wp2_with (go_at_call 31; refine (IS.out _ (Below.refl _ _)).mono ?_; rintro e w1 ⟨rfl, b1⟩; have B1 := hide (B0.out.trans (b1.mono B0.out.size)); clear b1)
    exact bodyPost_ret (v := .tuple #[.int .i64 0, .bool false]) (by simp [results, Tryz.results12, go_sem]) rfl (RespOk.of V.out B1.out)
  | true =>
    obtain ⟨i, a, rfl, ha, hm⟩ := isC_some HQ.out.symm
    obtain ⟨x, hx, hxa⟩ : ∃ x, ts[i]? = some x ∧ tpOf x = a := by
      rw [HC.out] at ha
      obtain ⟨x, h1, h2⟩ := Option.map_eq_some_iff.1 (show (ts[i]?).map tpOf = some a from by rw [← List.getElem?_map]; exact ha)
      exact ⟨x, h1, h2⟩
    subst hxa
    obtain ⟨PL, hPL⟩ : ∃ PL, PL = partsT (cpOf cc) i (tpOf x) := ⟨_, rfl⟩
    obtain ⟨B, hB⟩ : ∃ B, B = blkT (cpOf cc) (tpOf x) := ⟨_, rfl⟩
    have HX := hide hx
    have RC := hide (fun (r r0 : Int) (ok : Bool) (h : RespT (cpOf cc) i (tpOf x) r0 ok) (hr : r = (if ok then r0 else 0)) => RespC.of hm ha h hr)
    have BK := hide (fun (Y : World) (b : Below W0.heap.size W0 Y) => show Calls Tryz.prog 8 #[.agg #[.slice ta tn tc, .slice ea en ec, .slice ma mn mc, .slice ga gn gc, .int .i64 frames, .int .i64 dog], .int .i64 (i : Int)] Y fun e w' => e = .returned (.int .i64 B) ∧ Below Y.heap.size Y w' from by
      have h := ablk_any Y cc (CI.out Y b) HG.out (i : Int)
      rw [blkC_at hm ha, ← hB, HC.out] at h
      exact h)
    have PLN := hide (show PL.length ≤ 24 from by
      rw [hPL]
      unfold partsT
      rw [List.length_append, List.length_map, List.length_map, HC.out]
      have h1 := List.length_filter_le (fun b : Tp => decide (b.cls = 2) && countsT (tpOf x) b) ((cpOf ⟨ta, tn, tc, ts, ea, en, ec, es, ma, mn, mc, ms, ga, gn, gc, gs, frames, dog⟩).ts.eraseIdx i)
      have h2 := List.length_eraseIdx_le (cpOf ⟨ta, tn, tc, ts, ea, en, ec, es, ma, mn, mc, ms, ga, gn, gc, gs, frames, dog⟩).ts i
      have h3 : (cpOf ⟨ta, tn, tc, ts, ea, en, ec, es, ma, mn, mc, ms, ga, gn, gc, gs, frames, dog⟩).ts.length = ts.length := List.length_map ..
      have h4 : (cpOf ⟨ta, tn, tc, ts, ea, en, ec, es, ma, mn, mc, ms, ga, gn, gc, gs, frames, dog⟩).gs.length = gn := F.out.gaps.reads.1
      have h5 := TL.out
      have h6 := TN.out
      have h7 := GN.out
      omega)
    have PS := hide (fun (Y : World) (b : Below W0.heap.size W0 Y) => show Calls Tryz.prog 10 #[.agg #[.slice ta tn tc, .slice ea en ec, .slice ma mn mc, .slice ga gn gc, .int .i64 frames, .int .i64 dog], .int .i64 (i : Int)] Y fun e w' => ∃ A C, e = .returned (.slice A PL.length C) ∧ Reads 2 ptVals w' A PL.length PL ∧ (A = none → C = 0) ∧ (∀ g o, A = some ⟨g, o, none⟩ → Y.heap.size ≤ g ∧ g < w'.heap.size) ∧ Below Y.heap.size Y w' from by
      have h := aparts_any Y cc (CI.out Y b) HG.out (i : Int)
      rw [partsC_at hm ha, ← hPL, HC.out] at h
      refine h.mono ?_
      rintro e w' ⟨v, rfl, ho, hb⟩
      obtain ⟨A, C, rfl, hr, _, _, hz⟩ := own_reads ptVals_len (by omega) ho
      exact ⟨A, C, rfl, hr, hz, fun g o e => by rcases ho.2 with ⟨h2, _⟩ | ⟨g', cap, cur, h2, h3, h4⟩; (· injection h2 with h2; rw [e] at h2; cases h2); (· injection h2 with h2; rw [e] at h2; injection h2 with h2; injection h2 with h2; subst h2; exact ⟨h3, lt_of_heap h4.1⟩), hb⟩)
    have itn : i < tn := by have h := (List.getElem?_eq_some_iff.1 hx).1; have := TL.out; omega
    have j0 : (0 : Int) ≤ (i : Int) := by omega
    have j1 : (i : Int) < (tn : Int) := by omega
    obtain ⟨bt, ot, rfl⟩ : ∃ bt ot, ta = some ⟨bt, ot, none⟩ := by
      obtain ⟨_, b, off, _, e, _⟩ := RT.out.at_ itn
      exact ⟨b, off, e⟩
    have XR := hide (show ∀ Y : World, Below W0.heap.size W0 Y → Y.cell? ⟨w.heap.size, 0, none⟩ = some (.slice (some ⟨bt, ot, none⟩) tn tc) ∧ Y.cell? ⟨bt, ot + i * 8, none⟩ = some (.int .i64 x.cls) ∧ Y.cell? ⟨bt, ot + i * 8 + 1, none⟩ = some (.int .i64 x.lev) ∧ Y.cell? ⟨bt, ot + i * 8 + 2, none⟩ = some (.int .i64 x.per) ∧ Y.cell? ⟨bt, ot + i * 8 + 3, none⟩ = some (.int .i64 x.dl) ∧ Y.cell? ⟨bt, ot + i * 8 + 4, none⟩ = some (.int .i64 x.bud) ∧ Y.cell? ⟨bt, ot + i * 8 + 5, none⟩ = some (.int .i64 x.line) ∧ Y.cell? ⟨bt, ot + i * 8 + 6, none⟩ = some (.slice x.ua x.un x.uc) ∧ Y.cell? ⟨bt, ot + i * 8 + 7, none⟩ = some (.slice x.qa x.qn x.qc) from fun Y b => by
      have rx := tk_range (RT.out.below (B0.out.trans (b.mono B0.out.size))) HX.out
      exact ⟨(SC.out Y b).1, rx 0 _ rfl, rx 1 _ rfl, rx 2 _ rfl, rx 3 _ rfl, rx 4 _ rfl, rx 5 _ rfl, rx 6 _ rfl, rx 7 _ rfl⟩)
    have XA := hide (show ∀ Y : World, Below W0.heap.size W0 Y → Y.cell? ⟨w.heap.size, 0, none⟩ = some (.slice (some ⟨bt, ot, none⟩) tn tc) ∧ Y.cell? ⟨w.heap.size, 1, none⟩ = some (.slice ea en ec) ∧ Y.cell? ⟨w.heap.size, 2, none⟩ = some (.slice ma mn mc) ∧ Y.cell? ⟨w.heap.size, 3, none⟩ = some (.slice ga gn gc) ∧ Y.cell? ⟨w.heap.size, 4, none⟩ = some (.int .i64 frames) ∧ Y.cell? ⟨w.heap.size, 5, none⟩ = some (.int .i64 dog) ∧ Y.cell? ⟨bt, ot + i * 8, none⟩ = some (.int .i64 x.cls) ∧ Y.cell? ⟨bt, ot + i * 8 + 1, none⟩ = some (.int .i64 x.lev) ∧ Y.cell? ⟨bt, ot + i * 8 + 2, none⟩ = some (.int .i64 x.per) ∧ Y.cell? ⟨bt, ot + i * 8 + 3, none⟩ = some (.int .i64 x.dl) ∧ Y.cell? ⟨bt, ot + i * 8 + 4, none⟩ = some (.int .i64 x.bud) ∧ Y.cell? ⟨bt, ot + i * 8 + 5, none⟩ = some (.int .i64 x.line) ∧ Y.cell? ⟨bt, ot + i * 8 + 6, none⟩ = some (.slice x.ua x.un x.uc) ∧ Y.cell? ⟨bt, ot + i * 8 + 7, none⟩ = some (.slice x.qa x.qn x.qc) from fun Y b => by
      obtain ⟨a0, a1, a2, a3, a4, a5⟩ := SC.out Y b
      obtain ⟨_, r0, r1, r2, r3, r4, r5, r6, r7⟩ := XR.out Y b
      exact ⟨a0, a1, a2, a3, a4, a5, r0, r1, r2, r3, r4, r5, r6, r7⟩)
    obtain ⟨NP, hNP⟩ : ∃ NP, NP = PL.length := ⟨_, rfl⟩
    rw [← hNP] at PS PLN
    have RTE := hide (show ∀ (r : Int) (ok : Bool), (if x.cls = 2 then IsResp x.bud B PL x.dl r ok else ∃ q, IsFits B PL (earliesT (cpOf cc)) 4096 q ok ∧ r = if ok then x.dl else 0) → RespT (cpOf cc) i (tpOf x) r ok from fun r ok h => by rw [hB, hPL] at h; exact h)
    obtain ⟨EL, hEL⟩ : ∃ EL, EL = (ts.filter (fun x => decide (x.cls = 1))).map (fun x => earT (tpOf x)) := ⟨_, rfl⟩
    have EAR := hide (show earliesT (cpOf cc) = EL from by rw [hEL, early_filter, HC.out]; rfl)
    have ELN := hide (show EL.length ≤ 12 from by
      rw [hEL, List.length_map]
      have h1 := List.length_filter_le (fun x : Tk => decide (x.cls = 1)) ts
      have h2 := TL.out
      have h3 := TN.out
      omega)
    obtain ⟨KE, hKE⟩ : ∃ KE, KE = EL.length := ⟨_, rfl⟩
    have JB := hide (fun (Y : World) (b : Below W0.heap.size W0 Y) => show Calls Tryz.prog 51 #[.slice (some ⟨bt, ot, none⟩) tn tc, .func (.func 52) #[] #[], .func (.func 53) #[] #[]] Y fun e w' => ∃ A C, e = .returned (.slice A KE C) ∧ Reads 3 erVals w' A KE EL ∧ (A = none → C = 0) ∧ Below Y.heap.size Y w' from by
      refine (atold_jobs Y (some ⟨bt, ot, none⟩) tn tc ts (RT.out.below (B0.out.trans (b.mono B0.out.size))) (by have := TN.out; omega)).mono ?_
      rintro e w' ⟨v, rfl, ho, hb⟩
      rw [← hEL] at ho
      obtain ⟨A, C, rfl, hr, _, _, hz⟩ := own_reads erVals_len (by omega) ho
      rw [hKE]
      exact ⟨A, C, rfl, hr, hz, hb⟩)
    have RSP := hide (fun (Y : World) (A : Option Addr) (C : Nat) (h : Reads 2 ptVals Y A NP PL) (q : (Lit.int .i64 x.dl).wf = true) => resp_any Y x.bud B A NP C PL x.dl h (by have := PLN.out; omega) q)
    have FIT := hide (fun (Y : World) (A : Option Addr) (C : Nat) (h : Reads 2 ptVals Y A NP PL) (hz : A = none → C = 0) (A2 : Option Addr) (C2 : Nat) (h2 : Reads 3 erVals Y A2 KE EL) => fits_any Y B A NP C PL A2 KE C2 EL 4096 h (by have := PLN.out; omega) h2 (by have := ELN.out; omega) hz (by decide))
    have DLW := hide (show (Lit.int .i64 x.dl).wf = true from (F.out.tasks.2.2.2.2.1 x (List.mem_of_getElem? hx)).dl)
    clear hx ha hm hPL hB hNP hEL hKE
    go_enter Tryz.func12, Tryz.ntmps12
    go_upto_region 1 with fail
    rw [← HW.out]
    go_upto_region 3 with (go_at_call 31; refine (IS.out _ (Below.refl _ _)).mono ?_; rintro e w1 ⟨rfl, b1⟩; have B1 := hide b1; clear b1 k0 k1 k2 k3 k4 k5; obtain ⟨k0, k1, k2, k3, k4, k5⟩ := SC.out _ B1.out)
    have D1 := hide (show Below W0.heap.size W0 w1.drew from below_drewN B1.out 1)
    clear k0 k1 k2 k3 k4 k5
    go_cut [6, 7, 8] (fun b p q wx => ∃ (A : Option Addr) (C P : Nat), b = .int .i64 B ∧ p = .slice A NP C ∧ q = .pointer (some ⟨P, 0, none⟩) ∧ Hid (wx.heap[P]? = some (.cells #[.int .i64 x.cls, .int .i64 x.lev, .int .i64 x.per, .int .i64 x.dl, .int .i64 x.bud, .int .i64 x.line, .slice x.ua x.un x.uc, .slice x.qa x.qn x.qc] 47 (0, 0)) ∧ Reads 2 ptVals wx A NP PL ∧ (A = none → C = 0) ∧ Below W0.heap.size W0 wx))
    case first =>
      rename_i Q9 K9 a9
      refine wp_region_noPanic ?_
      refine wp_region_held_drew (S := (fun W => W.cell? ⟨w.heap.size, 0, none⟩ = some (.slice (some ⟨bt, ot, none⟩) tn tc) ∧ W.cell? ⟨w.heap.size, 1, none⟩ = some (.slice ea en ec) ∧ W.cell? ⟨w.heap.size, 2, none⟩ = some (.slice ma mn mc) ∧ W.cell? ⟨w.heap.size, 3, none⟩ = some (.slice ga gn gc) ∧ W.cell? ⟨w.heap.size, 4, none⟩ = some (.int .i64 frames) ∧ W.cell? ⟨w.heap.size, 5, none⟩ = some (.int .i64 dog) ∧ W.cell? ⟨bt, ot + i * 8, none⟩ = some (.int .i64 x.cls) ∧ W.cell? ⟨bt, ot + i * 8 + 1, none⟩ = some (.int .i64 x.lev) ∧ W.cell? ⟨bt, ot + i * 8 + 2, none⟩ = some (.int .i64 x.per) ∧ W.cell? ⟨bt, ot + i * 8 + 3, none⟩ = some (.int .i64 x.dl) ∧ W.cell? ⟨bt, ot + i * 8 + 4, none⟩ = some (.int .i64 x.bud) ∧ W.cell? ⟨bt, ot + i * 8 + 5, none⟩ = some (.int .i64 x.line) ∧ W.cell? ⟨bt, ot + i * 8 + 6, none⟩ = some (.slice x.ua x.un x.uc) ∧ W.cell? ⟨bt, ot + i * 8 + 7, none⟩ = some (.slice x.qa x.qn x.qc))) (by kernel_rfl) (XA.out _ D1.out) (fun hHeld => ?_)
      obtain ⟨wd, hwd⟩ : ∃ z, z = w1.drew := ⟨_, rfl⟩
      rw [← hwd] at hHeld D1 ⊢
      clear hwd
      refine wpAnyH_take (i := 0) (v := ?_) rfl (by kernel_rfl) (by kernel_rfl) (by kernel_rfl) (fun _ _ _ h => h) (Or.inl ⟨by kernel_rfl, ?_⟩) (by assumption) ?_
      rotate_left
      · intro w hSw
        (try dsimp only at hSw)
        go_simp
        try with_reducible rfl
      try simp only [Act.put, List.getElem_toArray, List.getElem_cons_zero, List.getElem_cons_succ, List.setIfInBounds_toArray, List.set_cons_zero, List.set_cons_succ]
      refine wpAnyH_take (i := 1) (v := ?_) rfl (by kernel_rfl) (by kernel_rfl) (by kernel_rfl) (fun _ _ _ h => h) (Or.inl ⟨by kernel_rfl, ?_⟩) (by assumption) ?_
      rotate_left
      · intro w hSw
        (try dsimp only at hSw)
        go_simp
        try with_reducible rfl
      try simp only [Act.put, List.getElem_toArray, List.getElem_cons_zero, List.getElem_cons_succ, List.setIfInBounds_toArray, List.set_cons_zero, List.set_cons_succ]
      refine wpAnyH_take (i := 3) (v := ?_) rfl (by kernel_rfl) (by kernel_rfl) (by kernel_rfl) (fun _ _ _ h => h) (Or.inl ⟨by kernel_rfl, ?_⟩) (by assumption) ?_
      rotate_left
      · intro w hSw
        (try dsimp only at hSw)
        go_simp
        try with_reducible rfl
      try simp only [Act.put, List.getElem_toArray, List.getElem_cons_zero, List.getElem_cons_succ, List.setIfInBounds_toArray, List.set_cons_zero, List.set_cons_succ]
      refine wpAnyH_take (i := 4) (v := ?_) rfl (by kernel_rfl) (by kernel_rfl) (by kernel_rfl) (fun _ _ _ h => h) (Or.inl ⟨by kernel_rfl, ?_⟩) (by assumption) ?_
      rotate_left
      · intro w hSw
        (try dsimp only at hSw)
        go_simp
        try with_reducible rfl
      try simp only [Act.put, List.getElem_toArray, List.getElem_cons_zero, List.getElem_cons_succ, List.setIfInBounds_toArray, List.set_cons_zero, List.set_cons_succ]
      refine wpAnyH_take (i := 6) (v := ?_) rfl (by kernel_rfl) (by kernel_rfl) (by kernel_rfl) (fun _ _ _ h => h) (Or.inl ⟨by kernel_rfl, ?_⟩) (by assumption) ?_
      rotate_left
      · intro w hSw
        (try dsimp only at hSw)
        go_simp
        try with_reducible rfl
      try simp only [Act.put, List.getElem_toArray, List.getElem_cons_zero, List.getElem_cons_succ, List.setIfInBounds_toArray, List.set_cons_zero, List.set_cons_succ]
      refine wpAnyH_take (i := 7) (v := ?_) rfl (by kernel_rfl) (by kernel_rfl) (by kernel_rfl) (fun _ _ _ h => h) (Or.inl ⟨by kernel_rfl, ?_⟩) (by assumption) ?_
      rotate_left
      · intro w hSw
        (try dsimp only at hSw)
        go_simp
        try with_reducible rfl
      try simp only [Act.put, List.getElem_toArray, List.getElem_cons_zero, List.getElem_cons_succ, List.setIfInBounds_toArray, List.set_cons_zero, List.set_cons_succ]
      refine wpAnyH_take (i := 8) (v := ?_) rfl (by kernel_rfl) (by kernel_rfl) (by kernel_rfl) (fun _ _ _ h => h) (Or.inl ⟨by kernel_rfl, ?_⟩) (by assumption) ?_
      rotate_left
      · intro w hSw
        (try dsimp only at hSw)
        go_simp
        try with_reducible rfl
      try simp only [Act.put, List.getElem_toArray, List.getElem_cons_zero, List.getElem_cons_succ, List.setIfInBounds_toArray, List.set_cons_zero, List.set_cons_succ]
      refine wpAnyH_take (i := 9) (v := ?_) rfl (by kernel_rfl) (by kernel_rfl) (by kernel_rfl) (fun _ _ _ h => h) (Or.inl ⟨by kernel_rfl, ?_⟩) (by assumption) ?_
      rotate_left
      · intro w hSw
        (try dsimp only at hSw)
        go_simp
        try with_reducible rfl
      try simp only [Act.put, List.getElem_toArray, List.getElem_cons_zero, List.getElem_cons_succ, List.setIfInBounds_toArray, List.set_cons_zero, List.set_cons_succ]
      refine wpAnyH_take (i := 10) (v := ?_) rfl (by kernel_rfl) (by kernel_rfl) (by kernel_rfl) (fun _ _ _ h => h) (Or.inl ⟨by kernel_rfl, ?_⟩) (by assumption) ?_
      rotate_left
      · intro w hSw
        (try dsimp only at hSw)
        go_simp
        try with_reducible rfl
      try simp only [Act.put, List.getElem_toArray, List.getElem_cons_zero, List.getElem_cons_succ, List.setIfInBounds_toArray, List.set_cons_zero, List.set_cons_succ]
      refine wpAnyH_ready (rs := [2, 11]) (by kernel_rfl) (by simp) ?_
      refine AllReadyH.cons rfl (fun K hK => ?_) (AllReadyH.cons rfl (fun K hK => ?_) AllReadyH.nil)
      · go_simp
        go_at_call 8
        refine (BK.out _ D1.out).mono ?_
        rintro e w2 ⟨rfl, b2⟩
        have B2 := hide (Below.trans D1.out (b2.mono (Below.size D1.out)))
        clear b2
        go_wp2_with fail
        refine hK _ _ (XA.out _ B2.out) (fun hHeld => ?_)
        clear hK K
        try simp only [Act.put, List.getElem_toArray, List.getElem_cons_zero, List.getElem_cons_succ, List.setIfInBounds_toArray, List.set_cons_zero, List.set_cons_succ]
        refine wpAnyH_ready (rs := [5, 11]) (by kernel_rfl) (by simp) ?_
        refine AllReadyH.cons rfl (fun K hK => ?_) (AllReadyH.cons rfl (fun K hK => ?_) AllReadyH.nil)
        · go_simp
          go_at_call 10
          refine (PS.out _ B2.out).mono ?_
          rintro e w3 ⟨A3, C3, rfl, r3, z3, g3, b3⟩
          have R3 := hide r3
          have Z3 := hide z3
          have G3 := hide g3
          have B3 := hide (Below.trans B2.out (b3.mono (Below.size B2.out)))
          clear b3 r3 z3 g3
          go_wp2_with fail
          refine hK _ _ (XA.out _ B3.out) (fun hHeld => ?_)
          clear hK K
          try simp only [Act.put, List.getElem_toArray, List.getElem_cons_zero, List.getElem_cons_succ, List.setIfInBounds_toArray, List.set_cons_zero, List.set_cons_succ]
          refine wpAnyH_ready (rs := [11]) (by kernel_rfl) (by simp) ?_
          refine AllReadyH.cons rfl (fun K hK => ?_) AllReadyH.nil
          go_simp
          go_wp2_with fail
          refine hK _ _ (XA.out _ (Below.alloc B3.out (Below.size B3.out) _)) (fun hHeld => ?_)
          clear hK K
          try simp only [Act.put, List.getElem_toArray, List.getElem_cons_zero, List.getElem_cons_succ, List.setIfInBounds_toArray, List.set_cons_zero, List.set_cons_succ]
          have EQ := hide (show (w3.alloc (.cells #[.int .i64 0, .int .i64 0, .int .i64 0, .int .i64 0, .int .i64 0, .int .i64 0, .slice none 0 0, .slice none 0 0] 47)).heap[w3.heap.size]? = some (.cells #[.int .i64 0, .int .i64 0, .int .i64 0, .int .i64 0, .int .i64 0, .int .i64 0, .slice none 0 0, .slice none 0 0] 47 (0, 0)) from heap_alloc_new _ _)
          have BQ := hide (show Below W0.heap.size W0 (w3.alloc (.cells #[.int .i64 0, .int .i64 0, .int .i64 0, .int .i64 0, .int .i64 0, .int .i64 0, .slice none 0 0, .slice none 0 0] 47)) from Below.alloc B3.out (Below.size B3.out) _)
          have PB := hide (show W0.heap.size ≤ w3.heap.size from Below.size B3.out)
          refine wpAnyH_take (i := 12) (v := ?_) rfl (by kernel_rfl) (by kernel_rfl) (by kernel_rfl) (fun _ _ _ h => h) (Or.inl ⟨by kernel_rfl, ?_⟩) (by assumption) ?_
          rotate_left
          · intro w hSw
            (try dsimp only at hSw)
            go_simp
            try with_reducible rfl
          try simp only [Act.put, List.getElem_toArray, List.getElem_cons_zero, List.getElem_cons_succ, List.setIfInBounds_toArray, List.set_cons_zero, List.set_cons_succ]
          refine wpAnyH_take (i := 13) (v := ?_) rfl (by kernel_rfl) (by kernel_rfl) (by kernel_rfl) (fun _ _ _ h => h) (Or.inl ⟨by kernel_rfl, ?_⟩) (by assumption) ?_
          rotate_left
          · intro w hSw
            (try dsimp only at hSw)
            go_simp
            try with_reducible rfl
          try simp only [Act.put, List.getElem_toArray, List.getElem_cons_zero, List.getElem_cons_succ, List.setIfInBounds_toArray, List.set_cons_zero, List.set_cons_succ]
          refine wpAnyH_ready (rs := [14]) (by kernel_rfl) (by simp) ?_
          refine AllReadyH.cons rfl (fun K hK => ?_) AllReadyH.nil
          refine step_store_seg rfl 47 (.tmp 8) (.tmp 25) rfl (w3.heap.size) 0 #[.int .i64 x.cls, .int .i64 x.lev, .int .i64 x.per, .int .i64 x.dl, .int .i64 x.bud, .int .i64 x.line, .slice x.ua x.un x.uc, .slice x.qa x.qn x.qc] rfl rfl 47 [.int .i64 0, .int .i64 0, .int .i64 0, .int .i64 0, .int .i64 0, .int .i64 0, .slice none 0 0, .slice none 0 0] EQ.out task_size18 (by simp) (task_one _ _ _ _ _ _ _ _ _ _ _ _) ?_
          intro w5 e5 t5
          have B5 := hide (Below.trans BQ.out (t5.below (Below.size BQ.out) (fun j hj => by rw [hj]; exact PB.out)))
          have R5 := hide ((R3.out.below ((Below.refl _ _).alloc (Nat.le_refl _) _)).touch t5 (fun g o e => by have h := G3.out g o e; intro hh; have h2 : g = w3.heap.size := hh; omega))
          have E5 := hide (show w5.heap[w3.heap.size]? = some (.cells #[.int .i64 x.cls, .int .i64 x.lev, .int .i64 x.per, .int .i64 x.dl, .int .i64 x.bud, .int .i64 x.line, .slice x.ua x.un x.uc, .slice x.qa x.qn x.qc] 47 (0, 0)) from e5)
          clear e5 t5
          refine hK _ _ (XA.out _ B5.out) (fun hHeld => ?_)
          clear hK K
          try simp only [Act.put, List.getElem_toArray, List.getElem_cons_zero, List.getElem_cons_succ, List.setIfInBounds_toArray, List.set_cons_zero, List.set_cons_succ]
          refine wpAnyH_done (by kernel_rfl) ?_ _
          go_simp
          refine NoPanic.normal ?_
          refine a9 _ _ ?_
          go_meet
          case rel => exact ⟨_, _, _, rfl, rfl, rfl, E5.out, R5.out, Z3.out, B5.out⟩
        · go_simp
          go_wp2_with fail
          refine hK _ _ (XA.out _ (Below.alloc B2.out (Below.size B2.out) _)) (fun hHeld => ?_)
          clear hK K
          try simp only [Act.put, List.getElem_toArray, List.getElem_cons_zero, List.getElem_cons_succ, List.setIfInBounds_toArray, List.set_cons_zero, List.set_cons_succ]
          have EQ := hide (show (w2.alloc (.cells #[.int .i64 0, .int .i64 0, .int .i64 0, .int .i64 0, .int .i64 0, .int .i64 0, .slice none 0 0, .slice none 0 0] 47)).heap[w2.heap.size]? = some (.cells #[.int .i64 0, .int .i64 0, .int .i64 0, .int .i64 0, .int .i64 0, .int .i64 0, .slice none 0 0, .slice none 0 0] 47 (0, 0)) from heap_alloc_new _ _)
          have BQ := hide (show Below W0.heap.size W0 (w2.alloc (.cells #[.int .i64 0, .int .i64 0, .int .i64 0, .int .i64 0, .int .i64 0, .int .i64 0, .slice none 0 0, .slice none 0 0] 47)) from Below.alloc B2.out (Below.size B2.out) _)
          have PB := hide (show W0.heap.size ≤ w2.heap.size from Below.size B2.out)
          refine wpAnyH_ready (rs := [5]) (by kernel_rfl) (by simp) ?_
          refine AllReadyH.cons rfl (fun K hK => ?_) AllReadyH.nil
          go_simp
          go_at_call 10
          refine (PS.out _ BQ.out).mono ?_
          rintro e w3 ⟨A3, C3, rfl, r3, z3, g3, b3⟩
          have R3 := hide r3
          have Z3 := hide z3
          have G3 := hide g3
          have EP3 := hide ((b3.block _ (lt_of_heap EQ.out)).trans EQ.out)
          have GP := hide (show w2.heap.size < (w2.alloc (.cells #[.int .i64 0, .int .i64 0, .int .i64 0, .int .i64 0, .int .i64 0, .int .i64 0, .slice none 0 0, .slice none 0 0] 47)).heap.size from lt_of_heap EQ.out)
          have B3 := hide (Below.trans BQ.out (b3.mono (Below.size BQ.out)))
          clear b3 r3 z3 g3
          go_wp2_with fail
          refine hK _ _ (XA.out _ B3.out) (fun hHeld => ?_)
          clear hK K
          try simp only [Act.put, List.getElem_toArray, List.getElem_cons_zero, List.getElem_cons_succ, List.setIfInBounds_toArray, List.set_cons_zero, List.set_cons_succ]
          refine wpAnyH_take (i := 12) (v := ?_) rfl (by kernel_rfl) (by kernel_rfl) (by kernel_rfl) (fun _ _ _ h => h) (Or.inl ⟨by kernel_rfl, ?_⟩) (by assumption) ?_
          rotate_left
          · intro w hSw
            (try dsimp only at hSw)
            go_simp
            try with_reducible rfl
          try simp only [Act.put, List.getElem_toArray, List.getElem_cons_zero, List.getElem_cons_succ, List.setIfInBounds_toArray, List.set_cons_zero, List.set_cons_succ]
          refine wpAnyH_take (i := 13) (v := ?_) rfl (by kernel_rfl) (by kernel_rfl) (by kernel_rfl) (fun _ _ _ h => h) (Or.inl ⟨by kernel_rfl, ?_⟩) (by assumption) ?_
          rotate_left
          · intro w hSw
            (try dsimp only at hSw)
            go_simp
            try with_reducible rfl
          try simp only [Act.put, List.getElem_toArray, List.getElem_cons_zero, List.getElem_cons_succ, List.setIfInBounds_toArray, List.set_cons_zero, List.set_cons_succ]
          refine wpAnyH_ready (rs := [14]) (by kernel_rfl) (by simp) ?_
          refine AllReadyH.cons rfl (fun K hK => ?_) AllReadyH.nil
          refine step_store_seg rfl 47 (.tmp 8) (.tmp 25) rfl (w2.heap.size) 0 #[.int .i64 x.cls, .int .i64 x.lev, .int .i64 x.per, .int .i64 x.dl, .int .i64 x.bud, .int .i64 x.line, .slice x.ua x.un x.uc, .slice x.qa x.qn x.qc] rfl rfl 47 [.int .i64 0, .int .i64 0, .int .i64 0, .int .i64 0, .int .i64 0, .int .i64 0, .slice none 0 0, .slice none 0 0] EP3.out task_size18 (by simp) (task_one _ _ _ _ _ _ _ _ _ _ _ _) ?_
          intro w5 e5 t5
          have B5 := hide (Below.trans B3.out (t5.below (Below.size B3.out) (fun j hj => by rw [hj]; exact PB.out)))
          have R5 := hide (R3.out.touch t5 (fun g o e => by have h := G3.out g o e; intro hh; have h2 : g = w2.heap.size := hh; have h3 := GP.out; omega))
          have E5 := hide (show w5.heap[w2.heap.size]? = some (.cells #[.int .i64 x.cls, .int .i64 x.lev, .int .i64 x.per, .int .i64 x.dl, .int .i64 x.bud, .int .i64 x.line, .slice x.ua x.un x.uc, .slice x.qa x.qn x.qc] 47 (0, 0)) from e5)
          clear e5 t5
          refine hK _ _ (XA.out _ B5.out) (fun hHeld => ?_)
          clear hK K
          try simp only [Act.put, List.getElem_toArray, List.getElem_cons_zero, List.getElem_cons_succ, List.setIfInBounds_toArray, List.set_cons_zero, List.set_cons_succ]
          refine wpAnyH_done (by kernel_rfl) ?_ _
          go_simp
          refine NoPanic.normal ?_
          refine a9 _ _ ?_
          go_meet
          case rel => exact ⟨_, _, _, rfl, rfl, rfl, E5.out, R5.out, Z3.out, B5.out⟩
      · go_simp
        go_wp2_with fail
        refine hK _ _ (XA.out _ (Below.alloc D1.out (Below.size D1.out) _)) (fun hHeld => ?_)
        clear hK K
        try simp only [Act.put, List.getElem_toArray, List.getElem_cons_zero, List.getElem_cons_succ, List.setIfInBounds_toArray, List.set_cons_zero, List.set_cons_succ]
        have EQ := hide (show (wd.alloc (.cells #[.int .i64 0, .int .i64 0, .int .i64 0, .int .i64 0, .int .i64 0, .int .i64 0, .slice none 0 0, .slice none 0 0] 47)).heap[wd.heap.size]? = some (.cells #[.int .i64 0, .int .i64 0, .int .i64 0, .int .i64 0, .int .i64 0, .int .i64 0, .slice none 0 0, .slice none 0 0] 47 (0, 0)) from heap_alloc_new _ _)
        have BQ := hide (show Below W0.heap.size W0 (wd.alloc (.cells #[.int .i64 0, .int .i64 0, .int .i64 0, .int .i64 0, .int .i64 0, .int .i64 0, .slice none 0 0, .slice none 0 0] 47)) from Below.alloc D1.out (Below.size D1.out) _)
        have PB := hide (show W0.heap.size ≤ wd.heap.size from Below.size D1.out)
        refine wpAnyH_ready (rs := [2]) (by kernel_rfl) (by simp) ?_
        refine AllReadyH.cons rfl (fun K hK => ?_) AllReadyH.nil
        go_simp
        go_at_call 8
        refine (BK.out _ BQ.out).mono ?_
        rintro e w2 ⟨rfl, b2⟩
        have EP2 := hide ((b2.block _ (lt_of_heap EQ.out)).trans EQ.out)
        have B2 := hide (Below.trans BQ.out (b2.mono (Below.size BQ.out)))
        clear b2
        go_wp2_with fail
        refine hK _ _ (XA.out _ B2.out) (fun hHeld => ?_)
        clear hK K
        try simp only [Act.put, List.getElem_toArray, List.getElem_cons_zero, List.getElem_cons_succ, List.setIfInBounds_toArray, List.set_cons_zero, List.set_cons_succ]
        refine wpAnyH_ready (rs := [5]) (by kernel_rfl) (by simp) ?_
        refine AllReadyH.cons rfl (fun K hK => ?_) AllReadyH.nil
        go_simp
        go_at_call 10
        refine (PS.out _ B2.out).mono ?_
        rintro e w3 ⟨A3, C3, rfl, r3, z3, g3, b3⟩
        have R3 := hide r3
        have Z3 := hide z3
        have G3 := hide g3
        have EP3 := hide ((b3.block _ (lt_of_heap EP2.out)).trans EP2.out)
        have GP := hide (show wd.heap.size < w2.heap.size from lt_of_heap EP2.out)
        have B3 := hide (Below.trans B2.out (b3.mono (Below.size B2.out)))
        clear b3 r3 z3 g3
        go_wp2_with fail
        refine hK _ _ (XA.out _ B3.out) (fun hHeld => ?_)
        clear hK K
        try simp only [Act.put, List.getElem_toArray, List.getElem_cons_zero, List.getElem_cons_succ, List.setIfInBounds_toArray, List.set_cons_zero, List.set_cons_succ]
        refine wpAnyH_take (i := 12) (v := ?_) rfl (by kernel_rfl) (by kernel_rfl) (by kernel_rfl) (fun _ _ _ h => h) (Or.inl ⟨by kernel_rfl, ?_⟩) (by assumption) ?_
        rotate_left
        · intro w hSw
          (try dsimp only at hSw)
          go_simp
          try with_reducible rfl
        try simp only [Act.put, List.getElem_toArray, List.getElem_cons_zero, List.getElem_cons_succ, List.setIfInBounds_toArray, List.set_cons_zero, List.set_cons_succ]
        refine wpAnyH_take (i := 13) (v := ?_) rfl (by kernel_rfl) (by kernel_rfl) (by kernel_rfl) (fun _ _ _ h => h) (Or.inl ⟨by kernel_rfl, ?_⟩) (by assumption) ?_
        rotate_left
        · intro w hSw
          (try dsimp only at hSw)
          go_simp
          try with_reducible rfl
        try simp only [Act.put, List.getElem_toArray, List.getElem_cons_zero, List.getElem_cons_succ, List.setIfInBounds_toArray, List.set_cons_zero, List.set_cons_succ]
        refine wpAnyH_ready (rs := [14]) (by kernel_rfl) (by simp) ?_
        refine AllReadyH.cons rfl (fun K hK => ?_) AllReadyH.nil
        refine step_store_seg rfl 47 (.tmp 8) (.tmp 25) rfl (wd.heap.size) 0 #[.int .i64 x.cls, .int .i64 x.lev, .int .i64 x.per, .int .i64 x.dl, .int .i64 x.bud, .int .i64 x.line, .slice x.ua x.un x.uc, .slice x.qa x.qn x.qc] rfl rfl 47 [.int .i64 0, .int .i64 0, .int .i64 0, .int .i64 0, .int .i64 0, .int .i64 0, .slice none 0 0, .slice none 0 0] EP3.out task_size18 (by simp) (task_one _ _ _ _ _ _ _ _ _ _ _ _) ?_
        intro w5 e5 t5
        have B5 := hide (Below.trans B3.out (t5.below (Below.size B3.out) (fun j hj => by rw [hj]; exact PB.out)))
        have R5 := hide (R3.out.touch t5 (fun g o e => by have h := G3.out g o e; intro hh; have h2 : g = wd.heap.size := hh; have h3 := GP.out; omega))
        have E5 := hide (show w5.heap[wd.heap.size]? = some (.cells #[.int .i64 x.cls, .int .i64 x.lev, .int .i64 x.per, .int .i64 x.dl, .int .i64 x.bud, .int .i64 x.line, .slice x.ua x.un x.uc, .slice x.qa x.qn x.qc] 47 (0, 0)) from e5)
        clear e5 t5
        refine hK _ _ (XA.out _ B5.out) (fun hHeld => ?_)
        clear hK K
        try simp only [Act.put, List.getElem_toArray, List.getElem_cons_zero, List.getElem_cons_succ, List.setIfInBounds_toArray, List.set_cons_zero, List.set_cons_succ]
        refine wpAnyH_done (by kernel_rfl) ?_ _
        go_simp
        refine NoPanic.normal ?_
        refine a9 _ _ ?_
        go_meet
        case rel => exact ⟨_, _, _, rfl, rfl, rfl, E5.out, R5.out, Z3.out, B5.out⟩
    case rest =>
      obtain ⟨A3, C3, P, rfl, rfl, rfl, hX⟩ := hcut
      rename World => w4
      have X4 := hide hX
      have B4 := hide X4.out.2.2.2
      have R4 := hide X4.out.2.1
      have N4 := hide X4.out.2.2.1
      have KP := hide (show ∀ Y : World, Below w4.heap.size w4 Y → Y.cell? ⟨P, 0, none⟩ = some (.int .i64 x.cls) ∧ Y.cell? ⟨P, 1, none⟩ = some (.int .i64 x.lev) ∧ Y.cell? ⟨P, 2, none⟩ = some (.int .i64 x.per) ∧ Y.cell? ⟨P, 3, none⟩ = some (.int .i64 x.dl) ∧ Y.cell? ⟨P, 4, none⟩ = some (.int .i64 x.bud) ∧ Y.cell? ⟨P, 5, none⟩ = some (.int .i64 x.line) ∧ Y.cell? ⟨P, 6, none⟩ = some (.slice x.ua x.un x.uc) ∧ Y.cell? ⟨P, 7, none⟩ = some (.slice x.qa x.qn x.qc) from fun Y b => by
        have e := (b.block _ (lt_of_heap X4.out.1)).trans X4.out.1
        refine ⟨?_, ?_, ?_, ?_, ?_, ?_, ?_, ?_⟩ <;> (rw [cell_of_row _ _ _ _ _ _ e]; rfl))
      obtain ⟨z0, z1, z2, z3, z4, z5, z6, z7⟩ := KP.out w4 (Below.refl _ _)
      clear hX
      have IFX := hide (fun (Y : World) => afixed_any Y x.cls x.lev x.per x.dl x.bud x.line x.ua x.un x.uc x.qa x.qn x.qc)
      by_cases e2 : x.cls = 2
      · obtain ⟨r, ok, hR⟩ := IsResp.there x.bud B PL x.dl
        have FIN := hide (RC.out r r ok (RTE.out r ok (by rw [if_pos e2]; exact hR)) (by
          rcases hR with ⟨rfl, _⟩ | ⟨rfl, h, _⟩
          · rfl
          · exact h))
        have RP := hide (fun (Y : World) (h : Reads 2 ptVals Y A3 NP PL) => show Calls Tryz.prog 49 #[.int .i64 x.bud, .int .i64 B, .slice A3 NP C3, .int .i64 x.dl] Y fun e w' => e = .returned (.tuple #[.int .i64 r, .bool ok]) ∧ Below Y.heap.size Y w' from (RSP.out Y A3 C3 h DLW.out).mono (by
          rintro e w' ⟨v, rfl, hv, hb⟩
          obtain ⟨r', ok', rfl, hr'⟩ := hv
          obtain ⟨e1, e2⟩ := hr'.same hR
          exact ⟨by rw [e1, e2], hb⟩))
        rw [decide_eq_true e2] at IFX
        clear e2 hR
        go_wp2_with (first
          | (go_at_call 48; refine (IFX.out _).mono ?_; rintro e w5 ⟨rfl, b5⟩; have C5 := hide b5; have R5 := hide (R4.out.below b5); clear b5 z0 z1 z2 z3 z4 z5 z6 z7; obtain ⟨z0, z1, z2, z3, z4, z5, z6, z7⟩ := KP.out _ C5.out)
          | (go_at_call 49; refine (RP.out _ R5.out).mono ?_; rintro e w6 ⟨rfl, b6⟩; have C6 := hide (C5.out.trans (b6.mono C5.out.size)); clear b6))
        exact bodyPost_ret (v := .tuple #[.int .i64 r, .bool ok]) (by simp [results, Tryz.results12, go_sem]) rfl (RespOk.of FIN.out (B0.out.trans ((B4.out.trans (C6.out.mono B4.out.size)).mono B0.out.size)))
      · obtain ⟨q, ok, hF⟩ := IsFits.there B PL EL 4096
        have FIN := hide (RC.out (if ok then x.dl else 0) (if ok then x.dl else 0) ok (RTE.out _ ok (by rw [if_neg e2, EAR.out]; exact ⟨q, hF, rfl⟩)) (by cases ok <;> rfl))
        have FP := hide (fun (Y : World) (h : Reads 2 ptVals Y A3 NP PL) (A : Option Addr) (C : Nat) (h2 : Reads 3 erVals Y A KE EL) => show Calls Tryz.prog 50 #[.int .i64 B, .slice A3 NP C3, .slice A KE C, .int .i64 4096] Y fun e w' => e = .returned (.tuple #[.int .i64 q, .bool ok]) ∧ Below Y.heap.size Y w' from (FIT.out Y A3 C3 h N4.out A C h2).mono (by
          rintro e w' ⟨v, rfl, hv, hb⟩
          exact ⟨by rw [hv.get hF], hb⟩))
        rw [decide_eq_false e2] at IFX
        clear e2 hF
        cases ok with
        | false =>
          go_wp2_with (first
            | (go_at_call 48; refine (IFX.out _).mono ?_; rintro e w5 ⟨rfl, b5⟩; have C5 := hide b5; have R5 := hide (R4.out.below b5); have B5 := hide (B4.out.trans (b5.mono B4.out.size)); clear b5 z0 z1 z2 z3 z4 z5 z6 z7; obtain ⟨z0, z1, z2, z3, z4, z5, z6, z7⟩ := KP.out _ C5.out; have c0 := (SC.out _ B5.out).1)
            | (go_at_call 51; refine (JB.out _ B5.out).mono ?_; rintro e w6 ⟨A6, C6, rfl, r6, n6, b6⟩; have E6 := hide r6; have R6 := hide (R5.out.below b6); have D6 := hide (C5.out.trans (b6.mono C5.out.size)); clear r6 n6 b6)
            | (go_at_call 50; refine (FP.out _ R6.out A6 C6 E6.out).mono ?_; rintro e w7 ⟨rfl, b7⟩; have D7 := hide (D6.out.trans (b7.mono D6.out.size)); clear b7 z0 z1 z2 z3 z4 z5 z6 z7; obtain ⟨z0, z1, z2, z3, z4, z5, z6, z7⟩ := KP.out _ D7.out))
          exact bodyPost_ret (v := .tuple #[.int .i64 0, .bool false]) (by simp [results, Tryz.results12, go_sem]) rfl (RespOk.of FIN.out (B0.out.trans ((B4.out.trans (D7.out.mono B4.out.size)).mono B0.out.size)))
        | true =>
          go_wp2_with (first
            | (go_at_call 48; refine (IFX.out _).mono ?_; rintro e w5 ⟨rfl, b5⟩; have C5 := hide b5; have R5 := hide (R4.out.below b5); have B5 := hide (B4.out.trans (b5.mono B4.out.size)); clear b5 z0 z1 z2 z3 z4 z5 z6 z7; obtain ⟨z0, z1, z2, z3, z4, z5, z6, z7⟩ := KP.out _ C5.out; have c0 := (SC.out _ B5.out).1)
            | (go_at_call 51; refine (JB.out _ B5.out).mono ?_; rintro e w6 ⟨A6, C6, rfl, r6, n6, b6⟩; have E6 := hide r6; have R6 := hide (R5.out.below b6); have D6 := hide (C5.out.trans (b6.mono C5.out.size)); clear r6 n6 b6)
            | (go_at_call 50; refine (FP.out _ R6.out A6 C6 E6.out).mono ?_; rintro e w7 ⟨rfl, b7⟩; have D7 := hide (D6.out.trans (b7.mono D6.out.size)); clear b7 z0 z1 z2 z3 z4 z5 z6 z7; obtain ⟨z0, z1, z2, z3, z4, z5, z6, z7⟩ := KP.out _ D7.out))
          exact bodyPost_ret (v := .tuple #[.int .i64 x.dl, .bool true]) (by simp [results, Tryz.results12, go_sem]) rfl (RespOk.of FIN.out (B0.out.trans ((B4.out.trans (D7.out.mono B4.out.size)).mono B0.out.size)))
end Go.Proofs.YtcmgkjjkhfcedaaGreat
