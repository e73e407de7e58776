/-
  What the walks lean on, part 17: AmParts.
-/
import Derived.Test.YtcmgkjjkhfcedaaGreatPk16
/-
  The program's admit (stage 18): topHalves, Parts (written by tools/gen/amparts.py).
-/
namespace Go.Proofs.YtcmgkjjkhfcedaaGreat
open Go.ChangeShapes Go.WideShapes Go.ChangeAt Go.RowKit
set_option linter.unusedVariables false
set_option linter.unusedSimpArgs false
attribute [local go_sem] built_part18
theorem nu_cell {w : World} {a : Option Addr} {n : Nat} {gs : List Int} (h : Reads 1 nuVals w a n gs) {i : Nat} (hi : i < n) : ∃ b off, a = some ⟨b, off, none⟩ ∧ w.cell? ⟨b, off + i, none⟩ = some (.int .i64 (gs.getD i 0)) := by
  obtain ⟨x, b, off, hx, rfl, hc⟩ := h.at_ hi
  have e : gs.getD i 0 = x := by rw [List.getD_eq_getElem?_getD, hx]; rfl
  rw [e]
  have := hc 0 _ rfl
  rw [Nat.mul_one, Nat.add_zero] at this
  exact ⟨b, off, rfl, this⟩
theorem nu_take {gs : List Int} {i : Nat} (h : i < gs.length) : gs.take (i + 1) = gs.take i ++ [gs.getD i 0] := by
  rw [List.take_succ_eq_append_getElem h]
  simp [List.getD, h]
set_option maxRecDepth 20000 in
set_option maxHeartbeats 4000000 in
theorem atop_any (w : World) (a : Option Addr) (n c : Nat) (gs : List Int) (hr : Reads 1 nuVals w a n gs) (hn : n ≤ 100) :
    Calls Tryz.prog 44 #[.slice a n c] w fun e w' => e = .returned (.slice (some ⟨w.heap.size, 0, none⟩) n n) ∧ Reads 2 ptVals w' (some ⟨w.heap.size, 0, none⟩) n (gs.map gapT) ∧ Below w.heap.size w w' := by
  obtain ⟨i0, hi0, hz0, hz1, hz2⟩ := part_info
  have hmk : ∀ X : World, (Instr.makeSlice 31 (.int .i64 (n : Int)) (.int .i64 (n : Int))).run Tryz.prog X = .ok (.slice (some ⟨X.heap.size, 0, none⟩) n n) (X.alloc (.cells (madeCells #[.int .i64 0, .int .i64 0] (n * 2)) 36)) := fun X => by
    have := run_make (P := Tryz.prog) X 31 36 i0 (.agg #[.int .i64 0, .int .i64 0]) Tryz.underlying31 hi0 hz0 .i64 .i64 (n : Int) (n : Int) (by omega) (Int.le_refl _) (by rw [hz2]; omega) (by omega)
    rw [hz1] at this
    simpa [Value.cells] using this
  clear hi0 hz0 hz1 hz2
  have HR := hide (fun (W : World) (b : Below w.heap.size w W) => hr.below b)
  have HL := hide hr.1
  have n2 : (n : Int) ≤ 1000 := by omega
  obtain ⟨w0, hw0⟩ : ∃ w0, w0 = w.alloc (.cells (madeCells #[.int .i64 0, .int .i64 0] (n * 2)) 36) := ⟨_, rfl⟩
  have O0 := hide (show w0.ownsRow w.heap.size 36 2 (.slice (some ⟨w.heap.size, 0, none⟩) 0 n) 0 (((gs.take 0).map gapT).flatMap ptVals) from by
    rw [hw0]; exact World.ownsRow_made w _ n (Nat.le_refl _) (by unfold maxLen; omega) (size_madeCells _ _))
  have B0 := hide (show Below w.heap.size w w0 from by rw [hw0]; exact (Below.refl _ _).alloc (Nat.le_refl _) _)
  obtain ⟨R, hR⟩ : ∃ R, R = w.heap.size := ⟨_, rfl⟩
  rw [← hR] at O0 ⊢
  have LR := hide (show R = w.heap.size from hR)
  have HW := hide hw0
  clear hr hn hR hw0
  go_enter Tryz.func44, Tryz.ntmps44
  go_upto_region 2 with fail
  rw [← HW.out, ← LR.out]
  go_wp2_with fail
  go_loopw [11] (fun iv wr => ∃ i : Nat, i ≤ n ∧ iv = .int .i64 (i : Int) ∧ Hid (Below w.heap.size w wr) ∧ Hid (wr.ownsRow R 36 2 (.slice (some ⟨R, 0, none⟩) i n) i (((gs.take i).map gapT).flatMap ptVals))) (fun iv _ => n - (intOf iv).toNat)
  case atStart => exact ⟨0, Nat.zero_le _, rfl, B0, by first | exact O0 | (rw [LR.out]; exact O0)⟩
  case round =>
    obtain ⟨i, hi, rfl, hB, hO⟩ := hrel
    rename World => w1
    have B1 := hide hB.out
    have O1 := hide hO.out
    clear hB hO
    by_cases hlt : i < n
    · have i0 : (0 : Int) ≤ (i : Int) := by omega
      have i1 : (i : Int) < (n : Int) := by omega
      obtain ⟨pb, po, rfl, y0⟩ := nu_cell (HR.out _ B1.out) hlt
      have NX := hide (show gs.take (i + 1) = gs.take i ++ [gs.getD i 0] from nu_take (by rw [HL.out]; exact hlt))
      obtain ⟨x, hx⟩ : ∃ x, x = gs.getD i 0 := ⟨_, rfl⟩
      rw [← hx] at y0 NX
      clear hx
      obtain ⟨cur, h1, h2⟩ := own_row_cells O1.out
      have hold : i * 2 + 2 ≤ cur.toList.length := by simp; omega
      have h1' : w1.heap[R]? = some (.cells cur.toList.toArray 36 (0, 0)) := by simpa using h1
      have H1 := hide h1
      clear h1 h2
      go_wp2_with (first
        | (refine wpList_build rfl 36 _ rfl (by kernel_rfl) ?_)
        | (refine wpList_store_seg rfl 36 (.tmp 20) (.tmp 19) rfl R (i * 2) #[.int .i64 x, .int .i64 2] rfl rfl 36 cur.toList h1' part_size hold (by simp [Value.oneCell']) ?_; intro w3 e3 t3; have E3 := hide e3; have T3 := hide t3; clear e3 t3))
      go_roundw
      case rel =>
        refine ⟨i + 1, by omega, by go_num, B1.out.trans (T3.out.below B1.out.size (fun j hj => by rw [hj, LR.out]; exact Nat.le_refl _)), ?_⟩
        rw [NX.out, List.map_append]
        exact own_next O1.out (gapT x) cur H1.out hlt E3.out
      case measure => simp [intOf]; omega
    · obtain rfl : i = n := by omega
      go_wp2_with fail
      go_ret
      have O3 := O1.out
      rw [List.take_of_length_le (by rw [HL.out]; exact Nat.le_refl _)] at O3
      obtain ⟨A, C, e, hr, _⟩ := own_reads ptVals_len (by omega) O3
      injection e with e1 _ e2
      subst e1 e2
      exact ⟨rfl, hr, by first | exact B1.out | (rw [LR.out]; exact B1.out)⟩
theorem erase_map (ts : List Tk) (i : Nat) : (ts.map tpOf).eraseIdx i = (ts.eraseIdx i).map tpOf := by
  rw [List.eraseIdx_eq_take_drop_succ, List.eraseIdx_eq_take_drop_succ, List.map_append, List.map_take, List.map_drop]
theorem ahead_filter {c : Cp} (hm : mayC c = true) {ts : List Tk} (hts : c.ts = ts.map tpOf) {x : Tk} (hx : x ∈ ts) {l : List Tk} (hl : ∀ y ∈ l, y ∈ ts) : (l.filter (fun y => decide (y.cls = 2) && urgP x.cls x.lev y.cls y.lev)).map (fun y => partT (tpOf y)) = ((l.map tpOf).filter (fun b => decide (b.cls = 2) && countsT (tpOf x) b)).map partT := by
  rw [List.filter_map, List.map_map]
  have e : l.filter (fun y => decide (y.cls = 2) && urgP x.cls x.lev y.cls y.lev) = l.filter ((fun b => decide (b.cls = 2) && countsT (tpOf x) b) ∘ tpOf) := by
    refine List.filter_congr fun y hy => ?_
    have h1 := may_all hm (show tpOf x ∈ c.ts by rw [hts]; exact List.mem_map_of_mem hx)
    have h2 := may_all hm (show tpOf y ∈ c.ts by rw [hts]; exact List.mem_map_of_mem (hl y hy))
    show (decide (y.cls = 2) && urgP (tpOf x).cls (tpOf x).lev (tpOf y).cls (tpOf y).lev) = (decide (y.cls = 2) && countsT (tpOf x) (tpOf y))
    rw [urg_counts h1 h2]
  rw [e]
  rfl
set_option maxRecDepth 20000 in
set_option maxHeartbeats 8000000 in
theorem aparts_any (w : World) (c : Cf) (hc : CfFit w c) (hg : greatCf c = false) (task : Int) :
    Calls Tryz.prog 10 #[.agg (cfVals c).toArray, .int .i64 task] w fun e w' => ∃ v, e = .returned v ∧ w'.ownsRow w.heap.size 36 2 v (partsC (cpOf c) task).length ((partsC (cpOf c) task).flatMap ptVals) ∧ Below w.heap.size w w' := by
  obtain ⟨cc, hcc⟩ : ∃ cc, cc = c := ⟨_, rfl⟩
  have HC := hide hcc
  have HG := hide (show greatCf cc = false from by rw [hcc]; exact hg)
  have FC := hide (show CfFit w cc from by rw [hcc]; exact hc)
  obtain ⟨ta, tn, tc, ts, ea, en, ec, es, ma, mn, mc, ms, ga, gn, gc, gs, frames, dog⟩ := c
  show Calls Tryz.prog 10 #[.agg #[.slice ta tn tc, .slice ea en ec, .slice ma mn mc, .slice ga gn gc, .int .i64 frames, .int .i64 dog], .int .i64 task] w _
  have F := hide hc
  have bounds : tn ≤ 12 ∧ en ≤ 12 ∧ mn ≤ 12 ∧ gn ≤ 12 ∧ ∀ t ∈ ts, t.un ≤ 12 := by
    unfold greatCf at hg
    simp only [Bool.or_eq_false_iff, decide_eq_false_iff_not] at hg
    refine ⟨by omega, by omega, by omega, by omega, fun t ht => ?_⟩
    have h := hg.1.2
    cases e : bigTk t
    · unfold bigTk at e
      simp only [Bool.or_eq_false_iff, decide_eq_false_iff_not] at e
      omega
    · rw [List.any_eq_true.2 ⟨t, ht, e⟩] at h; cases h
  obtain ⟨tn12, en12, mn12, gn12, hun⟩ := bounds
  have HUN := hide hun
  have TN := hide tn12
  have MN := hide mn12
  have GN := hide gn12
  have RT := hide F.out.tasks.reads
  have TL := hide (show ts.length = tn from RT.out.1)
  obtain ⟨W0, hW⟩ : ∃ W0, W0 = w.alloc (.cells #[.slice ta tn tc, .slice ea en ec, .slice ma mn mc, .slice ga gn gc, .int .i64 frames, .int .i64 dog] 27) := ⟨_, rfl⟩
  have hb := heap_alloc_new w (.cells #[.slice ta tn tc, .slice ea en ec, .slice ma mn mc, .slice ga gn gc, .int .i64 frames, .int .i64 dog] 27)
  have B0 := hide ((Below.refl w.heap.size w).alloc (Nat.le_refl _) (.cells #[.slice ta tn tc, .slice ea en ec, .slice ma mn mc, .slice ga gn gc, .int .i64 frames, .int .i64 dog] 27))
  rw [← hW] at hb B0
  have SC := hide (show ∀ Y : World, Below W0.heap.size W0 Y → Y.cell? ⟨w.heap.size, 0, none⟩ = some (.slice ta tn tc) ∧ Y.cell? ⟨w.heap.size, 1, none⟩ = some (.slice ea en ec) ∧ Y.cell? ⟨w.heap.size, 2, none⟩ = some (.slice ma mn mc) ∧ Y.cell? ⟨w.heap.size, 3, none⟩ = some (.slice ga gn gc) ∧ Y.cell? ⟨w.heap.size, 4, none⟩ = some (.int .i64 frames) ∧ Y.cell? ⟨w.heap.size, 5, none⟩ = some (.int .i64 dog) from fun Y b => by
    have e := (b.block _ (lt_of_heap hb)).trans hb
    refine ⟨?_, ?_, ?_, ?_, ?_, ?_⟩ <;> (rw [cell_of_row _ _ _ _ _ _ e]; rfl))
  have HW := hide hW
  have CI := hide (show ∀ Y : World, Below W0.heap.size W0 Y → CfFit Y cc from fun Y b => (FC.out.below B0.out).below b)
  obtain ⟨k0, k1, k2, k3, k4, k5⟩ := SC.out W0 (Below.refl _ _)
  clear hcc hc hg hun hW hb tn12 en12 mn12 gn12
  obtain ⟨q, hq⟩ : ∃ q, q = isC (cpOf cc) task := ⟨_, rfl⟩
  have IS := hide (show ∀ Y : World, Below W0.heap.size W0 Y → Calls Tryz.prog 31 #[.agg #[.slice ta tn tc, .slice ea en ec, .slice ma mn mc, .slice ga gn gc, .int .i64 frames, .int .i64 dog], .int .i64 task] Y fun e w' => e = .returned (.bool q) ∧ Below Y.heap.size Y w' from fun Y b => by
    have h := ahas_any Y cc (CI.out Y b) HG.out task
    rw [← hq, HC.out] at h
    exact h)
  have HQ := hide hq
  clear hq
  obtain ⟨R, hR⟩ : ∃ R, R = partsC (cpOf cc) task := ⟨_, rfl⟩
  rw [← HC.out, ← hR]
  have HR := hide hR
  clear hR
  cases q with
  | false =>
    have V := hide (show R = [] from by rw [HR.out]; exact (isC_no HQ.out.symm).2.1)
    go_enter Tryz.func10, Tryz.ntmps10
    go_upto_region 1 with fail
    rw [← HW.out]
    go_wp2_with (go_at_call 31; refine (IS.out _ (Below.refl _ _)).mono ?_; rintro e w1 ⟨rfl, b1⟩; have B1 := hide (B0.out.trans (b1.mono B0.out.size)); clear b1)
    go_ret
    exact ⟨_, rfl, by rw [V.out]; exact World.ownsRow_nil _ _ _ _, B1.out⟩
  | true =>
    obtain ⟨i, a, rfl, ha, hm⟩ := isC_some HQ.out.symm
    obtain ⟨x, hx, hxa⟩ : ∃ x, ts[i]? = some x ∧ tpOf x = a := by
      rw [HC.out] at ha
      obtain ⟨x, h1, h2⟩ := Option.map_eq_some_iff.1 (show (ts[i]?).map tpOf = some a from by rw [← List.getElem?_map]; exact ha)
      exact ⟨x, h1, h2⟩
    subst hxa
    obtain ⟨L, hL⟩ : ∃ L, L = ((ts.eraseIdx i).filter (fun y => decide (y.cls = 2) && urgP x.cls x.lev y.cls y.lev)).map (fun y => partT (tpOf y)) := ⟨_, rfl⟩
    have ELN := hide (show (ts.eraseIdx i).length ≤ 12 from by
      have h1 := List.length_eraseIdx_le ts i
      have h2 := TL.out
      have h3 := TN.out
      omega)
    have LLN := hide (show L.length ≤ 12 from by
      rw [hL, List.length_map]
      exact Nat.le_trans (List.length_filter_le _ _) ELN.out)
    have V := hide (show R = gs.map gapT ++ L from by
      rw [HR.out]
      unfold partsC
      rw [if_pos ⟨hm, by omega⟩, Int.toNat_natCast, ha, hL, ahead_filter hm (by rw [HC.out]; rfl) (List.mem_of_getElem? hx) (fun y hy => (List.eraseIdx_sublist ts i).subset hy), ← erase_map, HC.out]
      rfl)
    have HX := hide hx
    have RGG := hide F.out.gaps.reads
    have GLN := hide (show (gs.map gapT).length = gn from by rw [List.length_map]; exact RGG.out.1)
    have TCN := hide (show tn ≤ tc ∧ tc ≤ maxLen from ⟨F.out.tasks.2.1, F.out.tasks.2.2.1⟩)
    have itn : i < tn := by have h := (List.getElem?_eq_some_iff.1 hx).1; have := TL.out; omega
    have j0 : (0 : Int) ≤ (i : Int) := by omega
    have j1 : (i : Int) < (tn : Int) := by omega
    obtain ⟨bt, ot, rfl⟩ : ∃ bt ot, ta = some ⟨bt, ot, none⟩ := by
      obtain ⟨_, b, off, _, e, _⟩ := RT.out.at_ itn
      exact ⟨b, off, e⟩
    have XR := hide (show ∀ Y : World, Below W0.heap.size W0 Y → Y.cell? ⟨w.heap.size, 0, none⟩ = some (.slice (some ⟨bt, ot, none⟩) tn tc) ∧ Y.cell? ⟨bt, ot + i * 8, none⟩ = some (.int .i64 x.cls) ∧ Y.cell? ⟨bt, ot + i * 8 + 1, none⟩ = some (.int .i64 x.lev) ∧ Y.cell? ⟨bt, ot + i * 8 + 2, none⟩ = some (.int .i64 x.per) ∧ Y.cell? ⟨bt, ot + i * 8 + 3, none⟩ = some (.int .i64 x.dl) ∧ Y.cell? ⟨bt, ot + i * 8 + 4, none⟩ = some (.int .i64 x.bud) ∧ Y.cell? ⟨bt, ot + i * 8 + 5, none⟩ = some (.int .i64 x.line) ∧ Y.cell? ⟨bt, ot + i * 8 + 6, none⟩ = some (.slice x.ua x.un x.uc) ∧ Y.cell? ⟨bt, ot + i * 8 + 7, none⟩ = some (.slice x.qa x.qn x.qc) from fun Y b => by
      have rx := tk_range (RT.out.below (B0.out.trans (b.mono B0.out.size))) HX.out
      exact ⟨(SC.out Y b).1, rx 0 _ rfl, rx 1 _ rfl, rx 2 _ rfl, rx 3 _ rfl, rx 4 _ rfl, rx 5 _ rfl, rx 6 _ rfl, rx 7 _ rfl⟩)
    obtain ⟨K1, hK1⟩ : ∃ K1, K1 = i + 1 := ⟨_, rfl⟩
    have HK1 := hide hK1
    have wK : IntKind.i64.wrap ((i : Int) + 1) = (K1 : Int) := by
      rw [hK1, IntWalk.i64_in _ (by have := TN.out; omega)]
      omega
    have l0 : (i : Int) ≤ (tc : Int) := by have := TCN.out; omega
    have l1 : (K1 : Int) ≤ (tn : Int) := by omega
    have l2 : (tn : Int) ≤ (tc : Int) := by have := TCN.out; omega
    have l3 : (0 : Int) ≤ (K1 : Int) := by omega
    have l4 : (tc : Int) ≤ 9223372036854775807 := by have := TCN.out.2; unfold maxLen at this; omega
    have l5 : ¬ tc = 0 := by omega
    obtain ⟨M, hM⟩ : ∃ M, M = (ts.eraseIdx i).length := ⟨_, rfl⟩
    have CTG := hide (fun (AD : Option Addr) (CD : Nat) (hAD : AD = some ⟨bt, ot + K1 * 8, none⟩ ∨ tc = K1) (hAN : AD = none → CD = 0) (Y : World) (b : Below W0.heap.size W0 Y) => show Calls Tryz.prog 42 #[.slice (some ⟨Y.heap.size, 0, none⟩) 2 2] (Y.alloc (.cells #[.slice (some ⟨bt, ot, none⟩) i tc, .slice AD (tn - K1) CD] 22)).drew fun e w' => ∃ A C, e = .returned (.slice A M C) ∧ Reads 8 tkVals w' A M (ts.eraseIdx i) ∧ Below Y.heap.size Y w' from by
      obtain ⟨V, hV⟩ : ∃ V, V = (Y.alloc (.cells #[.slice (some ⟨bt, ot, none⟩) i tc, .slice AD (tn - K1) CD] 22)).drew := ⟨_, rfl⟩
      have bA : Below Y.heap.size Y V := by rw [hV]; exact below_drewN ((Below.refl _ _).alloc (Nat.le_refl _) _) 1
      have eV : V.heap[Y.heap.size]? = some (.cells #[.slice (some ⟨bt, ot, none⟩) i tc, .slice AD (tn - K1) CD] 22 (0, 0)) := by rw [hV, heap_drew]; exact heap_alloc_new _ _
      rw [← hV]
      clear hV
      have RTY : Reads 8 tkVals V (some ⟨bt, ot, none⟩) tn ts := (RT.out.below (B0.out.trans (b.mono B0.out.size))).below bA
      have hTN := TN.out
      have r1 : Reads 8 tkVals V (some ⟨bt, ot, none⟩) i (ts.take i) := RTY.front (by omega)
      have r2 : Reads 8 tkVals V AD (tn - K1) (ts.drop K1) := by
        have h3 := TL.out
        rcases hAD with rfl | h
        · have := RTY.part K1 (tn - K1) (by omega)
          rw [List.take_of_length_le (by rw [List.length_drop]; omega)] at this
          exact this
        · have h5 := TCN.out.1
          have e : tn - K1 = 0 := by omega
          rw [e, List.drop_eq_nil_of_le (by omega)]
          exact reads_nil
      have eF : flatR [(⟨some ⟨bt, ot, none⟩, i, tc, ts.take i⟩ : Rw Tk), ⟨AD, tn - K1, CD, ts.drop K1⟩] = ts.eraseIdx i := by
        rw [List.eraseIdx_eq_take_drop_succ, HK1.out]
        simp [flatR]
      refine (cat_tk V (some ⟨Y.heap.size, 0, none⟩) 2 2 [⟨some ⟨bt, ot, none⟩, i, tc, ts.take i⟩, ⟨AD, tn - K1, CD, ts.drop K1⟩] (reads_block (z := 1) (vals := rwV) (xs := [(⟨some ⟨bt, ot, none⟩, i, tc, ts.take i⟩ : Rw Tk), ⟨AD, tn - K1, CD, ts.drop K1⟩]) (fun _ => rfl) eV) (by omega) (fun r hr => ?_)).mono ?_
      · simp only [List.mem_cons, List.not_mem_nil, or_false] at hr
        rcases hr with rfl | rfl
        · exact ⟨r1, fun h => (by cases h), by show i ≤ 100; omega⟩
        · exact ⟨r2, hAN, by show tn - K1 ≤ 100; omega⟩
      · rintro e w' ⟨v, rfl, ho, hb⟩
        rw [eF] at ho
        obtain ⟨A, C, rfl, hr, _⟩ := own_reads tkVals_len (by omega) ho
        rw [hM]
        exact ⟨A, C, rfl, hr, bA.trans (hb.mono bA.size)⟩)
    have TH := hide (fun (Y : World) (b : Below W0.heap.size W0 Y) => show Calls Tryz.prog 44 #[.slice ga gn gc] Y fun e w' => e = .returned (.slice (some ⟨Y.heap.size, 0, none⟩) gn gn) ∧ Reads 2 ptVals w' (some ⟨Y.heap.size, 0, none⟩) gn (gs.map gapT) ∧ Below Y.heap.size Y w' from atop_any Y ga gn gc gs (RGG.out.below (B0.out.trans (b.mono B0.out.size))) (by have := GN.out; omega))
    obtain ⟨K, hK⟩ : ∃ K, K = L.length := ⟨_, rfl⟩
    have TO := hide (fun (Y : World) (b : Below W0.heap.size W0 Y) (A : Option Addr) (C : Nat) (hr : Reads 8 tkVals Y A M (ts.eraseIdx i)) => show Calls Tryz.prog 45 #[.slice A M C, .func (.func 46) #[.agg #[.int .i64 x.cls, .int .i64 x.lev, .int .i64 x.per, .int .i64 x.dl, .int .i64 x.bud, .int .i64 x.line, .slice x.ua x.un x.uc, .slice x.qa x.qn x.qc]] #[], .func (.func 47) #[] #[]] Y fun e w' => ∃ A C, e = .returned (.slice A K C) ∧ Reads 2 ptVals w' A K L ∧ (A = none → C = 0) ∧ Below Y.heap.size Y w' from by
      refine (atold_parts Y x.cls x.lev x.per x.dl x.bud x.line x.ua x.un x.uc x.qa x.qn x.qc A M C (ts.eraseIdx i) hr (by rw [hM]; have := ELN.out; omega)).mono ?_
      rintro e w' ⟨v, rfl, ho, hb⟩
      rw [← hL] at ho
      obtain ⟨A, C, rfl, hr, _, _, hz⟩ := own_reads ptVals_len (by omega) ho
      rw [hK]
      exact ⟨A, C, rfl, hr, hz, hb⟩)
    have CP := hide (fun (Y : World) (b : Below W0.heap.size W0 Y) (g : Nat) (h1 : Reads 2 ptVals Y (some ⟨g, 0, none⟩) gn (gs.map gapT)) (A : Option Addr) (C : Nat) (h2 : Reads 2 ptVals Y A K L) (hz : A = none → C = 0) => show Calls Tryz.prog 43 #[.slice (some ⟨Y.heap.size, 0, none⟩) 2 2] (Y.alloc (.cells #[.slice (some ⟨g, 0, none⟩) gn gn, .slice A K C] 31)) fun e w' => ∃ v, e = .returned v ∧ w'.ownsRow W0.heap.size 36 2 v (gs.map gapT ++ L).length ((gs.map gapT ++ L).flatMap ptVals) ∧ Below W0.heap.size Y w' from by
      have bA : Below Y.heap.size Y (Y.alloc (.cells #[.slice (some ⟨g, 0, none⟩) gn gn, .slice A K C] 31)) := (Below.refl _ _).alloc (Nat.le_refl _) _
      have eF : flatR [(⟨some ⟨g, 0, none⟩, gn, gn, gs.map gapT⟩ : Rw Pt), ⟨A, K, C, L⟩] = gs.map gapT ++ L := by simp [flatR]
      refine (cat_pt _ (some ⟨Y.heap.size, 0, none⟩) 2 2 [⟨some ⟨g, 0, none⟩, gn, gn, gs.map gapT⟩, ⟨A, K, C, L⟩] (reads_block (z := 1) (vals := rwV) (xs := [(⟨some ⟨g, 0, none⟩, gn, gn, gs.map gapT⟩ : Rw Pt), ⟨A, K, C, L⟩]) (fun _ => rfl) (heap_alloc_new _ _)) (by omega) (fun r hr => ?_)).mono ?_
      · simp only [List.mem_cons, List.not_mem_nil, or_false] at hr
        rcases hr with rfl | rfl
        · exact ⟨h1.below bA, fun h => (by cases h), by show gn ≤ 100; have := GN.out; omega⟩
        · exact ⟨h2.below bA, hz, by show K ≤ 100; rw [hK]; have := LLN.out; omega⟩
      · rintro e w' ⟨v, rfl, ho, hb⟩
        rw [eF] at ho
        exact ⟨v, rfl, own_mono ho (Nat.le_trans b.size bA.size), (bA.trans (hb.mono bA.size)).mono b.size⟩)
    have hmf : ∀ (fn : Fn) (first cap : Array Value) (w : World), (Instr.makeFunc fn first cap).run Tryz.prog w = .ok (.func fn first cap) w := fun _ _ _ _ => rfl
    clear hx ha hm hL hK hK1
    by_cases e1 : tc = K1
    · have CT := hide (CTG.out (some ⟨bt, ot, none⟩) 0 (.inr e1) (fun h => by cases h))
      clear CTG hM
      subst e1
      go_enter Tryz.func10, Tryz.ntmps10
      go_upto_region 1 with fail
      rw [← HW.out]
      go_upto_region 3 with (go_at_call 31; refine (IS.out _ (Below.refl _ _)).mono ?_; rintro e w1 ⟨rfl, b1⟩; have B1 := hide b1; clear b1 k0 k1 k2 k3 k4 k5; obtain ⟨k0, k1, k2, k3, k4, k5⟩ := SC.out _ B1.out)
      have D1 := hide (show Below W0.heap.size W0 w1.drew from below_drewN B1.out 1)
      have c0 := (SC.out _ D1.out).1
      clear k0 k1 k2 k3 k4 k5
      go_region_held3 (fun W => W.cell? ⟨w.heap.size, 0, none⟩ = some (.slice (some ⟨bt, ot, none⟩) tn tc)) (first | exact c0 | exact (SC.out _ (D1.out.alloc D1.out.size _)).1 | exact (SC.out _ B2.out).1) (first
        | (go_at_call 42; refine (CT.out w1 B1.out).mono ?_; rintro e w2 ⟨A2, C2, rfl, r2, b2⟩; have R2 := hide r2; have B2 := hide (B1.out.trans (b2.mono B1.out.size)); clear r2 b2))
      all_goals
        go_upto_region 4 with fail
        have D2 := hide (show Below W0.heap.size W0 w2.drew from below_drewN B2.out 1)
        have RD2 := hide (show Reads 8 tkVals w2.drew A2 M (ts.eraseIdx i) from R2.out.below (below_drewN (Below.refl _ _) 1))
        have g2 := (SC.out _ D2.out).2.2.2.1
        go_region_held3 (fun W => W.cell? ⟨w.heap.size, 3, none⟩ = some (.slice ga gn gc) ∧ W.cell? ⟨w.heap.size, 0, none⟩ = some (.slice (some ⟨bt, ot, none⟩) tn tc) ∧ W.cell? ⟨bt, ot + i * 8, none⟩ = some (.int .i64 x.cls) ∧ W.cell? ⟨bt, ot + i * 8 + 1, none⟩ = some (.int .i64 x.lev) ∧ W.cell? ⟨bt, ot + i * 8 + 2, none⟩ = some (.int .i64 x.per) ∧ W.cell? ⟨bt, ot + i * 8 + 3, none⟩ = some (.int .i64 x.dl) ∧ W.cell? ⟨bt, ot + i * 8 + 4, none⟩ = some (.int .i64 x.bud) ∧ W.cell? ⟨bt, ot + i * 8 + 5, none⟩ = some (.int .i64 x.line) ∧ W.cell? ⟨bt, ot + i * 8 + 6, none⟩ = some (.slice x.ua x.un x.uc) ∧ W.cell? ⟨bt, ot + i * 8 + 7, none⟩ = some (.slice x.qa x.qn x.qc)) (first | exact ⟨g2, XR.out _ D2.out⟩ | exact ⟨(SC.out _ B3.out).2.2.2.1, XR.out _ B3.out⟩ | exact ⟨(SC.out _ B4.out).2.2.2.1, XR.out _ B4.out⟩ | exact ⟨(SC.out _ (B4.out.alloc B4.out.size _)).2.2.2.1, XR.out _ (B4.out.alloc B4.out.size _)⟩ | exact ⟨(SC.out _ B5.out).2.2.2.1, XR.out _ B5.out⟩) (first
          | (go_at_call 44; refine (TH.out _ D2.out).mono ?_; rintro e w3 ⟨rfl, r3, b3⟩; have R3 := hide r3; have RD3 := hide (RD2.out.below b3); have B3 := hide (D2.out.trans (b3.mono D2.out.size)); clear r3 b3)
          | (go_at_call 45; refine (TO.out _ B3.out A2 C2 RD3.out).mono ?_; rintro e w4 ⟨A4, C4, rfl, r4, q4, b4⟩; have R4 := hide r4; have Q4 := hide q4; have R5 := hide (R3.out.below b4); have B4 := hide (B3.out.trans (b4.mono B3.out.size)); clear r4 q4 b4)
          | (go_at_call 43; refine (CP.out _ B4.out _ R5.out A4 C4 R4.out Q4.out).mono ?_; rintro e w5 ⟨v, rfl, o5, b5⟩; have O5 := hide o5; have B5 := hide (B4.out.trans b5); clear o5 b5))
        all_goals
          go_wp2_with fail
          go_ret
          exact ⟨_, rfl, by rw [V.out]; exact own_mono O5.out B0.out.size, B0.out.trans (B5.out.mono B0.out.size)⟩
    · have CT := hide (CTG.out (some ⟨bt, ot + K1 * 8, none⟩) (tc - K1) (.inl rfl) (fun h => by cases h))
      clear CTG hM
      go_enter Tryz.func10, Tryz.ntmps10
      go_upto_region 1 with fail
      rw [← HW.out]
      go_upto_region 3 with (go_at_call 31; refine (IS.out _ (Below.refl _ _)).mono ?_; rintro e w1 ⟨rfl, b1⟩; have B1 := hide b1; clear b1 k0 k1 k2 k3 k4 k5; obtain ⟨k0, k1, k2, k3, k4, k5⟩ := SC.out _ B1.out)
      have D1 := hide (show Below W0.heap.size W0 w1.drew from below_drewN B1.out 1)
      have c0 := (SC.out _ D1.out).1
      clear k0 k1 k2 k3 k4 k5
      go_region_held3 (fun W => W.cell? ⟨w.heap.size, 0, none⟩ = some (.slice (some ⟨bt, ot, none⟩) tn tc)) (first | exact c0 | exact (SC.out _ (D1.out.alloc D1.out.size _)).1 | exact (SC.out _ B2.out).1) (first
        | (go_at_call 42; refine (CT.out w1 B1.out).mono ?_; rintro e w2 ⟨A2, C2, rfl, r2, b2⟩; have R2 := hide r2; have B2 := hide (B1.out.trans (b2.mono B1.out.size)); clear r2 b2))
      all_goals
        go_upto_region 4 with fail
        have D2 := hide (show Below W0.heap.size W0 w2.drew from below_drewN B2.out 1)
        have RD2 := hide (show Reads 8 tkVals w2.drew A2 M (ts.eraseIdx i) from R2.out.below (below_drewN (Below.refl _ _) 1))
        have g2 := (SC.out _ D2.out).2.2.2.1
        go_region_held3 (fun W => W.cell? ⟨w.heap.size, 3, none⟩ = some (.slice ga gn gc) ∧ W.cell? ⟨w.heap.size, 0, none⟩ = some (.slice (some ⟨bt, ot, none⟩) tn tc) ∧ W.cell? ⟨bt, ot + i * 8, none⟩ = some (.int .i64 x.cls) ∧ W.cell? ⟨bt, ot + i * 8 + 1, none⟩ = some (.int .i64 x.lev) ∧ W.cell? ⟨bt, ot + i * 8 + 2, none⟩ = some (.int .i64 x.per) ∧ W.cell? ⟨bt, ot + i * 8 + 3, none⟩ = some (.int .i64 x.dl) ∧ W.cell? ⟨bt, ot + i * 8 + 4, none⟩ = some (.int .i64 x.bud) ∧ W.cell? ⟨bt, ot + i * 8 + 5, none⟩ = some (.int .i64 x.line) ∧ W.cell? ⟨bt, ot + i * 8 + 6, none⟩ = some (.slice x.ua x.un x.uc) ∧ W.cell? ⟨bt, ot + i * 8 + 7, none⟩ = some (.slice x.qa x.qn x.qc)) (first | exact ⟨g2, XR.out _ D2.out⟩ | exact ⟨(SC.out _ B3.out).2.2.2.1, XR.out _ B3.out⟩ | exact ⟨(SC.out _ B4.out).2.2.2.1, XR.out _ B4.out⟩ | exact ⟨(SC.out _ (B4.out.alloc B4.out.size _)).2.2.2.1, XR.out _ (B4.out.alloc B4.out.size _)⟩ | exact ⟨(SC.out _ B5.out).2.2.2.1, XR.out _ B5.out⟩) (first
          | (go_at_call 44; refine (TH.out _ D2.out).mono ?_; rintro e w3 ⟨rfl, r3, b3⟩; have R3 := hide r3; have RD3 := hide (RD2.out.below b3); have B3 := hide (D2.out.trans (b3.mono D2.out.size)); clear r3 b3)
          | (go_at_call 45; refine (TO.out _ B3.out A2 C2 RD3.out).mono ?_; rintro e w4 ⟨A4, C4, rfl, r4, q4, b4⟩; have R4 := hide r4; have Q4 := hide q4; have R5 := hide (R3.out.below b4); have B4 := hide (B3.out.trans (b4.mono B3.out.size)); clear r4 q4 b4)
          | (go_at_call 43; refine (CP.out _ B4.out _ R5.out A4 C4 R4.out Q4.out).mono ?_; rintro e w5 ⟨v, rfl, o5, b5⟩; have O5 := hide o5; have B5 := hide (B4.out.trans b5); clear o5 b5))
        all_goals
          go_wp2_with fail
          go_ret
          exact ⟨_, rfl, by rw [V.out]; exact own_mono O5.out B0.out.size, B0.out.trans (B5.out.mono B0.out.size)⟩
end Go.Proofs.YtcmgkjjkhfcedaaGreat
