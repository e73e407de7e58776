/-
  What the walks lean on, part 19: AmAdm AdNTells AdmitTellsProof.
-/
import Derived.ShutString
import Derived.Test.YtcmgkjjkhfcedaaGreatPk18
/-
  The program's admit (stage 18): hurried, Admit; padmit (written by tools/gen/amadm.py).
-/
namespace Go.Proofs.YtcmgkjjkhfcedaaGreat
open Go.ChangeShapes Go.WideShapes Go.ChangeAt Go.RowKit
set_option linter.unusedVariables false
set_option linter.unusedSimpArgs false
/-- Whether a line may release a task ahead of its period, or the dog may fire within its deadline. -/
def hurB (gs : List Int) (dog line per dl : Int) : Bool := (decide (0 ≤ line) && decide (gs.getD line.toNat 0 < per)) || decide (dog ≤ dl)
theorem hurB_ok (c : Cp) (a : Tp) : hurB c.gs c.dog a.line a.per a.dl = !okT c a := by
  unfold hurB okT
  rw [Bool.not_and, Bool.not_not]
  congr 1
  rw [Bool.eq_iff_iff]
  simp
set_option maxRecDepth 10000 in
set_option maxHeartbeats 8000000 in
theorem ahur_any (w : World) (ta : Option Addr) (tn tc : Nat) (ea : Option Addr) (en ec : Nat) (ma : Option Addr) (mn mc : Nat) (ga : Option Addr) (gn gc : Nat) (frames dog : Int) (gs : List Int) (hgr : Reads 1 nuVals w ga gn gs) (hgn : gn ≤ 12) (cls lev per dl bud line : Int) (ua : Option Addr) (un uc : Nat) (qa : Option Addr) (qn qc : Nat) (l0 : -1 ≤ line) (l1 : line < (gn : Int)) :
    Calls Tryz.prog 57 #[.agg #[.slice ta tn tc, .slice ea en ec, .slice ma mn mc, .slice ga gn gc, .int .i64 frames, .int .i64 dog], .agg #[.int .i64 cls, .int .i64 lev, .int .i64 per, .int .i64 dl, .int .i64 bud, .int .i64 line, .slice ua un uc, .slice qa qn qc]] w fun e w' => e = .returned (.bool (hurB gs dog line per dl)) ∧ Below w.heap.size w w' := by
  obtain ⟨w2, hw2⟩ : ∃ z, z = (w.alloc (.cells #[.slice ta tn tc, .slice ea en ec, .slice ma mn mc, .slice ga gn gc, .int .i64 frames, .int .i64 dog] 64)).alloc (.cells #[.int .i64 cls, .int .i64 lev, .int .i64 per, .int .i64 dl, .int .i64 bud, .int .i64 line, .slice ua un uc, .slice qa qn qc] 47) := ⟨_, rfl⟩
  have eA : w2.heap[w.heap.size]? = some (.cells #[.slice ta tn tc, .slice ea en ec, .slice ma mn mc, .slice ga gn gc, .int .i64 frames, .int .i64 dog] 64 (0, 0)) := by rw [hw2]; exact heap_alloc2_old _ _ _
  have eB : w2.heap[w.heap.size + 1]? = some (.cells #[.int .i64 cls, .int .i64 lev, .int .i64 per, .int .i64 dl, .int .i64 bud, .int .i64 line, .slice ua un uc, .slice qa qn qc] 47 (0, 0)) := by rw [hw2]; exact heap_alloc2_new _ _ _
  have B0 := hide (show Below w.heap.size w w2 from by rw [hw2]; exact ((Below.refl _ _).alloc (Nat.le_refl _) _).alloc (by simp) _)
  have SC := hide (show ∀ Y : World, Below w2.heap.size w2 Y → Y.cell? ⟨w.heap.size, 0, none⟩ = some (.slice ta tn tc) ∧ Y.cell? ⟨w.heap.size, 1, none⟩ = some (.slice ea en ec) ∧ Y.cell? ⟨w.heap.size, 2, none⟩ = some (.slice ma mn mc) ∧ Y.cell? ⟨w.heap.size, 3, none⟩ = some (.slice ga gn gc) ∧ Y.cell? ⟨w.heap.size, 4, none⟩ = some (.int .i64 frames) ∧ Y.cell? ⟨w.heap.size, 5, none⟩ = some (.int .i64 dog) ∧ Y.cell? ⟨w.heap.size + 1, 0, none⟩ = some (.int .i64 cls) ∧ Y.cell? ⟨w.heap.size + 1, 1, none⟩ = some (.int .i64 lev) ∧ Y.cell? ⟨w.heap.size + 1, 2, none⟩ = some (.int .i64 per) ∧ Y.cell? ⟨w.heap.size + 1, 3, none⟩ = some (.int .i64 dl) ∧ Y.cell? ⟨w.heap.size + 1, 4, none⟩ = some (.int .i64 bud) ∧ Y.cell? ⟨w.heap.size + 1, 5, none⟩ = some (.int .i64 line) ∧ Y.cell? ⟨w.heap.size + 1, 6, none⟩ = some (.slice ua un uc) ∧ Y.cell? ⟨w.heap.size + 1, 7, none⟩ = some (.slice qa qn qc) from fun Y b => by
    have e1 := (b.block _ (lt_of_heap eA)).trans eA
    have e2 := (b.block _ (lt_of_heap eB)).trans eB
    refine ⟨?_, ?_, ?_, ?_, ?_, ?_, ?_, ?_, ?_, ?_, ?_, ?_, ?_, ?_⟩ <;> first | (rw [cell_of_row _ _ _ _ _ _ e1]; rfl) | (rw [cell_of_row _ _ _ _ _ _ e2]; rfl))
  have HW := hide hw2
  clear hw2 eA eB
  have RG := hide (fun (Y : World) (b : Below w2.heap.size w2 Y) => hgr.below (B0.out.trans (b.mono B0.out.size)))
  clear hgr
  obtain ⟨k0, k1, k2, k3, k4, k5, z0, z1, z2, z3, z4, z5, z6, z7⟩ := SC.out _ (Below.refl _ _)
  by_cases hl : line = -1
  · subst hl
    have RV := hide (show hurB gs dog (-1) per dl = decide (dog ≤ dl) from by unfold hurB; simp)
    rw [RV.out]
    go_enter Tryz.func57, Tryz.ntmps57
    go_upto_region 1 with fail
    rw [← HW.out]
    go_quiet (fail)
    all_goals
      go_wp2_with fail
      go_ret
      exact ⟨ret_bool (by first | rfl | (rw [Bool.eq_iff_iff]; simp)), by first | exact below_drewN B0.out _ | exact B0.out⟩
  · obtain ⟨l, rfl⟩ : ∃ l : Nat, line = (l : Int) := ⟨line.toNat, by omega⟩
    have q1 : ((l : Int) == -1) = false := by rw [beq_eq_false_iff_ne]; omega
    have q2 : ((l : Int) != -1) = true := by rw [bne_iff_ne]; omega
    have q3 : (0 : Int) ≤ (l : Int) := by omega
    obtain ⟨g, b, off, hx, rfl, hc⟩ := (RG.out _ (Below.refl _ _)).at_ (i := l) (by omega)
    have y0 : w2.cell? ⟨b, off + l, none⟩ = some (.int .i64 g) := by
      have h := hc 0 _ rfl
      rwa [Nat.mul_one, Nat.add_zero] at h
    have gD : gs.getD l 0 = g := by rw [List.getD_eq_getElem?_getD, hx]; rfl
    have RV := hide (show hurB gs dog (l : Int) per dl = (decide (g < per) || decide (dog ≤ dl)) from by unfold hurB; rw [Int.toNat_natCast, gD]; simp)
    rw [RV.out]
    clear hc hx gD hl l0
    by_cases hg : g < per
    · have hT : (g < per) = True := eq_true hg
      go_enter Tryz.func57, Tryz.ntmps57
      go_upto_region 1 with fail
      rw [← HW.out]
      go_quiet (fail)
      all_goals
        go_wp2_with fail
        go_ret
        exact ⟨ret_bool (by first | rfl | simp [hg]), by first | exact below_drewN B0.out _ | exact B0.out⟩
    · have hF : (g < per) = False := eq_false hg
      go_enter Tryz.func57, Tryz.ntmps57
      go_upto_region 1 with fail
      rw [← HW.out]
      go_quiet (fail)
      all_goals
        go_wp2_with fail
        go_ret
        exact ⟨ret_bool (by first | rfl | (rw [Bool.eq_iff_iff]; simp [hg])), by first | exact below_drewN B0.out _ | exact B0.out⟩
set_option maxHeartbeats 4000000 in
theorem ahurh_ix (w : World) (ta : Option Addr) (tn tc : Nat) (ea : Option Addr) (en ec : Nat) (ma : Option Addr) (mn mc : Nat) (ga : Option Addr) (gn gc : Nat) (frames dog : Int) (gs : List Int) (hgr : Reads 1 nuVals w ga gn gs) (hgn : gn ≤ 12) (a : Option Addr) (n c : Nat) (xs : List Tk) (hr : Reads 8 tkVals w a n xs) (hn : n ≤ 100) (hx : ∀ x ∈ xs, -1 ≤ x.line ∧ x.line < (gn : Int)) :
    Calls Tryz.prog 87 #[.slice a n c, .func (.func 57) #[.agg #[.slice ta tn tc, .slice ea en ec, .slice ma mn mc, .slice ga gn gc, .int .i64 frames, .int .i64 dog]] #[]] w fun e w' => ∃ v, e = .returned v ∧ HitIs (fun x => hurB gs dog x.line x.per x.dl) xs v ∧ Below w.heap.size w w' := by
  have HR := hide (fun (W : World) (b : Below w.heap.size w W) => hr.below b)
  have HL := hide hr.1
  have n2 : (n : Int) ≤ 1000 := by omega
  have CF := hide (show ∀ W : World, Below w.heap.size w W → ∀ x ∈ xs, Calls Tryz.prog 57 #[.agg #[.slice ta tn tc, .slice ea en ec, .slice ma mn mc, .slice ga gn gc, .int .i64 frames, .int .i64 dog], .agg #[.int .i64 x.cls, .int .i64 x.lev, .int .i64 x.per, .int .i64 x.dl, .int .i64 x.bud, .int .i64 x.line, .slice x.ua x.un x.uc, .slice x.qa x.qn x.qc]] W fun e w' => e = .returned (.bool (hurB gs dog x.line x.per x.dl)) ∧ Below W.heap.size W w' from fun W b x hm => ahur_any W ta tn tc ea en ec ma mn mc ga gn gc frames dog gs (hgr.below b) hgn x.cls x.lev x.per x.dl x.bud x.line x.ua x.un x.uc x.qa x.qn x.qc (hx x hm).1 (hx x hm).2)
  clear hr hn hx
  go_enter Tryz.func87, Tryz.ntmps87
  go_wp2_with fail
  go_loopw [8] (fun iv wr => ∃ i : Nat, i ≤ n ∧ iv = .int .i64 (i : Int) ∧ Hid (Below w.heap.size w wr) ∧ Hid (∀ (j : Nat) (x : Tk), j < i → xs[j]? = some x → (hurB gs dog x.line x.per x.dl) = false)) (fun iv _ => n - (intOf iv).toNat)
  case atStart => exact ⟨0, Nat.zero_le _, rfl, Below.refl _ _, fun j x hj => absurd hj (by omega)⟩
  case round =>
    obtain ⟨i, hi, rfl, hB, hA⟩ := hrel
    rename World => w1
    have B1 := hide hB.out
    have A1 := hide hA.out
    clear hB hA
    by_cases hlt : i < n
    · have i0 : (0 : Int) ≤ (i : Int) := by omega
      have i1 : (i : Int) < (n : Int) := by omega
      obtain ⟨x, pb, po, hx, rfl, hc⟩ := (HR.out _ B1.out).at_ hlt
      have y0 : w1.cell? ⟨pb, po + i * 8, none⟩ = some (.int .i64 x.cls) := hc 0 _ rfl
      have y1 : w1.cell? ⟨pb, po + i * 8 + 1, none⟩ = some (.int .i64 x.lev) := hc 1 _ rfl
      have y2 : w1.cell? ⟨pb, po + i * 8 + 2, none⟩ = some (.int .i64 x.per) := hc 2 _ rfl
      have y3 : w1.cell? ⟨pb, po + i * 8 + 3, none⟩ = some (.int .i64 x.dl) := hc 3 _ rfl
      have y4 : w1.cell? ⟨pb, po + i * 8 + 4, none⟩ = some (.int .i64 x.bud) := hc 4 _ rfl
      have y5 : w1.cell? ⟨pb, po + i * 8 + 5, none⟩ = some (.int .i64 x.line) := hc 5 _ rfl
      have y6 : w1.cell? ⟨pb, po + i * 8 + 6, none⟩ = some (.slice x.ua x.un x.uc) := hc 6 _ rfl
      have y7 : w1.cell? ⟨pb, po + i * 8 + 7, none⟩ = some (.slice x.qa x.qn x.qc) := hc 7 _ rfl
      have C := hide (CF.out w1 B1.out x (List.mem_of_getElem? hx))
      have X := hide hx
      obtain ⟨r, hr⟩ : ∃ r, r = (hurB gs dog x.line x.per x.dl) := ⟨_, rfl⟩
      rw [← hr] at C
      have ER := hide hr.symm
      clear hc hx hr
      cases r with
      | true =>
        have YES := hide (show HitIs (fun x => hurB gs dog x.line x.per x.dl) xs (.int .i64 (i : Int)) from ⟨(i : Int), rfl, by rw [any_at X.out ER.out]; exact decide_eq_true i0⟩)
        go_wp2_with (go_at_call 57; refine C.out.mono ?_; rintro e w3 ⟨rfl, b3⟩; have B3 := hide (B1.out.trans (b3.mono B1.out.size)); clear b3)
        go_ret
        exact ⟨_, rfl, YES.out, B3.out⟩
      | false =>
        go_wp2_with (go_at_call 57; refine C.out.mono ?_; rintro e w3 ⟨rfl, b3⟩; have B3 := hide (B1.out.trans (b3.mono B1.out.size)); clear b3)
        go_roundw
        case rel =>
          refine ⟨i + 1, by omega, by go_num, B3.out, fun j u hj hu => ?_⟩
          by_cases hji : j < i
          · exact A1.out j u hji hu
          · obtain rfl : j = i := by omega
            rw [X.out] at hu; injection hu with hu; subst hu; exact ER.out
        case measure => simp [intOf]; omega
    · obtain rfl : i = n := by omega
      have NO := hide (show HitIs (fun x => hurB gs dog x.line x.per x.dl) xs (.int .i64 (-1)) from ⟨-1, rfl, by rw [any_none HL.out A1.out]; rfl⟩)
      clear hlt hi
      go_wp2_with fail
      go_ret
      exact ⟨_, rfl, NO.out, B1.out⟩
set_option maxHeartbeats 4000000 in
theorem ahurh_ct (w : World) (ta : Option Addr) (tn tc : Nat) (ea : Option Addr) (en ec : Nat) (ma : Option Addr) (mn mc : Nat) (ga : Option Addr) (gn gc : Nat) (frames dog : Int) (gs : List Int) (hgr : Reads 1 nuVals w ga gn gs) (hgn : gn ≤ 12) (a : Option Addr) (n c : Nat) (xs : List Tk) (hr : Reads 8 tkVals w a n xs) (hn : n ≤ 100) (hx : ∀ x ∈ xs, -1 ≤ x.line ∧ x.line < (gn : Int)) :
    Calls Tryz.prog 56 #[.slice a n c, .func (.func 57) #[.agg #[.slice ta tn tc, .slice ea en ec, .slice ma mn mc, .slice ga gn gc, .int .i64 frames, .int .i64 dog]] #[]] w fun e w' => e = .returned (.bool (xs.any (fun x => hurB gs dog x.line x.per x.dl))) ∧ Below w.heap.size w w' := by
  have C := hide (ahurh_ix w ta tn tc ea en ec ma mn mc ga gn gc frames dog gs hgr hgn a n c xs hr hn hx)
  obtain ⟨R, hR⟩ : ∃ R, R = xs.any (fun x => hurB gs dog x.line x.per x.dl) := ⟨_, rfl⟩
  have HRR := hide hR
  rw [← hR]
  clear hr hn hR hx
  go_enter Tryz.func56, Tryz.ntmps56
  go_wp2_with (go_at_call 87; refine C.out.mono ?_; rintro e w2 ⟨v, rfl, hh, b2⟩; obtain ⟨r, rfl, hr⟩ := hh; have HH := hide hr; have B2 := hide b2; clear hr b2)
  go_ret
  exact ⟨ret_bool (by rw [HRR.out]; exact HH.out), B2.out⟩
theorem own_nextI {w w' : World} {B R k n : Nat} {xs : List Int} {r : Int} (h : w.ownsRow B 3 1 (.slice (some ⟨R, 0, none⟩) k n) k (xs.map (Value.int .i64))) (cur : Array Value) (hg : w.heap[R]? = some (.cells cur 3 (0, 0))) (hi : k < n)
    (e : w'.heap[R]? = some (.cells (cur.setIfInBounds k (.int .i64 r)) 3 (0, 0))) :
    w'.ownsRow B 3 1 (.slice (some ⟨R, 0, none⟩) (k + 1) n) (k + 1) ((xs ++ [r]).map (Value.int .i64)) := by
  obtain ⟨h1, h2⟩ := h
  rcases h2 with ⟨h2, _⟩ | ⟨g, cap, cu, h2, h3, h4, h5, h6, h7, h8⟩
  · cases h2
  · injection h2 with h2 _ h2c
    injection h2 with h2
    injection h2 with h2
    subst h2 h2c
    rw [h4] at hg
    injection hg with hg
    injection hg with hg
    subst hg
    have hl : k < cu.toList.length := by simp; omega
    refine ⟨by rw [List.map_append, List.length_append, h1]; simp, .inr ⟨R, n, _, rfl, h3, e, by omega, h6, by simpa using h7, ?_⟩⟩
    rw [List.map_append, ← h8, Array.toList_setIfInBounds]
    simp only [Nat.mul_one, List.map_cons, List.map_nil]
    rw [List.take_succ_eq_append_getElem (by rw [List.length_set]; exact hl), List.getElem_set_self, List.take_set_of_le (Nat.le_refl _)]
theorem own_row_cellsI {w : World} {B R i n : Nat} {e : TypeId} {xs : List Value} (h : w.ownsRow B e 1 (.slice (some ⟨R, 0, none⟩) i n) i xs) : ∃ cur : Array Value, w.heap[R]? = some (.cells cur e (0, 0)) ∧ cur.size = n := by
  rcases h.2 with ⟨h2, _⟩ | ⟨g, cap, cu, h2, h3, h4, h5, h6, h7, h8⟩
  · cases h2
  · injection h2 with h2 _ h2c
    injection h2 with h2
    injection h2 with h2
    subst h2 h2c
    exact ⟨cu, h4, by simpa using h7⟩
theorem row_cell {w : World} {g k : Nat} {cur : Array Value} {t : TypeId} (h : w.heap[g]? = some (.cells cur t (0, 0))) (hk : k < cur.size) : ∃ u, w.cell? ⟨g, k, none⟩ = some u := by
  rw [cell_of_row _ _ _ _ _ _ h]
  exact ⟨_, Array.getElem?_eq_getElem hk⟩
theorem int_info19 : (Tryz.prog.info? 3).map (fun i => (i.zero, i.size, i.bytes)) = some (some (.int .i64 0), 1, 8) := by kernel_rfl
set_option maxRecDepth 20000 in
set_option maxHeartbeats 8000000 in
theorem aadm_any (w : World) (c : Cf) (hc : CfFit w c) (hg : greatCf c = false) :
    Calls Tryz.prog 14 #[.agg (cfVals c).toArray] w fun e w' => AdmOk (cpOf c) w e w' := by
  obtain ⟨cc, hcc⟩ : ∃ cc, cc = c := ⟨_, rfl⟩
  have HC := hide hcc
  have HG := hide (show greatCf cc = false from by rw [hcc]; exact hg)
  have FC := hide (show CfFit w cc from by rw [hcc]; exact hc)
  obtain ⟨ta, tn, tc, ts, ea, en, ec, es, ma, mn, mc, ms, ga, gn, gc, gs, frames, dog⟩ := c
  show Calls Tryz.prog 14 #[.agg #[.slice ta tn tc, .slice ea en ec, .slice ma mn mc, .slice ga gn gc, .int .i64 frames, .int .i64 dog]] w _
  have F := hide hc
  have bounds : tn ≤ 12 ∧ en ≤ 12 ∧ mn ≤ 12 ∧ gn ≤ 12 ∧ ∀ t ∈ ts, t.un ≤ 12 := by
    unfold greatCf at hg
    simp only [Bool.or_eq_false_iff, decide_eq_false_iff_not] at hg
    refine ⟨by omega, by omega, by omega, by omega, fun t ht => ?_⟩
    have h := hg.1.2
    cases e : bigTk t
    · unfold bigTk at e
      simp only [Bool.or_eq_false_iff, decide_eq_false_iff_not] at e
      omega
    · rw [List.any_eq_true.2 ⟨t, ht, e⟩] at h; cases h
  obtain ⟨tn12, en12, mn12, gn12, hun⟩ := bounds
  have HUN := hide hun
  have TN := hide tn12
  have MN := hide mn12
  have GN := hide gn12
  have RT := hide F.out.tasks.reads
  have TL := hide (show ts.length = tn from RT.out.1)
  obtain ⟨W0, hW⟩ : ∃ W0, W0 = w.alloc (.cells #[.slice ta tn tc, .slice ea en ec, .slice ma mn mc, .slice ga gn gc, .int .i64 frames, .int .i64 dog] 27) := ⟨_, rfl⟩
  have hb := heap_alloc_new w (.cells #[.slice ta tn tc, .slice ea en ec, .slice ma mn mc, .slice ga gn gc, .int .i64 frames, .int .i64 dog] 27)
  have B0 := hide ((Below.refl w.heap.size w).alloc (Nat.le_refl _) (.cells #[.slice ta tn tc, .slice ea en ec, .slice ma mn mc, .slice ga gn gc, .int .i64 frames, .int .i64 dog] 27))
  rw [← hW] at hb B0
  have SC := hide (show ∀ Y : World, Below W0.heap.size W0 Y → Y.cell? ⟨w.heap.size, 0, none⟩ = some (.slice ta tn tc) ∧ Y.cell? ⟨w.heap.size, 1, none⟩ = some (.slice ea en ec) ∧ Y.cell? ⟨w.heap.size, 2, none⟩ = some (.slice ma mn mc) ∧ Y.cell? ⟨w.heap.size, 3, none⟩ = some (.slice ga gn gc) ∧ Y.cell? ⟨w.heap.size, 4, none⟩ = some (.int .i64 frames) ∧ Y.cell? ⟨w.heap.size, 5, none⟩ = some (.int .i64 dog) from fun Y b => by
    have e := (b.block _ (lt_of_heap hb)).trans hb
    refine ⟨?_, ?_, ?_, ?_, ?_, ?_⟩ <;> (rw [cell_of_row _ _ _ _ _ _ e]; rfl))
  have HW := hide hW
  have CI := hide (show ∀ Y : World, Below W0.heap.size W0 Y → CfFit Y cc from fun Y b => (FC.out.below B0.out).below b)
  obtain ⟨k0, k1, k2, k3, k4, k5⟩ := SC.out W0 (Below.refl _ _)
  clear hcc hc hg hun hW hb tn12 en12 mn12 gn12
  rw [← HC.out]
  obtain ⟨q, hq⟩ : ∃ q, q = mayC (cpOf cc) := ⟨_, rfl⟩
  have MY := hide (show Calls Tryz.prog 6 #[.agg #[.slice ta tn tc, .slice ea en ec, .slice ma mn mc, .slice ga gn gc, .int .i64 frames, .int .i64 dog]] W0 fun e w' => e = .returned (.bool q) ∧ Below W0.heap.size W0 w' from by
    have h := amay_any W0 cc (CI.out W0 (Below.refl _ _)) HG.out
    rw [← hq, HC.out] at h
    exact h)
  have HQ := hide hq
  have hmf : ∀ (fn : Fn) (first cap : Array Value) (w : World), (Instr.makeFunc fn first cap).run Tryz.prog w = .ok (.func fn first cap) w := fun _ _ _ _ => rfl
  clear hq
  cases q with
  | false =>
    have NO := hide (show ¬ (mayC (cpOf cc) = true ∧ ∀ i a, (cpOf cc).ts[i]? = some a → (∃ r, RespT (cpOf cc) i a r true) ∧ okT (cpOf cc) a = true) from fun h => by rw [← HQ.out] at h; exact absurd h.1 (by simp))
    go_enter Tryz.func14, Tryz.ntmps14
    go_upto_region 1 with fail
    rw [← HW.out]
    go_wp2_with (go_at_call 6; refine MY.out.mono ?_; rintro e w1 ⟨rfl, b1⟩; have B1 := hide (B0.out.trans (b1.mono B0.out.size)); clear b1)
    exact bodyPost_ret (v := .tuple #[.bool false, .slice none 0 0]) (by simp [results, Tryz.results14, go_sem]) rfl (AdmOk.no NO.out B1.out)
  | true =>
    have HM := hide HQ.out.symm
    have GL := hide (show gs.length = gn from F.out.gaps.reads.1)
    obtain ⟨U, hU⟩ : ∃ U, U = ts.any (fun x => hurB gs dog x.line x.per x.dl) := ⟨_, rfl⟩
    have HU := hide (show ∀ Y : World, Below W0.heap.size W0 Y → Calls Tryz.prog 56 #[.slice ta tn tc, .func (.func 57) #[.agg #[.slice ta tn tc, .slice ea en ec, .slice ma mn mc, .slice ga gn gc, .int .i64 frames, .int .i64 dog]] #[]] Y fun e w' => e = .returned (.bool U) ∧ Below Y.heap.size Y w' from fun Y b => by
      rw [hU]
      exact ahurh_ct Y ta tn tc ea en ec ma mn mc ga gn gc frames dog gs (F.out.gaps.reads.below (B0.out.trans (b.mono B0.out.size))) GN.out ta tn tc ts (RT.out.below (B0.out.trans (b.mono B0.out.size))) (by have := TN.out; omega) (fun x hx => by
        obtain ⟨i, hi⟩ := List.getElem?_of_mem hx
        have ha : (cpOf cc).ts[i]? = some (tpOf x) := by
          rw [HC.out]
          show (ts.map tpOf)[i]? = _
          rw [List.getElem?_map, hi]
          rfl
        have h := (mayT_facts (mayC_task HM.out ha)).2.2.2.2
        have h2 : (cpOf cc).gs.length = gn := by rw [HC.out]; exact GL.out
        rw [h2] at h
        exact h))
    have HO := hide (show ∀ x : Tk, hurB gs dog x.line x.per x.dl = !okT (cpOf cc) (tpOf x) from fun x => by
      have h := hurB_ok (cpOf cc) (tpOf x)
      rw [← h, HC.out]
      rfl)
    have HUE := hide hU
    clear hU
    cases U with
    | true =>
      have NO := hide (show ¬ (mayC (cpOf cc) = true ∧ ∀ i a, (cpOf cc).ts[i]? = some a → (∃ r, RespT (cpOf cc) i a r true) ∧ okT (cpOf cc) a = true) from fun h => by
        obtain ⟨x, hx, hu⟩ := List.any_eq_true.1 HUE.out.symm
        obtain ⟨i, hi⟩ := List.getElem?_of_mem hx
        have ha : (cpOf cc).ts[i]? = some (tpOf x) := by
          rw [HC.out]
          show (ts.map tpOf)[i]? = _
          rw [List.getElem?_map, hi]
          rfl
        have h2 := (h.2 i _ ha).2
        rw [HO.out, h2] at hu
        cases hu)
      go_enter Tryz.func14, Tryz.ntmps14
      go_upto_region 1 with fail
      rw [← HW.out]
      go_wp2_with (first
        | (go_at_call 6; refine MY.out.mono ?_; rintro e w1 ⟨rfl, b1⟩; have B1 := hide b1; clear b1 k0 k1 k2 k3 k4 k5; obtain ⟨k0, k1, k2, k3, k4, k5⟩ := SC.out _ B1.out)
        | (go_at_call 56; refine (HU.out _ B1.out).mono ?_; rintro e w2 ⟨rfl, b2⟩; have B2 := hide (B1.out.trans (b2.mono B1.out.size)); clear b2 k0 k1 k2 k3 k4 k5; obtain ⟨k0, k1, k2, k3, k4, k5⟩ := SC.out _ B2.out))
      exact bodyPost_ret (v := .tuple #[.bool false, .slice none 0 0]) (by simp [results, Tryz.results14, go_sem]) rfl (AdmOk.no NO.out (B0.out.trans (B2.out.mono B0.out.size)))
    | false =>
      have OKA := hide (show ∀ (i : Nat) (a : Tp), (cpOf cc).ts[i]? = some a → okT (cpOf cc) a = true from fun i a ha => by
        rw [HC.out] at ha
        obtain ⟨x, h1, rfl⟩ := Option.map_eq_some_iff.1 (show (ts[i]?).map tpOf = some a from by rw [← List.getElem?_map]; exact ha)
        cases e : okT (cpOf cc) (tpOf x)
        · have h2 := HUE.out
          rw [any_at h1 (by rw [HO.out, e]; rfl)] at h2
          cases h2
        · rfl)
      obtain ⟨i0, hi0, hz0, hz1, hz2⟩ := info_parts int_info19
      have hmk : ∀ X : World, (Instr.makeSlice 25 (.int .i64 (tn : Int)) (.int .i64 (tn : Int))).run Tryz.prog X = .ok (.slice (some ⟨X.heap.size, 0, none⟩) tn tn) (X.alloc (.cells (madeCells #[.int .i64 0] tn) 3)) := fun X => by
        have t12 := TN.out
        have := run_make (P := Tryz.prog) X 25 3 i0 (.int .i64 0) Tryz.underlying25 hi0 hz0 .i64 .i64 (tn : Int) (tn : Int) (by omega) (Int.le_refl _) (by rw [hz2]; omega) (by omega)
        rw [hz1] at this
        simpa [Value.cells] using this
      clear hi0 hz0 hz1 hz2
      go_enter Tryz.func14, Tryz.ntmps14
      go_upto_region 1 with fail
      rw [← HW.out]
      go_upto_region 3 with (first
        | (go_at_call 6; refine MY.out.mono ?_; rintro e w1 ⟨rfl, b1⟩; have B1 := hide b1; clear b1 k0 k1 k2 k3 k4 k5; obtain ⟨k0, k1, k2, k3, k4, k5⟩ := SC.out _ B1.out)
        | (go_at_call 56; refine (HU.out _ B1.out).mono ?_; rintro e w2 ⟨rfl, b2⟩; have B2 := hide (B1.out.trans (b2.mono B1.out.size)); clear b2 k0 k1 k2 k3 k4 k5; obtain ⟨k0, k1, k2, k3, k4, k5⟩ := SC.out _ B2.out))
      obtain ⟨R, hR⟩ : ∃ R, R = w2.heap.size := ⟨_, rfl⟩
      obtain ⟨w3, hw3⟩ : ∃ w3, w3 = w2.alloc (.cells (madeCells #[.int .i64 0] tn) 3) := ⟨_, rfl⟩
      have O3 := hide (show w3.ownsRow W0.heap.size 3 1 (.slice (some ⟨R, 0, none⟩) 0 tn) 0 (([] : List Int).map (Value.int .i64)) from by
        rw [hw3, hR]; exact World.ownsRow_made w2 _ tn B2.out.size (by have := TN.out; unfold maxLen; omega) (by rw [Nat.mul_one]; exact size_madeCells _ _))
      have B3 := hide (show Below W0.heap.size W0 w3 from by rw [hw3]; exact B2.out.alloc B2.out.size _)
      have RW := hide (show W0.heap.size ≤ R from by rw [hR]; exact B2.out.size)
      have HW3 := hide hw3
      have HR3 := hide hR
      clear hw3 hR
      go_upto_region 4 with fail
      rw [← HW3.out, ← HR3.out]
      clear k0 k1 k2 k3 k4 k5
      obtain ⟨k0, k1, k2, k3, k4, k5⟩ := SC.out _ B3.out
      go_wp2_with fail
      clear k0 k1 k2 k3 k4 k5
      go_loopw [25] (fun kv wr => ∃ k : Nat, k ≤ tn ∧ kv = .int .i64 (k : Int) ∧ Hid (∃ rs : List Int, rs.length = k ∧ wr.ownsRow W0.heap.size 3 1 (.slice (some ⟨R, 0, none⟩) k tn) k (rs.map (Value.int .i64)) ∧ (∀ (j : Nat) (a : Tp) (r : Int), (cpOf cc).ts[j]? = some a → rs[j]? = some r → RespT (cpOf cc) j a r true ∧ okT (cpOf cc) a = true) ∧ Below W0.heap.size W0 wr)) (fun kv _ => tn - (intOf kv).toNat)
      case atStart => exact ⟨0, Nat.zero_le _, rfl, [], rfl, O3.out, (fun j a r _ h => by cases h), B3.out⟩
      case round =>
        obtain ⟨k, hk, rfl, hZ⟩ := hrel
        rename World => wr
        obtain ⟨rs, hrl, ho, hall, hb⟩ := hZ.out
        have RL := hide hrl
        have O := hide ho
        have ALL := hide hall
        have B := hide hb
        clear hZ hrl ho hall hb
        obtain ⟨k0, k1, k2, k3, k4, k5⟩ := SC.out wr B.out
        by_cases hlt : k < tn
        · have j0 : (0 : Int) ≤ (k : Int) := by omega
          have j1 : (k : Int) < (tn : Int) := by omega
          have TNN := TN.out
          obtain ⟨y, hy⟩ : ∃ y, ts[k]? = some y := ⟨_, List.getElem?_eq_getElem (by have := TL.out; omega)⟩
          obtain ⟨yt, hyt⟩ : ∃ yt, yt = tpOf y := ⟨_, rfl⟩
          have ha : (cpOf cc).ts[k]? = some yt := by
            rw [HC.out, hyt]
            show (ts.map tpOf)[k]? = _
            rw [List.getElem?_map, hy]
            rfl
          have HA := hide ha
          have NO := hide (show ¬ ((∃ r, RespT (cpOf cc) k yt r true) ∧ okT (cpOf cc) yt = true) → ¬ (mayC (cpOf cc) = true ∧ ∀ i a, (cpOf cc).ts[i]? = some a → (∃ r, RespT (cpOf cc) i a r true) ∧ okT (cpOf cc) a = true) from fun h hh => h (hh.2 k yt HA.out))
          obtain ⟨r, ok, hRT⟩ := RespT.there (cpOf cc) k yt
          have HRT := hide hRT
          have RS := hide (show ∀ Y : World, Below W0.heap.size W0 Y → Calls Tryz.prog 12 #[.agg #[.slice ta tn tc, .slice ea en ec, .slice ma mn mc, .slice ga gn gc, .int .i64 frames, .int .i64 dog], .int .i64 (k : Int)] Y fun e w' => e = .returned (.tuple #[.int .i64 (if ok = true then r else 0), .bool ok]) ∧ Below Y.heap.size Y w' from fun Y b => by
            have h := aresp_any Y cc (CI.out Y b) HG.out (k : Int)
            rw [HC.out] at h
            refine h.mono ?_
            intro e w' hs
            unfold RespOk at hs
            obtain ⟨r', ok', rfl, hrc, hb⟩ := hs
            rw [← HC.out] at hrc
            obtain ⟨r0, h0, h1⟩ := respC_get HM.out HA.out hrc
            obtain ⟨e1, e2⟩ := h0.same HRT.out
            refine ⟨?_, hb⟩
            rw [h1, e1, e2])
          clear hy hyt ha hRT
          cases ok with
          | false =>
            have NN := hide (NO.out (fun h => by
              obtain ⟨⟨r1, h1⟩, _⟩ := h
              exact absurd (HRT.out.same h1).2 (by simp)))
            have RF := hide (show ∀ Y : World, Below W0.heap.size W0 Y → Calls Tryz.prog 12 #[.agg #[.slice ta tn tc, .slice ea en ec, .slice ma mn mc, .slice ga gn gc, .int .i64 frames, .int .i64 dog], .int .i64 (k : Int)] Y fun e w' => e = .returned (.tuple #[.int .i64 0, .bool false]) ∧ Below Y.heap.size Y w' from RS.out)
            clear RS
            go_wp2_with (go_at_call 12; refine (RF.out _ B.out).mono ?_; rintro e w5 ⟨rfl, b5⟩; have B5 := hide (B.out.trans (b5.mono B.out.size)); clear b5)
            exact bodyPost_ret (v := .tuple #[.bool false, .slice none 0 0]) (by simp [results, Tryz.results14, go_sem]) rfl (AdmOk.no NN.out (B0.out.trans (B5.out.mono B0.out.size)))
          | true =>
            have RF := hide (show ∀ Y : World, Below W0.heap.size W0 Y → Calls Tryz.prog 12 #[.agg #[.slice ta tn tc, .slice ea en ec, .slice ma mn mc, .slice ga gn gc, .int .i64 frames, .int .i64 dog], .int .i64 (k : Int)] Y fun e w' => e = .returned (.tuple #[.int .i64 r, .bool true]) ∧ Below Y.heap.size Y w' from RS.out)
            clear RS
            go_wp2_with (go_at_call 12; refine (RF.out _ B.out).mono ?_; rintro e w5 ⟨rfl, b5⟩; have O5 := hide ((Touch.of_below (S := fun _ => False) b5).own O.out (fun _ _ e => e)); have B5 := hide (B.out.trans (b5.mono B.out.size)); clear b5; obtain ⟨cur, g5, s5⟩ := own_row_cellsI O5.out; have G5 := hide g5; obtain ⟨u5, y5⟩ := row_cell g5 (show k < cur.size by omega); have f5 : w5.frozen? ⟨R, k, none⟩ = false := frozen_of_row _ _ _ _ _ g5; clear g5 s5)
            go_roundw
            case rel =>
              refine ⟨k + 1, by omega, by go_num, rs ++ [r], by rw [List.length_append, RL.out]; rfl, own_nextI O5.out cur G5.out hlt (heap_setCell_same _ _ _ _ _ _ G5.out), fun j a r' ha hr => ?_, B5.out.setCell (p := ⟨R, k, none⟩) RW.out _⟩
              by_cases hj : j < k
              · rw [List.getElem?_append_left (by rw [RL.out]; exact hj)] at hr
                exact ALL.out j a r' ha hr
              · have hjl := (List.getElem?_eq_some_iff.1 hr).1
                rw [List.length_append, RL.out] at hjl
                simp only [List.length_cons, List.length_nil] at hjl
                obtain rfl : j = k := by omega
                rw [List.getElem?_append_right (by rw [RL.out]; exact Nat.le_refl _), RL.out, Nat.sub_self] at hr
                injection hr with hr
                subst hr
                rw [HA.out] at ha
                injection ha with ha
                subst ha
                exact ⟨HRT.out, OKA.out _ _ HA.out⟩
            case measure => simp [intOf]; omega
        · obtain rfl : k = tn := by omega
          have FIN := hide (AdmOk.yes (w := w) (w' := wr) (v := .slice (some ⟨R, 0, none⟩) k k) (rs := rs) HM.out (by rw [RL.out, HC.out]; show k = (ts.map tpOf).length; rw [List.length_map]; exact TL.out.symm) ALL.out (by rw [RL.out]; exact own_mono O.out B0.out.size) (B0.out.trans (B.out.mono B0.out.size)))
          clear hk hlt
          go_wp2_with fail
          exact bodyPost_ret (v := .tuple #[.bool true, .slice (some ⟨R, 0, none⟩) k k]) (by simp [results, Tryz.results14, go_sem]) rfl FIN.out
/-- The program's own admit. -/
theorem padmit : PAdmit where
  may := amay_any
  blk := fun w c hc hg task _ => ablk_any w c hc hg task
  parts := fun w c hc hg task _ => aparts_any w c hc hg task
  resp := fun w c hc hg task _ => aresp_any w c hc hg task
  adm := fun w c hc hg => aadm_any w c hc hg
end Go.Proofs.YtcmgkjjkhfcedaaGreat
/-
  The walk of AdmitTells, over the program's own admit.
-/
namespace Go.Proofs.YtcmgkjjkhfcedaaGreat
open Go.ChangeShapes Go.WideShapes Go.ChangeAt Go.RowKit
set_option linter.unusedVariables false
theorem walk_admitTells (w : World) (c : Cf) (hc : CfFit w c) (task : Int) (ht : (Lit.int .i64 task).wf = true) :
    Calls Tryz.prog 3 #[.agg (cfVals c).toArray, .int .i64 task] w fun e w' => e = .returned (.bool true) ∧ Below w.heap.size w w' := walk_admitTellsC padmit w c hc task ht
end Go.Proofs.YtcmgkjjkhfcedaaGreat
/-
  Proved: for every input, coxswain's law coxswainlaw18.AdmitTells returns true and leaves its arguments as they were. No condition.
-/
namespace Go.Proofs.YtcmgkjjkhfcedaaGreat.admitTells
open Go.ChangeShapes Go.WideShapes Go.ChangeAt Go.RowKit
open Go.ChangeMaps (open_string shut_string)
set_option linter.unusedVariables false

set_option maxRecDepth 100000 in
theorem lifted (os : Os) (started : os.Started) (H : Type) (enc : TypeId × Value → H) :
    ReturnsInHanded {} Tryz.checked os 3 .any (Rows.admitTellsSpec.pre6 enc Tryz.prog Tryz.f3 Rows.admitTellsRow.domain false) (Rows.admitTellsSpec.post enc Tryz.prog Tryz.f3 false true false false) := by
  refine returnsInHanded_of_change (C := Tryz.checked) own started (by kernel_rfl) Tryz.func3
    (ChangeSpec.witness6 (enc := enc) (C := Tryz.checked) false ⟨#[], #[.agg #[.slice none 0 0, .slice none 0 0, .slice none 0 0, .slice none 0 0, .int .i64 0, .int .i64 0], .int .i64 0], []⟩ 8 (by kernel_rfl) (by kernel_rfl) (by kernel_rfl) (by kernel_rfl)) ?_
  intro W base args ds gs before hval0 hW hcnd _
  have hval : ∀ (j : Nat) t v, Tryz.f3.params[j]? = some t → args[j]? = some v → Value.okWide Tryz.prog W .any base t v := hval0
  have hW' := hW
  obtain ⟨p, q, hA0, hV, rfl, hfz, hnd⟩ := hW
  have hA : DataW.TrodAll enc Tryz.prog W 0 (fun _ => true) true Tryz.f3.params.toList args.toList ds p := hA0
  rw [Tryz.params3] at hA hval
  obtain ⟨v0, vs0, d0, ds0, p0, q0, hargs, rfl, rfl, h0, r0⟩ := trodAll_cons hA
  obtain ⟨v1, vs1, d1, ds1, p1, q1, rfl, rfl, rfl, h1, r1⟩ := trodAll_cons r0
  obtain ⟨rfl, rfl, rfl⟩ := trodAll_nil r1
  obtain rfl : args = #[v0, v1] := by cases args; simp_all
  obtain ⟨rfl, rfl⟩ := trodVars_none hV
  have k0 := h0
  have lt0 : ∀ x ∈ p0, x.block < W.heap.size := by obtain ⟨m, hm⟩ := k0; exact DataW.trod_lt m _ _ _ hm
  obtain ⟨z0, rfl, w0⟩ := struct_arg Tryz.underlying27 (by kernel_rfl) (hval 0 27 v0 rfl rfl) cf_open h0
  obtain ⟨a1, rfl, rfl, rfl, w1⟩ := open_int Tryz.underlying3 (hval 1 3 v1 rfl rfl) h1
  clear hA0 hval0
  refine (walk_admitTells W z0 w0 a1 w1).mono fun e W' ⟨he, bel⟩ => ?_
  subst he
  exact ⟨_, rfl, _, _, _, [], _, [], hW', trodAll_mk1 (shut_bool Tryz.underlying4 _), (trodAll_cons_mk (Below.trod laidOut (by kernel_rfl) (of_decide_eq_true (by kernel_rfl)) k0 bel lt0) (trodAll_cons_mk (shut_int Tryz.underlying3 w1) trodAll_mk0)), rfl, bel.frame _, fun h => by cases h⟩

theorem over : Rows.admitTellsRow.holds Tryz.pinned (OpenSpec.ofChange Rows.admitTellsSpec) :=
  OpenClaim.holds_of_wide 3 Tryz.f3 rfl rfl rfl rfl rfl rfl rfl ⟨rfl, rfl, rfl, rfl, rfl⟩ rfl rfl rfl rfl rfl (by kernel_rfl) Tryz.func3 (by kernel_rfl)
    (of_decide_eq_true (by kernel_rfl)) (by unfold Func.isWrapper; rw [if_neg (of_decide_eq_false (by kernel_rfl))]; exact ⟨rfl, rfl⟩)
    (fun os started H enc _ => lifted os started H enc)

/-- The statement. -/
theorem proved : Rows.AdmitTellsSaid := over
end Go.Proofs.YtcmgkjjkhfcedaaGreat.admitTells
