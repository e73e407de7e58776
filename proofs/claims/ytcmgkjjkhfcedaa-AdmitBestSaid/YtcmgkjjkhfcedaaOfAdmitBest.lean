/-
  Proved: for every input, coxswain's law coxswainlaw18.AdmitBest returns true and leaves its arguments as they were. No condition.
-/
import Derived.ShutString
import Derived.Test.YtcmgkjjkhfcedaaPk14
/-
  The walk of AdmitLess, over the contracts of the program's admit (written by tools/gen/adless.py).
-/
namespace Go.Proofs.Ytcmgkjjkhfcedaa
open Go.ChangeShapes Go.WideShapes Go.ChangeAt Go.RowKit
set_option linter.unusedVariables false
set_option linter.unusedSimpArgs false
theorem own_slice2 {w : World} {B : Nat} {e : TypeId} {z n : Nat} {v : Value} {xs : List Value} (h : w.ownsRow B e z v n xs) : ∃ a c, v = .slice a n c := by
  rcases h.2 with ⟨rfl, rfl⟩ | ⟨g, cap, cur, rfl, _⟩
  · exact ⟨none, 0, rfl⟩
  · exact ⟨_, _, rfl⟩
theorem task_info : (Try.prog.info? 34).map (fun i => (i.zero, i.size, i.bytes)) = some (some (.agg #[.int .i64 0, .int .i64 0, .int .i64 0, .int .i64 0, .int .i64 0, .int .i64 0, .slice none 0 0, .slice none 0 0]), 8, 96) := by kernel_rfl
theorem map_erase {α β : Type} (f : α → β) : ∀ (l : List α) (k : Nat), (l.eraseIdx k).map f = (l.map f).eraseIdx k
  | [], k => by simp
  | a :: l, 0 => rfl
  | a :: l, k + 1 => by show f a :: (l.eraseIdx k).map f = f a :: (l.map f).eraseIdx k; rw [map_erase f l k]
theorem own_some {w : World} {B : Nat} {e : TypeId} {z n : Nat} {v : Value} {xs : List Value} (h : w.ownsRow B e z v n xs) (hn : 0 < n) : ∃ g c, v = .slice (some ⟨g, 0, none⟩) n c := by
  rcases h.2 with ⟨rfl, rfl⟩ | ⟨g, cap, cur, rfl, _⟩
  · omega
  · exact ⟨g, _, rfl⟩
def oneTk (t : Tk) : Tk := ⟨t.cls, t.lev, t.per, t.dl, 1, t.line, t.ua, t.un, t.uc, t.us, t.qa, t.qn, t.qc, t.qs⟩
theorem map_one : ∀ (l : List Tk) (k : Nat) (t : Tk), l[k]? = some t → (l.set k (oneTk t)).map tpOf = (l.map tpOf).modify k one1
  | [], k, t, h => by cases h
  | a :: l, 0, t, h => by injection h with h; subst h; rfl
  | a :: l, k + 1, t, h => by show tpOf a :: (l.set k (oneTk t)).map tpOf = tpOf a :: (l.map tpOf).modify k one1; rw [map_one l k t (by simpa using h)]
theorem flat_one : ∀ (l : List Tk) (k : Nat) (t : Tk), l[k]? = some t → (l.flatMap tkVals).set (k * 8 + 4) (.int .i64 1) = (l.set k (oneTk t)).flatMap tkVals
  | [], k, t, h => by cases h
  | a :: l, 0, t, h => by injection h with h; subst h; rfl
  | a :: l, k + 1, t, h => by
    rw [List.flatMap_cons, List.set_cons_succ, List.flatMap_cons, ← flat_one l k t (by simpa using h), show (k + 1) * 8 + 4 = (tkVals a).length + (k * 8 + 4) from by rw [tkVals_len]; omega, List.set_append_right _ _ (by omega), Nat.add_sub_cancel_left]
theorem own_set {w : World} {B g n c z p : Nat} {e : TypeId} {xs : List Value} (h : w.ownsRow B e z (.slice (some ⟨g, 0, none⟩) n c) n xs) (u : Value) : (w.setCell ⟨g, p, none⟩ u).ownsRow B e z (.slice (some ⟨g, 0, none⟩) n c) n (xs.set p u) := by
  obtain ⟨h1, h2⟩ := h
  rcases h2 with ⟨e1, _⟩ | ⟨g', cap, cur, e1, e2, e3, e4, e5, e6, e7⟩
  · cases e1
  · injection e1 with e1 _ e8
    injection e1 with e1
    injection e1 with e1
    subst e1 e8
    refine ⟨by simp [h1], .inr ⟨g, c, _, rfl, e2, heap_setCell_same _ _ _ _ _ _ e3, e4, e5, by simp [e6], ?_⟩⟩
    rw [Array.toList_setIfInBounds, List.take_set, e7]
theorem great_sub {c : Cf} {a : Option Addr} {n k : Nat} {ts : List Tk} (h : greatCf c = false) (hn : n ≤ c.tn) (hs : ∀ t ∈ ts, bigTk t = true → c.ts.any bigTk = true) : greatCf ⟨a, n, k, ts, c.ea, c.en, c.ec, c.es, c.ma, c.mn, c.mc, c.ms, c.ga, c.gn, c.gc, c.gs, c.frames, c.dog⟩ = false := by
  unfold greatCf at *
  simp only [Bool.or_eq_false_iff, decide_eq_false_iff_not] at h ⊢
  obtain ⟨⟨⟨⟨⟨h1, h2⟩, h3⟩, h4⟩, h5⟩, h6⟩ := h
  refine ⟨⟨⟨⟨⟨by omega, h2⟩, h3⟩, h4⟩, any_no fun i x hx => ?_⟩, h6⟩
  cases e : bigTk x
  · rfl
  · have := hs x (List.mem_of_getElem? hx) e
    rw [h5] at this; cases this
set_option maxRecDepth 20000 in
set_option maxHeartbeats 8000000 in
theorem walk_admitLessC (C : PAdmit) (w : World) (c : Cf) (hc : CfFit w c) (task : Int) (ht : (Lit.int .i64 task).wf = true) :
    Calls Try.prog 3 #[.agg (cfVals c).toArray, .int .i64 task] w fun e w' => e = .returned (.bool true) ∧ Below w.heap.size w w' := by
  obtain ⟨cc, hcc⟩ : ∃ cc, cc = c := ⟨_, rfl⟩
  have HC := hide hcc
  obtain ⟨ta, tn, tc, ts, ea, en, ec, es, ma, mn, mc, ms, ga, gn, gc, gs, frames, dog⟩ := c
  show Calls Try.prog 3 #[.agg #[.slice ta tn tc, .slice ea en ec, .slice ma mn mc, .slice ga gn gc, .int .i64 frames, .int .i64 dog], .int .i64 task] w _
  have F := hide hc
  obtain ⟨W0, hW⟩ : ∃ W0, W0 = w.alloc (.cells #[.slice ta tn tc, .slice ea en ec, .slice ma mn mc, .slice ga gn gc, .int .i64 frames, .int .i64 dog] 27) := ⟨_, rfl⟩
  have hb := heap_alloc_new w (.cells #[.slice ta tn tc, .slice ea en ec, .slice ma mn mc, .slice ga gn gc, .int .i64 frames, .int .i64 dog] 27)
  have B0 := hide ((Below.refl w.heap.size w).alloc (Nat.le_refl _) (.cells #[.slice ta tn tc, .slice ea en ec, .slice ma mn mc, .slice ga gn gc, .int .i64 frames, .int .i64 dog] 27))
  rw [← hW] at hb B0
  have SC := hide (show ∀ Y : World, Below W0.heap.size W0 Y → Y.cell? ⟨w.heap.size, 0, none⟩ = some (.slice ta tn tc) ∧ Y.cell? ⟨w.heap.size, 1, none⟩ = some (.slice ea en ec) ∧ Y.cell? ⟨w.heap.size, 2, none⟩ = some (.slice ma mn mc) ∧ Y.cell? ⟨w.heap.size, 3, none⟩ = some (.slice ga gn gc) ∧ Y.cell? ⟨w.heap.size, 4, none⟩ = some (.int .i64 frames) ∧ Y.cell? ⟨w.heap.size, 5, none⟩ = some (.int .i64 dog) from fun Y b => by
    have e := (b.block _ (lt_of_heap hb)).trans hb
    refine ⟨?_, ?_, ?_, ?_, ?_, ?_⟩ <;> (rw [cell_of_row _ _ _ _ _ _ e]; rfl))
  obtain ⟨G, hG⟩ : ∃ G, G = greatCf cc := ⟨_, rfl⟩
  obtain ⟨P, hP⟩ : ∃ P, P = mayC (cpOf cc) := ⟨_, rfl⟩
  have GR := hide (show Calls Try.prog 7 #[.agg #[.slice ta tn tc, .slice ea en ec, .slice ma mn mc, .slice ga gn gc, .int .i64 frames, .int .i64 dog]] W0 fun e w' => e = .returned (.bool G) ∧ Below W0.heap.size W0 w' from by
    have := greatCf_any W0 cc (by rw [hcc]; exact hc.below B0.out)
    rw [← hG, hcc] at this
    exact this)
  have MY := hide (show G = false → ∀ Y : World, Below W0.heap.size W0 Y → Calls Try.prog 11 #[.agg #[.slice ta tn tc, .slice ea en ec, .slice ma mn mc, .slice ga gn gc, .int .i64 frames, .int .i64 dog]] Y fun e w' => e = .returned (.bool P) ∧ Below Y.heap.size Y w' from fun hg Y b => by
    have := C.may Y cc (by rw [hcc]; exact (hc.below B0.out).below b) (by rw [← hG]; exact hg)
    rw [← hP, hcc] at this
    exact this)
  have BK := hide (show G = false → ∀ Y : World, Below W0.heap.size W0 Y → ∀ task : Int, (Lit.int .i64 task).wf = true → Calls Try.prog 13 #[.agg #[.slice ta tn tc, .slice ea en ec, .slice ma mn mc, .slice ga gn gc, .int .i64 frames, .int .i64 dog], .int .i64 task] Y fun e w' => e = .returned (.int .i64 (blkC (cpOf cc) task)) ∧ Below Y.heap.size Y w' from fun hg Y b task ht => by
    have := C.blk Y cc (by rw [hcc]; exact (hc.below B0.out).below b) (by rw [← hG]; exact hg) task ht
    rw [hcc] at this ⊢
    exact this)
  have AW := hide (fun (Y : World) => adawake_any C Y)
  have HP := hide hP
  have HW := hide hW
  obtain ⟨k0, k1, k2, k3, k4, k5⟩ := SC.out W0 (Below.refl _ _)
  have CC := hide C
  have GG := hide hG
  clear hc hW hb C hG hP hcc
  clear MY BK HP
  cases G with
  | true =>
    go_enter Try.func3, Try.ntmps3
    go_upto_region 1 with fail
    rw [← HW.out]
    go_wp2_with (first
      | (go_at_call 7; refine GR.out.mono ?_; rintro e w1 ⟨rfl, b1⟩; have B1 := hide b1; clear b1 k0 k1 k2 k3 k4 k5; obtain ⟨k0, k1, k2, k3, k4, k5⟩ := SC.out w1 B1.out)
      | (go_at_call 8; refine (AW.out _).mono ?_; rintro e w3 ⟨rfl, b3⟩; have B3 := hide (B0.out.trans ((B1.out.trans (b3.mono B1.out.size)).mono B0.out.size)); clear b3)
      )
    go_ret
    exact ⟨rfl, B3.out⟩
  | false =>
    by_cases t0 : tn = 0
    · subst t0
      go_enter Try.func3, Try.ntmps3
      go_upto_region 1 with fail
      rw [← HW.out]
      go_wp2_with (first
        | (go_at_call 7; refine GR.out.mono ?_; rintro e w1 ⟨rfl, b1⟩; have B1 := hide b1; clear b1 k0 k1 k2 k3 k4 k5; obtain ⟨k0, k1, k2, k3, k4, k5⟩ := SC.out w1 B1.out)
        | (go_at_call 8; refine (AW.out _).mono ?_; rintro e w3 ⟨rfl, b3⟩; have B3 := hide (B0.out.trans ((B1.out.trans (b3.mono B1.out.size)).mono B0.out.size)); clear b3)
        )
      go_ret
      exact ⟨rfl, B3.out⟩
    have t1 : ¬ (tn : Int) = 0 := by omega
    have RT := hide F.out.tasks.reads
    have TL := hide (show ts.length = tn from RT.out.1)
    have tn12 : tn ≤ 12 := by
      have h := GG.out
      rw [HC.out] at h
      unfold greatCf at h
      have h2 := h.symm
      simp only [Bool.or_eq_false_iff, decide_eq_false_iff_not] at h2
      have h3 := h2.1.1.1.1.1
      omega
    have GC := hide (show greatCf cc = false from GG.out.symm)
    clear GG
    have AD := hide (show ∀ Y : World, Below W0.heap.size W0 Y → Calls Try.prog 9 #[.agg #[.slice ta tn tc, .slice ea en ec, .slice ma mn mc, .slice ga gn gc, .int .i64 frames, .int .i64 dog]] Y fun e w' => ∃ v ok rs, e = .returned (.tuple #[.bool ok, v]) ∧ AdmT (cpOf cc) ok rs ∧ w'.ownsRow Y.heap.size 3 1 v rs.length (rs.map (Value.int .i64)) ∧ Below Y.heap.size Y w' from fun Y b => by
      have h := CC.out.adm Y cc (by rw [HC.out]; exact (F.out.below B0.out).below b) GC.out
      rw [HC.out] at h ⊢
      exact h)
    go_enter Try.func3, Try.ntmps3
    go_upto_region 1 with fail
    rw [← HW.out]
    go_upto_region 4 with (first
      | (go_at_call 7; refine GR.out.mono ?_; rintro e w1 ⟨rfl, b1⟩; have B1 := hide b1; clear b1 k0 k1 k2 k3 k4 k5; obtain ⟨k0, k1, k2, k3, k4, k5⟩ := SC.out w1 B1.out)
      | (go_at_call 9; refine (AD.out _ B1.out).mono ?_; rintro e w2 ⟨v, ok, rs, rfl, hA, hO, hb⟩; have ADM := hide hA; have OW := hide hO; have B2 := hide (B1.out.trans (hb.mono B1.out.size)); clear hA hO hb k0 k1 k2 k3 k4 k5; obtain ⟨k0, k1, k2, k3, k4, k5⟩ := SC.out w2 B2.out))
    clear t1
    cases ok with
    | false =>
      have hrs : rs = [] := by
        rcases ADM.out with ⟨e, _⟩ | ⟨_, e, _⟩
        · cases e
        · exact e
      subst hrs
      obtain ⟨A, c0, rfl, _, _⟩ := own_ints OW.out
      go_wp2_with (first
        | (go_at_call 8; refine (AW.out _).mono ?_; rintro e w3 ⟨rfl, b3⟩; have B3 := hide (B0.out.trans ((B2.out.trans (b3.mono B2.out.size)).mono B0.out.size)); clear b3))
      go_ret
      exact ⟨rfl, B3.out⟩
    | true =>
      have hl : rs.length = tn := by
        rcases ADM.out with ⟨_, _, e, _⟩ | ⟨e, _⟩
        · rw [e, HC.out]; show (ts.map tpOf).length = tn; rw [List.length_map]; exact TL.out
        · cases e
      have HM := hide (show mayC (cpOf cc) = true from by
        rcases ADM.out with ⟨_, e, _⟩ | ⟨e, _⟩
        · exact e
        · cases e)
      have OW := hide (show w2.ownsRow w1.heap.size 3 1 v tn (rs.map (Value.int .i64)) from by rw [← hl]; exact OW.out)
      have HL := hide hl
      obtain ⟨A, c0, rfl, hI, _⟩ := own_ints OW.out
      have II := hide hI
      clear hl hI
      have ADT := hide (show AdmT (cpOf cc) true rs from ADM.out)
      have BTW := hide (show ∀ (i : Nat) (t : Tk) (r : Int), ts[i]? = some t → rs[i]? = some r → t.bud ≤ r ∧ r ≤ t.dl from fun i t r h1 h2 => by
        have h3 : (cpOf cc).ts[i]? = some (tpOf t) := by rw [HC.out]; show (ts.map tpOf)[i]? = _; rw [List.getElem?_map, h1]; rfl
        obtain ⟨r', e, h4, _⟩ := ADT.out.at_ h3
        rw [h2] at e
        injection e with e
        subst e
        exact h4.between HM.out h3)
      clear ADM
      go_wp2_with fail
      clear k1 k2 k3 k4 k5
      go_loopw [7] (fun iv wr => ∃ i : Nat, i ≤ tn ∧ iv = .int .i64 (i : Int) ∧ Hid (Below w2.heap.size w2 wr)) (fun iv _ => tn - (intOf iv).toNat)
      case atStart => exact ⟨0, Nat.zero_le _, rfl, Below.refl _ _⟩
      case round =>
        obtain ⟨i, hi, rfl, hZ⟩ := hrel
        have B3 := hide hZ
        have B32 := hide (B2.out.trans (hZ.out.mono B2.out.size))
        clear hZ k0
        obtain ⟨k0, k1, k2, k3, k4, k5⟩ := SC.out wr B32.out
        by_cases hlt : i < tn
        · have i0 : (0 : Int) ≤ (i : Int) := by omega
          have i1 : (i : Int) < (tn : Int) := by omega
          obtain ⟨t, bt, ot, ht, rfl, hct⟩ := RT.out.at_ hlt
          obtain ⟨r, hr⟩ : ∃ r, rs[i]? = some r := ⟨_, List.getElem?_eq_getElem (by have := HL.out; omega)⟩
          obtain ⟨f1, f2⟩ := BTW.out i t r ht hr
          obtain ⟨gb, go, rfl, hcr⟩ := II.out.2 (by omega)
          have cr : wr.cell? ⟨gb, go + i, none⟩ = some (.int .i64 r) := by
            have h := hcr i (by omega)
            rw [List.getD_eq_getElem?_getD, hr] at h
            exact (B3.out.cell (lt_of_cell? h)).trans h
          have BWr := B0.out.trans (B32.out.mono B0.out.size)
          have cd : wr.cell? ⟨bt, ot + i * 8 + 3, none⟩ = some (.int .i64 t.dl) := (BWr.cell (lt_of_cell? (hct 3 _ rfl))).trans (hct 3 _ rfl)
          have cb : wr.cell? ⟨bt, ot + i * 8 + 4, none⟩ = some (.int .i64 t.bud) := (BWr.cell (lt_of_cell? (hct 4 _ rfl))).trans (hct 4 _ rfl)
          generalize t.dl = tdl at *
          generalize t.bud = tbud at *
          have g1 : (tdl < r) = False := eq_false (by omega)
          have g2 : (r < tbud) = False := eq_false (by omega)
          clear ht hr hcr hct f1 f2 BWr k1 k2 k3 k4 k5
          go_upto_region 11 with fail
          go_region_held3 (fun W => W.cell? ⟨w.heap.size, 0, none⟩ = some (.slice (some ⟨bt, ot, none⟩) tn tc) ∧ W.cell? ⟨gb, go + i, none⟩ = some (.int .i64 r) ∧ W.cell? ⟨bt, ot + i * 8 + 3, none⟩ = some (.int .i64 tdl) ∧ W.cell? ⟨bt, ot + i * 8 + 4, none⟩ = some (.int .i64 tbud)) (exact ⟨k0, cr, cd, cb⟩) (fail)
          go_wp2_with fail
          go_roundw
          case rel => exact ⟨i + 1, by omega, by go_num, below_drewN B3.out 1⟩
          case measure => simp [intOf]; omega
        · obtain rfl : tn = i := by omega
          have BWW := hide (show Below w2.heap.size w2 wr from B3.out)
          have B3 := hide B32.out
          obtain ⟨k, hk, l1⟩ := low_det task tn (by omega) (by omega)
          have LW := hide l1
          have HK := hide hk
          obtain ⟨bt, ot, rfl⟩ : ∃ bt ot, ta = some ⟨bt, ot, none⟩ := by
            obtain ⟨_, b, off, _, e, _⟩ := RT.out.at_ hk
            exact ⟨b, off, e⟩
          obtain ⟨K1, hK1⟩ : ∃ K1, K1 = k + 1 := ⟨_, rfl⟩
          have wK : IntKind.i64.wrap ((k : Int) + 1) = (K1 : Int) := by rw [hK1]; exact (IntWalk.i64_in _ (by omega)).trans (by omega)
          have q0 : (0 : Int) ≤ (k : Int) := by omega
          have tnc : tn ≤ tc := F.out.tasks.2.1
          have tcm : tc ≤ maxLen := F.out.tasks.2.2.1
          have q1 : (k : Int) ≤ (tc : Int) := by omega
          have q2 : (0 : Int) ≤ (K1 : Int) := by omega
          have q3 : (K1 : Int) ≤ (tn : Int) := by omega
          have q4 : (K1 : Int) ≤ (tc : Int) := by omega
          have HK1 := hide hK1
          have TC := hide tnc
          clear l1 hk hK1 k1 k2 k3 k4 k5 tnc
          obtain ⟨k0, k1, k2, k3, k4, k5⟩ := SC.out wr B3.out
          obtain ⟨XD, hXD⟩ : ∃ XD, XD = wr.heap.size := ⟨_, rfl⟩
          obtain ⟨w4, hw4⟩ : ∃ w4, w4 = wr.alloc (.cells #[.slice (some ⟨bt, ot, none⟩) tn tc, .slice ea en ec, .slice ma mn mc, .slice ga gn gc, .int .i64 frames, .int .i64 dog] 27) := ⟨_, rfl⟩
          have D4 := hide (show w4.heap[XD]? = some (.cells #[.slice (some ⟨bt, ot, none⟩) tn tc, .slice ea en ec, .slice ma mn mc, .slice ga gn gc, .int .i64 frames, .int .i64 dog] 27 (0, 0)) from by rw [hw4, hXD]; exact heap_alloc_new wr _)
          have B4 := hide (show Below W0.heap.size W0 w4 from by rw [hw4]; exact B3.out.alloc B3.out.size _)
          have HXD := hide hXD
          have HW4 := hide hw4
          clear hXD hw4
          go_upto_region 15 with (go_at_call 10; refine (LW.out _).mono ?_; rintro e w' ⟨rfl, rfl⟩)
          rw [← HW4.out, ← HXD.out]
          clear k0 k1 k2 k3 k4 k5
          rename_i Q9 K9 a9
          have D1 := hide (show Below w4.heap.size w4 w4.drew from below_drewN (Below.refl _ w4) 1)
          obtain ⟨i0, hi0, hz0, hz1, hz2⟩ := info_parts task_info
          have I0 := hide (show Try.prog.info? 34 = some i0 ∧ i0.zero = some _ ∧ i0.size = 8 ∧ i0.bytes = 96 from ⟨hi0, hz0, hz1, hz2⟩)
          have T12 := hide tn12
          have RK := hide (show Reads 8 tkVals w4.drew (some ⟨bt, ot, none⟩) k (ts.take k) from ((RT.out.below (B0.out.trans (B4.out.mono B0.out.size))).below D1.out).front (by have := HK.out; omega))
          have RD := hide (show ∀ Y : World, Below w4.heap.size w4 Y → ∀ ad : Option Addr, (ad = some ⟨bt, ot + K1 * 8, none⟩ ∨ tc = K1) → Reads 8 tkVals Y ad (tn - K1) (ts.drop K1) from fun Y b ad h => by
            have h1 := HK.out
            have h2 := HK1.out
            have h3 := TL.out
            have h4 := TC.out
            have hR := (RT.out.below (B0.out.trans (B4.out.mono B0.out.size))).below b
            rcases h with rfl | h
            · have := hR.part K1 (tn - K1) (by omega)
              rw [List.take_of_length_le (by rw [List.length_drop]; omega)] at this
              exact this
            · have e : tn - K1 = 0 := by omega
              rw [e, List.drop_eq_nil_of_le (by omega)]
              exact reads_nil)
          clear hi0 hz0 hz1 hz2
          have SF := hide (show ∀ Y : World, Below w4.heap.size w4 Y → Y.cell? ⟨w.heap.size, 0, none⟩ = some (.slice (some ⟨bt, ot, none⟩) tn tc) from fun Y b => (SC.out Y (B4.out.trans (b.mono B4.out.size))).1)
          
          refine wp_region_noPanic ?_
          refine wp_region_held_drew (S := (fun W => W.cell? ⟨w.heap.size, 0, none⟩ = some (.slice (some ⟨bt, ot, none⟩) tn tc))) (by kernel_rfl) (SF.out _ D1.out) (fun hHeld => ?_)
          refine wpAnyH_take (i := 0) (v := ?_) rfl (by kernel_rfl) (by kernel_rfl) (by kernel_rfl) (fun _ _ _ h => h) (Or.inl ⟨by kernel_rfl, ?_⟩) (by assumption) ?_
          rotate_left
          · intro w hSw
            (try dsimp only at hSw)
            go_simp
            try with_reducible rfl
          try simp only [Act.put, List.getElem_toArray, List.getElem_cons_zero, List.getElem_cons_succ, List.setIfInBounds_toArray, List.set_cons_zero, List.set_cons_succ]
          refine wpAnyH_take (i := 1) (v := ?_) rfl (by kernel_rfl) (by kernel_rfl) (by kernel_rfl) (fun _ _ _ h => h) (Or.inl ⟨by kernel_rfl, ?_⟩) (by assumption) ?_
          rotate_left
          · intro w hSw
            (try dsimp only at hSw)
            go_simp
            try with_reducible rfl
          try simp only [Act.put, List.getElem_toArray, List.getElem_cons_zero, List.getElem_cons_succ, List.setIfInBounds_toArray, List.set_cons_zero, List.set_cons_succ]
          refine wpAnyH_take (i := 2) (v := ?_) rfl (by kernel_rfl) (by kernel_rfl) (by kernel_rfl) (fun _ _ _ h => h) (Or.inl ⟨by kernel_rfl, ?_⟩) (by assumption) ?_
          rotate_left
          · intro w hSw
            (try dsimp only at hSw)
            go_simp
            try with_reducible rfl
          try simp only [Act.put, List.getElem_toArray, List.getElem_cons_zero, List.getElem_cons_succ, List.setIfInBounds_toArray, List.set_cons_zero, List.set_cons_succ]
          refine wpAnyH_take (i := 3) (v := ?_) rfl (by kernel_rfl) (by kernel_rfl) (by kernel_rfl) (fun _ _ _ h => h) (Or.inl ⟨by kernel_rfl, ?_⟩) (by assumption) ?_
          rotate_left
          · intro w hSw
            (try dsimp only at hSw)
            go_simp
            try with_reducible rfl
          try simp only [Act.put, List.getElem_toArray, List.getElem_cons_zero, List.getElem_cons_succ, List.setIfInBounds_toArray, List.set_cons_zero, List.set_cons_succ]
          refine wpAnyH_take (i := 5) (v := ?_) rfl (by kernel_rfl) (by kernel_rfl) (by kernel_rfl) (fun _ _ _ h => h) (Or.inl ⟨by kernel_rfl, ?_⟩) (by assumption) ?_
          rotate_left
          · intro w hSw
            (try dsimp only at hSw)
            go_simp
            try with_reducible rfl
          try simp only [Act.put, List.getElem_toArray, List.getElem_cons_zero, List.getElem_cons_succ, List.setIfInBounds_toArray, List.set_cons_zero, List.set_cons_succ]
          refine wpAnyH_take (i := 6) (v := ?_) rfl (by kernel_rfl) (by kernel_rfl) (by kernel_rfl) (fun _ _ _ h => h) (Or.inl ⟨by kernel_rfl, ?_⟩) (by assumption) ?_
          rotate_left
          · intro w hSw
            (try dsimp only at hSw)
            go_simp
            try with_reducible rfl
          try simp only [Act.put, List.getElem_toArray, List.getElem_cons_zero, List.getElem_cons_succ, List.setIfInBounds_toArray, List.set_cons_zero, List.set_cons_succ]
          refine wpAnyH_take (i := 7) (v := ?_) rfl (by kernel_rfl) (by kernel_rfl) (by kernel_rfl) (fun _ _ _ h => h) (Or.inl ⟨by kernel_rfl, ?_⟩) (by assumption) ?_
          rotate_left
          · intro w hSw
            (try dsimp only at hSw)
            go_simp
            try with_reducible rfl
          try simp only [Act.put, List.getElem_toArray, List.getElem_cons_zero, List.getElem_cons_succ, List.setIfInBounds_toArray, List.set_cons_zero, List.set_cons_succ]
          refine wpAnyH_take (i := 8) (v := ?_) rfl (by kernel_rfl) (by kernel_rfl) (by kernel_rfl) (fun _ _ _ h => h) (Or.inl ⟨by kernel_rfl, ?_⟩) (by assumption) ?_
          rotate_left
          · intro w hSw
            (try dsimp only at hSw)
            go_simp
            try with_reducible rfl
          try simp only [Act.put, List.getElem_toArray, List.getElem_cons_zero, List.getElem_cons_succ, List.setIfInBounds_toArray, List.set_cons_zero, List.set_cons_succ]
          refine wpAnyH_take (i := 9) (v := ?_) rfl (by kernel_rfl) (by kernel_rfl) (by kernel_rfl) (fun _ _ _ h => h) (Or.inl ⟨by kernel_rfl, ?_⟩) (by assumption) ?_
          rotate_left
          · intro w hSw
            (try dsimp only at hSw)
            go_simp
            try with_reducible rfl
          try simp only [Act.put, List.getElem_toArray, List.getElem_cons_zero, List.getElem_cons_succ, List.setIfInBounds_toArray, List.set_cons_zero, List.set_cons_succ]
          clear wK
          refine wpAnyH_ready (rs := [4]) (by kernel_rfl) (by simp) ?_
          refine AllReadyH.cons rfl (fun K hK => ?_) AllReadyH.nil
          refine step_append_reads rfl (.const (.slice none 0 0)) (.tmp 83) _ rfl w4.heap.size 34 i0 _ 96 Try.underlying22 I0.out.1 I0.out.2.1 I0.out.2.2.1 I0.out.2.2.2 rfl (by omega) _ 0 [] rfl (World.ownsRow_nil _ _ _ _) _ k _ (ts.take k) rfl tkVals_len tkVals_cell RK.out (by first | (intro h; cases h) | (split <;> (intro h; cases h))) (by have := T12.out; have := HK.out; have := HK1.out; unfold maxLen; omega) (by have := T12.out; have := HK.out; have := HK1.out; omega) D1.out.size ?_
          intro v5 w5 o5 g5
          rw [Nat.zero_add, List.nil_append] at o5
          have O5 := hide o5
          have B5 := hide (show Below w4.heap.size w4 w5 from D1.out.grown g5 D1.out.size (fun k hk => by cases hk))
          obtain ⟨A5, c5, rfl⟩ := own_slice2 o5
          clear o5 g5
          refine hK _ _ (SF.out _ B5.out) (fun hHeld => ?_)
          clear hK K
          try simp only [Act.put, List.getElem_toArray, List.getElem_cons_zero, List.getElem_cons_succ, List.setIfInBounds_toArray, List.set_cons_zero, List.set_cons_succ]
          refine wpAnyH_ready (rs := [10]) (by kernel_rfl) (by simp) ?_
          refine AllReadyH.cons rfl (fun K hK => ?_) AllReadyH.nil
          refine step_append_reads rfl (.tmp 84) (.tmp 89) _ rfl w4.heap.size 34 i0 _ 96 Try.underlying22 I0.out.1 I0.out.2.1 I0.out.2.2.1 I0.out.2.2.2 rfl (by omega) _ k ((ts.take k).flatMap tkVals) rfl O5.out _ (tn - K1) _ (ts.drop K1) rfl tkVals_len tkVals_cell (RD.out _ B5.out _ (by first | exact .inl rfl | (split; exact .inr (by assumption); exact .inl rfl))) (by first | (intro h; cases h) | (split <;> (intro h; cases h))) (by have := T12.out; have := HK.out; have := HK1.out; unfold maxLen; omega) (by have := T12.out; have := HK.out; have := HK1.out; omega) B5.out.size ?_
          intro v6 w6 o6 g6
          have B6 := hide (show Below w4.heap.size w4 w6 from B5.out.grown g6 B5.out.size (fun j hj => (O5.out.lt j hj).1))
          obtain ⟨n6, hn6⟩ : ∃ n6, n6 = k + (tn - K1) := ⟨_, rfl⟩
          have O6 := hide (show w6.ownsRow w4.heap.size 34 8 v6 n6 ((ts.eraseIdx k).flatMap tkVals) from by
            rw [List.eraseIdx_eq_take_drop_succ, List.flatMap_append, ← HK1.out, hn6]; exact o6)
          have N6 := hide (show n6 + 1 = tn from by have := HK.out; have := HK1.out; omega)
          obtain ⟨A6, c6, rfl, h6⟩ := came_own (fits := TkFit) tkVals_len (by omega) O6.out (fun x hx => ((F.out.tasks.2.2.2.2.1 x ((List.eraseIdx_sublist _ _).subset hx)).below (B0.out.trans (B4.out.mono B0.out.size))).below B6.out)
          have H6 := hide h6
          rw [← hn6] at *
          have D6 := hide ((B6.out.block XD (lt_of_heap D4.out)).trans D4.out)
          clear o6 g6 h6 hn6
          have x0 : w6.cell? ⟨XD, 0, none⟩ = some (.slice (some ⟨bt, ot, none⟩) tn tc) := by rw [cell_of_row _ _ _ _ _ _ D6.out]; rfl
          have f0 : w6.frozen? ⟨XD, 0, none⟩ = false := frozen_of_row _ _ _ _ _ D6.out
          refine hK _ _ (SF.out _ B6.out) (fun hHeld => ?_)
          clear hK K
          try simp only [Act.put, List.getElem_toArray, List.getElem_cons_zero, List.getElem_cons_succ, List.setIfInBounds_toArray, List.set_cons_zero, List.set_cons_succ]
          refine wpAnyH_take (i := 11) (v := ?_) rfl (by kernel_rfl) (by kernel_rfl) (by kernel_rfl) (fun _ _ _ h => h) (Or.inl ⟨by kernel_rfl, ?_⟩) (by assumption) ?_
          rotate_left
          · intro w hSw
            (try dsimp only at hSw)
            go_simp
            try with_reducible rfl
          try simp only [Act.put, List.getElem_toArray, List.getElem_cons_zero, List.getElem_cons_succ, List.setIfInBounds_toArray, List.set_cons_zero, List.set_cons_succ]
          refine wpAnyH_ready (rs := [12]) (by kernel_rfl) (by simp) ?_
          refine AllReadyH.cons rfl (fun K hK => ?_) AllReadyH.nil
          go_simp
          have NXD : w.heap.size < XD := by
            have h1 := B3.out.size
            have h2 := HW.out
            rw [HXD.out]
            have h3 : W0.heap.size = w.heap.size + 1 := by rw [h2]; simp
            omega
          refine hK _ _ (by rw [World.cell?_setCell_far _ _ _ _ (show XD ≠ w.heap.size from by omega)]; exact SF.out _ B6.out) (fun hHeld => ?_)
          clear hK K
          try simp only [Act.put, List.getElem_toArray, List.getElem_cons_zero, List.getElem_cons_succ, List.setIfInBounds_toArray, List.set_cons_zero, List.set_cons_succ]
          refine wpAnyH_done (by kernel_rfl) ?_ _
          go_simp
          refine NoPanic.normal ?_
          refine a9 _ _ ?_
          clear hHeld x0 f0 SF RK RD D1
          obtain ⟨w7, hw7⟩ : ∃ w7, w7 = w6.setCell ⟨XD, 0, none⟩ (.slice A6 n6 c6) := ⟨_, rfl⟩
          rw [← hw7]
          have BX := hide (show Below wr.heap.size wr w7 from by
            rw [hw7]
            refine ((show Below wr.heap.size wr w6 from ?_).setCell (p := ⟨XD, 0, none⟩) (by rw [HXD.out]; exact Nat.le_refl _) _)
            have h : Below wr.heap.size wr w4 := by rw [HW4.out]; exact (Below.refl _ wr).alloc (Nat.le_refl _) _
            exact h.trans (B6.out.mono h.size))
          have B7 := hide (B3.out.trans (BX.out.mono B3.out.size))
          have D7 := hide (show w7.heap[XD]? = some (.cells #[.slice A6 n6 c6, .slice ea en ec, .slice ma mn mc, .slice ga gn gc, .int .i64 frames, .int .i64 dog] 27 (0, 0)) from by rw [hw7]; exact heap_setCell_same _ _ _ _ _ _ D6.out)
          have F7 := hide (show CfFit w7 ⟨A6, n6, c6, ts.eraseIdx k, ea, en, ec, es, ma, mn, mc, ms, ga, gn, gc, gs, frames, dog⟩ from by
            have hF := (F.out.below B0.out).below B7.out
            refine ⟨?_, hF.best, hF.mutexes, hF.gaps, hF.frames, hF.dog⟩
            have hO : w7.ownsRow w4.heap.size 34 8 (.slice A6 n6 c6) n6 ((ts.eraseIdx k).flatMap tkVals) := by
              rw [hw7]
              exact ((Touch.refl (fun i => i = XD) w6).setCell (p := ⟨XD, 0, none⟩) rfl _).own O6.out (fun g hg e => by have := (O6.out.lt g hg).1; have := lt_of_heap D4.out; omega)
            obtain ⟨a', c', e, h7⟩ := came_own (fits := TkFit) tkVals_len (by omega) hO (fun x hx => ((F.out.tasks.2.2.2.2.1 x ((List.eraseIdx_sublist _ _).subset hx)).below B0.out).below B7.out)
            injection e with e1 e2 e3
            subst e1 e3
            exact h7)
          have A7 := hide (show Calls Try.prog 9 #[.agg #[.slice A6 n6 c6, .slice ea en ec, .slice ma mn mc, .slice ga gn gc, .int .i64 frames, .int .i64 dog]] w7 fun e w' => ∃ v, e = .returned (.tuple #[.bool true, v]) ∧ Below w7.heap.size w7 w' from by
            have h := CC.out.adm w7 ⟨A6, n6, c6, ts.eraseIdx k, ea, en, ec, es, ma, mn, mc, ms, ga, gn, gc, gs, frames, dog⟩ F7.out (by
              have := great_sub (a := A6) (n := n6) (k := c6) (ts := ts.eraseIdx k) GC.out (by rw [HC.out]; show n6 ≤ tn; have := N6.out; omega) (fun t ht hb => by rw [HC.out]; exact List.any_eq_true.2 ⟨t, (List.eraseIdx_sublist _ _).subset ht, hb⟩)
              rw [HC.out] at this
              exact this)
            refine h.mono ?_
            rintro e w' ⟨v, ok, ss, rfl, hA, _, hb⟩
            have e : cpOf ⟨A6, n6, c6, ts.eraseIdx k, ea, en, ec, es, ma, mn, mc, ms, ga, gn, gc, gs, frames, dog⟩ = dropC (cpOf cc) k := by
              rw [HC.out]; unfold cpOf dropC; dsimp only; rw [map_erase]
            rw [e] at hA
            rw [admit_drop ADT.out k hA]
            exact ⟨v, rfl, hb⟩)
          clear hw7
          obtain ⟨k0, k1, k2, k3, k4, k5⟩ := SC.out w7 B7.out
          have z0 : w7.cell? ⟨XD, 0, none⟩ = some (.slice A6 n6 c6) := by rw [cell_of_row _ _ _ _ _ _ D7.out]; rfl
          have z1 : w7.cell? ⟨XD, 1, none⟩ = some (.slice ea en ec) := by rw [cell_of_row _ _ _ _ _ _ D7.out]; rfl
          have z2 : w7.cell? ⟨XD, 2, none⟩ = some (.slice ma mn mc) := by rw [cell_of_row _ _ _ _ _ _ D7.out]; rfl
          have z3 : w7.cell? ⟨XD, 3, none⟩ = some (.slice ga gn gc) := by rw [cell_of_row _ _ _ _ _ _ D7.out]; rfl
          have z4 : w7.cell? ⟨XD, 4, none⟩ = some (.int .i64 frames) := by rw [cell_of_row _ _ _ _ _ _ D7.out]; rfl
          have z5 : w7.cell? ⟨XD, 5, none⟩ = some (.int .i64 dog) := by rw [cell_of_row _ _ _ _ _ _ D7.out]; rfl
          go_upto_region 17 with (go_at_call 9; refine A7.out.mono ?_; rintro e w8 ⟨v8, rfl, b8⟩; have B8 := hide (B7.out.trans (b8.mono B7.out.size)); have B78 := hide b8; clear b8)
          clear z0 z1 z2 z3 z4 z5 k0 k1 k2 k3 k4 k5
          obtain ⟨XE, hXE⟩ : ∃ XE, XE = w8.heap.size := ⟨_, rfl⟩
          obtain ⟨w9, hw9⟩ : ∃ w9, w9 = w8.alloc (.cells #[.slice (some ⟨bt, ot, none⟩) tn tc, .slice ea en ec, .slice ma mn mc, .slice ga gn gc, .int .i64 frames, .int .i64 dog] 27) := ⟨_, rfl⟩
          have E9 := hide (show w9.heap[XE]? = some (.cells #[.slice (some ⟨bt, ot, none⟩) tn tc, .slice ea en ec, .slice ma mn mc, .slice ga gn gc, .int .i64 frames, .int .i64 dog] 27 (0, 0)) from by rw [hw9, hXE]; exact heap_alloc_new w8 _)
          have B9 := hide (show Below W0.heap.size W0 w9 from by rw [hw9]; exact B8.out.alloc B8.out.size _)
          have B89 := hide (show Below w8.heap.size w8 w9 from by rw [hw9]; exact (Below.refl _ w8).alloc (Nat.le_refl _) _)
          have HXE := hide hXE
          have HW9 := hide hw9
          clear hXE hw9
          obtain ⟨k0, k1, k2, k3, k4, k5⟩ := SC.out w8 B8.out
          go_upto_region 18 with fail
          rw [← HW9.out, ← HXE.out]
          clear k0 k1 k2 k3 k4 k5
          obtain ⟨k0, k1, k2, k3, k4, k5⟩ := SC.out w9 B9.out
          have RE := hide (show Reads 8 tkVals w9 (some ⟨bt, ot, none⟩) tn ts from RT.out.below (B0.out.trans (B9.out.mono B0.out.size)))
          go_upto_region 19 with (first
            | (at_builtin; refine wpList_append_reads rfl (.const (.slice none 0 0)) (.tmp 99) _ rfl w9.heap.size 34 i0 _ 96 Try.underlying22 I0.out.1 I0.out.2.1 I0.out.2.2.1 I0.out.2.2.2 rfl (by omega) _ 0 [] rfl (World.ownsRow_nil _ _ _ _) (some ⟨bt, ot, none⟩) tn tc ts rfl tkVals_len tkVals_cell RE.out (fun h => by cases h) (by have := T12.out; unfold maxLen; omega) (by have := T12.out; omega) (Nat.le_refl _) ?_; intro v10 w10 o10 g10; rw [Nat.zero_add, List.nil_append] at o10; have O10 := hide o10; have B10 := hide (show Below w9.heap.size w9 w10 from (Below.refl _ w9).grown g10 (Nat.le_refl _) (fun j hj => by cases hj)); obtain ⟨g, c10, rfl⟩ := own_some o10 (by have := HK.out; omega); clear o10 g10; have D10 := hide ((B10.out.block XE (lt_of_heap E9.out)).trans E9.out); have x0 : w10.cell? ⟨XE, 0, none⟩ = some (.slice (some ⟨bt, ot, none⟩) tn tc) := (by rw [cell_of_row _ _ _ _ _ _ D10.out]; rfl); have f0 : w10.frozen? ⟨XE, 0, none⟩ = false := frozen_of_row _ _ _ _ _ D10.out))
          clear k0 k1 k2 k3 k4 k5 x0 f0
          obtain ⟨w11, hw11⟩ : ∃ w11, w11 = w10.setCell ⟨XE, 0, none⟩ (.slice (some ⟨g, 0, none⟩) tn c10) := ⟨_, rfl⟩
          rw [← hw11]
          have GE := hide (show w9.heap.size ≤ g from (O10.out.lt g rfl).1)
          have XE9 := hide (show XE < w9.heap.size from lt_of_heap E9.out)
          have O11 := hide (show w11.ownsRow w9.heap.size 34 8 (.slice (some ⟨g, 0, none⟩) tn c10) tn (ts.flatMap tkVals) from by
            rw [hw11]
            exact ((Touch.refl (fun i => i = XE) w10).setCell (p := ⟨XE, 0, none⟩) rfl _).own O10.out (fun g' hg e => by have := (O10.out.lt g' hg).1; have := XE9.out; omega))
          have D11 := hide (show w11.heap[XE]? = some (.cells #[.slice (some ⟨g, 0, none⟩) tn c10, .slice ea en ec, .slice ma mn mc, .slice ga gn gc, .int .i64 frames, .int .i64 dog] 27 (0, 0)) from by rw [hw11]; exact heap_setCell_same _ _ _ _ _ _ D10.out)
          have B11 := hide (show Below w8.heap.size w8 w11 from by
            rw [hw11]
            exact (B89.out.trans (B10.out.mono B89.out.size)).setCell (p := ⟨XE, 0, none⟩) (by rw [HXE.out]; exact Nat.le_refl _) _)
          clear hw11
          obtain ⟨t, ht⟩ : ∃ t, ts[k]? = some t := ⟨_, List.getElem?_eq_getElem (by have := HK.out; have := TL.out; omega)⟩
          have HT := hide ht
          have q5 : (k : Int) < (tn : Int) := by have := HK.out; omega
          have e0 : w11.cell? ⟨XE, 0, none⟩ = some (.slice (some ⟨g, 0, none⟩) tn c10) := by rw [cell_of_row _ _ _ _ _ _ D11.out]; rfl
          have e1 : w11.cell? ⟨g, k * 8 + 4, none⟩ = some (.int .i64 t.bud) := by
            rw [O11.out.cellAt (k * 8 + 4) (by have := HK.out; omega)]
            exact flat_at tkVals_len ht (by omega)
          have e2 : w11.frozen? ⟨g, k * 8 + 4, none⟩ = false := O11.out.frozenAt _
          clear ht
          go_upto_region 20 with fail
          clear e0 e1 e2
          obtain ⟨w12, hw12⟩ : ∃ w12, w12 = w11.setCell ⟨g, k * 8 + 4, none⟩ (.int .i64 1) := ⟨_, rfl⟩
          try rw [← hw12]
          have B12 := hide (show Below w8.heap.size w8 w12 from by
            rw [hw12]
            exact B11.out.setCell (p := ⟨g, k * 8 + 4, none⟩) (Nat.le_trans B89.out.size GE.out) _)
          have B13 := hide (B8.out.trans (B12.out.mono B8.out.size))
          have D12 := hide (show w12.heap[XE]? = some (.cells #[.slice (some ⟨g, 0, none⟩) tn c10, .slice ea en ec, .slice ma mn mc, .slice ga gn gc, .int .i64 frames, .int .i64 dog] 27 (0, 0)) from by
            rw [hw12, RowKit.Below.heap_setCell _ _ _ _ (show XE ≠ g from by have := GE.out; have := XE9.out; omega)]; exact D11.out)
          have F12 := hide (show CfFit w12 ⟨some ⟨g, 0, none⟩, tn, c10, ts.set k (oneTk t), ea, en, ec, es, ma, mn, mc, ms, ga, gn, gc, gs, frames, dog⟩ from by
            have hF := (F.out.below B0.out).below B13.out
            refine ⟨?_, hF.best, hF.mutexes, hF.gaps, hF.frames, hF.dog⟩
            have hO : w12.ownsRow w9.heap.size 34 8 (.slice (some ⟨g, 0, none⟩) tn c10) tn ((ts.set k (oneTk t)).flatMap tkVals) := by
              rw [hw12, ← flat_one ts k t HT.out]
              exact own_set O11.out _
            obtain ⟨a', c', e, h7⟩ := came_own (fits := TkFit) tkVals_len (by omega) hO (fun x hx => by
              rcases List.mem_or_eq_of_mem_set hx with hx | rfl
              · exact ((F.out.tasks.2.2.2.2.1 x hx).below B0.out).below B13.out
              · have h := ((F.out.tasks.2.2.2.2.1 t (List.mem_of_getElem? HT.out)).below B0.out).below B13.out
                exact ⟨h.cls, h.lev, h.per, h.dl, by show (Lit.int .i64 1).wf = true; decide, h.line, h.uses, h.prog⟩)
            injection e with e1 e2 e3
            subst e1 e3
            exact h7)
          have A12 := hide (show Calls Try.prog 9 #[.agg #[.slice (some ⟨g, 0, none⟩) tn c10, .slice ea en ec, .slice ma mn mc, .slice ga gn gc, .int .i64 frames, .int .i64 dog]] w12 fun e w' => ∃ (v : Value) (ss : List Int), e = .returned (.tuple #[.bool true, v]) ∧ ss.length = tn ∧ w'.ownsRow w12.heap.size 3 1 v tn (ss.map (Value.int .i64)) ∧ (∀ (i : Nat) (r s : Int), rs[i]? = some r → ss[i]? = some s → s ≤ r) ∧ Below w12.heap.size w12 w' from by
            have h := CC.out.adm w12 ⟨some ⟨g, 0, none⟩, tn, c10, ts.set k (oneTk t), ea, en, ec, es, ma, mn, mc, ms, ga, gn, gc, gs, frames, dog⟩ F12.out (by
              have := great_sub (a := some ⟨g, 0, none⟩) (n := tn) (k := c10) (ts := ts.set k (oneTk t)) GC.out (by rw [HC.out]; exact Nat.le_refl _) (fun x hx hb => by
                rw [HC.out]
                rcases List.mem_or_eq_of_mem_set hx with hx | rfl
                · exact List.any_eq_true.2 ⟨x, hx, hb⟩
                · exact List.any_eq_true.2 ⟨t, List.mem_of_getElem? HT.out, hb⟩)
              rw [HC.out] at this
              exact this)
            refine h.mono ?_
            rintro e w' ⟨v, ok, ss, rfl, hA, hO, hb⟩
            have e : cpOf ⟨some ⟨g, 0, none⟩, tn, c10, ts.set k (oneTk t), ea, en, ec, es, ma, mn, mc, ms, ga, gn, gc, gs, frames, dog⟩ = withC (cpOf cc) ((cpOf cc).ts.modify k one1) (cpOf cc).es := by
              rw [HC.out]; unfold cpOf withC; dsimp only; rw [map_one ts k t HT.out]
            rw [e] at hA
            obtain ⟨h1, h2, h3⟩ := admit_one ADT.out k hA
            subst h1
            rw [HL.out] at h2
            exact ⟨v, ss, rfl, h2, by rw [h2] at hO; exact hO, h3, hb⟩)
          clear hw12
          obtain ⟨k0, k1, k2, k3, k4, k5⟩ := SC.out w12 B13.out
          have z0 : w12.cell? ⟨XE, 0, none⟩ = some (.slice (some ⟨g, 0, none⟩) tn c10) := by rw [cell_of_row _ _ _ _ _ _ D12.out]; rfl
          have z1 : w12.cell? ⟨XE, 1, none⟩ = some (.slice ea en ec) := by rw [cell_of_row _ _ _ _ _ _ D12.out]; rfl
          have z2 : w12.cell? ⟨XE, 2, none⟩ = some (.slice ma mn mc) := by rw [cell_of_row _ _ _ _ _ _ D12.out]; rfl
          have z3 : w12.cell? ⟨XE, 3, none⟩ = some (.slice ga gn gc) := by rw [cell_of_row _ _ _ _ _ _ D12.out]; rfl
          have z4 : w12.cell? ⟨XE, 4, none⟩ = some (.int .i64 frames) := by rw [cell_of_row _ _ _ _ _ _ D12.out]; rfl
          have z5 : w12.cell? ⟨XE, 5, none⟩ = some (.int .i64 dog) := by rw [cell_of_row _ _ _ _ _ _ D12.out]; rfl
          go_upto_region 21 with (go_at_call 9; refine A12.out.mono ?_; rintro e w14 ⟨v14, ss, rfl, hl14, ho14, hle14, b14⟩; have L14 := hide hl14; have O14 := hide ho14; have LE := hide hle14; have B14 := hide (B13.out.trans (b14.mono B13.out.size)); have G14 := hide (show Below w8.heap.size w8 w14 from B12.out.trans (b14.mono B12.out.size)); clear hl14 ho14 hle14 b14)
          clear z0 z1 z2 z3 z4 z5 k0 k1 k2 k3 k4 k5
          obtain ⟨A14, c14, rfl, hI, _⟩ := own_ints O14.out
          have I14 := hide hI
          clear hI
          go_wp2_with fail
          all_goals
            go_loopw [15] (fun iv wx => ∃ i : Nat, i ≤ tn ∧ iv = .int .i64 (i : Int) ∧ Hid (Below w14.heap.size w14 wx)) (fun iv _ => tn - (intOf iv).toNat)
            case atStart => exact ⟨0, Nat.zero_le _, rfl, Below.refl _ _⟩
            case round =>
              obtain ⟨i, hi, rfl, hZ⟩ := hrel
              rename World => wx
              by_cases hlt : i < tn
              · have i0 : (0 : Int) ≤ (i : Int) := by omega
                have i1 : (i : Int) < (tn : Int) := by omega
                obtain ⟨r, hr⟩ : ∃ r, rs[i]? = some r := ⟨_, List.getElem?_eq_getElem (by have := HL.out; omega)⟩
                obtain ⟨s, hs⟩ : ∃ s, ss[i]? = some s := ⟨_, List.getElem?_eq_getElem (by have := L14.out; omega)⟩
                have f1 := LE.out i r s hr hs
                obtain ⟨gb, go, rfl, hcr⟩ := II.out.2 (by omega)
                obtain ⟨gs', go', rfl, hcs⟩ := I14.out.2 (by omega)
                have BWX := BWW.out.trans ((BX.out.trans ((B78.out.trans ((G14.out.trans (hZ.out.mono G14.out.size)).mono B78.out.size)).mono BX.out.size)).mono BWW.out.size)
                have cr : wx.cell? ⟨gb, go + i, none⟩ = some (.int .i64 r) := by
                  have h := hcr i (by omega)
                  rw [List.getD_eq_getElem?_getD, hr] at h
                  exact (BWX.cell (lt_of_cell? h)).trans h
                have cs : wx.cell? ⟨gs', go' + i, none⟩ = some (.int .i64 s) := by
                  have h := hcs i (by omega)
                  rw [List.getD_eq_getElem?_getD, hs] at h
                  exact (hZ.out.cell (lt_of_cell? h)).trans h
                have g1 : (r < s) = False := eq_false (by omega)
                clear hr hs hcr hcs f1 BWX
                go_upto_region 26 with fail
                go_region_held3 (fun W => W.cell? ⟨gb, go + i, none⟩ = some (.int .i64 r) ∧ W.cell? ⟨gs', go' + i, none⟩ = some (.int .i64 s)) (exact ⟨cr, cs⟩) (fail)
                go_wp2_with fail
                go_roundw
                case rel => exact ⟨i + 1, by omega, by go_num, below_drewN hZ.out 1⟩
                case measure => simp [intOf]; omega
              · obtain rfl : tn = i := by omega
                have BZ := hide (B14.out.trans (hZ.out.mono B14.out.size))
                go_wp2_with (go_at_call 8; refine (AW.out _).mono ?_; rintro e w15 ⟨rfl, b15⟩; have B15 := hide (B0.out.trans ((BZ.out.trans (b15.mono BZ.out.size)).mono B0.out.size)); clear b15)
                go_ret
                exact ⟨rfl, B15.out⟩
end Go.Proofs.Ytcmgkjjkhfcedaa
/-
  The walk of AdmitBest, over the contracts of the program's admit (written by tools/gen/adbest.py).
-/
namespace Go.Proofs.Ytcmgkjjkhfcedaa
open Go.ChangeShapes Go.WideShapes Go.ChangeAt Go.RowKit
set_option linter.unusedVariables false
set_option linter.unusedSimpArgs false
def jmpSt : Step := ⟨5, 0, 0, 0, ⟨0, 0, 0, ByteArray.empty, ByteArray.empty⟩⟩
theorem built_jmp : Try.prog.built 40 [(0, .int .i64 5)] = some #[.int .i64 5, .int .i64 0, .int .i64 0, .int .i64 0, .int .i64 0, .int .i64 0, .int .i64 0, .string ByteArray.empty, .string ByteArray.empty] := by kernel_rfl
/-- A task with another program. -/
def swT (t : Tk) (g : Nat) : Tk := ⟨t.cls, t.lev, t.per, t.dl, t.bud, t.line, t.ua, t.un, t.uc, t.us, some ⟨g, 0, none⟩, 1, 1, [jmpSt]⟩
def swL : List Tk → List Nat → List Tk
  | t :: ts, g :: gs => swT t g :: swL ts gs
  | ts, _ => ts
theorem swL_nil (ts : List Tk) : swL ts [] = ts := by cases ts <;> rfl
theorem swL_len : ∀ (ts : List Tk) (gs : List Nat), (swL ts gs).length = ts.length
  | [], _ => by simp [swL]
  | t :: ts, [] => by simp [swL]
  | t :: ts, g :: gs => by simp [swL, swL_len ts gs]
theorem swL_set : ∀ (ts : List Tk) (gs : List Nat) (t : Tk) (g : Nat), ts[gs.length]? = some t → (swL ts gs)[gs.length]? = some t ∧ swL ts (gs ++ [g]) = (swL ts gs).set gs.length (swT t g)
  | [], gs, t, g, h => by simp at h
  | a :: ts, [], t, g, h => by injection h with h; subst h; rw [swL_nil]; refine ⟨rfl, ?_⟩; show swT a g :: swL ts [] = _; rw [swL_nil]; rfl
  | a :: ts, b :: gs, t, g, h => by
    obtain ⟨h1, h2⟩ := swL_set ts gs t g (by simpa using h)
    refine ⟨by simpa [swL] using h1, ?_⟩
    show swT a b :: swL ts (gs ++ [g]) = _
    rw [h2]; rfl
theorem swL_mem : ∀ (ts : List Tk) (gs : List Nat) (x : Tk), x ∈ swL ts gs → x ∈ ts ∨ ∃ t ∈ ts, ∃ g ∈ gs, x = swT t g
  | [], gs, x, h => by simp [swL] at h
  | a :: ts, [], x, h => .inl h
  | a :: ts, b :: gs, x, h => by
    rcases List.mem_cons.1 (show x ∈ swT a b :: swL ts gs from h) with h | h
    · exact .inr ⟨a, List.mem_cons_self .., b, List.mem_cons_self .., h⟩
    · rcases swL_mem ts gs x h with h | ⟨t, ht, g, hg, e⟩
      · exact .inl (List.mem_cons_of_mem _ h)
      · exact .inr ⟨t, List.mem_cons_of_mem _ ht, g, List.mem_cons_of_mem _ hg, e⟩
theorem swL_less : ∀ (ts : List Tk) (gs : List Nat), LessL ((swL ts gs).map tpOf) (ts.map tpOf) ∧ LessL (ts.map tpOf) ((swL ts gs).map tpOf)
  | [], gs => by simp [swL, LessL]
  | a :: ts, [] => ⟨LessL.refl _, LessL.refl _⟩
  | a :: ts, b :: gs => ⟨⟨⟨rfl, rfl, rfl, rfl, rfl, rfl, Int.le_refl _⟩, (swL_less ts gs).1⟩, ⟨⟨rfl, rfl, rfl, rfl, rfl, rfl, Int.le_refl _⟩, (swL_less ts gs).2⟩⟩
theorem flat_sw : ∀ (l : List Tk) (k : Nat) (t : Tk) (g : Nat), l[k]? = some t → (l.flatMap tkVals).set (k * 8 + 7) (.slice (some ⟨g, 0, none⟩) 1 1) = (l.set k (swT t g)).flatMap tkVals
  | [], k, t, g, h => by cases h
  | a :: l, 0, t, g, h => by injection h with h; subst h; rfl
  | a :: l, k + 1, t, g, h => by
    rw [List.flatMap_cons, List.set_cons_succ, List.flatMap_cons, ← flat_sw l k t g (by simpa using h), show (k + 1) * 8 + 7 = (tkVals a).length + (k * 8 + 7) from by rw [tkVals_len]; omega, List.set_append_right _ _ (by omega), Nat.add_sub_cancel_left]
theorem mayC_sw {c : Cp} {ts : List Tk} (gs : List Nat) (hc : c.ts = ts.map tpOf) (h : mayC c = true) : mayC (withC c ((swL ts gs).map tpOf) c.es) = true := by
  have hl := (swL_less ts gs).1
  have hm := mayC_all h
  unfold mayC withC at *
  simp only [Bool.and_eq_true, decide_eq_true_eq] at h ⊢
  obtain ⟨⟨⟨⟨⟨⟨⟨⟨⟨h1, h2⟩, h3⟩, h4⟩, h5⟩, h6⟩, h7⟩, h8⟩, h9⟩, h10⟩ := h
  refine ⟨⟨⟨⟨⟨⟨⟨⟨⟨by rw [List.length_map, swL_len, ← List.length_map (f := tpOf), ← hc]; exact h1, h2⟩, h3⟩, h4⟩, h5⟩, h6⟩, h7⟩, List.all_eq_true.2 fun x hx => ?_⟩, by rw [apart_less hl, ← hc]; exact h9⟩, h10⟩
  obtain ⟨u, hu, rfl⟩ := List.mem_map.1 hx
  rcases swL_mem ts gs u hu with hu | ⟨t, ht, g, hg, rfl⟩
  · exact hm _ (by rw [hc]; exact List.mem_map.2 ⟨u, hu, rfl⟩)
  · have := hm (tpOf t) (by rw [hc]; exact List.mem_map.2 ⟨t, ht, rfl⟩)
    unfold mayT at this ⊢
    simp only [Bool.and_eq_true, decide_eq_true_eq] at this ⊢
    obtain ⟨⟨⟨⟨⟨⟨⟨q1, q2⟩, q3⟩, q4⟩, q5⟩, q6⟩, q7⟩, q8⟩ := this
    exact ⟨⟨⟨⟨⟨⟨⟨q1, q2⟩, q3⟩, q4⟩, q5⟩, q6⟩, by show 1 ≤ 40; omega⟩, q8⟩
theorem big_sw (t : Tk) (g : Nat) (h : bigTk (swT t g) = true) : bigTk t = true := by
  have e : bigTk (swT t g) = (decide (12 < t.un) || greatB [jmpSt]) := rfl
  have e2 : greatB [jmpSt] = false := by decide
  rw [e, e2, Bool.or_false] at h
  unfold bigTk
  rw [h]; rfl
theorem jmp_came {w : World} {g : Nat} (h : w.heap[g]? = some (.cells #[.int .i64 5, .int .i64 0, .int .i64 0, .int .i64 0, .int .i64 0, .int .i64 0, .int .i64 0, .string ByteArray.empty, .string ByteArray.empty] 40 (0, 0))) : Came 9 stVals StWf w (some ⟨g, 0, none⟩) 1 1 [jmpSt] := by
  refine ⟨rfl, Nat.le_refl _, by unfold maxLen; omega, (fun e => by cases e), (fun z hz => by rw [List.mem_singleton.1 hz]; exact ⟨by decide, by decide, by decide, by decide, by decide, by decide, by decide, by decide, by decide⟩), fun _ => ⟨g, 0, rfl, lt_of_heap h, fun i z hz j u hu => ?_⟩⟩
  have hi : i = 0 := by have := (List.getElem?_eq_some_iff.1 hz).1; simp at this; omega
  subst hi
  injection hz with hz
  subst hz
  rw [show 0 + 0 * 9 + j = j from by omega, cell_of_row _ _ _ _ _ _ h, List.getElem?_toArray]
  exact hu
set_option maxRecDepth 20000 in
set_option maxHeartbeats 8000000 in
theorem walk_admitBestC (C : PAdmit) (w : World) (c : Cf) (hc : CfFit w c) (pa : Option Addr) (n cn : Nat) (bs : List Ef) (hin : Came 2 efVals EfFit w pa n cn bs) :
    Calls Try.prog 4 #[.agg (cfVals c).toArray, .slice pa n cn] w fun e w' => e = .returned (.bool true) ∧ Below w.heap.size w w' := by
  obtain ⟨cc, hcc⟩ : ∃ cc, cc = c := ⟨_, rfl⟩
  have HC := hide hcc
  obtain ⟨ta, tn, tc, ts, ea, en, ec, es, ma, mn, mc, ms, ga, gn, gc, gs, frames, dog⟩ := c
  show Calls Try.prog 4 #[.agg #[.slice ta tn tc, .slice ea en ec, .slice ma mn mc, .slice ga gn gc, .int .i64 frames, .int .i64 dog], .slice pa n cn] w _
  have F := hide hc
  obtain ⟨W0, hW⟩ : ∃ W0, W0 = w.alloc (.cells #[.slice ta tn tc, .slice ea en ec, .slice ma mn mc, .slice ga gn gc, .int .i64 frames, .int .i64 dog] 27) := ⟨_, rfl⟩
  have hb := heap_alloc_new w (.cells #[.slice ta tn tc, .slice ea en ec, .slice ma mn mc, .slice ga gn gc, .int .i64 frames, .int .i64 dog] 27)
  have B0 := hide ((Below.refl w.heap.size w).alloc (Nat.le_refl _) (.cells #[.slice ta tn tc, .slice ea en ec, .slice ma mn mc, .slice ga gn gc, .int .i64 frames, .int .i64 dog] 27))
  rw [← hW] at hb B0
  have SC := hide (show ∀ Y : World, Below W0.heap.size W0 Y → Y.cell? ⟨w.heap.size, 0, none⟩ = some (.slice ta tn tc) ∧ Y.cell? ⟨w.heap.size, 1, none⟩ = some (.slice ea en ec) ∧ Y.cell? ⟨w.heap.size, 2, none⟩ = some (.slice ma mn mc) ∧ Y.cell? ⟨w.heap.size, 3, none⟩ = some (.slice ga gn gc) ∧ Y.cell? ⟨w.heap.size, 4, none⟩ = some (.int .i64 frames) ∧ Y.cell? ⟨w.heap.size, 5, none⟩ = some (.int .i64 dog) from fun Y b => by
    have e := (b.block _ (lt_of_heap hb)).trans hb
    refine ⟨?_, ?_, ?_, ?_, ?_, ?_⟩ <;> (rw [cell_of_row _ _ _ _ _ _ e]; rfl))
  obtain ⟨G, hG⟩ : ∃ G, G = greatCf cc := ⟨_, rfl⟩
  obtain ⟨P, hP⟩ : ∃ P, P = mayC (cpOf cc) := ⟨_, rfl⟩
  have GR := hide (show Calls Try.prog 7 #[.agg #[.slice ta tn tc, .slice ea en ec, .slice ma mn mc, .slice ga gn gc, .int .i64 frames, .int .i64 dog]] W0 fun e w' => e = .returned (.bool G) ∧ Below W0.heap.size W0 w' from by
    have := greatCf_any W0 cc (by rw [hcc]; exact hc.below B0.out)
    rw [← hG, hcc] at this
    exact this)
  have MY := hide (show G = false → ∀ Y : World, Below W0.heap.size W0 Y → Calls Try.prog 11 #[.agg #[.slice ta tn tc, .slice ea en ec, .slice ma mn mc, .slice ga gn gc, .int .i64 frames, .int .i64 dog]] Y fun e w' => e = .returned (.bool P) ∧ Below Y.heap.size Y w' from fun hg Y b => by
    have := C.may Y cc (by rw [hcc]; exact (hc.below B0.out).below b) (by rw [← hG]; exact hg)
    rw [← hP, hcc] at this
    exact this)
  have BK := hide (show G = false → ∀ Y : World, Below W0.heap.size W0 Y → ∀ task : Int, (Lit.int .i64 task).wf = true → Calls Try.prog 13 #[.agg #[.slice ta tn tc, .slice ea en ec, .slice ma mn mc, .slice ga gn gc, .int .i64 frames, .int .i64 dog], .int .i64 task] Y fun e w' => e = .returned (.int .i64 (blkC (cpOf cc) task)) ∧ Below Y.heap.size Y w' from fun hg Y b task ht => by
    have := C.blk Y cc (by rw [hcc]; exact (hc.below B0.out).below b) (by rw [← hG]; exact hg) task ht
    rw [hcc] at this ⊢
    exact this)
  have AW := hide (fun (Y : World) => adawake_any C Y)
  have HP := hide hP
  have HW := hide hW
  obtain ⟨k0, k1, k2, k3, k4, k5⟩ := SC.out W0 (Below.refl _ _)
  have CC := hide C
  have GG := hide hG
  have HI := hide hin
  clear hc hW hb C hG hP hcc hin
  have HPP := HP
  clear HP
  cases G with
  | true =>
    go_enter Try.func4, Try.ntmps4
    go_upto_region 1 with fail
    rw [← HW.out]
    go_wp2_with (first
      | (go_at_call 7; refine GR.out.mono ?_; rintro e w1 ⟨rfl, b1⟩; have B1 := hide b1; clear b1 k0 k1 k2 k3 k4 k5; obtain ⟨k0, k1, k2, k3, k4, k5⟩ := SC.out w1 B1.out)
      | (go_at_call 8; refine (AW.out _).mono ?_; rintro e w3 ⟨rfl, b3⟩; have B3 := hide (B0.out.trans ((B1.out.trans (b3.mono B1.out.size)).mono B0.out.size)); clear b3)
      )
    go_ret
    exact ⟨rfl, B3.out⟩
  | false =>
    by_cases t0 : 6 < n
    · have t1 : (6 : Int) < (n : Int) := by omega
      go_enter Try.func4, Try.ntmps4
      go_upto_region 1 with fail
      rw [← HW.out]
      go_wp2_with (first
        | (go_at_call 7; refine GR.out.mono ?_; rintro e w1 ⟨rfl, b1⟩; have B1 := hide b1; clear b1 k0 k1 k2 k3 k4 k5; obtain ⟨k0, k1, k2, k3, k4, k5⟩ := SC.out w1 B1.out)
        | (go_at_call 8; refine (AW.out _).mono ?_; rintro e w3 ⟨rfl, b3⟩; have B3 := hide (B0.out.trans ((B1.out.trans (b3.mono B1.out.size)).mono B0.out.size)); clear b3)
        )
      go_ret
      exact ⟨rfl, B3.out⟩
    have t1 : ¬ (6 : Int) < (n : Int) := by omega
    have GC := hide (show greatCf cc = false from GG.out.symm)
    clear GG
    have MYF := hide (MY.out rfl)
    clear MY BK
    go_enter Try.func4, Try.ntmps4
    go_upto_region 1 with fail
    rw [← HW.out]
    go_upto_region 3 with (first
      | (go_at_call 7; refine GR.out.mono ?_; rintro e w1 ⟨rfl, b1⟩; have B1 := hide b1; clear b1 k0 k1 k2 k3 k4 k5; obtain ⟨k0, k1, k2, k3, k4, k5⟩ := SC.out w1 B1.out))
    clear t1
    obtain ⟨XD, hXD⟩ : ∃ XD, XD = w1.heap.size := ⟨_, rfl⟩
    obtain ⟨w2, hw2⟩ : ∃ w2, w2 = w1.alloc (.cells #[.slice ta tn tc, .slice pa n cn, .slice ma mn mc, .slice ga gn gc, .int .i64 frames, .int .i64 dog] 27) := ⟨_, rfl⟩
    have D2 := hide (show w2.heap[XD]? = some (.cells #[.slice ta tn tc, .slice pa n cn, .slice ma mn mc, .slice ga gn gc, .int .i64 frames, .int .i64 dog] 27 (0, 0)) from by rw [hw2, hXD]; exact heap_alloc_new w1 _)
    have B2 := hide (show Below W0.heap.size W0 w2 from by rw [hw2]; exact B1.out.alloc B1.out.size _)
    have HXD := hide hXD
    have HW2 := hide hw2
    clear hXD hw2
    go_upto_region 5 with fail
    rw [← HW2.out, ← HXD.out]
    clear k0 k1 k2 k3 k4 k5
    obtain ⟨k0, k1, k2, k3, k4, k5⟩ := SC.out w2 B2.out
    have FD := hide (show ∀ Y : World, Below W0.heap.size W0 Y → CfFit Y ⟨ta, tn, tc, ts, pa, n, cn, bs, ma, mn, mc, ms, ga, gn, gc, gs, frames, dog⟩ from fun Y b => by
      have hF := (F.out.below B0.out).below b
      exact ⟨hF.tasks, (HI.out.below B0.out (fun _ h => h.below B0.out)).below b (fun _ h => h.below b), hF.mutexes, hF.gaps, hF.frames, hF.dog⟩)
    have SD := hide (show ∀ Y : World, Below w2.heap.size w2 Y → Y.cell? ⟨XD, 0, none⟩ = some (.slice ta tn tc) ∧ Y.cell? ⟨XD, 1, none⟩ = some (.slice pa n cn) ∧ Y.cell? ⟨XD, 2, none⟩ = some (.slice ma mn mc) ∧ Y.cell? ⟨XD, 3, none⟩ = some (.slice ga gn gc) ∧ Y.cell? ⟨XD, 4, none⟩ = some (.int .i64 frames) ∧ Y.cell? ⟨XD, 5, none⟩ = some (.int .i64 dog) from fun Y b => by
      have e := (b.block _ (lt_of_heap D2.out)).trans D2.out
      refine ⟨?_, ?_, ?_, ?_, ?_, ?_⟩ <;> (rw [cell_of_row _ _ _ _ _ _ e]; rfl))
    obtain ⟨G2, hG2⟩ : ∃ G2, G2 = greatCf ⟨ta, tn, tc, ts, pa, n, cn, bs, ma, mn, mc, ms, ga, gn, gc, gs, frames, dog⟩ := ⟨_, rfl⟩
    obtain ⟨P2, hP2⟩ : ∃ P2, P2 = mayC (cpOf ⟨ta, tn, tc, ts, pa, n, cn, bs, ma, mn, mc, ms, ga, gn, gc, gs, frames, dog⟩) := ⟨_, rfl⟩
    have GR2 := hide (show Calls Try.prog 7 #[.agg #[.slice ta tn tc, .slice pa n cn, .slice ma mn mc, .slice ga gn gc, .int .i64 frames, .int .i64 dog]] w2 fun e w' => e = .returned (.bool G2) ∧ Below w2.heap.size w2 w' from by
      have := greatCf_any w2 _ (FD.out w2 B2.out)
      rw [← hG2] at this
      exact this)
    have MY2 := hide (show G2 = false → ∀ Y : World, Below W0.heap.size W0 Y → Calls Try.prog 11 #[.agg #[.slice ta tn tc, .slice pa n cn, .slice ma mn mc, .slice ga gn gc, .int .i64 frames, .int .i64 dog]] Y fun e w' => e = .returned (.bool P2) ∧ Below Y.heap.size Y w' from fun hg Y b => by
      have := CC.out.may Y _ (FD.out Y b) (by rw [← hG2]; exact hg)
      rw [← hP2] at this
      exact this)
    have HG2 := hide hG2
    have HP2 := hide hP2
    obtain ⟨j0, j1, j2, j3, j4, j5⟩ := SD.out w2 (Below.refl _ _)
    clear hG2 hP2
    cases G2 with
    | true =>
      clear MY2
      go_wp2_with (first
        | (go_at_call 7; refine GR2.out.mono ?_; rintro e w4 ⟨rfl, b4⟩; have C4 := hide b4; have B4 := hide (B2.out.trans (b4.mono B2.out.size)); clear b4; clear k0 k1 k2 k3 k4 k5 j0 j1 j2 j3 j4 j5; obtain ⟨k0, k1, k2, k3, k4, k5⟩ := SC.out _ B4.out; obtain ⟨j0, j1, j2, j3, j4, j5⟩ := SD.out _ C4.out)
        | (go_at_call 8; refine (AW.out _).mono ?_; rintro e w3 ⟨rfl, b3⟩; have B3 := hide (B0.out.trans ((B4.out.trans (b3.mono B4.out.size)).mono B0.out.size)); clear b3))
      go_ret
      exact ⟨rfl, B3.out⟩
    | false =>
      have MY2F := hide (MY2.out rfl)
      clear MY2
      cases P with
      | false =>
        go_wp2_with (first
          | (go_at_call 7; refine GR2.out.mono ?_; rintro e w4 ⟨rfl, b4⟩; have C4 := hide b4; have B4 := hide (B2.out.trans (b4.mono B2.out.size)); clear b4; clear k0 k1 k2 k3 k4 k5 j0 j1 j2 j3 j4 j5; obtain ⟨k0, k1, k2, k3, k4, k5⟩ := SC.out _ B4.out; obtain ⟨j0, j1, j2, j3, j4, j5⟩ := SD.out _ C4.out)
          | (go_at_call 11; with_reducible refine (MYF.out _ B4.out).mono ?_; rintro e w5 ⟨rfl, b5⟩; have C5 := hide (C4.out.trans (b5.mono C4.out.size)); have B5 := hide (B4.out.trans (b5.mono B4.out.size)); clear b5; clear k0 k1 k2 k3 k4 k5 j0 j1 j2 j3 j4 j5; obtain ⟨k0, k1, k2, k3, k4, k5⟩ := SC.out _ B5.out; obtain ⟨j0, j1, j2, j3, j4, j5⟩ := SD.out _ C5.out)
          | (go_at_call 8; refine (AW.out _).mono ?_; rintro e w3 ⟨rfl, b3⟩; have B3 := hide (B0.out.trans ((B5.out.trans (b3.mono B5.out.size)).mono B0.out.size)); clear b3))
        go_ret
        exact ⟨rfl, B3.out⟩
      | true =>
        cases P2 with
        | false =>
          go_wp2_with (first
            | (go_at_call 7; refine GR2.out.mono ?_; rintro e w4 ⟨rfl, b4⟩; have C4 := hide b4; have B4 := hide (B2.out.trans (b4.mono B2.out.size)); clear b4; clear k0 k1 k2 k3 k4 k5 j0 j1 j2 j3 j4 j5; obtain ⟨k0, k1, k2, k3, k4, k5⟩ := SC.out _ B4.out; obtain ⟨j0, j1, j2, j3, j4, j5⟩ := SD.out _ C4.out)
            | (go_at_call 11; with_reducible refine (MYF.out _ B4.out).mono ?_; rintro e w5 ⟨rfl, b5⟩; have C5 := hide (C4.out.trans (b5.mono C4.out.size)); have B5 := hide (B4.out.trans (b5.mono B4.out.size)); clear b5; clear k0 k1 k2 k3 k4 k5 j0 j1 j2 j3 j4 j5; obtain ⟨k0, k1, k2, k3, k4, k5⟩ := SC.out _ B5.out; obtain ⟨j0, j1, j2, j3, j4, j5⟩ := SD.out _ C5.out)
            | (go_at_call 11; with_reducible refine (MY2F.out _ B5.out).mono ?_; rintro e w6 ⟨rfl, b6⟩; have C6 := hide (C5.out.trans (b6.mono C5.out.size)); have B6 := hide (B5.out.trans (b6.mono B5.out.size)); clear b6; clear k0 k1 k2 k3 k4 k5 j0 j1 j2 j3 j4 j5; obtain ⟨k0, k1, k2, k3, k4, k5⟩ := SC.out _ B6.out; obtain ⟨j0, j1, j2, j3, j4, j5⟩ := SD.out _ C6.out)
            | (go_at_call 8; refine (AW.out _).mono ?_; rintro e w3 ⟨rfl, b3⟩; have B3 := hide (B0.out.trans ((B6.out.trans (b3.mono B6.out.size)).mono B0.out.size)); clear b3))
          go_ret
          exact ⟨rfl, B3.out⟩
        | true =>
          go_upto_region 7 with (first
            | (go_at_call 7; refine GR2.out.mono ?_; rintro e w4 ⟨rfl, b4⟩; have C4 := hide b4; have B4 := hide (B2.out.trans (b4.mono B2.out.size)); clear b4; clear k0 k1 k2 k3 k4 k5 j0 j1 j2 j3 j4 j5; obtain ⟨k0, k1, k2, k3, k4, k5⟩ := SC.out _ B4.out; obtain ⟨j0, j1, j2, j3, j4, j5⟩ := SD.out _ C4.out)
            | (go_at_call 11; with_reducible refine (MYF.out _ B4.out).mono ?_; rintro e w5 ⟨rfl, b5⟩; have C5 := hide (C4.out.trans (b5.mono C4.out.size)); have B5 := hide (B4.out.trans (b5.mono B4.out.size)); clear b5; clear k0 k1 k2 k3 k4 k5 j0 j1 j2 j3 j4 j5; obtain ⟨k0, k1, k2, k3, k4, k5⟩ := SC.out _ B5.out; obtain ⟨j0, j1, j2, j3, j4, j5⟩ := SD.out _ C5.out)
            | (go_at_call 11; with_reducible refine (MY2F.out _ B5.out).mono ?_; rintro e w6 ⟨rfl, b6⟩; have C6 := hide (C5.out.trans (b6.mono C5.out.size)); have B6 := hide (B5.out.trans (b6.mono B5.out.size)); clear b6; clear k0 k1 k2 k3 k4 k5 j0 j1 j2 j3 j4 j5; obtain ⟨k0, k1, k2, k3, k4, k5⟩ := SC.out _ B6.out; obtain ⟨j0, j1, j2, j3, j4, j5⟩ := SD.out _ C6.out))
          have RE := hide (show Reads 8 tkVals w6 ta tn ts from (((F.out.below B0.out).below B6.out).tasks).reads)
          have TNIL := hide (show ta = none → tc = 0 from F.out.tasks.2.2.2.1)
          have tn12 : tn ≤ 12 := by
            have h := GC.out
            rw [HC.out] at h
            unfold greatCf at h
            simp only [Bool.or_eq_false_iff, decide_eq_false_iff_not] at h
            have h3 := h.1.1.1.1.1
            omega
          have T12 := hide tn12
          have tn12' := tn12
          have D6 := hide ((C6.out.block XD (lt_of_heap D2.out)).trans D2.out)
          obtain ⟨i0, hi0, hz0, hz1, hz2⟩ := info_parts task_info
          have I0 := hide (show Try.prog.info? 34 = some i0 ∧ i0.zero = some _ ∧ i0.size = 8 ∧ i0.bytes = 96 from ⟨hi0, hz0, hz1, hz2⟩)
          clear hi0 hz0 hz1 hz2 tn12
          go_upto_region 8 with (first
            | (at_builtin; refine wpList_append_reads rfl (.const (.slice none 0 0)) (.tmp 36) _ rfl w6.heap.size 34 i0 _ 96 Try.underlying22 I0.out.1 I0.out.2.1 I0.out.2.2.1 I0.out.2.2.2 rfl (by omega) _ 0 [] rfl (World.ownsRow_nil _ _ _ _) ta tn tc ts rfl tkVals_len tkVals_cell RE.out TNIL.out (by have := T12.out; unfold maxLen; omega) (by have := T12.out; omega) (Nat.le_refl _) ?_; intro v10 w10 o10 g10; rw [Nat.zero_add, List.nil_append] at o10; have O10 := hide o10; have B10 := hide (show Below w6.heap.size w6 w10 from (Below.refl _ w6).grown g10 (Nat.le_refl _) (fun j hj => by cases hj)); obtain ⟨a10, c10, rfl⟩ := own_slice2 o10; clear o10 g10; have D10 := hide ((B10.out.block XD (lt_of_heap D6.out)).trans D6.out); have x0 : w10.cell? ⟨XD, 0, none⟩ = some (.slice ta tn tc) := (by rw [cell_of_row _ _ _ _ _ _ D10.out]; rfl); have f0 : w10.frozen? ⟨XD, 0, none⟩ = false := frozen_of_row _ _ _ _ _ D10.out))
          clear k0 k1 k2 k3 k4 k5 j0 j1 j2 j3 j4 j5 x0 f0
          obtain ⟨w11, hw11⟩ : ∃ w11, w11 = w10.setCell ⟨XD, 0, none⟩ (.slice a10 tn c10) := ⟨_, rfl⟩
          rw [← hw11]
          have XD6 := hide (show XD < w6.heap.size from lt_of_heap D6.out)
          have X1 := hide (show w1.heap.size ≤ XD from by rw [HXD.out]; exact Nat.le_refl _)
          have B16 := hide (show Below w1.heap.size w1 w6 from by
            have h : Below w1.heap.size w1 w2 := by rw [HW2.out]; exact (Below.refl _ w1).alloc (Nat.le_refl _) _
            exact h.trans (C6.out.mono h.size))
          have O11 := hide (show w11.ownsRow w6.heap.size 34 8 (.slice a10 tn c10) tn (ts.flatMap tkVals) from by
            rw [hw11]
            exact ((Touch.refl (fun i => i = XD) w10).setCell (p := ⟨XD, 0, none⟩) rfl _).own O10.out (fun g' hg e => by have := (O10.out.lt g' hg).1; have := XD6.out; omega))
          have D11 := hide (show w11.heap[XD]? = some (.cells #[.slice a10 tn c10, .slice pa n cn, .slice ma mn mc, .slice ga gn gc, .int .i64 frames, .int .i64 dog] 27 (0, 0)) from by rw [hw11]; exact heap_setCell_same _ _ _ _ _ _ D10.out)
          have B11 := hide (show Below w1.heap.size w1 w11 from by
            rw [hw11]
            exact (B16.out.trans (B10.out.mono B16.out.size)).setCell (p := ⟨XD, 0, none⟩) X1.out _)
          clear hw11
          have hbj := built_jmp
          have TL := hide (show ts.length = tn from F.out.tasks.reads.1)
          go_wp2_with fail
          go_loopw [6] (fun iv wr => ∃ i : Nat, i ≤ tn ∧ iv = .int .i64 (i : Int) ∧ Hid (∃ gl : List Nat, gl.length = i ∧ (∀ g ∈ gl, wr.heap[g]? = some (.cells #[.int .i64 5, .int .i64 0, .int .i64 0, .int .i64 0, .int .i64 0, .int .i64 0, .int .i64 0, .string ByteArray.empty, .string ByteArray.empty] 40 (0, 0)) ∧ w11.heap.size ≤ g) ∧ wr.ownsRow w6.heap.size 34 8 (.slice a10 tn c10) tn ((swL ts gl).flatMap tkVals) ∧ (∀ g, a10 = some ⟨g, 0, none⟩ → g < w11.heap.size) ∧ wr.heap[XD]? = w11.heap[XD]? ∧ Below w1.heap.size w1 wr ∧ w11.heap.size ≤ wr.heap.size)) (fun iv _ => tn - (intOf iv).toNat)
          case atStart => exact ⟨0, Nat.zero_le _, rfl, [], rfl, (fun g hg => by cases hg), by rw [swL_nil]; exact O11.out, (fun g e => (O11.out.lt g (by rw [e]; rfl)).2), rfl, B11.out, Nat.le_refl _⟩
          case round =>
            obtain ⟨i, hi, rfl, hZ⟩ := hrel
            rename World => wr
            obtain ⟨gl, hgl, gj, go, gb, gd, gw, gs11⟩ := hZ.out
            have J := hide gj
            have O := hide go
            have GB := hide gb
            have D := hide (gd.trans D11.out)
            have DD := hide gd
            have B := hide gw
            have S11 := hide gs11
            have LG := hide hgl
            clear hZ gj go gb gd gw gs11 hgl
            have e0 : wr.cell? ⟨XD, 0, none⟩ = some (.slice a10 tn c10) := by rw [cell_of_row _ _ _ _ _ _ D.out]; rfl
            by_cases hlt : i < tn
            · have i0 : (0 : Int) ≤ (i : Int) := by omega
              have i1 : (i : Int) < (tn : Int) := by omega
              obtain ⟨R, cR, eR⟩ := own_some O.out (by omega)
              injection eR with eR1 _ eR2
              subst eR1 eR2
              obtain ⟨t, ht⟩ : ∃ t, ts[i]? = some t := ⟨_, List.getElem?_eq_getElem (by have := TL.out; omega)⟩
              obtain ⟨s1, s2⟩ := swL_set ts gl t wr.heap.size (by rw [LG.out]; exact ht)
              rw [LG.out] at s1 s2
              obtain ⟨wa, hwa⟩ : ∃ wa, wa = wr.alloc (.cells #[.int .i64 5, .int .i64 0, .int .i64 0, .int .i64 0, .int .i64 0, .int .i64 0, .int .i64 0, .string ByteArray.empty, .string ByteArray.empty] 40) := ⟨_, rfl⟩
              have BA : Below wr.heap.size wr wa := by rw [hwa]; exact (Below.refl _ wr).alloc (Nat.le_refl _) _
              have OA : wa.ownsRow w6.heap.size 34 8 (.slice (some ⟨R, 0, none⟩) tn c10) tn ((swL ts gl).flatMap tkVals) := (Touch.of_below (S := fun _ => False) BA).own O.out (fun _ _ e => e)
              have RL := hide (show R < wr.heap.size ∧ w6.heap.size ≤ R from ⟨(O.out.lt R rfl).2, (O.out.lt R rfl).1⟩)
              have e1 : wa.cell? ⟨R, i * 8 + 7, none⟩ = some (.slice t.qa t.qn t.qc) := by
                rw [OA.cellAt (i * 8 + 7) (by omega)]
                exact flat_at tkVals_len s1 (by omega)
              have e2 : wa.frozen? ⟨R, i * 8 + 7, none⟩ = false := OA.frozenAt _
              obtain ⟨wn, hwn⟩ : ∃ wn, wn = wa.setCell ⟨R, i * 8 + 7, none⟩ (.slice (some ⟨wr.heap.size, 0, none⟩) 1 1) := ⟨_, rfl⟩
              have NEXT := hide (show ∃ gl : List Nat, gl.length = i + 1 ∧ (∀ g ∈ gl, wn.heap[g]? = some (.cells #[.int .i64 5, .int .i64 0, .int .i64 0, .int .i64 0, .int .i64 0, .int .i64 0, .int .i64 0, .string ByteArray.empty, .string ByteArray.empty] 40 (0, 0)) ∧ w11.heap.size ≤ g) ∧ wn.ownsRow w6.heap.size 34 8 (.slice (some ⟨R, 0, none⟩) tn c10) tn ((swL ts gl).flatMap tkVals) ∧ (∀ g, (some ⟨R, 0, none⟩ : Option Addr) = some ⟨g, 0, none⟩ → g < w11.heap.size) ∧ wn.heap[XD]? = w11.heap[XD]? ∧ Below w1.heap.size w1 wn ∧ w11.heap.size ≤ wn.heap.size from by
                have rb := GB.out R rfl
                have sz : wa.heap.size = wr.heap.size + 1 := by rw [hwa]; simp
                have gn' : wa.heap[wr.heap.size]? = some (.cells #[.int .i64 5, .int .i64 0, .int .i64 0, .int .i64 0, .int .i64 0, .int .i64 0, .int .i64 0, .string ByteArray.empty, .string ByteArray.empty] 40 (0, 0)) := by rw [hwa]; exact heap_alloc_new wr _
                refine ⟨gl ++ [wr.heap.size], by rw [List.length_append, LG.out]; rfl, fun g hg => ?_, ?_, GB.out, ?_, ?_, ?_⟩
                · rcases List.mem_append.1 hg with hg | hg
                  · obtain ⟨h1, h2⟩ := J.out g hg
                    refine ⟨?_, h2⟩
                    rw [hwn, RowKit.Below.heap_setCell _ _ _ _ (show g ≠ R from by omega)]
                    exact (BA.block g (lt_of_heap h1)).trans h1
                  · rw [List.mem_singleton] at hg
                    subst hg
                    refine ⟨?_, S11.out⟩
                    rw [hwn, RowKit.Below.heap_setCell _ _ _ _ (show wr.heap.size ≠ R from by have := RL.out; omega)]
                    exact gn'
                · rw [s2, hwn, ← flat_sw _ i t _ s1]
                  exact own_set OA _
                · rw [hwn, RowKit.Below.heap_setCell _ _ _ _ (show XD ≠ R from by have := RL.out; have := XD6.out; omega)]
                  exact (BA.block XD (lt_of_heap D.out)).trans DD.out
                · rw [hwn]
                  exact (B.out.trans (BA.mono B.out.size)).setCell (p := ⟨R, i * 8 + 7, none⟩) (by have := RL.out; have := B16.out.size; show w1.heap.size ≤ R; omega) _
                · rw [hwn]
                  have := S11.out
                  show w11.heap.size ≤ (World.setCell _ _ _).heap.size
                  simp only [World.setCell]
                  simp
                  omega)
              rw [hwn] at NEXT
              clear hwn s1 s2 ht BA OA
              subst hwa
              go_wp2_with (refine wpList_build rfl 40 _ rfl (by kernel_rfl) ?_)
              go_roundw
              case rel => exact ⟨i + 1, by omega, by go_num, NEXT⟩
              case measure => simp [intOf]; omega
            · obtain rfl : tn = i := by omega
              obtain ⟨gl, hgl⟩ : ∃ gl', gl' = gl := ⟨_, rfl⟩
              have BW := hide (B1.out.trans (B.out.mono B1.out.size))
              have F1 := hide (show CfFit wr ⟨a10, tn, c10, swL ts gl, pa, n, cn, bs, ma, mn, mc, ms, ga, gn, gc, gs, frames, dog⟩ from by
                have hF := FD.out wr BW.out
                refine ⟨?_, hF.best, hF.mutexes, hF.gaps, hF.frames, hF.dog⟩
                obtain ⟨a', c', e, h7⟩ := came_own (fits := TkFit) tkVals_len (by omega) O.out (fun x hx => by
                  rcases swL_mem ts _ x hx with hx | ⟨t, ht, g, hg, rfl⟩
                  · exact hF.tasks.2.2.2.2.1 x hx
                  · have h := hF.tasks.2.2.2.2.1 t ht
                    exact ⟨h.cls, h.lev, h.per, h.dl, h.bud, h.line, h.uses, jmp_came (J.out g hg).1⟩)
                injection e with e1 e2 e3
                subst e1 e3
                rw [hgl]
                exact h7)
              have E1 := hide (show cpOf ⟨a10, tn, c10, swL ts gl, pa, n, cn, bs, ma, mn, mc, ms, ga, gn, gc, gs, frames, dog⟩ = withC (cpOf ⟨ta, tn, tc, ts, pa, n, cn, bs, ma, mn, mc, ms, ga, gn, gc, gs, frames, dog⟩) ((swL ts gl).map tpOf) (cpOf ⟨ta, tn, tc, ts, pa, n, cn, bs, ma, mn, mc, ms, ga, gn, gc, gs, frames, dog⟩).es from rfl)
              have M1 := hide (show mayC (cpOf ⟨a10, tn, c10, swL ts gl, pa, n, cn, bs, ma, mn, mc, ms, ga, gn, gc, gs, frames, dog⟩) = true from by
                rw [E1.out]; exact mayC_sw gl rfl HP2.out.symm)
              have M0 := hide (show mayC (cpOf cc) = true from HPP.out.symm)
              have SAME := hide (show ∀ (rs ss : List Int) (ok ok' : Bool), AdmT (cpOf cc) ok rs → AdmT (cpOf ⟨a10, tn, c10, swL ts gl, pa, n, cn, bs, ma, mn, mc, ms, ga, gn, gc, gs, frames, dog⟩) ok' ss → ok = ok' ∧ rs = ss from fun rs ss ok ok' h h' => by
                have l1 : LessC (cpOf ⟨a10, tn, c10, swL ts gl, pa, n, cn, bs, ma, mn, mc, ms, ga, gn, gc, gs, frames, dog⟩) (cpOf cc) := by rw [HC.out]; exact ⟨(swL_less ts gl).1, rfl, rfl, rfl⟩
                have l2 : LessC (cpOf cc) (cpOf ⟨a10, tn, c10, swL ts gl, pa, n, cn, bs, ma, mn, mc, ms, ga, gn, gc, gs, frames, dog⟩) := by rw [HC.out]; exact ⟨(swL_less ts gl).2, rfl, rfl, rfl⟩
                exact admit_same l1 l2 M0.out M1.out h h')
              have A1 := hide (show Calls Try.prog 9 #[.agg #[.slice ta tn tc, .slice ea en ec, .slice ma mn mc, .slice ga gn gc, .int .i64 frames, .int .i64 dog]] wr fun e w' => ∃ a c ok rs, e = .returned (.tuple #[.bool ok, .slice a rs.length c]) ∧ AdmT (cpOf cc) ok rs ∧ Ints .i64 w' a rs.length rs ∧ rs.length ≤ 100 ∧ Below wr.heap.size wr w' from by
                have h := CC.out.adm wr cc (by rw [HC.out]; exact (F.out.below B0.out).below BW.out) GC.out
                rw [HC.out] at h ⊢
                refine h.mono ?_
                rintro e w' ⟨v, ok, rs, rfl, h1, h2, h3⟩
                obtain ⟨a, c, rfl, hI, _⟩ := own_ints h2
                refine ⟨a, c, ok, rs, rfl, h1, hI, ?_, h3⟩
                rcases h1 with ⟨_, _, e, _⟩ | ⟨_, e, _⟩
                · rw [e]; show (ts.map tpOf).length ≤ 100; rw [List.length_map]; have := TL.out; omega
                · rw [e]; simp)
              have A2 := hide (show ∀ Y : World, Below wr.heap.size wr Y → Calls Try.prog 9 #[.agg #[.slice a10 tn c10, .slice pa n cn, .slice ma mn mc, .slice ga gn gc, .int .i64 frames, .int .i64 dog]] Y fun e w' => ∃ a c ok rs, e = .returned (.tuple #[.bool ok, .slice a rs.length c]) ∧ AdmT (cpOf ⟨a10, tn, c10, swL ts gl, pa, n, cn, bs, ma, mn, mc, ms, ga, gn, gc, gs, frames, dog⟩) ok rs ∧ Ints .i64 w' a rs.length rs ∧ Below Y.heap.size Y w' from fun Y b => by
                refine (CC.out.adm Y ⟨a10, tn, c10, swL ts gl, pa, n, cn, bs, ma, mn, mc, ms, ga, gn, gc, gs, frames, dog⟩ (F1.out.below b) (great_sub (c := ⟨ta, tn, tc, ts, pa, n, cn, bs, ma, mn, mc, ms, ga, gn, gc, gs, frames, dog⟩) HG2.out.symm (Nat.le_refl _) (fun t ht hb => by
                  rcases swL_mem ts gl t ht with ht | ⟨u, hu, g, _, rfl⟩
                  · exact List.any_eq_true.2 ⟨t, ht, hb⟩
                  · exact List.any_eq_true.2 ⟨u, hu, big_sw u g hb⟩))).mono ?_
                rintro e w' ⟨v, ok, rs, rfl, h1, h2, h3⟩
                obtain ⟨a, c, rfl, hI, _⟩ := own_ints h2
                exact ⟨a, c, ok, rs, rfl, h1, hI, h3⟩)
              have SDX := hide (show ∀ Y : World, Below wr.heap.size wr Y → Y.cell? ⟨XD, 0, none⟩ = some (.slice a10 tn c10) ∧ Y.cell? ⟨XD, 1, none⟩ = some (.slice pa n cn) ∧ Y.cell? ⟨XD, 2, none⟩ = some (.slice ma mn mc) ∧ Y.cell? ⟨XD, 3, none⟩ = some (.slice ga gn gc) ∧ Y.cell? ⟨XD, 4, none⟩ = some (.int .i64 frames) ∧ Y.cell? ⟨XD, 5, none⟩ = some (.int .i64 dog) from fun Y b => by
                have e := (b.block _ (lt_of_heap D.out)).trans D.out
                refine ⟨?_, ?_, ?_, ?_, ?_, ?_⟩ <;> (rw [cell_of_row _ _ _ _ _ _ e]; rfl))
              clear e0
              obtain ⟨k0, k1, k2, k3, k4, k5⟩ := SC.out wr BW.out
              obtain ⟨e0, _⟩ := SDX.out wr (Below.refl _ _)
              go_upto_region 13 with (go_at_call 9; refine A1.out.mono ?_; rintro e w12 ⟨a1, c1, ok1, rs1, rfl, h1, h2, h3, h4⟩; have AT1 := hide h1; have I1 := hide h2; have R1 := hide h3; have B12 := hide h4; clear h1 h2 h3 h4)
              clear k0 k1 k2 k3 k4 k5 e0
              obtain ⟨e0, e1, e2, e3, e4, e5⟩ := SDX.out w12 B12.out
              go_upto_region 14 with (go_at_call 9; refine (A2.out _ B12.out).mono ?_; rintro e w13 ⟨a2, c2, ok2, rs2, rfl, h1, h2, h3⟩; have AT2 := hide h1; have I2 := hide h2; have B13 := hide h3; clear h1 h2 h3)
              clear e0 e1 e2 e3 e4 e5
              obtain ⟨rfl, rfl⟩ := SAME.out _ _ _ _ AT1.out AT2.out
              obtain ⟨m, hm⟩ : ∃ m, m = rs1.length := ⟨_, rfl⟩
              have SM := hide (show Calls Try.prog 12 #[.slice a1 rs1.length c1, .slice a2 rs1.length c2] w13 fun e w' => e = .returned (.bool true) ∧ Below w13.heap.size w13 w' from by
                have h0 := same_any a1 a2 rs1.length c1 c2 rs1 w13 (I1.out.below B13.out) I2.out (by have := R1.out; omega)
                exact h0.mono (by rintro e w' ⟨rfl, h⟩; exact ⟨rfl, by first | exact h | (rw [h]; exact Below.refl _ _) | (rw [← h]; exact Below.refl _ _)⟩))
              rw [← hm] at SM ⊢
              clear hm
              have BZ := hide (BW.out.trans ((B12.out.trans (B13.out.mono B12.out.size)).mono BW.out.size))
              cases ok1 with
              | true =>
                go_wp2_with (first
                  | (go_at_call 12; refine SM.out.mono ?_; rintro e w14 ⟨rfl, b14⟩; have B14 := hide (BZ.out.trans (b14.mono BZ.out.size)); clear b14)
                  | (go_at_call 8; refine (AW.out _).mono ?_; rintro e w15 ⟨rfl, b15⟩; have B15 := hide (B0.out.trans ((B14.out.trans (b15.mono B14.out.size)).mono B0.out.size)); clear b15))
                go_ret
                exact ⟨rfl, B15.out⟩
              | false =>
                go_wp2_with (first
                  | (go_at_call 12; refine SM.out.mono ?_; rintro e w14 ⟨rfl, b14⟩; have B14 := hide (BZ.out.trans (b14.mono BZ.out.size)); clear b14)
                  | (go_at_call 8; refine (AW.out _).mono ?_; rintro e w15 ⟨rfl, b15⟩; have B15 := hide (B0.out.trans ((B14.out.trans (b15.mono B14.out.size)).mono B0.out.size)); clear b15))
                go_ret
                exact ⟨rfl, B15.out⟩
end Go.Proofs.Ytcmgkjjkhfcedaa
/-
  The walk of AdmitBest, over the program's own admit.
-/
namespace Go.Proofs.Ytcmgkjjkhfcedaa
open Go.ChangeShapes Go.WideShapes Go.ChangeAt Go.RowKit
set_option linter.unusedVariables false
theorem walk_admitBest (w : World) (c : Cf) (hc : CfFit w c) (pa : Option Addr) (n cn : Nat) (es : List Ef) (hin : Came 2 efVals EfFit w pa n cn es) :
    Calls Try.prog 4 #[.agg (cfVals c).toArray, .slice pa n cn] w fun e w' => e = .returned (.bool true) ∧ Below w.heap.size w w' := walk_admitBestC padmit w c hc pa n cn es hin
end Go.Proofs.Ytcmgkjjkhfcedaa
/-
  Proved: for every input, coxswain's law coxswainlaw18.AdmitBest returns true and leaves its arguments as they were. No condition.
-/
namespace Go.Proofs.Ytcmgkjjkhfcedaa.admitBest
open Go.ChangeShapes Go.WideShapes Go.ChangeAt Go.RowKit
open Go.ChangeMaps (open_string shut_string)
set_option linter.unusedVariables false

set_option maxRecDepth 100000 in
theorem lifted (os : Os) (started : os.Started) (H : Type) (enc : TypeId × Value → H) :
    ReturnsInHanded {} Try.checked os 4 .any (Rows.admitBestSpec.pre6 enc Try.prog Try.f4 Rows.admitBestRow.domain false) (Rows.admitBestSpec.post enc Try.prog Try.f4 false true false false) := by
  refine returnsInHanded_of_change (C := Try.checked) own started (by kernel_rfl) Try.func4
    (ChangeSpec.witness6 (enc := enc) (C := Try.checked) false ⟨#[], #[.agg #[.slice none 0 0, .slice none 0 0, .slice none 0 0, .slice none 0 0, .int .i64 0, .int .i64 0], .slice none 0 0], []⟩ 8 (by kernel_rfl) (by kernel_rfl) (by kernel_rfl) (by kernel_rfl)) ?_
  intro W base args ds gs before hval0 hW hcnd _
  have hval : ∀ (j : Nat) t v, Try.f4.params[j]? = some t → args[j]? = some v → Value.okWide Try.prog W .any base t v := hval0
  have hW' := hW
  obtain ⟨p, q, hA0, hV, rfl, hfz, hnd⟩ := hW
  have hA : DataW.TrodAll enc Try.prog W 0 (fun _ => true) true Try.f4.params.toList args.toList ds p := hA0
  rw [Try.params4] at hA hval
  obtain ⟨v0, vs0, d0, ds0, p0, q0, hargs, rfl, rfl, h0, r0⟩ := trodAll_cons hA
  obtain ⟨v1, vs1, d1, ds1, p1, q1, rfl, rfl, rfl, h1, r1⟩ := trodAll_cons r0
  obtain ⟨rfl, rfl, rfl⟩ := trodAll_nil r1
  obtain rfl : args = #[v0, v1] := by cases args; simp_all
  obtain ⟨rfl, rfl⟩ := trodVars_none hV
  have k0 := h0
  have lt0 : ∀ x ∈ p0, x.block < W.heap.size := by obtain ⟨m, hm⟩ := k0; exact DataW.trod_lt m _ _ _ hm
  obtain ⟨z0, rfl, w0⟩ := struct_arg Try.underlying27 (by kernel_rfl) (hval 0 27 v0 rfl rfl) cf_open h0
  have k1 := h1
  have lt1 : ∀ x ∈ p1, x.block < W.heap.size := by obtain ⟨m, hm⟩ := k1; exact DataW.trod_lt m _ _ _ hm
  obtain ⟨a1, l1, c1, rfl⟩ := okWide_slice Try.underlying23 (hval 1 23 v1 rfl rfl)
  obtain ⟨z1, w1⟩ := came_arg Try.underlying23 (by kernel_rfl) (by decide) efVals_len ef_open h1
  clear hA0 hval0
  refine (walk_admitBest W z0 w0 a1 l1 c1 z1 w1).mono fun e W' ⟨he, bel⟩ => ?_
  subst he
  exact ⟨_, rfl, _, _, _, [], _, [], hW', trodAll_mk1 (shut_bool Try.underlying4 _), (trodAll_cons_mk (Below.trod laidOut (by kernel_rfl) (of_decide_eq_true (by kernel_rfl)) k0 bel lt0) (trodAll_cons_mk (Below.trod laidOut (by kernel_rfl) (of_decide_eq_true (by kernel_rfl)) k1 bel lt1) trodAll_mk0)), rfl, bel.frame _, fun h => by cases h⟩

theorem over : Rows.admitBestRow.holds Try.pinned (OpenSpec.ofChange Rows.admitBestSpec) :=
  OpenClaim.holds_of_wide 4 Try.f4 rfl rfl rfl rfl rfl rfl rfl ⟨rfl, rfl, rfl, rfl, rfl⟩ rfl rfl rfl rfl rfl (by kernel_rfl) Try.func4 (by kernel_rfl)
    (of_decide_eq_true (by kernel_rfl)) (by unfold Func.isWrapper; rw [if_neg (of_decide_eq_false (by kernel_rfl))]; exact ⟨rfl, rfl⟩)
    (fun os started H enc _ => lifted os started H enc)

/-- The statement. -/
theorem proved : Rows.AdmitBestSaid := over
end Go.Proofs.Ytcmgkjjkhfcedaa.admitBest
