/-
  What the walks lean on, part 8: AdRefI AdBlocks AdLessW AdBestW PrRefs RowsIn PrRefsB PrMax PrLend PrSame PrBoth.
-/
import Derived.Deep.DeepCutAuto
import Derived.Deep.RegionHeld3
import Derived.Deep.QuietTactic
import Derived.BigQuiet
import Derived.Deep.CutBlock
import Derived.Deep.Slices
import Derived.Deep.Fields
import Derived.ChangeSame
import Derived.Deep.AppendLies
import Derived.Deep.RegionLaw
import Derived.Test.YtcmgkjjkhfcedaaGreatPk07
/-
  The document's own admit (coxswainref18): Admit (written by tools/gen/adrefi.py).
-/
namespace Go.Proofs.YtcmgkjjkhfcedaaGreat
open Go.ChangeShapes Go.WideShapes Go.ChangeAt Go.RowKit
set_option linter.unusedVariables false
set_option linter.unusedSimpArgs false
/-- What Admit of the document answers, as one word. -/
def AdmOk (c : Cp) (w : World) (e : Ending) (w' : World) : Prop := ∃ v ok rs, e = .returned (.tuple #[.bool ok, v]) ∧ AdmT c ok rs ∧ w'.ownsRow w.heap.size 3 1 v rs.length (rs.map (Value.int .i64)) ∧ Below w.heap.size w w'
theorem AdmOk.no {c : Cp} {w w' : World} (h : ¬ (mayC c = true ∧ ∀ i a, c.ts[i]? = some a → (∃ r, RespT c i a r true) ∧ okT c a = true)) (b : Below w.heap.size w w') : AdmOk c w (.returned (.tuple #[.bool false, .slice none 0 0])) w' := by
  unfold AdmOk
  exact ⟨_, false, [], rfl, .inr ⟨rfl, rfl, h⟩, World.ownsRow_nil _ _ _ _, b⟩
theorem AdmOk.yes {c : Cp} {w w' : World} {v : Value} {rs : List Int} (hm : mayC c = true) (hl : rs.length = c.ts.length) (h : ∀ (i : Nat) (a : Tp) (r : Int), c.ts[i]? = some a → rs[i]? = some r → RespT c i a r true ∧ okT c a = true) (o : w'.ownsRow w.heap.size 3 1 v rs.length (rs.map (Value.int .i64))) (b : Below w.heap.size w w') : AdmOk c w (.returned (.tuple #[.bool true, v])) w' := by
  unfold AdmOk
  exact ⟨v, true, rs, rfl, .inl ⟨rfl, hm, hl, h⟩, o, b⟩
theorem respC_get {c : Cp} (hm : mayC c = true) {i : Nat} {a : Tp} (ha : c.ts[i]? = some a) {r : Int} {ok : Bool} (h : RespC c (i : Int) r ok) : ∃ r0, RespT c i a r0 ok ∧ r = (if ok then r0 else 0) := by
  unfold RespC at h
  rw [if_pos ⟨hm, by omega⟩, Int.toNat_natCast, ha] at h
  exact h
set_option maxRecDepth 20000 in
set_option maxHeartbeats 8000000 in
theorem radm18_any (w : World) (c : Cf) (hc : CfFit w c) (hg : greatCf c = false) :
    Calls Tryz.prog 15 #[.agg (cfVals c).toArray] w fun e w' => AdmOk (cpOf c) w e w' := by
  obtain ⟨cc, hcc⟩ : ∃ cc, cc = c := ⟨_, rfl⟩
  have HC := hide hcc
  have HG := hide (show greatCf cc = false from by rw [hcc]; exact hg)
  have FC := hide (show CfFit w cc from by rw [hcc]; exact hc)
  obtain ⟨ta, tn, tc, ts, ea, en, ec, es, ma, mn, mc, ms, ga, gn, gc, gs, frames, dog⟩ := c
  show Calls Tryz.prog 15 #[.agg #[.slice ta tn tc, .slice ea en ec, .slice ma mn mc, .slice ga gn gc, .int .i64 frames, .int .i64 dog]] w _
  have F := hide hc
  have bounds : tn ≤ 12 ∧ en ≤ 12 ∧ mn ≤ 12 ∧ gn ≤ 12 ∧ ∀ t ∈ ts, t.un ≤ 12 := by
    unfold greatCf at hg
    simp only [Bool.or_eq_false_iff, decide_eq_false_iff_not] at hg
    refine ⟨by omega, by omega, by omega, by omega, fun t ht => ?_⟩
    have h := hg.1.2
    cases e : bigTk t
    · unfold bigTk at e
      simp only [Bool.or_eq_false_iff, decide_eq_false_iff_not] at e
      omega
    · rw [List.any_eq_true.2 ⟨t, ht, e⟩] at h; cases h
  obtain ⟨tn12, en12, mn12, gn12, hun⟩ := bounds
  have HUN := hide hun
  have TN := hide tn12
  have MN := hide mn12
  have GN := hide gn12
  have RT := hide F.out.tasks.reads
  have TL := hide (show ts.length = tn from RT.out.1)
  obtain ⟨W0, hW⟩ : ∃ W0, W0 = w.alloc (.cells #[.slice ta tn tc, .slice ea en ec, .slice ma mn mc, .slice ga gn gc, .int .i64 frames, .int .i64 dog] 27) := ⟨_, rfl⟩
  have hb := heap_alloc_new w (.cells #[.slice ta tn tc, .slice ea en ec, .slice ma mn mc, .slice ga gn gc, .int .i64 frames, .int .i64 dog] 27)
  have B0 := hide ((Below.refl w.heap.size w).alloc (Nat.le_refl _) (.cells #[.slice ta tn tc, .slice ea en ec, .slice ma mn mc, .slice ga gn gc, .int .i64 frames, .int .i64 dog] 27))
  rw [← hW] at hb B0
  have SC := hide (show ∀ Y : World, Below W0.heap.size W0 Y → Y.cell? ⟨w.heap.size, 0, none⟩ = some (.slice ta tn tc) ∧ Y.cell? ⟨w.heap.size, 1, none⟩ = some (.slice ea en ec) ∧ Y.cell? ⟨w.heap.size, 2, none⟩ = some (.slice ma mn mc) ∧ Y.cell? ⟨w.heap.size, 3, none⟩ = some (.slice ga gn gc) ∧ Y.cell? ⟨w.heap.size, 4, none⟩ = some (.int .i64 frames) ∧ Y.cell? ⟨w.heap.size, 5, none⟩ = some (.int .i64 dog) from fun Y b => by
    have e := (b.block _ (lt_of_heap hb)).trans hb
    refine ⟨?_, ?_, ?_, ?_, ?_, ?_⟩ <;> (rw [cell_of_row _ _ _ _ _ _ e]; rfl))
  have HW := hide hW
  have CI := hide (show ∀ Y : World, Below W0.heap.size W0 Y → CfFit Y cc from fun Y b => (FC.out.below B0.out).below b)
  clear hcc hc hg hun hW hb tn12 en12 mn12 gn12
  rw [← HC.out]
  have GG := hide (show gs.length = gn from F.out.gaps.reads.1)
  have RGG := F.out.gaps.reads
  have RG := hide RGG
  clear RGG
  obtain ⟨q, hq⟩ : ∃ q, q = mayC (cpOf cc) := ⟨_, rfl⟩
  have MY := hide (show Calls Tryz.prog 7 #[.agg #[.slice ta tn tc, .slice ea en ec, .slice ma mn mc, .slice ga gn gc, .int .i64 frames, .int .i64 dog]] W0 fun e w' => e = .returned (.bool q) ∧ Below W0.heap.size W0 w' from by
    have h := rmayC_any W0 cc (CI.out W0 (Below.refl _ _)) HG.out
    rw [← hq, HC.out] at h
    exact h)
  have HQ := hide hq
  clear hq
  cases q with
  | false =>
    have NO := hide (show ¬ (mayC (cpOf cc) = true ∧ ∀ i a, (cpOf cc).ts[i]? = some a → (∃ r, RespT (cpOf cc) i a r true) ∧ okT (cpOf cc) a = true) from fun h => by rw [← HQ.out] at h; exact absurd h.1 (by simp))
    go_enter Tryz.func15, Tryz.ntmps15
    go_upto_region 1 with fail
    rw [← HW.out]
    obtain ⟨k0, k1, k2, k3, k4, k5⟩ := SC.out W0 (Below.refl _ _)
    go_wp2_with (go_at_call 7; refine MY.out.mono ?_; rintro e w1 ⟨rfl, b1⟩; have B1 := hide (B0.out.trans (b1.mono B0.out.size)); clear b1)
    exact bodyPost_ret (v := .tuple #[.bool false, .slice none 0 0]) (by simp [results, Tryz.results15, go_sem]) rfl (AdmOk.no NO.out B1.out)
  | true =>
    have HM := hide HQ.out.symm
    obtain ⟨i0, hi0, hz0, hz1, hz2⟩ := info_parts int_info18
    have I0 := hide (show Tryz.prog.info? 3 = some i0 ∧ i0.zero = some _ ∧ i0.size = 1 ∧ i0.bytes = 8 from ⟨hi0, hz0, hz1, hz2⟩)
    clear hi0 hz0 hz1 hz2
    go_enter Tryz.func15, Tryz.ntmps15
    go_upto_region 1 with fail
    rw [← HW.out]
    obtain ⟨k0, k1, k2, k3, k4, k5⟩ := SC.out W0 (Below.refl _ _)
    go_wp2_with (go_at_call 7; refine MY.out.mono ?_; rintro e w1 ⟨rfl, b1⟩; have B1 := hide b1; clear b1)
    clear k0 k1 k2 k3 k4 k5
    go_loopw [4, 5] (fun v kv wr => ∃ k : Nat, k ≤ tn ∧ kv = .int .i64 (k : Int) ∧ Hid (∃ rs : List Int, rs.length = k ∧ wr.ownsRow W0.heap.size 3 1 v k (rs.map (Value.int .i64)) ∧ (∀ (j : Nat) (a : Tp) (r : Int), (cpOf cc).ts[j]? = some a → rs[j]? = some r → RespT (cpOf cc) j a r true ∧ okT (cpOf cc) a = true) ∧ Below W0.heap.size W0 wr)) (fun _ kv _ => tn - (intOf kv).toNat)
    case atStart => exact ⟨0, Nat.zero_le _, rfl, [], rfl, World.ownsRow_nil _ _ _ _, (fun j a r _ h => by cases h), B1.out⟩
    case round =>
      obtain ⟨k, hk, rfl, hZ⟩ := hrel
      rename World => wr
      obtain ⟨rs, hrl, ho, hall, hb⟩ := hZ.out
      have RL := hide hrl
      have O := hide ho
      have ALL := hide hall
      have B := hide hb
      clear hZ hrl ho hall hb
      obtain ⟨k0, k1, k2, k3, k4, k5⟩ := SC.out wr B.out
      by_cases hlt : k < tn
      · have j0' : (0 : Int) ≤ (k : Int) := by omega
        have j1 : (k : Int) < (tn : Int) := by omega
        have TNN := TN.out
        obtain ⟨y, bt, ot, hy, rfl, _⟩ := RT.out.at_ hlt
        obtain ⟨y_cls, y_lev, y_per, y_dl, y_bud, y_line, y_ua, y_un, y_uc, y_us, y_qa, y_qn, y_qc, y_qs⟩ := y
        have CX := hide (show ∀ W : World, Below W0.heap.size W0 W → W.cell? ⟨bt, ot + k * 8, none⟩ = some (.int .i64 y_cls) ∧ W.cell? ⟨bt, ot + k * 8 + 1, none⟩ = some (.int .i64 y_lev) ∧ W.cell? ⟨bt, ot + k * 8 + 2, none⟩ = some (.int .i64 y_per) ∧ W.cell? ⟨bt, ot + k * 8 + 3, none⟩ = some (.int .i64 y_dl) ∧ W.cell? ⟨bt, ot + k * 8 + 4, none⟩ = some (.int .i64 y_bud) ∧ W.cell? ⟨bt, ot + k * 8 + 5, none⟩ = some (.int .i64 y_line) ∧ W.cell? ⟨bt, ot + k * 8 + 6, none⟩ = some (.slice y_ua y_un y_uc) ∧ W.cell? ⟨bt, ot + k * 8 + 7, none⟩ = some (.slice y_qa y_qn y_qc) from fun W b => by
          have rx := tk_range (RT.out.below (B0.out.trans (b.mono B0.out.size))) hy
          exact ⟨rx 0 _ rfl, rx 1 _ rfl, rx 2 _ rfl, rx 3 _ rfl, rx 4 _ rfl, rx 5 _ rfl, rx 6 _ rfl, rx 7 _ rfl⟩)
        obtain ⟨yt, hyt⟩ : ∃ yt, yt = tpOf ⟨y_cls, y_lev, y_per, y_dl, y_bud, y_line, y_ua, y_un, y_uc, y_us, y_qa, y_qn, y_qc, y_qs⟩ := ⟨_, rfl⟩
        have ha : (cpOf cc).ts[k]? = some yt := by
          rw [HC.out, hyt]
          show (ts.map tpOf)[k]? = _
          rw [List.getElem?_map, hy]
          rfl
        have HA := hide ha
        have LB := hide (show -1 ≤ y_line ∧ y_line < (gn : Int) from by
          have h := (mayT_facts (mayC_task HM.out ha)).2.2.2.2
          rw [hyt] at h
          have h2 : (cpOf cc).gs.length = gn := by rw [HC.out]; exact GG.out
          rw [h2] at h
          exact h)
        have OKV := hide (show okT (cpOf cc) yt = (!(decide (0 ≤ y_line) && decide (gs.getD y_line.toNat 0 < y_per)) && decide (y_dl < dog)) from by
          rw [hyt, HC.out]; rfl)
        have NO := hide (show ¬ ((∃ r, RespT (cpOf cc) k yt r true) ∧ okT (cpOf cc) yt = true) → ¬ (mayC (cpOf cc) = true ∧ ∀ i a, (cpOf cc).ts[i]? = some a → (∃ r, RespT (cpOf cc) i a r true) ∧ okT (cpOf cc) a = true) from fun h hh => h (hh.2 k yt HA.out))
        have RS := hide (show ∀ Y : World, Below W0.heap.size W0 Y → Calls Tryz.prog 13 #[.agg #[.slice (some ⟨bt, ot, none⟩) tn tc, .slice ea en ec, .slice ma mn mc, .slice ga gn gc, .int .i64 frames, .int .i64 dog], .int .i64 (k : Int)] Y fun e w' => RespOk (cpOf cc) (k : Int) Y e w' from fun Y b => by
          have h := rresp18_any Y cc (CI.out Y b) HG.out (k : Int)
          rw [HC.out] at h ⊢
          exact h)
        obtain ⟨t0, t1, t2, t3, t4, t5, t6, t7⟩ := CX.out wr B.out
        clear hy hyt ha
        go_upto_region 8 with fail
        clear k0 k1 k2 k3 k4 k5 t0 t1 t2 t3 t4 t5 t6 t7
        obtain ⟨P, hP⟩ : ∃ P, P = wr.heap.size := ⟨_, rfl⟩
        have hn2 := heap_alloc_new wr (.cells #[.int .i64 y_cls, .int .i64 y_lev, .int .i64 y_per, .int .i64 y_dl, .int .i64 y_bud, .int .i64 y_line, .slice y_ua y_un y_uc, .slice y_qa y_qn y_qc] 47)
        have b2 := B.out.alloc B.out.size (.cells #[.int .i64 y_cls, .int .i64 y_lev, .int .i64 y_per, .int .i64 y_dl, .int .i64 y_bud, .int .i64 y_line, .slice y_ua y_un y_uc, .slice y_qa y_qn y_qc] 47)
        have o2 := O.out.alloc (.cells #[.int .i64 y_cls, .int .i64 y_lev, .int .i64 y_per, .int .i64 y_dl, .int .i64 y_bud, .int .i64 y_line, .slice y_ua y_un y_uc, .slice y_qa y_qn y_qc] 47)
        obtain ⟨w2, hw2⟩ : ∃ w2, w2 = wr.alloc (.cells #[.int .i64 y_cls, .int .i64 y_lev, .int .i64 y_per, .int .i64 y_dl, .int .i64 y_bud, .int .i64 y_line, .slice y_ua y_un y_uc, .slice y_qa y_qn y_qc] 47) := ⟨_, rfl⟩
        rw [← hw2] at hn2 b2 o2 ⊢
        rw [← hP] at hn2 ⊢
        have B2 := hide b2
        have H2 := hide hn2
        have O2 := hide o2
        clear b2 hn2 o2 hw2 hP
        obtain ⟨k0, k1, k2, k3, k4, k5⟩ := SC.out w2 B2.out
        go_upto_region 9 with (go_at_call 13; refine (RS.out _ B2.out).mono ?_; intro e w3 hs; unfold RespOk at hs; obtain ⟨r, ok, rfl, hrc, b3⟩ := hs; have R3 := hide (respC_get HM.out HA.out hrc); have C3 := hide b3; clear hrc b3)
        clear k0 k1 k2 k3 k4 k5
        have B3 := hide (B2.out.trans (C3.out.mono B2.out.size))
        have O3 := hide ((Touch.of_below (S := fun _ => False) C3.out).own O2.out (fun _ _ e => e))
        have OD := hide (show ∀ m, (w3.drewN m).ownsRow W0.heap.size 3 1 _ k (rs.map (Value.int .i64)) from fun m => (Touch.of_below (S := fun _ => False) (below_drewN (Below.refl _ w3) m)).own O3.out (fun _ _ e => e))
        have BD := hide (show ∀ m, Below W0.heap.size W0 (w3.drewN m) from fun m => below_drewN B3.out m)
        have e5 := (C3.out.block _ (lt_of_heap H2.out)).trans H2.out
        have p2 : w3.cell? ⟨P, 2, none⟩ = some (.int .i64 y_per) := by rw [cell_of_row _ _ _ _ _ _ e5]; rfl
        have p3 : w3.cell? ⟨P, 3, none⟩ = some (.int .i64 y_dl) := by rw [cell_of_row _ _ _ _ _ _ e5]; rfl
        have p5 : w3.cell? ⟨P, 5, none⟩ = some (.int .i64 y_line) := by rw [cell_of_row _ _ _ _ _ _ e5]; rfl
        obtain ⟨k0, k1, k2, k3, k4, k5⟩ := SC.out w3 B3.out
        clear e5 O O2 k0 k1 k2 k4
        cases ok with
        | false =>
          have NN := hide (NO.out (fun h => by
            obtain ⟨r0, h0, _⟩ := R3.out
            obtain ⟨⟨r1, h1⟩, _⟩ := h
            exact absurd (h0.same h1).2 (by simp)))
          go_quiet (fail)
          go_wp2_with fail
          exact bodyPost_ret (v := .tuple #[.bool false, .slice none 0 0]) (by simp [results, Tryz.results15, go_sem]) rfl (AdmOk.no NN.out (B0.out.trans ((BD.out _).mono B0.out.size)))
        | true =>
          have R4 := hide (show RespT (cpOf cc) k yt r true from by obtain ⟨r0, h0, h1⟩ := R3.out; rw [h1]; exact h0)
          clear R3
          by_cases l0 : 0 ≤ y_line
          · obtain ⟨l, rfl⟩ : ∃ l : Nat, y_line = (l : Int) := ⟨y_line.toNat, by omega⟩
            have l1 : (l : Int) < (gn : Int) := LB.out.2
            obtain ⟨u, gb, go', hu, rfl, hcu⟩ := RG.out.at_ (show l < gn by omega)
            have cu : w3.cell? ⟨gb, go' + l, none⟩ = some (.int .i64 u) := by
              have h := hcu 0 _ rfl
              rw [Nat.mul_one, Nat.add_zero] at h
              exact ((B0.out.trans (B3.out.mono B0.out.size)).cell (lt_of_cell? h)).trans h
            have GU := hide (show gs.getD ((l : Int)).toNat 0 = u from by rw [Int.toNat_natCast, List.getD_eq_getElem?_getD, hu]; rfl)
            rw [GU.out] at OKV
            have GNN := GN.out
            clear hu hcu
            by_cases g0 : u < y_per
            · have NN := hide (NO.out (fun h => by
                have h2 := h.2
                rw [OKV.out, decide_eq_true l0, decide_eq_true g0] at h2
                cases h2))
              go_quiet (fail)
              go_wp2_with fail
              exact bodyPost_ret (v := .tuple #[.bool false, .slice none 0 0]) (by simp [results, Tryz.results15, go_sem]) rfl (AdmOk.no NN.out (B0.out.trans ((BD.out _).mono B0.out.size)))
            · by_cases d0 : dog ≤ y_dl
              · have NN := hide (NO.out (fun h => by
                  have h2 := h.2
                  rw [OKV.out, decide_eq_false (show ¬ y_dl < dog by omega), Bool.and_false] at h2
                  cases h2))
                go_quiet (fail)
                go_wp2_with fail
                exact bodyPost_ret (v := .tuple #[.bool false, .slice none 0 0]) (by simp [results, Tryz.results15, go_sem]) rfl (AdmOk.no NN.out (B0.out.trans ((BD.out _).mono B0.out.size)))
              · have OKT := hide (show okT (cpOf cc) yt = true from by
                  rw [OKV.out, decide_eq_false g0, decide_eq_true (show y_dl < dog by omega), Bool.and_false]; rfl)
                go_quiet (fail)
                go_wp2_with (at_builtin; refine wpList_append_reads rfl (.tmp 55) (.tmp 57) _ rfl W0.heap.size 3 i0 _ 8 Tryz.underlying25 I0.out.1 I0.out.2.1 I0.out.2.2.1 I0.out.2.2.2 rfl (by omega) _ k _ rfl ((OD.out _).alloc _) _ 1 _ [r] rfl nuVals_len nuVals_cell (reads_block (xs := [r]) nuVals_len (heap_alloc_new _ _)) (fun h => by cases h) (by unfold maxLen; omega) (by omega) ((BD.out _).alloc (BD.out _).size _).size ?_; intro v4 w4 o4 g4; have O4 := hide o4; have B4 := hide (show Below W0.heap.size W0 w4 from ((BD.out _).alloc (BD.out _).size _).grown g4 ((BD.out _).alloc (BD.out _).size _).size (fun j hj => (((OD.out 0).alloc (.cells #[] 0)).lt j hj).1)); clear o4 g4)
                go_roundw
                case rel => exact ⟨k + 1, by omega, by go_num, rs ++ [r], by rw [List.length_append, RL.out]; rfl, by rw [List.map_append]; exact O4.out, (fun j a r' h1 h2 => by
                    by_cases hj : j < k
                    · rw [List.getElem?_append_left (by rw [RL.out]; exact hj)] at h2
                      exact ALL.out j a r' h1 h2
                    · rw [List.getElem?_append_right (by rw [RL.out]; omega), RL.out] at h2
                      have hjk : j = k := by have := (List.getElem?_eq_some_iff.1 h2).1; simp at this; omega
                      subst hjk
                      rw [Nat.sub_self] at h2
                      injection h2 with h2
                      subst h2
                      rw [HA.out] at h1
                      injection h1 with h1
                      subst h1
                      exact ⟨R4.out, OKT.out⟩), B4.out⟩
                case measure => simp [intOf]; omega
          · have OKV2 := hide (show okT (cpOf cc) yt = decide (y_dl < dog) from by rw [OKV.out, decide_eq_false l0, Bool.false_and]; rfl)
            by_cases d0 : dog ≤ y_dl
            · have NN := hide (NO.out (fun h => by
                have h2 := h.2
                rw [OKV2.out, decide_eq_false (show ¬ y_dl < dog by omega)] at h2
                cases h2))
              go_quiet (fail)
              go_wp2_with fail
              exact bodyPost_ret (v := .tuple #[.bool false, .slice none 0 0]) (by simp [results, Tryz.results15, go_sem]) rfl (AdmOk.no NN.out (B0.out.trans ((BD.out _).mono B0.out.size)))
            · have OKT := hide (show okT (cpOf cc) yt = true from by rw [OKV2.out]; exact decide_eq_true (by omega))
              go_quiet (fail)
              go_wp2_with (at_builtin; refine wpList_append_reads rfl (.tmp 55) (.tmp 57) _ rfl W0.heap.size 3 i0 _ 8 Tryz.underlying25 I0.out.1 I0.out.2.1 I0.out.2.2.1 I0.out.2.2.2 rfl (by omega) _ k _ rfl ((OD.out _).alloc _) _ 1 _ [r] rfl nuVals_len nuVals_cell (reads_block (xs := [r]) nuVals_len (heap_alloc_new _ _)) (fun h => by cases h) (by unfold maxLen; omega) (by omega) ((BD.out _).alloc (BD.out _).size _).size ?_; intro v4 w4 o4 g4; have O4 := hide o4; have B4 := hide (show Below W0.heap.size W0 w4 from ((BD.out _).alloc (BD.out _).size _).grown g4 ((BD.out _).alloc (BD.out _).size _).size (fun j hj => (((OD.out 0).alloc (.cells #[] 0)).lt j hj).1)); clear o4 g4)
              go_roundw
              case rel => exact ⟨k + 1, by omega, by go_num, rs ++ [r], by rw [List.length_append, RL.out]; rfl, by rw [List.map_append]; exact O4.out, (fun j a r' h1 h2 => by
                  by_cases hj : j < k
                  · rw [List.getElem?_append_left (by rw [RL.out]; exact hj)] at h2
                    exact ALL.out j a r' h1 h2
                  · rw [List.getElem?_append_right (by rw [RL.out]; omega), RL.out] at h2
                    have hjk : j = k := by have := (List.getElem?_eq_some_iff.1 h2).1; simp at this; omega
                    subst hjk
                    rw [Nat.sub_self] at h2
                    injection h2 with h2
                    subst h2
                    rw [HA.out] at h1
                    injection h1 with h1
                    subst h1
                    exact ⟨R4.out, OKT.out⟩), B4.out⟩
              case measure => simp [intOf]; omega
      · obtain rfl : tn = k := by omega
        have LL := hide (show rs.length = (cpOf cc).ts.length from by rw [HC.out]; show rs.length = (ts.map tpOf).length; rw [List.length_map, TL.out]; exact RL.out)
        go_wp2_with fail
        exact bodyPost_ret (v := .tuple #[.bool true, u4]) (by simp [results, Tryz.results15, go_sem]) rfl (AdmOk.yes HM.out LL.out ALL.out (by rw [RL.out]; exact own_base O.out B0.out.size) (B0.out.trans (B.out.mono B0.out.size)))
end Go.Proofs.YtcmgkjjkhfcedaaGreat
/-
  The walk of AdmitBlocks, over the contracts of the program's admit.
-/
namespace Go.Proofs.YtcmgkjjkhfcedaaGreat
open Go.ChangeShapes Go.WideShapes Go.ChangeAt Go.RowKit
set_option linter.unusedVariables false
set_option linter.unusedSimpArgs false
def limS (ms : List Mu) (k : Nat) : Int := ((ms.take k).map (·.l)).sum
theorem limS_step {ms : List Mu} {k : Nat} {x : Mu} (h : ms[k]? = some x) : limS ms (k + 1) = limS ms k + x.l := by
  unfold limS
  rw [List.take_add_one, h, List.map_append, List.sum_append]
  simp
theorem limS_in {ms : List Mu} (hg : goodMu ms = true) : ∀ k, 0 ≤ limS ms k ∧ limS ms k ≤ 1000 * (k : Int) := by
  have hok : ∀ m ∈ ms, 1 ≤ m.l ∧ m.l ≤ 1000 := by
    intro m hm
    simp [goodMu] at hg
    have := hg.1 m hm
    simp [okMu] at this
    omega
  intro k
  induction k with
  | zero => simp [limS]
  | succ k ih =>
    cases h : ms[k]? with
    | none =>
      have h1 := List.getElem?_eq_none_iff.1 h
      have : limS ms (k + 1) = limS ms k := by unfold limS; rw [List.take_of_length_le (by omega), List.take_of_length_le h1]
      omega
    | some x =>
      have := hok x (List.mem_of_getElem? h)
      rw [limS_step h]
      omega
theorem mayC_mu {c : Cp} (h : mayC c = true) : goodMu c.ms = true := by
  unfold mayC at h
  simp only [Bool.and_eq_true] at h
  exact h.1.1.1.1.1.1.1.2
theorem alloc_second (w : World) (a b : Obj) : ((w.alloc a).alloc b).heap[w.heap.size + 1]? = some b := by
  have := heap_alloc_new (w.alloc a) b
  simpa using this
theorem Reads.range {w : World} {b off n : Nat} {ts : List Tk} (h : Reads 8 tkVals w (some ⟨b, off, none⟩) n ts) {i : Nat} {t : Tk} (ht : ts[i]? = some t) : w.rangeAt b (off + i * 8) (tkVals t) := by
  have hi : i < n := by rw [← h.1]; exact (List.getElem?_eq_some_iff.1 ht).1
  obtain ⟨x, b', off', hx, e, hc⟩ := h.at_ hi
  injection e with e
  injection e with e1 e2
  subst e1 e2
  rw [ht] at hx
  injection hx with hx
  subst hx
  exact hc
end Go.Proofs.YtcmgkjjkhfcedaaGreat
/-
  The walk of AdmitLess, over the contracts of the program's admit (written by tools/gen/adless.py).
-/
namespace Go.Proofs.YtcmgkjjkhfcedaaGreat
open Go.ChangeShapes Go.WideShapes Go.ChangeAt Go.RowKit
set_option linter.unusedVariables false
set_option linter.unusedSimpArgs false
theorem own_slice2 {w : World} {B : Nat} {e : TypeId} {z n : Nat} {v : Value} {xs : List Value} (h : w.ownsRow B e z v n xs) : ∃ a c, v = .slice a n c := by
  rcases h.2 with ⟨rfl, rfl⟩ | ⟨g, cap, cur, rfl, _⟩
  · exact ⟨none, 0, rfl⟩
  · exact ⟨_, _, rfl⟩
theorem task_info : (Tryz.prog.info? 47).map (fun i => (i.zero, i.size, i.bytes)) = some (some (.agg #[.int .i64 0, .int .i64 0, .int .i64 0, .int .i64 0, .int .i64 0, .int .i64 0, .slice none 0 0, .slice none 0 0]), 8, 96) := by kernel_rfl
theorem map_erase {α β : Type} (f : α → β) : ∀ (l : List α) (k : Nat), (l.eraseIdx k).map f = (l.map f).eraseIdx k
  | [], k => by simp
  | a :: l, 0 => rfl
  | a :: l, k + 1 => by show f a :: (l.eraseIdx k).map f = f a :: (l.map f).eraseIdx k; rw [map_erase f l k]
theorem own_some {w : World} {B : Nat} {e : TypeId} {z n : Nat} {v : Value} {xs : List Value} (h : w.ownsRow B e z v n xs) (hn : 0 < n) : ∃ g c, v = .slice (some ⟨g, 0, none⟩) n c := by
  rcases h.2 with ⟨rfl, rfl⟩ | ⟨g, cap, cur, rfl, _⟩
  · omega
  · exact ⟨g, _, rfl⟩
def oneTk (t : Tk) : Tk := ⟨t.cls, t.lev, t.per, t.dl, 1, t.line, t.ua, t.un, t.uc, t.us, t.qa, t.qn, t.qc, t.qs⟩
theorem map_one : ∀ (l : List Tk) (k : Nat) (t : Tk), l[k]? = some t → (l.set k (oneTk t)).map tpOf = (l.map tpOf).modify k one1
  | [], k, t, h => by cases h
  | a :: l, 0, t, h => by injection h with h; subst h; rfl
  | a :: l, k + 1, t, h => by show tpOf a :: (l.set k (oneTk t)).map tpOf = tpOf a :: (l.map tpOf).modify k one1; rw [map_one l k t (by simpa using h)]
theorem flat_one : ∀ (l : List Tk) (k : Nat) (t : Tk), l[k]? = some t → (l.flatMap tkVals).set (k * 8 + 4) (.int .i64 1) = (l.set k (oneTk t)).flatMap tkVals
  | [], k, t, h => by cases h
  | a :: l, 0, t, h => by injection h with h; subst h; rfl
  | a :: l, k + 1, t, h => by
    rw [List.flatMap_cons, List.set_cons_succ, List.flatMap_cons, ← flat_one l k t (by simpa using h), show (k + 1) * 8 + 4 = (tkVals a).length + (k * 8 + 4) from by rw [tkVals_len]; omega, List.set_append_right _ _ (by omega), Nat.add_sub_cancel_left]
theorem own_set {w : World} {B g n c z p : Nat} {e : TypeId} {xs : List Value} (h : w.ownsRow B e z (.slice (some ⟨g, 0, none⟩) n c) n xs) (u : Value) : (w.setCell ⟨g, p, none⟩ u).ownsRow B e z (.slice (some ⟨g, 0, none⟩) n c) n (xs.set p u) := by
  obtain ⟨h1, h2⟩ := h
  rcases h2 with ⟨e1, _⟩ | ⟨g', cap, cur, e1, e2, e3, e4, e5, e6, e7⟩
  · cases e1
  · injection e1 with e1 _ e8
    injection e1 with e1
    injection e1 with e1
    subst e1 e8
    refine ⟨by simp [h1], .inr ⟨g, c, _, rfl, e2, heap_setCell_same _ _ _ _ _ _ e3, e4, e5, by simp [e6], ?_⟩⟩
    rw [Array.toList_setIfInBounds, List.take_set, e7]
theorem great_sub {c : Cf} {a : Option Addr} {n k : Nat} {ts : List Tk} (h : greatCf c = false) (hn : n ≤ c.tn) (hs : ∀ t ∈ ts, bigTk t = true → c.ts.any bigTk = true) : greatCf ⟨a, n, k, ts, c.ea, c.en, c.ec, c.es, c.ma, c.mn, c.mc, c.ms, c.ga, c.gn, c.gc, c.gs, c.frames, c.dog⟩ = false := by
  unfold greatCf at *
  simp only [Bool.or_eq_false_iff, decide_eq_false_iff_not] at h ⊢
  obtain ⟨⟨⟨⟨⟨h1, h2⟩, h3⟩, h4⟩, h5⟩, h6⟩ := h
  refine ⟨⟨⟨⟨⟨by omega, h2⟩, h3⟩, h4⟩, any_no fun i x hx => ?_⟩, h6⟩
  cases e : bigTk x
  · rfl
  · have := hs x (List.mem_of_getElem? hx) e
    rw [h5] at this; cases this
end Go.Proofs.YtcmgkjjkhfcedaaGreat
/-
  The walk of AdmitBest, over the contracts of the program's admit (written by tools/gen/adbest.py).
-/
namespace Go.Proofs.YtcmgkjjkhfcedaaGreat
open Go.ChangeShapes Go.WideShapes Go.ChangeAt Go.RowKit
set_option linter.unusedVariables false
set_option linter.unusedSimpArgs false
def jmpSt : Step := ⟨5, 0, 0, 0, ⟨0, 0, 0, ByteArray.empty, ByteArray.empty⟩⟩
theorem built_jmp : Tryz.prog.built 98 [(0, .int .i64 5)] = some #[.int .i64 5, .int .i64 0, .int .i64 0, .int .i64 0, .int .i64 0, .int .i64 0, .int .i64 0, .string ByteArray.empty, .string ByteArray.empty] := by kernel_rfl
/-- A task with another program. -/
def swT (t : Tk) (g : Nat) : Tk := ⟨t.cls, t.lev, t.per, t.dl, t.bud, t.line, t.ua, t.un, t.uc, t.us, some ⟨g, 0, none⟩, 1, 1, [jmpSt]⟩
def swL : List Tk → List Nat → List Tk
  | t :: ts, g :: gs => swT t g :: swL ts gs
  | ts, _ => ts
theorem swL_nil (ts : List Tk) : swL ts [] = ts := by cases ts <;> rfl
theorem swL_len : ∀ (ts : List Tk) (gs : List Nat), (swL ts gs).length = ts.length
  | [], _ => by simp [swL]
  | t :: ts, [] => by simp [swL]
  | t :: ts, g :: gs => by simp [swL, swL_len ts gs]
theorem swL_set : ∀ (ts : List Tk) (gs : List Nat) (t : Tk) (g : Nat), ts[gs.length]? = some t → (swL ts gs)[gs.length]? = some t ∧ swL ts (gs ++ [g]) = (swL ts gs).set gs.length (swT t g)
  | [], gs, t, g, h => by simp at h
  | a :: ts, [], t, g, h => by injection h with h; subst h; rw [swL_nil]; refine ⟨rfl, ?_⟩; show swT a g :: swL ts [] = _; rw [swL_nil]; rfl
  | a :: ts, b :: gs, t, g, h => by
    obtain ⟨h1, h2⟩ := swL_set ts gs t g (by simpa using h)
    refine ⟨by simpa [swL] using h1, ?_⟩
    show swT a b :: swL ts (gs ++ [g]) = _
    rw [h2]; rfl
theorem swL_mem : ∀ (ts : List Tk) (gs : List Nat) (x : Tk), x ∈ swL ts gs → x ∈ ts ∨ ∃ t ∈ ts, ∃ g ∈ gs, x = swT t g
  | [], gs, x, h => by simp [swL] at h
  | a :: ts, [], x, h => .inl h
  | a :: ts, b :: gs, x, h => by
    rcases List.mem_cons.1 (show x ∈ swT a b :: swL ts gs from h) with h | h
    · exact .inr ⟨a, List.mem_cons_self .., b, List.mem_cons_self .., h⟩
    · rcases swL_mem ts gs x h with h | ⟨t, ht, g, hg, e⟩
      · exact .inl (List.mem_cons_of_mem _ h)
      · exact .inr ⟨t, List.mem_cons_of_mem _ ht, g, List.mem_cons_of_mem _ hg, e⟩
theorem swL_less : ∀ (ts : List Tk) (gs : List Nat), LessL ((swL ts gs).map tpOf) (ts.map tpOf) ∧ LessL (ts.map tpOf) ((swL ts gs).map tpOf)
  | [], gs => by simp [swL, LessL]
  | a :: ts, [] => ⟨LessL.refl _, LessL.refl _⟩
  | a :: ts, b :: gs => ⟨⟨⟨rfl, rfl, rfl, rfl, rfl, rfl, Int.le_refl _⟩, (swL_less ts gs).1⟩, ⟨⟨rfl, rfl, rfl, rfl, rfl, rfl, Int.le_refl _⟩, (swL_less ts gs).2⟩⟩
theorem flat_sw : ∀ (l : List Tk) (k : Nat) (t : Tk) (g : Nat), l[k]? = some t → (l.flatMap tkVals).set (k * 8 + 7) (.slice (some ⟨g, 0, none⟩) 1 1) = (l.set k (swT t g)).flatMap tkVals
  | [], k, t, g, h => by cases h
  | a :: l, 0, t, g, h => by injection h with h; subst h; rfl
  | a :: l, k + 1, t, g, h => by
    rw [List.flatMap_cons, List.set_cons_succ, List.flatMap_cons, ← flat_sw l k t g (by simpa using h), show (k + 1) * 8 + 7 = (tkVals a).length + (k * 8 + 7) from by rw [tkVals_len]; omega, List.set_append_right _ _ (by omega), Nat.add_sub_cancel_left]
theorem mayC_sw {c : Cp} {ts : List Tk} (gs : List Nat) (hc : c.ts = ts.map tpOf) (h : mayC c = true) : mayC (withC c ((swL ts gs).map tpOf) c.es) = true := by
  have hl := (swL_less ts gs).1
  have hm := mayC_all h
  unfold mayC withC at *
  simp only [Bool.and_eq_true, decide_eq_true_eq] at h ⊢
  obtain ⟨⟨⟨⟨⟨⟨⟨⟨⟨h1, h2⟩, h3⟩, h4⟩, h5⟩, h6⟩, h7⟩, h8⟩, h9⟩, h10⟩ := h
  refine ⟨⟨⟨⟨⟨⟨⟨⟨⟨by rw [List.length_map, swL_len, ← List.length_map (f := tpOf), ← hc]; exact h1, h2⟩, h3⟩, h4⟩, h5⟩, h6⟩, h7⟩, List.all_eq_true.2 fun x hx => ?_⟩, by rw [apart_less hl, ← hc]; exact h9⟩, h10⟩
  obtain ⟨u, hu, rfl⟩ := List.mem_map.1 hx
  rcases swL_mem ts gs u hu with hu | ⟨t, ht, g, hg, rfl⟩
  · exact hm _ (by rw [hc]; exact List.mem_map.2 ⟨u, hu, rfl⟩)
  · have := hm (tpOf t) (by rw [hc]; exact List.mem_map.2 ⟨t, ht, rfl⟩)
    unfold mayT at this ⊢
    simp only [Bool.and_eq_true, decide_eq_true_eq] at this ⊢
    obtain ⟨⟨⟨⟨⟨⟨⟨q1, q2⟩, q3⟩, q4⟩, q5⟩, q6⟩, q7⟩, q8⟩ := this
    exact ⟨⟨⟨⟨⟨⟨⟨q1, q2⟩, q3⟩, q4⟩, q5⟩, q6⟩, by show 1 ≤ 40; omega⟩, q8⟩
theorem big_sw (t : Tk) (g : Nat) (h : bigTk (swT t g) = true) : bigTk t = true := by
  have e : bigTk (swT t g) = (decide (12 < t.un) || greatB [jmpSt]) := rfl
  have e2 : greatB [jmpSt] = false := by decide
  rw [e, e2, Bool.or_false] at h
  unfold bigTk
  rw [h]; rfl
theorem jmp_came {w : World} {g : Nat} (h : w.heap[g]? = some (.cells #[.int .i64 5, .int .i64 0, .int .i64 0, .int .i64 0, .int .i64 0, .int .i64 0, .int .i64 0, .string ByteArray.empty, .string ByteArray.empty] 98 (0, 0))) : Came 9 stVals StWf w (some ⟨g, 0, none⟩) 1 1 [jmpSt] := by
  refine ⟨rfl, Nat.le_refl _, by unfold maxLen; omega, (fun e => by cases e), (fun z hz => by rw [List.mem_singleton.1 hz]; exact ⟨by decide, by decide, by decide, by decide, by decide, by decide, by decide, by decide, by decide⟩), fun _ => ⟨g, 0, rfl, lt_of_heap h, fun i z hz j u hu => ?_⟩⟩
  have hi : i = 0 := by have := (List.getElem?_eq_some_iff.1 hz).1; simp at this; omega
  subst hi
  injection hz with hz
  subst hz
  rw [show 0 + 0 * 9 + j = j from by omega, cell_of_row _ _ _ _ _ _ h, List.getElem?_toArray]
  exact hu
end Go.Proofs.YtcmgkjjkhfcedaaGreat
/-
  What comes in: a slice of structs of integers, read row by row.
-/
namespace Go.Proofs.YtcmgkjjkhfcedaaGreat
open Go.ChangeShapes Go.WideShapes Go.ChangeAt Go.RowKit
open Go.Deep (oneCellFields hone_of)
set_option linter.unusedVariables false
/-- A slice of n structs of k integers each, that reads as 'zs'. -/
def CameRows (k : Nat) (w : World) (a : Option Addr) (n c : Nat) (zs : List (List Int)) : Prop :=
  zs.length = n ∧ n ≤ c ∧ c ≤ maxLen ∧ (∀ i, i < n → (zs.getD i []).length = k ∧ ∀ j, j < k → (Lit.int .i64 ((zs.getD i []).getD j 0)).wf = true) ∧
    (0 < n → ∃ b off, a = some ⟨b, off, none⟩ ∧ b < w.heap.size ∧ ∀ i j, i < n → j < k → w.cell? ⟨b, off + (i * k + j), none⟩ = some (.int .i64 ((zs.getD i []).getD j 0)))
theorem list_of {α : Type} (d : α) (n : Nat) (p : Nat → α → Prop) (h : ∀ i, i < n → ∃ z, p i z) : ∃ zs : List α, zs.length = n ∧ ∀ i, i < n → p i (zs.getD i d) := by
  refine ⟨(List.range n).map fun i => if hi : i < n then Classical.choose (h i hi) else d, by simp, fun i hi => ?_⟩
  have e : ((List.range n).map fun i => if hi : i < n then Classical.choose (h i hi) else d).getD i d = Classical.choose (h i hi) := by
    simp [List.getD, hi]
  rw [e]
  exact Classical.choose_spec (h i hi)
section
variable {H : Type} {enc : TypeId × Value → H} {P : Program} {w : World} {base : Nat} {spare : Nat → Bool} {held : Bool}
theorem ints_of_struct {e : TypeId} {fs : Array Field} {n : Nat} {cs : List Value} {x : DataW H × List MemPlace} (he : P.underlying e = some (.struct fs)) (hone : oneCellFields P fs = true)
    (hint : ∀ (j : Nat) (f : Field), fs[j]? = some f → P.underlying f.type = some (.int .i64)) (hl : cs.length = fs.size) (h : DataW.trod enc P w base spare held n e cs = some x) :
    ∃ z : List Int, z.length = fs.size ∧ ∀ j, j < fs.size → cs[j]? = some (.int .i64 (z.getD j 0)) ∧ (Lit.int .i64 (z.getD j 0)).wf = true := by
  obtain ⟨xs, m, _, _, _, _, hf⟩ := DataW.trod_struct he h
  obtain ⟨z, hz, hp⟩ := list_of (0 : Int) fs.size (fun j y => cs[j]? = some (.int .i64 y) ∧ (Lit.int .i64 y).wf = true) (fun j hj => by
    have hfj : fs[j]? = some fs[j] := Array.getElem?_eq_getElem hj
    obtain ⟨ho, hk⟩ := hone_of hone j _ hfj
    have h1 := hf j _ hfj
    have hx : xs[j]? = some (xs[j]'(by omega)) := List.getElem?_eq_getElem (by omega)
    rw [ho, hk, hx] at h1
    obtain ⟨y, hy, _, hw⟩ := DataW.trod_int (hint j _ hfj) h1
    refine ⟨y, ?_, hw⟩
    have hd : (cs.drop j).take 1 = [cs[j]'(by omega)] := by
      rw [List.drop_eq_getElem_cons (by omega)]; rfl
    rw [hd] at hy
    injection hy with hy _
    rw [List.getElem?_eq_getElem (by omega), hy])
  exact ⟨z, hz, hp⟩
theorem cameRows_open (k : Nat) {t e : TypeId} {fs : Array Field} {a : Option Addr} {l c : Nat} {d : DataW H} {ps : List MemPlace} (ht : P.underlying t = some (.slice e)) (he : P.underlying e = some (.struct fs)) (hk : fs.size = k) (hk0 : 0 < k)
    (hone : oneCellFields P fs = true) (hC : P.cellsOf e = k) (hint : ∀ (j : Nat) (f : Field), fs[j]? = some f → P.underlying f.type = some (.int .i64))
    (h : DataW.Trod enc P w base spare held t (.slice a l c) d ps) : ∃ zs, CameRows k w a l c zs := by
  obtain ⟨fuel, hf⟩ := h
  rcases Go.Deep.open_slice ht hf with ⟨h0, _⟩ | ⟨ad, len, cap, m, n, D, Pl, hcs, hb, hl, hm, hmm, hx, hi⟩
  · simp [Value.cells] at h0
    obtain ⟨rfl, rfl, rfl⟩ := h0
    exact ⟨[], rfl, Nat.le_refl _, by unfold maxLen; omega, fun i hi => by omega, fun hn => by omega⟩
  · simp [Value.cells] at hcs
    obtain ⟨rfl, rfl, rfl⟩ := hcs
    have hlm : l ≤ m := by rw [hmm]; split <;> omega
    obtain ⟨zs, hz, hp⟩ := list_of ([] : List Int) l (fun i z => z.length = k ∧ ∀ j, j < k → w.cell? (ad.add (i * k + j)) = some (.int .i64 (z.getD j 0)) ∧ (Lit.int .i64 (z.getD j 0)).wf = true) (fun i hil => by
      obtain ⟨cs', hc, ht'⟩ := hi i (by omega)
      rw [hC] at hc
      obtain ⟨_, hcl, hat⟩ := World.cells?_some hc
      obtain ⟨z, hz, hp⟩ := ints_of_struct he hone hint (by omega) ht'
      refine ⟨z, by omega, fun j hj => ?_⟩
      obtain ⟨h1, h2⟩ := hp j (by omega)
      rw [← Go.Deep.add_add, hat j hj]
      exact ⟨h1, h2⟩)
    refine ⟨zs, hz, hl, hm, fun i hil => ⟨(hp i hil).1, fun j hj => ((hp i hil).2 j hj).2⟩, fun hn => ?_⟩
    obtain ⟨b, off, spot⟩ := ad
    have h00 := ((hp 0 hn).2 0 hk0).1
    have hspot : spot = none := by simpa [Addr.add] using World.cell?_spot h00
    subst hspot
    refine ⟨b, off, rfl, ?_, fun i j hil hj => ?_⟩
    · have := lt_of_cell? h00
      simpa [Addr.add] using this
    · have := ((hp i hil).2 j hj).1
      rw [Go.WideShapes.add_plain] at this
      exact this
/-- The same, and what a nil one's room is. -/
def CameRowsN (k : Nat) (w : World) (a : Option Addr) (n c : Nat) (zs : List (List Int)) : Prop := CameRows k w a n c zs ∧ (a = none → c = 0)
theorem cameRowsN_open (k : Nat) {t e : TypeId} {fs : Array Field} {a : Option Addr} {l c : Nat} {d : DataW H} {ps : List MemPlace} (ht : P.underlying t = some (.slice e)) (he : P.underlying e = some (.struct fs)) (hk : fs.size = k) (hk0 : 0 < k)
    (hone : oneCellFields P fs = true) (hC : P.cellsOf e = k) (hint : ∀ (j : Nat) (f : Field), fs[j]? = some f → P.underlying f.type = some (.int .i64))
    (h : DataW.Trod enc P w base spare held t (.slice a l c) d ps) : ∃ zs, CameRowsN k w a l c zs := by
  obtain ⟨zs, hz⟩ := cameRows_open k ht he hk hk0 hone hC hint h
  refine ⟨zs, hz, fun hn => ?_⟩
  obtain ⟨fuel, hf⟩ := h
  rcases Go.Deep.open_slice ht hf with ⟨h0, _⟩ | ⟨ad, len, cap, m, n, D, Pl, hcs, _⟩
  · simp [Value.cells] at h0
    exact h0.2.2
  · simp [Value.cells] at hcs
    rw [hn] at hcs
    cases hcs.1
end
end Go.Proofs.YtcmgkjjkhfcedaaGreat
/-
  The document's own Compare, Max (coxswainref7).
-/
namespace Go.Proofs.YtcmgkjjkhfcedaaGreat
open Go.ChangeShapes Go.WideShapes Go.ChangeAt Go.RowKit
set_option linter.unusedVariables false
/-- A priority's block. -/
def PrAt (w : World) (X : Nat) (c l d : Int) : Prop := w.heap[X]? = some (.cells #[.int .i64 c, .int .i64 l, .int .i64 d] 105 (0, 0))
theorem PrAt.cells {w : World} {X : Nat} {c l d : Int} (h : PrAt w X c l d) : w.cell? ⟨X, 0, none⟩ = some (.int .i64 c) ∧ w.cell? ⟨X, 1, none⟩ = some (.int .i64 l) ∧ w.cell? ⟨X, 2, none⟩ = some (.int .i64 d) := by
  refine ⟨?_, ?_, ?_⟩ <;> (rw [cell_of_row _ _ _ _ _ _ h]; rfl)
theorem PrAt.frozen {w : World} {X : Nat} {c l d : Int} (h : PrAt w X c l d) (j : Nat) : w.frozen? ⟨X, j, none⟩ = false := frozen_of_row _ _ _ _ _ h
theorem PrAt.below {w w' : World} {X : Nat} {c l d : Int} (h : PrAt w X c l d) (b : Below w.heap.size w w') : PrAt w' X c l d := (b.block X (lt_of_heap h)).trans h
theorem prAt_new (w : World) (c l d : Int) : PrAt (w.alloc (.cells #[.int .i64 c, .int .i64 l, .int .i64 d] 105)) w.heap.size c l d := heap_alloc_new w _
end Go.Proofs.YtcmgkjjkhfcedaaGreat
/-
  The document's own Max (coxswainref7).
-/
namespace Go.Proofs.YtcmgkjjkhfcedaaGreat
open Go.ChangeShapes Go.WideShapes Go.ChangeAt Go.RowKit
set_option linter.unusedVariables false
def prD : Pr := ⟨0, 0, 0⟩
/-- A slice of n priorities that reads as zs. -/
def PrRow (w : World) (a : Option Addr) (n : Nat) (zs : List Pr) : Prop :=
  zs.length = n ∧ (0 < n → ∃ b off, a = some ⟨b, off, none⟩ ∧ ∀ i, i < n → w.cell? ⟨b, off + i * 3, none⟩ = some (.int .i64 (zs.getD i prD).c) ∧ w.cell? ⟨b, off + i * 3 + 1, none⟩ = some (.int .i64 (zs.getD i prD).l) ∧ w.cell? ⟨b, off + i * 3 + 2, none⟩ = some (.int .i64 (zs.getD i prD).d))
theorem PrRow.below {w w' : World} {a : Option Addr} {n : Nat} {zs : List Pr} (h : PrRow w a n zs) (b : Below w.heap.size w w') : PrRow w' a n zs := by
  refine ⟨h.1, fun hn => ?_⟩
  obtain ⟨g, off, e, hc⟩ := h.2 hn
  refine ⟨g, off, e, fun i hi => ?_⟩
  obtain ⟨h0, h1, h2⟩ := hc i hi
  have hg : g < w.heap.size := lt_of_cell? h0
  exact ⟨(b.cell (p := ⟨g, _, none⟩) hg).trans h0, (b.cell (p := ⟨g, _, none⟩) hg).trans h1, (b.cell (p := ⟨g, _, none⟩) hg).trans h2⟩
theorem PrRow.of_came {w : World} {a : Option Addr} {n c : Nat} {zs : List (List Int)} (h : CameRows 3 w a n c zs) : ∃ ps, PrRow w a n ps ∧ n ≤ c ∧ c ≤ maxLen ∧ ∀ i, i < n → (Lit.int .i64 (ps.getD i prD).c).wf = true ∧ (Lit.int .i64 (ps.getD i prD).l).wf = true ∧ (Lit.int .i64 (ps.getD i prD).d).wf = true := by
  obtain ⟨h1, h2, h3, h4, h5⟩ := h
  have hget : ∀ i, i < n → (zs.map (fun z => (⟨z.getD 0 0, z.getD 1 0, z.getD 2 0⟩ : Pr))).getD i prD = ⟨(zs.getD i []).getD 0 0, (zs.getD i []).getD 1 0, (zs.getD i []).getD 2 0⟩ := fun i hi => by
    simp [List.getD, List.getElem?_map, List.getElem?_eq_getElem (show i < zs.length by omega)]
  refine ⟨zs.map (fun z => ⟨z.getD 0 0, z.getD 1 0, z.getD 2 0⟩), ⟨by simpa using h1, fun hn => ?_⟩, h2, h3, fun i hi => ?_⟩
  · obtain ⟨b, off, e, hb, hc⟩ := h5 hn
    refine ⟨b, off, e, fun i hi => ?_⟩
    rw [hget i hi]
    exact ⟨by have := hc i 0 hi (by omega); simpa using this, by have := hc i 1 hi (by omega); rw [← Nat.add_assoc] at this; exact this, by have := hc i 2 hi (by omega); rw [← Nat.add_assoc] at this; exact this⟩
  · rw [hget i hi]
    obtain ⟨_, hw⟩ := h4 i hi
    exact ⟨hw 0 (by omega), hw 1 (by omega), hw 2 (by omega)⟩
theorem PrAt.set {w : World} {X : Nat} {c l d : Int} (h : PrAt w X c l d) (x y z : Int) : PrAt (((w.setCell ⟨X, 0, none⟩ (.int .i64 x)).setCell ⟨X, 1, none⟩ (.int .i64 y)).setCell ⟨X, 2, none⟩ (.int .i64 z)) X x y z := by
  have h1 : (w.setCell ⟨X, 0, none⟩ (.int .i64 x)).heap[X]? = some (.cells #[.int .i64 x, .int .i64 l, .int .i64 d] 105 (0, 0)) := by rw [heap_setCell_same _ _ _ _ _ _ h]; rfl
  have h2 : ((w.setCell ⟨X, 0, none⟩ (.int .i64 x)).setCell ⟨X, 1, none⟩ (.int .i64 y)).heap[X]? = some (.cells #[.int .i64 x, .int .i64 y, .int .i64 d] 105 (0, 0)) := by rw [heap_setCell_same _ _ _ _ _ _ h1]; rfl
  unfold PrAt
  rw [heap_setCell_same _ _ _ _ _ _ h2]; rfl
theorem maxP_snoc (x : Pr) (ys : List Pr) (y : Pr) : maxP x (ys ++ [y]) = if gtP y (maxP x ys) = true then y else maxP x ys := by unfold maxP; rw [List.foldl_append]; rfl
end Go.Proofs.YtcmgkjjkhfcedaaGreat
/-
  Priorities lent out with marked room behind them; whether they are as they were; whether two lists are the same.
-/
namespace Go.Proofs.YtcmgkjjkhfcedaaGreat
open Go.ChangeShapes Go.WideShapes Go.ChangeAt Go.RowKit
set_option linter.unusedVariables false
def cellsPr (p : Pr) : List Value := [.int .i64 p.c, .int .i64 p.l, .int .i64 p.d]
def cellsPrs (l : List Pr) : List Value := l.flatMap cellsPr
theorem cellsPrs_append (a b : List Pr) : cellsPrs (a ++ b) = cellsPrs a ++ cellsPrs b := by unfold cellsPrs; simp
theorem cellsPrs_length (l : List Pr) : (cellsPrs l).length = l.length * 3 := by
  induction l with
  | nil => rfl
  | cons x l ih => show (cellsPr x ++ cellsPrs l).length = _; rw [List.length_append, ih, List.length_cons]; show 3 + _ = _; omega
theorem cellsPrs_cell (l : List Pr) : ∀ v ∈ cellsPrs l, v.oneCell' = true := by
  intro v hv
  obtain ⟨x, _, h⟩ := List.mem_flatMap.mp hv
  simp [cellsPr] at h
  rcases h with rfl | rfl | rfl <;> rfl
theorem cellsPrs_at {l : List Pr} {i : Nat} (j : Nat) (h : i < l.length) (hj : j < 3) : (cellsPrs l)[i * 3 + j]? = (cellsPr (l.getD i prD))[j]? := by
  induction l generalizing i with
  | nil => cases h
  | cons x l ih =>
    show (cellsPr x ++ cellsPrs l)[i * 3 + j]? = _
    cases i with
    | zero =>
      rw [Nat.zero_mul, Nat.zero_add, List.getElem?_append_left (by show j < 3; exact hj)]
      rfl
    | succ i =>
      rw [List.getElem?_append_right (by show 3 ≤ (i + 1) * 3 + j; omega)]
      have : (i + 1) * 3 + j - (cellsPr x).length = i * 3 + j := by show (i + 1) * 3 + j - 3 = _; omega
      rw [this, ih (by simpa using h)]
      rfl
theorem PrRow.cells {w : World} {a : Option Addr} {n : Nat} {zs : List Pr} (h : PrRow w a n zs) : ∀ ad, a = some ad → ∀ j u, (cellsPrs zs)[j]? = some u → w.cell? (ad.add j) = some u := by
  intro ad ha j u hu
  have hj : j < (cellsPrs zs).length := (List.getElem?_eq_some_iff.mp hu).1
  rw [cellsPrs_length, h.1] at hj
  obtain ⟨b, off, e, hc⟩ := h.2 (by omega)
  rw [ha] at e
  injection e with e
  subst e
  obtain ⟨h0, h1, h2⟩ := hc (j / 3) (by omega)
  have hz := h.1
  rw [show j = j / 3 * 3 + j % 3 by omega, cellsPrs_at (j % 3) (by omega) (Nat.mod_lt _ (by omega))] at hu
  rw [addr_add]
  have hm : j % 3 = 0 ∨ j % 3 = 1 ∨ j % 3 = 2 := by omega
  rcases hm with e | e | e
  · rw [e] at hu
    rw [show off + j = off + j / 3 * 3 by omega, h0, ← Option.some.inj hu]
  · rw [e] at hu
    rw [show off + j = off + j / 3 * 3 + 1 by omega, h1, ← Option.some.inj hu]
  · rw [e] at hu
    rw [show off + j = off + j / 3 * 3 + 2 by omega, h2, ← Option.some.inj hu]
theorem prio_info : (Tryz.prog.info? 105).map (fun i => (i.zero, i.size, i.bytes)) = some (some (.agg #[.int .i64 0, .int .i64 0, .int .i64 0]), 3, 24) := by kernel_rfl
def markP : Pr := ⟨-7, 0, 0⟩
/-- Block g is a row: n priorities, k marks, and what is left of three. -/
def RoomP (w : World) (g n k : Nat) (ys : List Pr) : Prop :=
  ∃ cur : Array Value, w.heap[g]? = some (.cells cur 105 (0, 0)) ∧ cur.size = (n + 3) * 3 ∧ cur.toList.take ((n + k) * 3) = cellsPrs (ys ++ List.replicate k markP)
theorem RoomP.spot {w : World} {g n k : Nat} {ys : List Pr} (h : RoomP w g n k ys) (hk : k < 3) :
    (∃ u, w.cell? ⟨g, (n + k) * 3, none⟩ = some u) ∧ (∃ u, w.cell? ⟨g, (n + k) * 3 + 1, none⟩ = some u) ∧ (∃ u, w.cell? ⟨g, (n + k) * 3 + 2, none⟩ = some u) ∧ ∀ j, w.frozen? ⟨g, j, none⟩ = false := by
  obtain ⟨cur, hh, hs, ht⟩ := h
  refine ⟨⟨cur[(n + k) * 3], ?_⟩, ⟨cur[(n + k) * 3 + 1], ?_⟩, ⟨cur[(n + k) * 3 + 2], ?_⟩, fun j => frozen_of_row _ _ _ _ _ hh⟩ <;> (rw [cell_of_row _ _ _ _ _ _ hh]; exact Array.getElem?_eq_getElem (by omega))
theorem take_set3 {α : Type} (l : List α) (m : Nat) (a b c : α) (h : m + 3 ≤ l.length) : (((l.set m a).set (m + 1) b).set (m + 2) c).take (m + 3) = l.take m ++ [a, b, c] := by
  apply List.ext_getElem?
  intro j
  by_cases hj : j < m
  · rw [List.getElem?_take_of_lt (by omega), List.getElem?_append_left (by rw [List.length_take]; omega), List.getElem?_take_of_lt hj, List.getElem?_set_ne (by omega), List.getElem?_set_ne (by omega), List.getElem?_set_ne (by omega)]
  · by_cases hj3 : j < m + 3
    · rw [List.getElem?_take_of_lt hj3, List.getElem?_append_right (by rw [List.length_take]; omega), List.length_take, Nat.min_eq_left (by omega)]
      rcases (show j = m ∨ j = m + 1 ∨ j = m + 2 by omega) with rfl | rfl | rfl
      · rw [List.getElem?_set_ne (by omega), List.getElem?_set_ne (by omega), List.getElem?_set_self (by omega)]; simp
      · rw [List.getElem?_set_ne (by omega), List.getElem?_set_self (by rw [List.length_set]; omega)]; simp
      · rw [List.getElem?_set_self (by rw [List.length_set, List.length_set]; omega)]; simp
    · rw [List.getElem?_take_eq_none (by omega), List.getElem?_eq_none (by rw [List.length_append, List.length_take]; simp; omega)]
theorem RoomP.set {w : World} {g n k : Nat} {ys : List Pr} (h : RoomP w g n k ys) (hk : k < 3) :
    RoomP (((w.setCell ⟨g, (n + k) * 3, none⟩ (.int .i64 (-7))).setCell ⟨g, (n + k) * 3 + 1, none⟩ (.int .i64 0)).setCell ⟨g, (n + k) * 3 + 2, none⟩ (.int .i64 0)) g n (k + 1) ys := by
  obtain ⟨cur, hh, hs, ht⟩ := h
  have h1 := heap_setCell_same w g ((n + k) * 3) cur _ (.int .i64 (-7)) hh
  have h2 := heap_setCell_same _ g ((n + k) * 3 + 1) _ _ (.int .i64 0) h1
  have h3 := heap_setCell_same _ g ((n + k) * 3 + 2) _ _ (.int .i64 0) h2
  refine ⟨_, h3, by simpa using hs, ?_⟩
  rw [Array.toList_setIfInBounds, Array.toList_setIfInBounds, Array.toList_setIfInBounds, show (n + (k + 1)) * 3 = (n + k) * 3 + 3 by omega, take_set3 _ _ _ _ _ (by simp; omega), ht, List.replicate_succ', ← List.append_assoc, cellsPrs_append (ys ++ List.replicate k markP) [markP]]
  rfl
theorem RoomP.at_ {w : World} {g n : Nat} {ys : List Pr} (h : RoomP w g n 3 ys) (hl : ys.length = n) {i : Nat} (hi : i < n + 3) : w.cell? ⟨g, i * 3, none⟩ = some (.int .i64 ((ys ++ List.replicate 3 markP).getD i prD).c) ∧ w.cell? ⟨g, i * 3 + 1, none⟩ = some (.int .i64 ((ys ++ List.replicate 3 markP).getD i prD).l) ∧ w.cell? ⟨g, i * 3 + 2, none⟩ = some (.int .i64 ((ys ++ List.replicate 3 markP).getD i prD).d) := by
  obtain ⟨cur, hh, hs, ht⟩ := h
  have h1 : cur.toList.take ((n + 3) * 3) = cur.toList := List.take_of_length_le (by simp; omega)
  rw [h1] at ht
  have hc : ∀ j, j < 3 → cur[i * 3 + j]? = (cellsPr ((ys ++ List.replicate 3 markP).getD i prD))[j]? := fun j hj => by
    rw [← Array.getElem?_toList, ht]
    exact cellsPrs_at j (by simp; omega) hj
  refine ⟨?_, ?_, ?_⟩
  · rw [cell_of_row _ _ _ _ _ _ hh]; exact hc 0 (by omega)
  · rw [cell_of_row _ _ _ _ _ _ hh]; exact hc 1 (by omega)
  · rw [cell_of_row _ _ _ _ _ _ hh]; exact hc 2 (by omega)
theorem RoomP.row {w : World} {g n : Nat} {ys : List Pr} (h : RoomP w g n 3 ys) (hl : ys.length = n) : PrRow w (some ⟨g, 0, none⟩) n ys := by
  refine ⟨hl, fun hn => ⟨g, 0, rfl, fun i hi => ?_⟩⟩
  have := h.at_ hl (show i < n + 3 by omega)
  rw [show (ys ++ List.replicate 3 markP).getD i prD = ys.getD i prD from by simp [List.getD, List.getElem?_append_left (show i < ys.length by omega)]] at this
  simpa using this
theorem RoomP.mark {w : World} {g n : Nat} {ys : List Pr} (h : RoomP w g n 3 ys) (hl : ys.length = n) {k : Nat} (hk : k < 3) : w.cell? ⟨g, (n + k) * 3, none⟩ = some (.int .i64 (-7)) ∧ w.cell? ⟨g, (n + k) * 3 + 1, none⟩ = some (.int .i64 0) ∧ w.cell? ⟨g, (n + k) * 3 + 2, none⟩ = some (.int .i64 0) := by
  have := h.at_ hl (show n + k < n + 3 by omega)
  rw [show (ys ++ List.replicate 3 markP).getD (n + k) prD = markP from by
    rw [List.getD_eq_getElem?_getD, List.getElem?_append_right (by omega), List.getElem?_replicate, if_pos (by omega)]; rfl] at this
  exact this
theorem RoomP.below {w w' : World} {g n k : Nat} {ys : List Pr} (h : RoomP w g n k ys) (b : Below w.heap.size w w') : RoomP w' g n k ys := by
  obtain ⟨cur, hh, r⟩ := h
  exact ⟨cur, (b.block g (lt_of_heap hh)).trans hh, r⟩
end Go.Proofs.YtcmgkjjkhfcedaaGreat
/-
  Two lists of priorities that are the same; what was lent is as it was.
-/
namespace Go.Proofs.YtcmgkjjkhfcedaaGreat
open Go.ChangeShapes Go.WideShapes Go.ChangeAt Go.RowKit
set_option linter.unusedVariables false
theorem prio_same (w : World) (x y z : Int) : (binOp .neq 105 (.agg #[.int .i64 x, .int .i64 y, .int .i64 z]) (.agg #[.int .i64 x, .int .i64 y, .int .i64 z])).run Tryz.prog w = .ok (.bool false) w := by
  rw [prio_neq]; simp
theorem PrRow.at_ {w : World} {a : Option Addr} {n : Nat} {ys : List Pr} (h : PrRow w a n ys) {i : Nat} (hi : i < n) : ∃ b off, a = some ⟨b, off, none⟩ ∧ w.cell? ⟨b, off + i * 3, none⟩ = some (.int .i64 (ys.getD i prD).c) ∧ w.cell? ⟨b, off + i * 3 + 1, none⟩ = some (.int .i64 (ys.getD i prD).l) ∧ w.cell? ⟨b, off + i * 3 + 2, none⟩ = some (.int .i64 (ys.getD i prD).d) := by
  obtain ⟨b, off, e, hc⟩ := h.2 (by omega)
  exact ⟨b, off, e, hc i hi⟩
end Go.Proofs.YtcmgkjjkhfcedaaGreat
/-
  Contracts of the program's prio (PPrio); awake of stage 7; the law PrioCompares.
-/
namespace Go.Proofs.YtcmgkjjkhfcedaaGreat
open Go.ChangeShapes Go.WideShapes Go.ChangeAt Go.RowKit
set_option linter.unusedVariables false
def PrWf (p : Pr) : Prop := (Lit.int .i64 p.c).wf = true ∧ (Lit.int .i64 p.l).wf = true ∧ (Lit.int .i64 p.d).wf = true
/-- What the queue's laws ask of the program's prio. -/
structure PPrio2 : Prop where
  may : ∀ (w : World) (c l d : Int), PrWf ⟨c, l, d⟩ → Calls Tryz.prog 60 #[.agg #[.int .i64 c, .int .i64 l, .int .i64 d]] w fun e w' => e = .returned (.bool (mayP ⟨c, l, d⟩)) ∧ Below w.heap.size w w'
  cmp : ∀ (w : World) (c l d x y z : Int), PrWf ⟨c, l, d⟩ → PrWf ⟨x, y, z⟩ → Calls Tryz.prog 66 #[.agg #[.int .i64 c, .int .i64 l, .int .i64 d], .agg #[.int .i64 x, .int .i64 y, .int .i64 z]] w fun e w' => e = .returned (.int .i64 (cmpP ⟨c, l, d⟩ ⟨x, y, z⟩)) ∧ Below w.heap.size w w'
end Go.Proofs.YtcmgkjjkhfcedaaGreat
