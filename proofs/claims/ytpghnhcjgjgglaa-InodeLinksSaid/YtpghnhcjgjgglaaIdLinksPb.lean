/-
  The walk of InodeLinks.
-/
import Derived.Test.YtpghnhcjgjgglaaPa19
namespace Go.Proofs.Ytpghnhcjgjgglaa
open Go.ChangeShapes Go.WideShapes Go.ChangeAt Go.RowKit
set_option linter.unusedVariables false
set_option linter.unusedSimpArgs false
theorem and15 : ∀ n : Nat, n < 16 → bits .and .i64 (n : Int) 15 = (n : Int) := by decide +kernel
def sumD (s : In) (d j : Nat) : Nat := sumN (fun i => cntL (s.n i).l j) d
def lnkF (L : Nat → Nat) (j : Nat) : Value := .int .i64 (L j : Nat)
theorem links_zero (w : World) (t : TypeId) : RowI (w.alloc (.cells #[.int .i64 0, .int .i64 0, .int .i64 0, .int .i64 0, .int .i64 0, .int .i64 0, .int .i64 0, .int .i64 0, .int .i64 0, .int .i64 0, .int .i64 0, .int .i64 0, .int .i64 0, .int .i64 0, .int .i64 0, .int .i64 0] t)) w.heap.size 16 t (lnkF fun _ => 0) := by
  unfold RowI
  rw [heap_alloc_new]; rfl
theorem lnkF_upd (L : Nat → Nat) (j n : Nat) (h : n = L j + 1) : upd (lnkF L) j (.int .i64 (n : Nat)) = lnkF (upd L j (L j + 1)) := by
  funext k
  by_cases e : k = j
  · subst e; unfold lnkF; rw [upd_same, upd_same, h]
  · unfold lnkF; rw [upd_other _ _ e, upd_other _ _ e]
theorem RowI.ext {w : World} {g N : Nat} {t : TypeId} {f f' : Nat → Value} (h : RowI w g N t f) (e : ∀ j, f j = f' j) : RowI w g N t f' := (funext e : f = f') ▸ h
section
variable {PS : Nat → Rel So} {PI : Nat → Nat → Rel In}
set_option maxRecDepth 100000 in
set_option maxHeartbeats 16000000 in
theorem walk_inodeLinksC (C : NewStore PS) (I : PInode PS PI) (w : World) (a : Option Addr) (n c : Nat) (zs : List Ac) (hin : Came 5 acV AcWf w a n c zs) : Calls Try.prog 4 #[.slice a n c] w fun e w' => e = .returned (.bool true) ∧ Below w.heap.size w w' := by
  have hn : n ≤ maxLen := Nat.le_trans hin.2.1 hin.2.2.1
  have HR := hide hin.reads
  have WF := hide hin.2.2.2.2.1
  clear hin
  go_enter Try.func4, Try.ntmps4
  go_wp2_with fail
  go_at_call 7
  refine (great21_any HR.out (fun x hx => (WF.out x hx).2.2.2) hn 80 (by omega)).mono ?_
  rintro e w' ⟨⟨r, rfl, hr⟩, rfl⟩
  cases r with
  | true =>
    clear hr
    go_wp2_with (go_at_call 8; refine (awake21_any C I _).mono ?_; rintro e w' ⟨rfl, hb⟩)
    go_ret
    exact ⟨rfl, hb⟩
  | false =>
    have h80 := (hr rfl).1
    have H100 := hide (hr rfl).2
    clear hr hn
    go_wp2_with fail
    go_at_call 9
    refine (both21_any C I _).mono ?_
    rintro e w1 ⟨T, T2, H, S, R, G, U, D, rfl, t1⟩
    have T1 := hide t1
    have KP := hide (I.keeps H S)
    clear t1
    go_wp2_with fail
    go_loopw [5] (fun i wr => ∃ (k : Nat) (s : In) (U D : Nat → Prop), k ≤ n ∧ i = .int .i64 (k : Int) ∧ Hid (Twin PI w wr U D [] H S R G T T2 s ∧ GoodP s [] ((k : Int) + 1) ∧ NoOrph s 0)) (fun i _ => n - (intOf i).toNat)
    case atStart => exact ⟨0, _, _, _, Nat.zero_le _, rfl, T1.out, by simpa using newI_good 8, newI_orph 8⟩
    case round =>
      clear T1 U D
      obtain ⟨k, s, U, D, hk, rfl, hT⟩ := hrel
      by_cases hlt : k < n
      · have k0 : (0 : Int) ≤ (k : Int) := by omega
        have k1 : (k : Int) < (n : Int) := by omega
        obtain ⟨x, b, off, hx, rfl, c0, c1, c2, c3, c4⟩ := (HR.out.below hT.out.1.bel).act hlt
        have wf := WF.out x (List.mem_of_getElem? hx)
        have H1 := hide (H100.out x (List.mem_of_getElem? hx))
        have G1 := hide hT.out.2.1
        have O1 := hide hT.out.2.2
        have G2 := hide (hT.out.2.1.step x)
        have O2 := hide (hT.out.2.2.step hT.out.2.1 x)
        have KK := hide (show (k : Int) + 1 + 1 ≤ 1000000 from by omega)
        have TW := hide hT.out.1
        obtain ⟨d, i, r, nm, bo⟩ := x
        have WX := hide wf
        have HC : Hid (CopI (wr.alloc (.cells #[.int .i64 d, .int .i64 i, .int .i64 r, .string (bt nm), .bool bo] 31)) wr.heap.size ⟨d, i, r, nm, bo⟩) := hide (show CopI _ _ _ from heap_alloc_new _ _)
        have HXb := hide (show wr.heap.size = wr.heap.size from rfl)
        have BA := hide ((Below.refl wr.heap.size wr).alloc (Nat.le_refl _) (.cells #[.int .i64 d, .int .i64 i, .int .i64 r, .string (bt nm), .bool bo] 31))
        obtain ⟨g0, g1, g2, g3, gb, hgot⟩ := got_form s i
        have PG := hide (fun (W : World) (b : Below wr.heap.size wr W) => (hgot ▸ I.gt (TwoO.below KP.out (keepsRin R G) TW.out b).1.ps G1.out i WX.out.2.1 : Calls _ _ _ W fun e w' => e = .returned (.tuple #[.agg #[.int .i64 g0, .int .i64 g1, .bool g2, .int .i64 g3], .bool gb]) ∧ Below W.heap.size W w'))
        have LE := hide (BA.out.size)
        clear hx wf hT hgot HXb
        go_upto_region 10 with fail
        clear c0 c1 c2 c3 c4
        generalize wr.alloc (.cells #[.int .i64 d, .int .i64 i, .int .i64 r, .string (bt nm), .bool bo] 31) = w1 at *
        generalize hXb : wr.heap.size = Xb at *
        have HXb := hide hXb
        clear hXb
        obtain ⟨-, x1, -, -, -⟩ := HC.out.cells
        have CB := hide (fun (W : World) (b' : Below w1.heap.size w1 W) => CopI.cells (W := W) (X := Xb) (x := ⟨d, i, r, nm, bo⟩) ((b'.block Xb (lt_of_heap HC.out)).trans HC.out))
        go_upto_region 11 with (go_at_call 12; refine (PG.out _ BA.out).mono ?_; rintro e w2 ⟨rfl, b2⟩; have B2 := hide b2; clear b2)
        have B3 := hide ((B2.out).alloc B2.out.size (.cells #[.int .i64 g0, .int .i64 g1, .bool g2, .int .i64 g3] 35))
        have HY := hide (heap_alloc_new w2 (.cells #[.int .i64 g0, .int .i64 g1, .bool g2, .int .i64 g3] 35))
        generalize w2.alloc (.cells #[.int .i64 g0, .int .i64 g1, .bool g2, .int .i64 g3] 35) = w3 at *
        generalize w2.heap.size = Yb at *
        have BW := hide (BA.out.trans (B3.out.mono LE.out))
        have T3 := hide (show Twin PI w w3 U D [] H S R G T T2 s from (TwoO.below KP.out (keepsRin R G) TW.out (HXb.out ▸ BW.out)).1)
        obtain ⟨z0, z1, z2, z3, z4⟩ := CB.out _ B3.out
        have v2 : w3.cell? ⟨Yb, 2, none⟩ = some (.bool g2) := by rw [cell_of_row _ _ _ _ _ _ HY.out]; rfl
        have DN := hide (done21_any I T3.out G1.out (by have := KK.out; omega) O1.out ⟨d, i, r, nm, bo⟩ WX.out.2.1 WX.out.2.2.1 H1.out)
        obtain ⟨s2, hs2⟩ : ∃ z, z = stepI s ⟨d, i, r, nm, bo⟩ := ⟨_, rfl⟩
        rw [← hs2] at G2 O2 DN
        clear x1 hs2 PG HC CB BA B2 HY BW
        by_cases d3 : d = 3
        · subst d3
          cases gb with
          | true =>
            cases g2 with
            | true =>
              go_wp2_with fail
              go_roundw
              case rel => exact ⟨k + 1, s, U, D, by omega, by go_num, T3.out, by rw [show ((k + 1 : Nat) : Int) + 1 = (k : Int) + 1 + 1 from by omega]; exact G1.out.more (by omega), O1.out⟩
              case measure => simp [intOf]; omega
            | false =>
              go_upto_region 13 with (go_at_call 10; refine DN.out.mono ?_; rintro e w4 ⟨rfl, U4, D4, t4, -⟩; have T4 := hide t4; clear t4)
              clear z0 z1 z2 z3 z4 v2 DN T3
              have L0 := hide (links_zero w4 38)
              have NL := hide (show ¬ U4 w4.heap.size ∧ ¬ D4 w4.heap.size ∧ w.heap.size ≤ w4.heap.size from ⟨fun e => by have := KP.out.lt T4.out.ps _ e; omega, fun e => by have := (keepsRin R G).lt T4.out.ds _ e; omega, T4.out.bel.size⟩)
              have T5 := hide (show Twin PI w (w4.alloc (.cells #[.int .i64 0, .int .i64 0, .int .i64 0, .int .i64 0, .int .i64 0, .int .i64 0, .int .i64 0, .int .i64 0, .int .i64 0, .int .i64 0, .int .i64 0, .int .i64 0, .int .i64 0, .int .i64 0, .int .i64 0, .int .i64 0] 38)) U4 D4 [] H S R G T T2 s2 from (TwoO.below KP.out (keepsRin R G) T4.out ((Below.refl _ _).alloc (Nat.le_refl _) _)).1)
              have LS5 := hide (show w4.heap.size < (w4.alloc (.cells #[.int .i64 0, .int .i64 0, .int .i64 0, .int .i64 0, .int .i64 0, .int .i64 0, .int .i64 0, .int .i64 0, .int .i64 0, .int .i64 0, .int .i64 0, .int .i64 0, .int .i64 0, .int .i64 0, .int .i64 0, .int .i64 0] 38)).heap.size from by simp)
              go_upto_region 14 with fail
              generalize w4.alloc (.cells #[.int .i64 0, .int .i64 0, .int .i64 0, .int .i64 0, .int .i64 0, .int .i64 0, .int .i64 0, .int .i64 0, .int .i64 0, .int .i64 0, .int .i64 0, .int .i64 0, .int .i64 0, .int .i64 0, .int .i64 0, .int .i64 0] 38) = w5 at *
              generalize w4.heap.size = Lb at *
              clear T4
              have TL := hide (show ∀ W, Touch (fun i => i = Lb) w5 W → Twin PI w W U4 D4 [] H S R G T T2 s2 from fun W u => TwoO.touch KP.out (keepsRin R G) T5.out u (fun i e => by have e : i = Lb := e; subst e; exact NL.out))
              have PL := hide (fun (W : World) (u : Touch (fun i => i = Lb) w5 W) (q : Nat) (hq : q < 16) => I.ls (TL.out W u).ps G2.out (q : Int) (wf_16 hq))
              have PG := hide (fun (W : World) (u : Touch (fun i => i = Lb) w5 W) (q : Nat) (hq : q < 16) => I.gt (TL.out W u).ps G2.out (q : Int) (wf_16 hq))
              have PO := hide (fun (W : World) (u : Touch (fun i => i = Lb) w5 W) (q : Nat) (hq : q < 16) => I.os (TL.out W u).ps G2.out (q : Int) (wf_16 hq))
              have L00 := hide (show RowI w5 Lb 16 38 (lnkF (sumD s2 0)) from L0.out)
              clear L0
              go_wp2_with fail
              go_loopw [10] (fun dv wr => ∃ q : Nat, q ≤ 16 ∧ dv = .int .i64 (q : Int) ∧ Hid (Touch (fun i => i = Lb) w5 wr ∧ RowI wr Lb 16 38 (lnkF (sumD s2 q)))) (fun dv _ => 16 - (intOf dv).toNat)
              case atStart => exact ⟨0, Nat.zero_le _, rfl, Touch.refl _ _, L00.out⟩
              case round =>
                clear L00
                obtain ⟨q, hq, rfl, hL⟩ := hrel
                have q0 : (0 : Int) ≤ (q : Int) := by omega
                by_cases hql : q < 16
                · have q1 : (q : Int) < 16 := by omega
                  have LS := hide (PL.out _ hL.out.1 q hql)
                  have NX := hide (show ∀ j, sumD s2 (q + 1) j = sumD s2 q j + cntL (s2.n q).l j from fun j => rfl)
                  have EE := hide (G2.out.ent q)
                  have E8 := hide (G2.out.few q)
                  have BD := hide (show ∀ j, sumD s2 q j ≤ 8 * q from fun j => sumN_le (fun i _ => Nat.le_trans List.countP_le_length (G2.out.few i)))
                  cases hdir : dirI s2 (q : Int) with
                  | false =>
                    have hl : (s2.n q).l = [] := by
                      cases hi : (s2.n q).is with
                      | false => rw [G2.out.no q hi]; rfl
                      | true =>
                        refine G2.out.file q ?_
                        cases hd2 : (s2.n q).dir with
                        | false => rfl
                        | true => rw [dirI_of hql hi hd2] at hdir; cases hdir
                    rw [show lsI s2 (q : Int) = [] from by unfold lsI; rw [hdir]; rfl, show lsIE s2 (q : Int) = 11 from by unfold lsIE; rw [hdir]; rfl, show ([] : List Ent).length = 0 from rfl] at LS
                    have SE := hide (show ∀ j, lnkF (sumD s2 q) j = lnkF (sumD s2 (q + 1)) j from fun j => by unfold lnkF; rw [NX.out j, hl]; rfl)
                    clear hl hdir
                    go_wp2_with (go_at_call 13; refine LS.out.mono ?_; rintro e w6 ⟨v6, rfl, o6, b6⟩; obtain ⟨a6, c6, rfl, -⟩ := own_sliceR o6; have B6 := hide b6; clear o6 b6)
                    go_loopw [13] (fun kv wr => kv = .int .i64 0 ∧ w6 = wr) (fun _ _ => 0)
                    case atStart => exact ⟨rfl, rfl⟩
                    case round =>
                      obtain ⟨rfl, rfl⟩ := hrel
                      go_wp2_with fail
                      go_roundw
                      case rel => exact ⟨q + 1, by omega, by go_num, hL.out.1.trans (Touch.of_below (S := fun _ => False) B6.out) (fun i e => e.elim), (hL.out.2.keep (B6.out.block Lb (lt_of_heap hL.out.2))).ext SE.out⟩
                      case measure => simp [intOf]; omega
                  | true =>
                    rw [show lsI s2 (q : Int) = (s2.n q).l from by unfold lsI; rw [hdir, Int.toNat_natCast]; rfl, show lsIE s2 (q : Int) = 0 from by unfold lsIE; rw [hdir]; rfl] at LS
                    obtain ⟨l, hl⟩ : ∃ l, l = (s2.n q).l := ⟨_, rfl⟩
                    rw [← hl] at LS NX EE E8
                    obtain ⟨ln, hln⟩ : ∃ z, z = l.length := ⟨_, rfl⟩
                    have LN := hide hln
                    rw [← hln] at LS E8
                    clear hl hdir hln
                    go_upto_region 18 with (go_at_call 13; refine LS.out.mono ?_; rintro e w6 ⟨v6, rfl, o6, b6⟩; have O6 := hide o6; have B6 := hide b6; clear o6 b6)
                    obtain ⟨a6, c6, rfl, r6, -, -, -⟩ := own_reads enV_len (by omega) O6.out
                    have U6 := hide (show Touch (fun i => i = Lb) w5 w6 from hL.out.1.trans (Touch.of_below (S := fun _ => False) B6.out) (fun i e => e.elim))
                    have R6 := hide (hL.out.2.keep (B6.out.block Lb (lt_of_heap hL.out.2)))
                    have RD6 := hide (And.intro r6 (show ∀ b o, a6 = some ⟨b, o, none⟩ → ¬ b = Lb from fun b o e e2 => by
                      have h := (O6.out.lt b (by rw [e]; rfl)).1
                      have h2 := lt_of_heap hL.out.2
                      omega))
                    have l8 : (ln : Int) ≤ 8 := by have := E8.out; omega
                    clear r6 LS
                    go_wp2_with fail
                    go_loopw [13] (fun kv wr => ∃ kk : Nat, kk ≤ ln ∧ kv = .int .i64 (kk : Int) ∧ Hid (Touch (fun i => i = Lb) w6 wr ∧ RowI wr Lb 16 38 (lnkF fun j => sumD s2 q j + cntL (l.take kk) j))) (fun kv _ => ln - (intOf kv).toNat)
                    case atStart => exact ⟨0, Nat.zero_le _, rfl, Touch.refl _ _, R6.out⟩
                    case round =>
                      clear R6
                      obtain ⟨kk, hkk, rfl, hM⟩ := hrel
                      have kk0 : (0 : Int) ≤ (kk : Int) := by omega
                      by_cases hkl : kk < ln
                      · have kk1 : (kk : Int) < (ln : Int) := by omega
                        obtain ⟨x, b6, o6, hx, rfl, -, e1⟩ := (RD6.out.1.touch hM.out.1 RD6.out.2).ent hkl
                        have j16 := (EE.out x (List.mem_of_getElem? hx)).1
                        have TK := hide (show ∀ j, cntL (l.take (kk + 1)) j = cntL (l.take kk) j + if x.id = j then 1 else 0 from fun j => by rw [List.take_add_one, hx, cntL_app]; show _ + cntL [x] j = _; rw [cntL_cons, cntL_nil]; omega)
                        have cl := hM.out.2.cell j16
                        have fz := hM.out.2.frz x.id
                        have an := and15 x.id j16
                        obtain ⟨j, hj⟩ : ∃ z, z = x.id := ⟨_, rfl⟩
                        rw [← hj] at e1 j16 cl fz an TK
                        obtain ⟨lv, hlv⟩ : ∃ z, z = sumD s2 q j + cntL (l.take kk) j := ⟨_, rfl⟩
                        rw [show lnkF (fun j => sumD s2 q j + cntL (l.take kk) j) j = Value.int .i64 ((lv : Nat) : Int) from by unfold lnkF; rw [hlv]] at cl
                        have lvb : (lv : Int) ≤ 1000 := by
                          have h1 := BD.out j
                          have h2 : cntL (l.take kk) j ≤ (l.take kk).length := List.countP_le_length
                          rw [List.length_take] at h2
                          omega
                        have NXT := hide (show ∀ (m : Nat), RowI ((wr.setCell ⟨Lb, j, none⟩ (.int .i64 ((lv + 1 : Nat) : Int))).drewN m) Lb 16 38 (lnkF fun j => sumD s2 q j + cntL (l.take (kk + 1)) j) ∧ Touch (fun i => i = Lb) w6 ((wr.setCell ⟨Lb, j, none⟩ (.int .i64 ((lv + 1 : Nat) : Int))).drewN m) from fun m => by
                          have r := hM.out.2.set j (.int .i64 ((lv + 1 : Nat) : Int))
                          rw [lnkF_upd _ j (lv + 1) (by rw [hlv])] at r
                          refine ⟨(show RowI _ Lb 16 _ _ from r).ext fun j2 => ?_, ((hM.out.1.setCell (p := ⟨Lb, j, none⟩) rfl _).drewN m)⟩
                          show Value.int .i64 ((upd _ j _ j2 : Nat) : Int) = Value.int .i64 ((sumD s2 q j2 + cntL (l.take (kk + 1)) j2 : Nat) : Int)
                          rw [TK.out j2]
                          by_cases e : j2 = j
                          · subst e; rw [upd_same, if_pos rfl, Nat.add_assoc]
                          · rw [upd_other _ _ e, if_neg (fun h => e h.symm), Nat.add_zero])
                        have e9 : (lv : Int) + 1 = ((lv + 1 : Nat) : Int) := by omega
                        obtain ⟨lv1, hlv1⟩ : ∃ z, z = lv + 1 := ⟨_, rfl⟩
                        rw [← hlv1] at NXT e9
                        have j0 : (0 : Int) ≤ (j : Int) := by omega
                        have j1 : (j : Int) < 16 := by omega
                        clear hx hj hlv hlv1
                        go_wp2_with fail
                        go_roundw
                        case rel => exact ⟨kk + 1, by omega, by go_num, (NXT.out 0).2, (NXT.out 0).1⟩
                        case measure => simp [intOf]; omega
                      · obtain rfl : kk = ln := by omega
                        have SE := hide (show ∀ j, lnkF (fun j => sumD s2 q j + cntL (l.take kk) j) j = lnkF (sumD s2 (q + 1)) j from fun j => by unfold lnkF; rw [NX.out j, List.take_of_length_le (by rw [LN.out]; exact Nat.le_refl _)])
                        go_wp2_with fail
                        go_roundw
                        case rel => exact ⟨q + 1, by omega, by go_num, U6.out.trans hM.out.1 (fun i e => .inl e), hM.out.2.ext SE.out⟩
                        case measure => simp [intOf]; omega
                · have q16 : q = 16 := by omega
                  rw [show ((q : Nat) : Int) = 16 from by omega]
                  subst q16
                  have LF := hide hL.out
                  clear hL hql hq
                  go_wp2_with fail
                  go_loopw [14] (fun dv wr => ∃ q : Nat, q ≤ 16 ∧ dv = .int .i64 (q : Int) ∧ Hid (Touch (fun i => i = Lb) w5 wr ∧ RowI wr Lb 16 38 (lnkF (sumD s2 16)))) (fun dv _ => 16 - (intOf dv).toNat)
                  case atStart => exact ⟨0, Nat.zero_le _, rfl, LF.out⟩
                  case round =>
                    clear LF
                    obtain ⟨q, hq, rfl, hL⟩ := hrel
                    have q0 : (0 : Int) ≤ (q : Int) := by omega
                    by_cases hql : q < 16
                    · have q1 : (q : Int) < 16 := by omega
                      have GT := hide (PG.out _ hL.out.1 q hql)
                      have LK := hide (show (s2.n q).links = ((cntE s2 q : Nat) : Int) from by rw [G2.out.lnk q, cntL_nil, Nat.add_zero])
                      obtain ⟨lv, hlv⟩ : ∃ z, z = cntE s2 q := ⟨_, rfl⟩
                      rw [← hlv] at LK
                      have ne0 : ((lv : Int) != (lv : Int)) = false := by simp
                      cases hi : (s2.n q).is with
                      | false =>
                        have hiI : isI s2 (q : Int) = false := by rw [isI_nat, hi]; simp
                        have l0 : lv = 0 := by have := LK.out; rw [G2.out.no q hi] at this; have h : (Nd.zero).links = 0 := rfl; omega
                        rw [show gotI s2 (q : Int) = .tuple #[.agg #[.int .i64 0, .int .i64 0, .bool false, .int .i64 0], .bool false] from by unfold gotI; rw [hiI]; rfl] at GT
                        have cl := fun (W : World) (u : Touch (fun i => i = Lb) w5 W) (r : RowI W Lb 16 38 (lnkF (sumD s2 16))) => (show W.cell? ⟨Lb, q, none⟩ = some (.int .i64 0) from by rw [r.cell hql]; show some (Value.int .i64 ((cntE s2 q : Nat) : Int)) = _; rw [← hlv, l0]; rfl)
                        have CLL := hide cl
                        clear hi hiI l0 hlv cl
                        go_upto_region 26 with (go_at_call 12; refine GT.out.mono ?_; rintro e w6 ⟨rfl, b6⟩; have B6 := hide b6; clear b6)
                        have B7 := hide (B6.out.alloc B6.out.size (.cells #[.int .i64 0, .int .i64 0, .bool false, .int .i64 0] 35))
                        generalize w6.alloc (.cells #[.int .i64 0, .int .i64 0, .bool false, .int .i64 0] 35) = w7 at *
                        have U7 := hide (show Touch (fun i => i = Lb) w5 w7 from hL.out.1.trans (Touch.of_below (S := fun _ => False) B7.out) (fun i e => e.elim))
                        have R7 := hide (hL.out.2.keep (B7.out.block Lb (lt_of_heap hL.out.2)))
                        have c7 := CLL.out _ U7.out R7.out
                        go_quiet (fail)
                        go_wp2_with fail
                        go_roundw
                        case rel => exact ⟨q + 1, by omega, by go_num, U7.out.drewN _, R7.out⟩
                        case measure => simp [intOf]; omega
                      | true =>
                        have hiI : isI s2 (q : Int) = true := isI_of hql hi
                        have OPN := hide (show q ≠ 0 → lv = 0 → ¬ (s2.n q).opens = 0 from fun h0 hl e => by
                          rcases O2.out q h0 h0 hi with h | h
                          · have := LK.out; omega
                          · omega)
                        rw [show gotI s2 (q : Int) = .tuple #[.agg #[.int .i64 (q : Int), .int .i64 (lv : Int), .bool (s2.n q).dir, .int .i64 (gtSz s2 q : Nat)], .bool true] from by unfold gotI; rw [hiI, if_pos rfl, Int.toNat_natCast, LK.out]] at GT
                        obtain ⟨sz, hsz⟩ : ∃ z, z = gtSz s2 q := ⟨_, rfl⟩
                        obtain ⟨dr, hdr⟩ : ∃ z, z = (s2.n q).dir := ⟨_, rfl⟩
                        rw [← hsz, ← hdr] at GT
                        have OS := hide (fun (W : World) (u : Touch (fun i => i = Lb) w5 W) => (show opsI s2 (q : Int) = (s2.n q).opens from by unfold opsI; rw [hiI, if_pos rfl, Int.toNat_natCast]) ▸ PO.out W u q hql)
                        obtain ⟨op, hop⟩ : ∃ z, z = (s2.n q).opens := ⟨_, rfl⟩
                        rw [← hop] at OS OPN
                        have CLL := hide (fun (W : World) (r : RowI W Lb 16 38 (lnkF (sumD s2 16))) => (show W.cell? ⟨Lb, q, none⟩ = some (.int .i64 (lv : Int)) from by rw [r.cell hql]; show some (Value.int .i64 ((cntE s2 q : Nat) : Int)) = _; rw [← hlv]))
                        clear hi hiI hlv hsz hdr hop
                        go_upto_region 26 with (go_at_call 12; refine GT.out.mono ?_; rintro e w6 ⟨rfl, b6⟩; have B6 := hide b6; clear b6)
                        have B7 := hide (B6.out.alloc B6.out.size (.cells #[.int .i64 (q : Int), .int .i64 (lv : Int), .bool dr, .int .i64 (sz : Int)] 35))
                        have HY := hide (heap_alloc_new w6 (.cells #[.int .i64 (q : Int), .int .i64 (lv : Int), .bool dr, .int .i64 (sz : Int)] 35))
                        generalize w6.alloc (.cells #[.int .i64 (q : Int), .int .i64 (lv : Int), .bool dr, .int .i64 (sz : Int)] 35) = w7 at *
                        generalize w6.heap.size = Y7 at *
                        rename_i Q9 K9 a9
                        have U7 := hide (show Touch (fun i => i = Lb) w5 w7 from hL.out.1.trans (Touch.of_below (S := fun _ => False) B7.out) (fun i e => e.elim))
                        have R7 := hide (hL.out.2.keep (B7.out.block Lb (lt_of_heap hL.out.2)))
                        have c7 := CLL.out _ R7.out
                        have y7 : w7.cell? ⟨Y7, 1, none⟩ = some (.int .i64 (lv : Int)) := by rw [cell_of_row _ _ _ _ _ _ HY.out]; rfl
                        clear GT
                        by_cases hq0 : q = 0
                        · have qz : ¬ (0 : Int) < (q : Int) := by omega
                          have qz2 : ¬ 0 < q := by omega
                          have qz3 : decide (0 < q) = false := by simp [hq0]
                          have qz4 : decide ((0 : Int) < (q : Int)) = false := by simp [hq0]
                          clear hq0
                          go_quiet (fail)
                          go_wp2_with fail
                          go_roundw
                          case rel => exact ⟨q + 1, by omega, by go_num, U7.out.drewN _, R7.out⟩
                          case measure => simp [intOf]; omega
                        · have qp : (0 : Int) < (q : Int) := by omega
                          have qp2 : 0 < q := by omega
                          by_cases hl0 : lv = 0
                          · have opn := OPN.out hq0 hl0
                            have opb : (op == 0) = false := by simpa using opn
                            rw [show ((lv : Nat) : Int) = 0 from by omega] at c7 y7 ne0
                            clear hq0 hl0 LK CLL
                            refine wp_region_noPanic ?_
                            refine wp_region_held_drew (S := (fun w' => w'.cell? ⟨Y7, 1, none⟩ = some (.int .i64 0) ∧ w'.cell? ⟨Lb, q, none⟩ = some (.int .i64 0))) (by kernel_rfl) ⟨y7, c7⟩ (fun hHeld => ?_)
                            refine wpAnyH_take (i := 0) (v := ?_) rfl (by kernel_rfl) (by kernel_rfl) (by kernel_rfl) (fun _ _ _ h => h) (Or.inl ⟨by kernel_rfl, ?_⟩) (by assumption) ?_
                            rotate_left
                            · intro w hSw
                              (try dsimp only at hSw)
                              go_simp
                              try with_reducible rfl
                            try simp only [Act.put, List.getElem_toArray, List.getElem_cons_zero, List.getElem_cons_succ, List.setIfInBounds_toArray, List.set_cons_zero, List.set_cons_succ]
                            refine wpAnyH_take (i := 1) (v := ?_) rfl (by kernel_rfl) (by kernel_rfl) (by kernel_rfl) (fun _ _ _ h => h) (Or.inl ⟨by kernel_rfl, ?_⟩) (by assumption) ?_
                            rotate_left
                            · intro w hSw
                              (try dsimp only at hSw)
                              go_simp
                              try with_reducible rfl
                            try simp only [Act.put, List.getElem_toArray, List.getElem_cons_zero, List.getElem_cons_succ, List.setIfInBounds_toArray, List.set_cons_zero, List.set_cons_succ]
                            refine wpAnyH_take (i := 2) (v := ?_) rfl (by kernel_rfl) (by kernel_rfl) (by kernel_rfl) (fun _ _ _ h => h) (Or.inl ⟨by kernel_rfl, ?_⟩) (by assumption) ?_
                            rotate_left
                            · intro w hSw
                              (try dsimp only at hSw)
                              go_simp
                              try with_reducible rfl
                            try simp only [Act.put, List.getElem_toArray, List.getElem_cons_zero, List.getElem_cons_succ, List.setIfInBounds_toArray, List.set_cons_zero, List.set_cons_succ]
                            refine wpAnyH_take (i := 3) (v := ?_) rfl (by kernel_rfl) (by kernel_rfl) (by kernel_rfl) (fun _ _ _ h => h) (Or.inl ⟨by kernel_rfl, ?_⟩) (by assumption) ?_
                            rotate_left
                            · intro w hSw
                              (try dsimp only at hSw)
                              go_simp
                              try with_reducible rfl
                            try simp only [Act.put, List.getElem_toArray, List.getElem_cons_zero, List.getElem_cons_succ, List.setIfInBounds_toArray, List.set_cons_zero, List.set_cons_succ]
                            refine wpAnyH_take (i := 4) (v := ?_) rfl (by kernel_rfl) (by kernel_rfl) (by kernel_rfl) (fun _ _ _ h => h) (Or.inl ⟨by kernel_rfl, ?_⟩) (by assumption) ?_
                            rotate_left
                            · intro w hSw
                              (try dsimp only at hSw)
                              go_simp
                              try with_reducible rfl
                            try simp only [Act.put, List.getElem_toArray, List.getElem_cons_zero, List.getElem_cons_succ, List.setIfInBounds_toArray, List.set_cons_zero, List.set_cons_succ]
                            refine wpAnyH_take (i := 5) (v := ?_) rfl (by kernel_rfl) (by kernel_rfl) (by kernel_rfl) (fun _ _ _ h => h) (Or.inl ⟨by kernel_rfl, ?_⟩) (by assumption) ?_
                            rotate_left
                            · intro w hSw
                              (try dsimp only at hSw)
                              go_simp
                              try with_reducible rfl
                            try simp only [Act.put, List.getElem_toArray, List.getElem_cons_zero, List.getElem_cons_succ, List.setIfInBounds_toArray, List.set_cons_zero, List.set_cons_succ]
                            refine wpAnyH_take (i := 6) (v := ?_) rfl (by kernel_rfl) (by kernel_rfl) (by kernel_rfl) (fun _ _ _ h => h) (Or.inl ⟨by kernel_rfl, ?_⟩) (by assumption) ?_
                            rotate_left
                            · intro w hSw
                              (try dsimp only at hSw)
                              go_simp
                              try with_reducible rfl
                            try simp only [Act.put, List.getElem_toArray, List.getElem_cons_zero, List.getElem_cons_succ, List.setIfInBounds_toArray, List.set_cons_zero, List.set_cons_succ]
                            refine wpAnyH_take (i := 7) (v := ?_) rfl (by kernel_rfl) (by kernel_rfl) (by kernel_rfl) (fun _ _ _ h => h) (Or.inl ⟨by kernel_rfl, ?_⟩) (by assumption) ?_
                            rotate_left
                            · intro w hSw
                              (try dsimp only at hSw)
                              go_simp
                              try with_reducible rfl
                            try simp only [Act.put, List.getElem_toArray, List.getElem_cons_zero, List.getElem_cons_succ, List.setIfInBounds_toArray, List.set_cons_zero, List.set_cons_succ]
                            refine wpAnyH_take (i := 8) (v := ?_) rfl (by kernel_rfl) (by kernel_rfl) (by kernel_rfl) (fun _ _ _ h => h) (Or.inl ⟨by kernel_rfl, ?_⟩) (by assumption) ?_
                            rotate_left
                            · intro w hSw
                              (try dsimp only at hSw)
                              go_simp
                              try with_reducible rfl
                            try simp only [Act.put, List.getElem_toArray, List.getElem_cons_zero, List.getElem_cons_succ, List.setIfInBounds_toArray, List.set_cons_zero, List.set_cons_succ]
                            refine wpAnyH_take (i := 9) (v := ?_) rfl (by kernel_rfl) (by kernel_rfl) (by kernel_rfl) (fun _ _ _ h => h) (Or.inl ⟨by kernel_rfl, ?_⟩) (by assumption) ?_
                            rotate_left
                            · intro w hSw
                              (try dsimp only at hSw)
                              go_simp
                              try with_reducible rfl
                            try simp only [Act.put, List.getElem_toArray, List.getElem_cons_zero, List.getElem_cons_succ, List.setIfInBounds_toArray, List.set_cons_zero, List.set_cons_succ]
                            refine wpAnyH_take (i := 10) (v := ?_) rfl (by kernel_rfl) (by kernel_rfl) (by kernel_rfl) (fun _ _ _ h => h) (Or.inl ⟨by kernel_rfl, ?_⟩) (by assumption) ?_
                            rotate_left
                            · intro w hSw
                              (try dsimp only at hSw)
                              go_simp
                              try with_reducible rfl
                            try simp only [Act.put, List.getElem_toArray, List.getElem_cons_zero, List.getElem_cons_succ, List.setIfInBounds_toArray, List.set_cons_zero, List.set_cons_succ]
                            refine wpAnyH_take (i := 11) (v := ?_) rfl (by kernel_rfl) (by kernel_rfl) (by kernel_rfl) (fun _ _ _ h => h) (Or.inl ⟨by kernel_rfl, ?_⟩) (by assumption) ?_
                            rotate_left
                            · intro w hSw
                              (try dsimp only at hSw)
                              go_simp
                              try with_reducible rfl
                            try simp only [Act.put, List.getElem_toArray, List.getElem_cons_zero, List.getElem_cons_succ, List.setIfInBounds_toArray, List.set_cons_zero, List.set_cons_succ]
                            refine wpAnyH_take (i := 12) (v := ?_) rfl (by kernel_rfl) (by kernel_rfl) (by kernel_rfl) (fun _ _ _ h => h) (Or.inl ⟨by kernel_rfl, ?_⟩) (by assumption) ?_
                            rotate_left
                            · intro w hSw
                              (try dsimp only at hSw)
                              go_simp
                              try with_reducible rfl
                            try simp only [Act.put, List.getElem_toArray, List.getElem_cons_zero, List.getElem_cons_succ, List.setIfInBounds_toArray, List.set_cons_zero, List.set_cons_succ]
                            refine wpAnyH_take (i := 13) (v := ?_) rfl (by kernel_rfl) (by kernel_rfl) (by kernel_rfl) (fun _ _ _ h => h) (Or.inl ⟨by kernel_rfl, ?_⟩) (by assumption) ?_
                            rotate_left
                            · intro w hSw
                              (try dsimp only at hSw)
                              go_simp
                              try with_reducible rfl
                            try simp only [Act.put, List.getElem_toArray, List.getElem_cons_zero, List.getElem_cons_succ, List.setIfInBounds_toArray, List.set_cons_zero, List.set_cons_succ]
                            refine wpAnyH_take (i := 14) (v := ?_) rfl (by kernel_rfl) (by kernel_rfl) (by kernel_rfl) (fun _ _ _ h => h) (Or.inl ⟨by kernel_rfl, ?_⟩) (by assumption) ?_
                            rotate_left
                            · intro w hSw
                              (try dsimp only at hSw)
                              go_simp
                              try with_reducible rfl
                            try simp only [Act.put, List.getElem_toArray, List.getElem_cons_zero, List.getElem_cons_succ, List.setIfInBounds_toArray, List.set_cons_zero, List.set_cons_succ]
                            refine wpAnyH_take (i := 15) (v := ?_) rfl (by kernel_rfl) (by kernel_rfl) (by kernel_rfl) (fun _ _ _ h => h) (Or.inl ⟨by kernel_rfl, ?_⟩) (by assumption) ?_
                            rotate_left
                            · intro w hSw
                              (try dsimp only at hSw)
                              go_simp
                              try with_reducible rfl
                            try simp only [Act.put, List.getElem_toArray, List.getElem_cons_zero, List.getElem_cons_succ, List.setIfInBounds_toArray, List.set_cons_zero, List.set_cons_succ]
                            refine wpAnyH_take (i := 16) (v := ?_) rfl (by kernel_rfl) (by kernel_rfl) (by kernel_rfl) (fun _ _ _ h => h) (Or.inl ⟨by kernel_rfl, ?_⟩) (by assumption) ?_
                            rotate_left
                            · intro w hSw
                              (try dsimp only at hSw)
                              go_simp
                              try with_reducible rfl
                            try simp only [Act.put, List.getElem_toArray, List.getElem_cons_zero, List.getElem_cons_succ, List.setIfInBounds_toArray, List.set_cons_zero, List.set_cons_succ]
                            refine wpAnyH_take (i := 17) (v := ?_) rfl (by kernel_rfl) (by kernel_rfl) (by kernel_rfl) (fun _ _ _ h => h) (Or.inl ⟨by kernel_rfl, ?_⟩) (by assumption) ?_
                            rotate_left
                            · intro w hSw
                              (try dsimp only at hSw)
                              go_simp
                              try with_reducible rfl
                            try simp only [Act.put, List.getElem_toArray, List.getElem_cons_zero, List.getElem_cons_succ, List.setIfInBounds_toArray, List.set_cons_zero, List.set_cons_succ]
                            refine wpAnyH_take (i := 18) (v := ?_) rfl (by kernel_rfl) (by kernel_rfl) (by kernel_rfl) (fun _ _ _ h => h) (Or.inl ⟨by kernel_rfl, ?_⟩) (by assumption) ?_
                            rotate_left
                            · intro w hSw
                              (try dsimp only at hSw)
                              go_simp
                              try with_reducible rfl
                            try simp only [Act.put, List.getElem_toArray, List.getElem_cons_zero, List.getElem_cons_succ, List.setIfInBounds_toArray, List.set_cons_zero, List.set_cons_succ]
                            refine wpAnyH_ready (rs := [19]) (by kernel_rfl) (by simp) ?_
                            refine AllReadyH.cons rfl (fun K hK => ?_) AllReadyH.nil
                            go_simp
                            go_at_call 14
                            refine (OS.out _ (U7.out.drewN 1)).mono ?_
                            rintro e w8 ⟨rfl, b8⟩
                            have B8 := hide b8
                            have yy : w8.cell? ⟨Y7, 1, none⟩ = some (.int .i64 0) ∧ w8.cell? ⟨Lb, q, none⟩ = some (.int .i64 0) := ⟨(b8.cell (lt_of_cell? y7)).trans y7, (b8.cell (lt_of_cell? c7)).trans c7⟩
                            clear b8
                            go_wp2_with fail
                            refine hK.out _ _ yy (fun hHeld => ?_)
                            clear hK K
                            try simp only [Act.put, List.getElem_toArray, List.getElem_cons_zero, List.getElem_cons_succ, List.setIfInBounds_toArray, List.set_cons_zero, List.set_cons_succ]
                            refine wpAnyH_take (i := 20) (v := ?_) rfl (by kernel_rfl) (by kernel_rfl) (by kernel_rfl) (fun _ _ _ h => h) (Or.inl ⟨by kernel_rfl, ?_⟩) (by assumption) ?_
                            rotate_left
                            · intro w hSw
                              (try dsimp only at hSw)
                              go_simp
                              try with_reducible rfl
                            try simp only [Act.put, List.getElem_toArray, List.getElem_cons_zero, List.getElem_cons_succ, List.setIfInBounds_toArray, List.set_cons_zero, List.set_cons_succ]
                            refine wpAnyH_take (i := 21) (v := ?_) rfl (by kernel_rfl) (by kernel_rfl) (by kernel_rfl) (fun _ _ _ h => h) (Or.inl ⟨by kernel_rfl, ?_⟩) (by assumption) ?_
                            rotate_left
                            · intro w hSw
                              (try dsimp only at hSw)
                              go_simp
                              try with_reducible rfl
                            try simp only [Act.put, List.getElem_toArray, List.getElem_cons_zero, List.getElem_cons_succ, List.setIfInBounds_toArray, List.set_cons_zero, List.set_cons_succ]
                            refine wpAnyH_take (i := 22) (v := ?_) rfl (by kernel_rfl) (by kernel_rfl) (by kernel_rfl) (fun _ _ _ h => h) (Or.inl ⟨by kernel_rfl, ?_⟩) (by assumption) ?_
                            rotate_left
                            · intro w hSw
                              (try dsimp only at hSw)
                              go_simp
                              try with_reducible rfl
                            try simp only [Act.put, List.getElem_toArray, List.getElem_cons_zero, List.getElem_cons_succ, List.setIfInBounds_toArray, List.set_cons_zero, List.set_cons_succ]
                            refine wpAnyH_take (i := 23) (v := ?_) rfl (by kernel_rfl) (by kernel_rfl) (by kernel_rfl) (fun _ _ _ h => h) (Or.inl ⟨by kernel_rfl, ?_⟩) (by assumption) ?_
                            rotate_left
                            · intro w hSw
                              (try dsimp only at hSw)
                              go_simp
                              try with_reducible rfl
                            try simp only [Act.put, List.getElem_toArray, List.getElem_cons_zero, List.getElem_cons_succ, List.setIfInBounds_toArray, List.set_cons_zero, List.set_cons_succ]
                            refine wpAnyH_take (i := 24) (v := ?_) rfl (by kernel_rfl) (by kernel_rfl) (by kernel_rfl) (fun _ _ _ h => h) (Or.inl ⟨by kernel_rfl, ?_⟩) (by assumption) ?_
                            rotate_left
                            · intro w hSw
                              (try dsimp only at hSw)
                              go_simp
                              try with_reducible rfl
                            try simp only [Act.put, List.getElem_toArray, List.getElem_cons_zero, List.getElem_cons_succ, List.setIfInBounds_toArray, List.set_cons_zero, List.set_cons_succ]
                            refine wpAnyH_take (i := 25) (v := ?_) rfl (by kernel_rfl) (by kernel_rfl) (by kernel_rfl) (fun _ _ _ h => h) (Or.inl ⟨by kernel_rfl, ?_⟩) (by assumption) ?_
                            rotate_left
                            · intro w hSw
                              (try dsimp only at hSw)
                              go_simp
                              try with_reducible rfl
                            try simp only [Act.put, List.getElem_toArray, List.getElem_cons_zero, List.getElem_cons_succ, List.setIfInBounds_toArray, List.set_cons_zero, List.set_cons_succ]
                            refine wpAnyH_take (i := 26) (v := ?_) rfl (by kernel_rfl) (by kernel_rfl) (by kernel_rfl) (fun _ _ _ h => h) (Or.inl ⟨by kernel_rfl, ?_⟩) (by assumption) ?_
                            rotate_left
                            · intro w hSw
                              (try dsimp only at hSw)
                              go_simp
                              try with_reducible rfl
                            try simp only [Act.put, List.getElem_toArray, List.getElem_cons_zero, List.getElem_cons_succ, List.setIfInBounds_toArray, List.set_cons_zero, List.set_cons_succ]
                            refine wpAnyH_take (i := 27) (v := ?_) rfl (by kernel_rfl) (by kernel_rfl) (by kernel_rfl) (fun _ _ _ h => h) (Or.inl ⟨by kernel_rfl, ?_⟩) (by assumption) ?_
                            rotate_left
                            · intro w hSw
                              (try dsimp only at hSw)
                              go_simp
                              try with_reducible rfl
                            try simp only [Act.put, List.getElem_toArray, List.getElem_cons_zero, List.getElem_cons_succ, List.setIfInBounds_toArray, List.set_cons_zero, List.set_cons_succ]
                            refine wpAnyH_take (i := 28) (v := undef) rfl (by kernel_rfl) (by kernel_rfl) (by kernel_rfl) (fun _ _ _ h => h) (Or.inr ⟨by kernel_rfl, rfl⟩) (by assumption) ?_
                            try simp only [Act.put, List.getElem_toArray, List.getElem_cons_zero, List.getElem_cons_succ, List.setIfInBounds_toArray, List.set_cons_zero, List.set_cons_succ]
                            refine wpAnyH_take (i := 29) (v := undef) rfl (by kernel_rfl) (by kernel_rfl) (by kernel_rfl) (fun _ _ _ h => h) (Or.inr ⟨by kernel_rfl, rfl⟩) (by assumption) ?_
                            try simp only [Act.put, List.getElem_toArray, List.getElem_cons_zero, List.getElem_cons_succ, List.setIfInBounds_toArray, List.set_cons_zero, List.set_cons_succ]
                            refine wpAnyH_take (i := 30) (v := undef) rfl (by kernel_rfl) (by kernel_rfl) (by kernel_rfl) (fun _ _ _ h => h) (Or.inr ⟨by kernel_rfl, rfl⟩) (by assumption) ?_
                            try simp only [Act.put, List.getElem_toArray, List.getElem_cons_zero, List.getElem_cons_succ, List.setIfInBounds_toArray, List.set_cons_zero, List.set_cons_succ]
                            refine wpAnyH_take (i := 31) (v := undef) rfl (by kernel_rfl) (by kernel_rfl) (by kernel_rfl) (fun _ _ _ h => h) (Or.inr ⟨by kernel_rfl, rfl⟩) (by assumption) ?_
                            try simp only [Act.put, List.getElem_toArray, List.getElem_cons_zero, List.getElem_cons_succ, List.setIfInBounds_toArray, List.set_cons_zero, List.set_cons_succ]
                            refine wpAnyH_take (i := 32) (v := ?_) rfl (by kernel_rfl) (by kernel_rfl) (by kernel_rfl) (fun _ _ _ h => h) (Or.inl ⟨by kernel_rfl, ?_⟩) (by assumption) ?_
                            rotate_left
                            · intro w hSw
                              (try dsimp only at hSw)
                              go_simp
                              try with_reducible rfl
                            try simp only [Act.put, List.getElem_toArray, List.getElem_cons_zero, List.getElem_cons_succ, List.setIfInBounds_toArray, List.set_cons_zero, List.set_cons_succ]
                            refine wpAnyH_take (i := 33) (v := ?_) rfl (by kernel_rfl) (by kernel_rfl) (by kernel_rfl) (fun _ _ _ h => h) (Or.inl ⟨by kernel_rfl, ?_⟩) (by assumption) ?_
                            rotate_left
                            · intro w hSw
                              (try dsimp only at hSw)
                              go_simp
                              try with_reducible rfl
                            try simp only [Act.put, List.getElem_toArray, List.getElem_cons_zero, List.getElem_cons_succ, List.setIfInBounds_toArray, List.set_cons_zero, List.set_cons_succ]
                            refine wpAnyH_done (by kernel_rfl) ?_ _
                            go_simp
                            refine NoPanic.normal ?_
                            refine a9 _ _ ?_
                            go_wp2_with fail
                            go_roundw
                            case rel => exact ⟨q + 1, by omega, by go_num, (U7.out.trans (Touch.of_below (S := fun _ => False) ((below_drewN (Below.refl _ _) 1).trans B8.out)) (fun i e => e.elim)), R7.out.keep (B8.out.block Lb (lt_of_heap R7.out))⟩
                            case measure => simp [intOf]; omega
                          · have l1 : ((lv : Int) == 0) = false := by simp; omega
                            clear hq0
                            go_quiet (fail)
                            go_wp2_with fail
                            go_roundw
                            case rel => exact ⟨q + 1, by omega, by go_num, U7.out.drewN _, R7.out⟩
                            case measure => simp [intOf]; omega
                    · obtain rfl : q = 16 := by omega
                      have FT := hide (TL.out _ hL.out.1)
                      go_wp2_with fail
                      go_roundw
                      case rel => exact ⟨k + 1, s2, U4, D4, by omega, by go_num, FT.out, by rw [show ((k + 1 : Nat) : Int) + 1 = (k : Int) + 1 + 1 from by omega]; exact G2.out, O2.out⟩
                      case measure => simp [intOf]; omega
          | false =>
            go_upto_region 13 with (go_at_call 10; refine DN.out.mono ?_; rintro e w4 ⟨rfl, U4, D4, t4, -⟩; have T4 := hide t4; clear t4)
            clear z0 z1 z2 z3 z4 v2 DN T3
            have L0 := hide (links_zero w4 38)
            have NL := hide (show ¬ U4 w4.heap.size ∧ ¬ D4 w4.heap.size ∧ w.heap.size ≤ w4.heap.size from ⟨fun e => by have := KP.out.lt T4.out.ps _ e; omega, fun e => by have := (keepsRin R G).lt T4.out.ds _ e; omega, T4.out.bel.size⟩)
            have T5 := hide (show Twin PI w (w4.alloc (.cells #[.int .i64 0, .int .i64 0, .int .i64 0, .int .i64 0, .int .i64 0, .int .i64 0, .int .i64 0, .int .i64 0, .int .i64 0, .int .i64 0, .int .i64 0, .int .i64 0, .int .i64 0, .int .i64 0, .int .i64 0, .int .i64 0] 38)) U4 D4 [] H S R G T T2 s2 from (TwoO.below KP.out (keepsRin R G) T4.out ((Below.refl _ _).alloc (Nat.le_refl _) _)).1)
            have LS5 := hide (show w4.heap.size < (w4.alloc (.cells #[.int .i64 0, .int .i64 0, .int .i64 0, .int .i64 0, .int .i64 0, .int .i64 0, .int .i64 0, .int .i64 0, .int .i64 0, .int .i64 0, .int .i64 0, .int .i64 0, .int .i64 0, .int .i64 0, .int .i64 0, .int .i64 0] 38)).heap.size from by simp)
            go_upto_region 14 with fail
            generalize w4.alloc (.cells #[.int .i64 0, .int .i64 0, .int .i64 0, .int .i64 0, .int .i64 0, .int .i64 0, .int .i64 0, .int .i64 0, .int .i64 0, .int .i64 0, .int .i64 0, .int .i64 0, .int .i64 0, .int .i64 0, .int .i64 0, .int .i64 0] 38) = w5 at *
            generalize w4.heap.size = Lb at *
            clear T4
            have TL := hide (show ∀ W, Touch (fun i => i = Lb) w5 W → Twin PI w W U4 D4 [] H S R G T T2 s2 from fun W u => TwoO.touch KP.out (keepsRin R G) T5.out u (fun i e => by have e : i = Lb := e; subst e; exact NL.out))
            have PL := hide (fun (W : World) (u : Touch (fun i => i = Lb) w5 W) (q : Nat) (hq : q < 16) => I.ls (TL.out W u).ps G2.out (q : Int) (wf_16 hq))
            have PG := hide (fun (W : World) (u : Touch (fun i => i = Lb) w5 W) (q : Nat) (hq : q < 16) => I.gt (TL.out W u).ps G2.out (q : Int) (wf_16 hq))
            have PO := hide (fun (W : World) (u : Touch (fun i => i = Lb) w5 W) (q : Nat) (hq : q < 16) => I.os (TL.out W u).ps G2.out (q : Int) (wf_16 hq))
            have L00 := hide (show RowI w5 Lb 16 38 (lnkF (sumD s2 0)) from L0.out)
            clear L0
            go_wp2_with fail
            go_loopw [10] (fun dv wr => ∃ q : Nat, q ≤ 16 ∧ dv = .int .i64 (q : Int) ∧ Hid (Touch (fun i => i = Lb) w5 wr ∧ RowI wr Lb 16 38 (lnkF (sumD s2 q)))) (fun dv _ => 16 - (intOf dv).toNat)
            case atStart => exact ⟨0, Nat.zero_le _, rfl, Touch.refl _ _, L00.out⟩
            case round =>
              clear L00
              obtain ⟨q, hq, rfl, hL⟩ := hrel
              have q0 : (0 : Int) ≤ (q : Int) := by omega
              by_cases hql : q < 16
              · have q1 : (q : Int) < 16 := by omega
                have LS := hide (PL.out _ hL.out.1 q hql)
                have NX := hide (show ∀ j, sumD s2 (q + 1) j = sumD s2 q j + cntL (s2.n q).l j from fun j => rfl)
                have EE := hide (G2.out.ent q)
                have E8 := hide (G2.out.few q)
                have BD := hide (show ∀ j, sumD s2 q j ≤ 8 * q from fun j => sumN_le (fun i _ => Nat.le_trans List.countP_le_length (G2.out.few i)))
                cases hdir : dirI s2 (q : Int) with
                | false =>
                  have hl : (s2.n q).l = [] := by
                    cases hi : (s2.n q).is with
                    | false => rw [G2.out.no q hi]; rfl
                    | true =>
                      refine G2.out.file q ?_
                      cases hd2 : (s2.n q).dir with
                      | false => rfl
                      | true => rw [dirI_of hql hi hd2] at hdir; cases hdir
                  rw [show lsI s2 (q : Int) = [] from by unfold lsI; rw [hdir]; rfl, show lsIE s2 (q : Int) = 11 from by unfold lsIE; rw [hdir]; rfl, show ([] : List Ent).length = 0 from rfl] at LS
                  have SE := hide (show ∀ j, lnkF (sumD s2 q) j = lnkF (sumD s2 (q + 1)) j from fun j => by unfold lnkF; rw [NX.out j, hl]; rfl)
                  clear hl hdir
                  go_wp2_with (go_at_call 13; refine LS.out.mono ?_; rintro e w6 ⟨v6, rfl, o6, b6⟩; obtain ⟨a6, c6, rfl, -⟩ := own_sliceR o6; have B6 := hide b6; clear o6 b6)
                  go_loopw [13] (fun kv wr => kv = .int .i64 0 ∧ w6 = wr) (fun _ _ => 0)
                  case atStart => exact ⟨rfl, rfl⟩
                  case round =>
                    obtain ⟨rfl, rfl⟩ := hrel
                    go_wp2_with fail
                    go_roundw
                    case rel => exact ⟨q + 1, by omega, by go_num, hL.out.1.trans (Touch.of_below (S := fun _ => False) B6.out) (fun i e => e.elim), (hL.out.2.keep (B6.out.block Lb (lt_of_heap hL.out.2))).ext SE.out⟩
                    case measure => simp [intOf]; omega
                | true =>
                  rw [show lsI s2 (q : Int) = (s2.n q).l from by unfold lsI; rw [hdir, Int.toNat_natCast]; rfl, show lsIE s2 (q : Int) = 0 from by unfold lsIE; rw [hdir]; rfl] at LS
                  obtain ⟨l, hl⟩ : ∃ l, l = (s2.n q).l := ⟨_, rfl⟩
                  rw [← hl] at LS NX EE E8
                  obtain ⟨ln, hln⟩ : ∃ z, z = l.length := ⟨_, rfl⟩
                  have LN := hide hln
                  rw [← hln] at LS E8
                  clear hl hdir hln
                  go_upto_region 18 with (go_at_call 13; refine LS.out.mono ?_; rintro e w6 ⟨v6, rfl, o6, b6⟩; have O6 := hide o6; have B6 := hide b6; clear o6 b6)
                  obtain ⟨a6, c6, rfl, r6, -, -, -⟩ := own_reads enV_len (by omega) O6.out
                  have U6 := hide (show Touch (fun i => i = Lb) w5 w6 from hL.out.1.trans (Touch.of_below (S := fun _ => False) B6.out) (fun i e => e.elim))
                  have R6 := hide (hL.out.2.keep (B6.out.block Lb (lt_of_heap hL.out.2)))
                  have RD6 := hide (And.intro r6 (show ∀ b o, a6 = some ⟨b, o, none⟩ → ¬ b = Lb from fun b o e e2 => by
                    have h := (O6.out.lt b (by rw [e]; rfl)).1
                    have h2 := lt_of_heap hL.out.2
                    omega))
                  have l8 : (ln : Int) ≤ 8 := by have := E8.out; omega
                  clear r6 LS
                  go_wp2_with fail
                  go_loopw [13] (fun kv wr => ∃ kk : Nat, kk ≤ ln ∧ kv = .int .i64 (kk : Int) ∧ Hid (Touch (fun i => i = Lb) w6 wr ∧ RowI wr Lb 16 38 (lnkF fun j => sumD s2 q j + cntL (l.take kk) j))) (fun kv _ => ln - (intOf kv).toNat)
                  case atStart => exact ⟨0, Nat.zero_le _, rfl, Touch.refl _ _, R6.out⟩
                  case round =>
                    clear R6
                    obtain ⟨kk, hkk, rfl, hM⟩ := hrel
                    have kk0 : (0 : Int) ≤ (kk : Int) := by omega
                    by_cases hkl : kk < ln
                    · have kk1 : (kk : Int) < (ln : Int) := by omega
                      obtain ⟨x, b6, o6, hx, rfl, -, e1⟩ := (RD6.out.1.touch hM.out.1 RD6.out.2).ent hkl
                      have j16 := (EE.out x (List.mem_of_getElem? hx)).1
                      have TK := hide (show ∀ j, cntL (l.take (kk + 1)) j = cntL (l.take kk) j + if x.id = j then 1 else 0 from fun j => by rw [List.take_add_one, hx, cntL_app]; show _ + cntL [x] j = _; rw [cntL_cons, cntL_nil]; omega)
                      have cl := hM.out.2.cell j16
                      have fz := hM.out.2.frz x.id
                      have an := and15 x.id j16
                      obtain ⟨j, hj⟩ : ∃ z, z = x.id := ⟨_, rfl⟩
                      rw [← hj] at e1 j16 cl fz an TK
                      obtain ⟨lv, hlv⟩ : ∃ z, z = sumD s2 q j + cntL (l.take kk) j := ⟨_, rfl⟩
                      rw [show lnkF (fun j => sumD s2 q j + cntL (l.take kk) j) j = Value.int .i64 ((lv : Nat) : Int) from by unfold lnkF; rw [hlv]] at cl
                      have lvb : (lv : Int) ≤ 1000 := by
                        have h1 := BD.out j
                        have h2 : cntL (l.take kk) j ≤ (l.take kk).length := List.countP_le_length
                        rw [List.length_take] at h2
                        omega
                      have NXT := hide (show ∀ (m : Nat), RowI ((wr.setCell ⟨Lb, j, none⟩ (.int .i64 ((lv + 1 : Nat) : Int))).drewN m) Lb 16 38 (lnkF fun j => sumD s2 q j + cntL (l.take (kk + 1)) j) ∧ Touch (fun i => i = Lb) w6 ((wr.setCell ⟨Lb, j, none⟩ (.int .i64 ((lv + 1 : Nat) : Int))).drewN m) from fun m => by
                        have r := hM.out.2.set j (.int .i64 ((lv + 1 : Nat) : Int))
                        rw [lnkF_upd _ j (lv + 1) (by rw [hlv])] at r
                        refine ⟨(show RowI _ Lb 16 _ _ from r).ext fun j2 => ?_, ((hM.out.1.setCell (p := ⟨Lb, j, none⟩) rfl _).drewN m)⟩
                        show Value.int .i64 ((upd _ j _ j2 : Nat) : Int) = Value.int .i64 ((sumD s2 q j2 + cntL (l.take (kk + 1)) j2 : Nat) : Int)
                        rw [TK.out j2]
                        by_cases e : j2 = j
                        · subst e; rw [upd_same, if_pos rfl, Nat.add_assoc]
                        · rw [upd_other _ _ e, if_neg (fun h => e h.symm), Nat.add_zero])
                      have e9 : (lv : Int) + 1 = ((lv + 1 : Nat) : Int) := by omega
                      obtain ⟨lv1, hlv1⟩ : ∃ z, z = lv + 1 := ⟨_, rfl⟩
                      rw [← hlv1] at NXT e9
                      have j0 : (0 : Int) ≤ (j : Int) := by omega
                      have j1 : (j : Int) < 16 := by omega
                      clear hx hj hlv hlv1
                      go_wp2_with fail
                      go_roundw
                      case rel => exact ⟨kk + 1, by omega, by go_num, (NXT.out 0).2, (NXT.out 0).1⟩
                      case measure => simp [intOf]; omega
                    · obtain rfl : kk = ln := by omega
                      have SE := hide (show ∀ j, lnkF (fun j => sumD s2 q j + cntL (l.take kk) j) j = lnkF (sumD s2 (q + 1)) j from fun j => by unfold lnkF; rw [NX.out j, List.take_of_length_le (by rw [LN.out]; exact Nat.le_refl _)])
                      go_wp2_with fail
                      go_roundw
                      case rel => exact ⟨q + 1, by omega, by go_num, U6.out.trans hM.out.1 (fun i e => .inl e), hM.out.2.ext SE.out⟩
                      case measure => simp [intOf]; omega
              · have q16 : q = 16 := by omega
                rw [show ((q : Nat) : Int) = 16 from by omega]
                subst q16
                have LF := hide hL.out
                clear hL hql hq
                go_wp2_with fail
                go_loopw [14] (fun dv wr => ∃ q : Nat, q ≤ 16 ∧ dv = .int .i64 (q : Int) ∧ Hid (Touch (fun i => i = Lb) w5 wr ∧ RowI wr Lb 16 38 (lnkF (sumD s2 16)))) (fun dv _ => 16 - (intOf dv).toNat)
                case atStart => exact ⟨0, Nat.zero_le _, rfl, LF.out⟩
                case round =>
                  clear LF
                  obtain ⟨q, hq, rfl, hL⟩ := hrel
                  have q0 : (0 : Int) ≤ (q : Int) := by omega
                  by_cases hql : q < 16
                  · have q1 : (q : Int) < 16 := by omega
                    have GT := hide (PG.out _ hL.out.1 q hql)
                    have LK := hide (show (s2.n q).links = ((cntE s2 q : Nat) : Int) from by rw [G2.out.lnk q, cntL_nil, Nat.add_zero])
                    obtain ⟨lv, hlv⟩ : ∃ z, z = cntE s2 q := ⟨_, rfl⟩
                    rw [← hlv] at LK
                    have ne0 : ((lv : Int) != (lv : Int)) = false := by simp
                    cases hi : (s2.n q).is with
                    | false =>
                      have hiI : isI s2 (q : Int) = false := by rw [isI_nat, hi]; simp
                      have l0 : lv = 0 := by have := LK.out; rw [G2.out.no q hi] at this; have h : (Nd.zero).links = 0 := rfl; omega
                      rw [show gotI s2 (q : Int) = .tuple #[.agg #[.int .i64 0, .int .i64 0, .bool false, .int .i64 0], .bool false] from by unfold gotI; rw [hiI]; rfl] at GT
                      have cl := fun (W : World) (u : Touch (fun i => i = Lb) w5 W) (r : RowI W Lb 16 38 (lnkF (sumD s2 16))) => (show W.cell? ⟨Lb, q, none⟩ = some (.int .i64 0) from by rw [r.cell hql]; show some (Value.int .i64 ((cntE s2 q : Nat) : Int)) = _; rw [← hlv, l0]; rfl)
                      have CLL := hide cl
                      clear hi hiI l0 hlv cl
                      go_upto_region 26 with (go_at_call 12; refine GT.out.mono ?_; rintro e w6 ⟨rfl, b6⟩; have B6 := hide b6; clear b6)
                      have B7 := hide (B6.out.alloc B6.out.size (.cells #[.int .i64 0, .int .i64 0, .bool false, .int .i64 0] 35))
                      generalize w6.alloc (.cells #[.int .i64 0, .int .i64 0, .bool false, .int .i64 0] 35) = w7 at *
                      have U7 := hide (show Touch (fun i => i = Lb) w5 w7 from hL.out.1.trans (Touch.of_below (S := fun _ => False) B7.out) (fun i e => e.elim))
                      have R7 := hide (hL.out.2.keep (B7.out.block Lb (lt_of_heap hL.out.2)))
                      have c7 := CLL.out _ U7.out R7.out
                      go_quiet (fail)
                      go_wp2_with fail
                      go_roundw
                      case rel => exact ⟨q + 1, by omega, by go_num, U7.out.drewN _, R7.out⟩
                      case measure => simp [intOf]; omega
                    | true =>
                      have hiI : isI s2 (q : Int) = true := isI_of hql hi
                      have OPN := hide (show q ≠ 0 → lv = 0 → ¬ (s2.n q).opens = 0 from fun h0 hl e => by
                        rcases O2.out q h0 h0 hi with h | h
                        · have := LK.out; omega
                        · omega)
                      rw [show gotI s2 (q : Int) = .tuple #[.agg #[.int .i64 (q : Int), .int .i64 (lv : Int), .bool (s2.n q).dir, .int .i64 (gtSz s2 q : Nat)], .bool true] from by unfold gotI; rw [hiI, if_pos rfl, Int.toNat_natCast, LK.out]] at GT
                      obtain ⟨sz, hsz⟩ : ∃ z, z = gtSz s2 q := ⟨_, rfl⟩
                      obtain ⟨dr, hdr⟩ : ∃ z, z = (s2.n q).dir := ⟨_, rfl⟩
                      rw [← hsz, ← hdr] at GT
                      have OS := hide (fun (W : World) (u : Touch (fun i => i = Lb) w5 W) => (show opsI s2 (q : Int) = (s2.n q).opens from by unfold opsI; rw [hiI, if_pos rfl, Int.toNat_natCast]) ▸ PO.out W u q hql)
                      obtain ⟨op, hop⟩ : ∃ z, z = (s2.n q).opens := ⟨_, rfl⟩
                      rw [← hop] at OS OPN
                      have CLL := hide (fun (W : World) (r : RowI W Lb 16 38 (lnkF (sumD s2 16))) => (show W.cell? ⟨Lb, q, none⟩ = some (.int .i64 (lv : Int)) from by rw [r.cell hql]; show some (Value.int .i64 ((cntE s2 q : Nat) : Int)) = _; rw [← hlv]))
                      clear hi hiI hlv hsz hdr hop
                      go_upto_region 26 with (go_at_call 12; refine GT.out.mono ?_; rintro e w6 ⟨rfl, b6⟩; have B6 := hide b6; clear b6)
                      have B7 := hide (B6.out.alloc B6.out.size (.cells #[.int .i64 (q : Int), .int .i64 (lv : Int), .bool dr, .int .i64 (sz : Int)] 35))
                      have HY := hide (heap_alloc_new w6 (.cells #[.int .i64 (q : Int), .int .i64 (lv : Int), .bool dr, .int .i64 (sz : Int)] 35))
                      generalize w6.alloc (.cells #[.int .i64 (q : Int), .int .i64 (lv : Int), .bool dr, .int .i64 (sz : Int)] 35) = w7 at *
                      generalize w6.heap.size = Y7 at *
                      rename_i Q9 K9 a9
                      have U7 := hide (show Touch (fun i => i = Lb) w5 w7 from hL.out.1.trans (Touch.of_below (S := fun _ => False) B7.out) (fun i e => e.elim))
                      have R7 := hide (hL.out.2.keep (B7.out.block Lb (lt_of_heap hL.out.2)))
                      have c7 := CLL.out _ R7.out
                      have y7 : w7.cell? ⟨Y7, 1, none⟩ = some (.int .i64 (lv : Int)) := by rw [cell_of_row _ _ _ _ _ _ HY.out]; rfl
                      clear GT
                      by_cases hq0 : q = 0
                      · have qz : ¬ (0 : Int) < (q : Int) := by omega
                        have qz2 : ¬ 0 < q := by omega
                        have qz3 : decide (0 < q) = false := by simp [hq0]
                        have qz4 : decide ((0 : Int) < (q : Int)) = false := by simp [hq0]
                        clear hq0
                        go_quiet (fail)
                        go_wp2_with fail
                        go_roundw
                        case rel => exact ⟨q + 1, by omega, by go_num, U7.out.drewN _, R7.out⟩
                        case measure => simp [intOf]; omega
                      · have qp : (0 : Int) < (q : Int) := by omega
                        have qp2 : 0 < q := by omega
                        by_cases hl0 : lv = 0
                        · have opn := OPN.out hq0 hl0
                          have opb : (op == 0) = false := by simpa using opn
                          rw [show ((lv : Nat) : Int) = 0 from by omega] at c7 y7 ne0
                          clear hq0 hl0 LK CLL
                          refine wp_region_noPanic ?_
                          refine wp_region_held_drew (S := (fun w' => w'.cell? ⟨Y7, 1, none⟩ = some (.int .i64 0) ∧ w'.cell? ⟨Lb, q, none⟩ = some (.int .i64 0))) (by kernel_rfl) ⟨y7, c7⟩ (fun hHeld => ?_)
                          refine wpAnyH_take (i := 0) (v := ?_) rfl (by kernel_rfl) (by kernel_rfl) (by kernel_rfl) (fun _ _ _ h => h) (Or.inl ⟨by kernel_rfl, ?_⟩) (by assumption) ?_
                          rotate_left
                          · intro w hSw
                            (try dsimp only at hSw)
                            go_simp
                            try with_reducible rfl
                          try simp only [Act.put, List.getElem_toArray, List.getElem_cons_zero, List.getElem_cons_succ, List.setIfInBounds_toArray, List.set_cons_zero, List.set_cons_succ]
                          refine wpAnyH_take (i := 1) (v := ?_) rfl (by kernel_rfl) (by kernel_rfl) (by kernel_rfl) (fun _ _ _ h => h) (Or.inl ⟨by kernel_rfl, ?_⟩) (by assumption) ?_
                          rotate_left
                          · intro w hSw
                            (try dsimp only at hSw)
                            go_simp
                            try with_reducible rfl
                          try simp only [Act.put, List.getElem_toArray, List.getElem_cons_zero, List.getElem_cons_succ, List.setIfInBounds_toArray, List.set_cons_zero, List.set_cons_succ]
                          refine wpAnyH_take (i := 2) (v := ?_) rfl (by kernel_rfl) (by kernel_rfl) (by kernel_rfl) (fun _ _ _ h => h) (Or.inl ⟨by kernel_rfl, ?_⟩) (by assumption) ?_
                          rotate_left
                          · intro w hSw
                            (try dsimp only at hSw)
                            go_simp
                            try with_reducible rfl
                          try simp only [Act.put, List.getElem_toArray, List.getElem_cons_zero, List.getElem_cons_succ, List.setIfInBounds_toArray, List.set_cons_zero, List.set_cons_succ]
                          refine wpAnyH_take (i := 3) (v := ?_) rfl (by kernel_rfl) (by kernel_rfl) (by kernel_rfl) (fun _ _ _ h => h) (Or.inl ⟨by kernel_rfl, ?_⟩) (by assumption) ?_
                          rotate_left
                          · intro w hSw
                            (try dsimp only at hSw)
                            go_simp
                            try with_reducible rfl
                          try simp only [Act.put, List.getElem_toArray, List.getElem_cons_zero, List.getElem_cons_succ, List.setIfInBounds_toArray, List.set_cons_zero, List.set_cons_succ]
                          refine wpAnyH_take (i := 4) (v := ?_) rfl (by kernel_rfl) (by kernel_rfl) (by kernel_rfl) (fun _ _ _ h => h) (Or.inl ⟨by kernel_rfl, ?_⟩) (by assumption) ?_
                          rotate_left
                          · intro w hSw
                            (try dsimp only at hSw)
                            go_simp
                            try with_reducible rfl
                          try simp only [Act.put, List.getElem_toArray, List.getElem_cons_zero, List.getElem_cons_succ, List.setIfInBounds_toArray, List.set_cons_zero, List.set_cons_succ]
                          refine wpAnyH_take (i := 5) (v := ?_) rfl (by kernel_rfl) (by kernel_rfl) (by kernel_rfl) (fun _ _ _ h => h) (Or.inl ⟨by kernel_rfl, ?_⟩) (by assumption) ?_
                          rotate_left
                          · intro w hSw
                            (try dsimp only at hSw)
                            go_simp
                            try with_reducible rfl
                          try simp only [Act.put, List.getElem_toArray, List.getElem_cons_zero, List.getElem_cons_succ, List.setIfInBounds_toArray, List.set_cons_zero, List.set_cons_succ]
                          refine wpAnyH_take (i := 6) (v := ?_) rfl (by kernel_rfl) (by kernel_rfl) (by kernel_rfl) (fun _ _ _ h => h) (Or.inl ⟨by kernel_rfl, ?_⟩) (by assumption) ?_
                          rotate_left
                          · intro w hSw
                            (try dsimp only at hSw)
                            go_simp
                            try with_reducible rfl
                          try simp only [Act.put, List.getElem_toArray, List.getElem_cons_zero, List.getElem_cons_succ, List.setIfInBounds_toArray, List.set_cons_zero, List.set_cons_succ]
                          refine wpAnyH_take (i := 7) (v := ?_) rfl (by kernel_rfl) (by kernel_rfl) (by kernel_rfl) (fun _ _ _ h => h) (Or.inl ⟨by kernel_rfl, ?_⟩) (by assumption) ?_
                          rotate_left
                          · intro w hSw
                            (try dsimp only at hSw)
                            go_simp
                            try with_reducible rfl
                          try simp only [Act.put, List.getElem_toArray, List.getElem_cons_zero, List.getElem_cons_succ, List.setIfInBounds_toArray, List.set_cons_zero, List.set_cons_succ]
                          refine wpAnyH_take (i := 8) (v := ?_) rfl (by kernel_rfl) (by kernel_rfl) (by kernel_rfl) (fun _ _ _ h => h) (Or.inl ⟨by kernel_rfl, ?_⟩) (by assumption) ?_
                          rotate_left
                          · intro w hSw
                            (try dsimp only at hSw)
                            go_simp
                            try with_reducible rfl
                          try simp only [Act.put, List.getElem_toArray, List.getElem_cons_zero, List.getElem_cons_succ, List.setIfInBounds_toArray, List.set_cons_zero, List.set_cons_succ]
                          refine wpAnyH_take (i := 9) (v := ?_) rfl (by kernel_rfl) (by kernel_rfl) (by kernel_rfl) (fun _ _ _ h => h) (Or.inl ⟨by kernel_rfl, ?_⟩) (by assumption) ?_
                          rotate_left
                          · intro w hSw
                            (try dsimp only at hSw)
                            go_simp
                            try with_reducible rfl
                          try simp only [Act.put, List.getElem_toArray, List.getElem_cons_zero, List.getElem_cons_succ, List.setIfInBounds_toArray, List.set_cons_zero, List.set_cons_succ]
                          refine wpAnyH_take (i := 10) (v := ?_) rfl (by kernel_rfl) (by kernel_rfl) (by kernel_rfl) (fun _ _ _ h => h) (Or.inl ⟨by kernel_rfl, ?_⟩) (by assumption) ?_
                          rotate_left
                          · intro w hSw
                            (try dsimp only at hSw)
                            go_simp
                            try with_reducible rfl
                          try simp only [Act.put, List.getElem_toArray, List.getElem_cons_zero, List.getElem_cons_succ, List.setIfInBounds_toArray, List.set_cons_zero, List.set_cons_succ]
                          refine wpAnyH_take (i := 11) (v := ?_) rfl (by kernel_rfl) (by kernel_rfl) (by kernel_rfl) (fun _ _ _ h => h) (Or.inl ⟨by kernel_rfl, ?_⟩) (by assumption) ?_
                          rotate_left
                          · intro w hSw
                            (try dsimp only at hSw)
                            go_simp
                            try with_reducible rfl
                          try simp only [Act.put, List.getElem_toArray, List.getElem_cons_zero, List.getElem_cons_succ, List.setIfInBounds_toArray, List.set_cons_zero, List.set_cons_succ]
                          refine wpAnyH_take (i := 12) (v := ?_) rfl (by kernel_rfl) (by kernel_rfl) (by kernel_rfl) (fun _ _ _ h => h) (Or.inl ⟨by kernel_rfl, ?_⟩) (by assumption) ?_
                          rotate_left
                          · intro w hSw
                            (try dsimp only at hSw)
                            go_simp
                            try with_reducible rfl
                          try simp only [Act.put, List.getElem_toArray, List.getElem_cons_zero, List.getElem_cons_succ, List.setIfInBounds_toArray, List.set_cons_zero, List.set_cons_succ]
                          refine wpAnyH_take (i := 13) (v := ?_) rfl (by kernel_rfl) (by kernel_rfl) (by kernel_rfl) (fun _ _ _ h => h) (Or.inl ⟨by kernel_rfl, ?_⟩) (by assumption) ?_
                          rotate_left
                          · intro w hSw
                            (try dsimp only at hSw)
                            go_simp
                            try with_reducible rfl
                          try simp only [Act.put, List.getElem_toArray, List.getElem_cons_zero, List.getElem_cons_succ, List.setIfInBounds_toArray, List.set_cons_zero, List.set_cons_succ]
                          refine wpAnyH_take (i := 14) (v := ?_) rfl (by kernel_rfl) (by kernel_rfl) (by kernel_rfl) (fun _ _ _ h => h) (Or.inl ⟨by kernel_rfl, ?_⟩) (by assumption) ?_
                          rotate_left
                          · intro w hSw
                            (try dsimp only at hSw)
                            go_simp
                            try with_reducible rfl
                          try simp only [Act.put, List.getElem_toArray, List.getElem_cons_zero, List.getElem_cons_succ, List.setIfInBounds_toArray, List.set_cons_zero, List.set_cons_succ]
                          refine wpAnyH_take (i := 15) (v := ?_) rfl (by kernel_rfl) (by kernel_rfl) (by kernel_rfl) (fun _ _ _ h => h) (Or.inl ⟨by kernel_rfl, ?_⟩) (by assumption) ?_
                          rotate_left
                          · intro w hSw
                            (try dsimp only at hSw)
                            go_simp
                            try with_reducible rfl
                          try simp only [Act.put, List.getElem_toArray, List.getElem_cons_zero, List.getElem_cons_succ, List.setIfInBounds_toArray, List.set_cons_zero, List.set_cons_succ]
                          refine wpAnyH_take (i := 16) (v := ?_) rfl (by kernel_rfl) (by kernel_rfl) (by kernel_rfl) (fun _ _ _ h => h) (Or.inl ⟨by kernel_rfl, ?_⟩) (by assumption) ?_
                          rotate_left
                          · intro w hSw
                            (try dsimp only at hSw)
                            go_simp
                            try with_reducible rfl
                          try simp only [Act.put, List.getElem_toArray, List.getElem_cons_zero, List.getElem_cons_succ, List.setIfInBounds_toArray, List.set_cons_zero, List.set_cons_succ]
                          refine wpAnyH_take (i := 17) (v := ?_) rfl (by kernel_rfl) (by kernel_rfl) (by kernel_rfl) (fun _ _ _ h => h) (Or.inl ⟨by kernel_rfl, ?_⟩) (by assumption) ?_
                          rotate_left
                          · intro w hSw
                            (try dsimp only at hSw)
                            go_simp
                            try with_reducible rfl
                          try simp only [Act.put, List.getElem_toArray, List.getElem_cons_zero, List.getElem_cons_succ, List.setIfInBounds_toArray, List.set_cons_zero, List.set_cons_succ]
                          refine wpAnyH_take (i := 18) (v := ?_) rfl (by kernel_rfl) (by kernel_rfl) (by kernel_rfl) (fun _ _ _ h => h) (Or.inl ⟨by kernel_rfl, ?_⟩) (by assumption) ?_
                          rotate_left
                          · intro w hSw
                            (try dsimp only at hSw)
                            go_simp
                            try with_reducible rfl
                          try simp only [Act.put, List.getElem_toArray, List.getElem_cons_zero, List.getElem_cons_succ, List.setIfInBounds_toArray, List.set_cons_zero, List.set_cons_succ]
                          refine wpAnyH_ready (rs := [19]) (by kernel_rfl) (by simp) ?_
                          refine AllReadyH.cons rfl (fun K hK => ?_) AllReadyH.nil
                          go_simp
                          go_at_call 14
                          refine (OS.out _ (U7.out.drewN 1)).mono ?_
                          rintro e w8 ⟨rfl, b8⟩
                          have B8 := hide b8
                          have yy : w8.cell? ⟨Y7, 1, none⟩ = some (.int .i64 0) ∧ w8.cell? ⟨Lb, q, none⟩ = some (.int .i64 0) := ⟨(b8.cell (lt_of_cell? y7)).trans y7, (b8.cell (lt_of_cell? c7)).trans c7⟩
                          clear b8
                          go_wp2_with fail
                          refine hK.out _ _ yy (fun hHeld => ?_)
                          clear hK K
                          try simp only [Act.put, List.getElem_toArray, List.getElem_cons_zero, List.getElem_cons_succ, List.setIfInBounds_toArray, List.set_cons_zero, List.set_cons_succ]
                          refine wpAnyH_take (i := 20) (v := ?_) rfl (by kernel_rfl) (by kernel_rfl) (by kernel_rfl) (fun _ _ _ h => h) (Or.inl ⟨by kernel_rfl, ?_⟩) (by assumption) ?_
                          rotate_left
                          · intro w hSw
                            (try dsimp only at hSw)
                            go_simp
                            try with_reducible rfl
                          try simp only [Act.put, List.getElem_toArray, List.getElem_cons_zero, List.getElem_cons_succ, List.setIfInBounds_toArray, List.set_cons_zero, List.set_cons_succ]
                          refine wpAnyH_take (i := 21) (v := ?_) rfl (by kernel_rfl) (by kernel_rfl) (by kernel_rfl) (fun _ _ _ h => h) (Or.inl ⟨by kernel_rfl, ?_⟩) (by assumption) ?_
                          rotate_left
                          · intro w hSw
                            (try dsimp only at hSw)
                            go_simp
                            try with_reducible rfl
                          try simp only [Act.put, List.getElem_toArray, List.getElem_cons_zero, List.getElem_cons_succ, List.setIfInBounds_toArray, List.set_cons_zero, List.set_cons_succ]
                          refine wpAnyH_take (i := 22) (v := ?_) rfl (by kernel_rfl) (by kernel_rfl) (by kernel_rfl) (fun _ _ _ h => h) (Or.inl ⟨by kernel_rfl, ?_⟩) (by assumption) ?_
                          rotate_left
                          · intro w hSw
                            (try dsimp only at hSw)
                            go_simp
                            try with_reducible rfl
                          try simp only [Act.put, List.getElem_toArray, List.getElem_cons_zero, List.getElem_cons_succ, List.setIfInBounds_toArray, List.set_cons_zero, List.set_cons_succ]
                          refine wpAnyH_take (i := 23) (v := ?_) rfl (by kernel_rfl) (by kernel_rfl) (by kernel_rfl) (fun _ _ _ h => h) (Or.inl ⟨by kernel_rfl, ?_⟩) (by assumption) ?_
                          rotate_left
                          · intro w hSw
                            (try dsimp only at hSw)
                            go_simp
                            try with_reducible rfl
                          try simp only [Act.put, List.getElem_toArray, List.getElem_cons_zero, List.getElem_cons_succ, List.setIfInBounds_toArray, List.set_cons_zero, List.set_cons_succ]
                          refine wpAnyH_take (i := 24) (v := ?_) rfl (by kernel_rfl) (by kernel_rfl) (by kernel_rfl) (fun _ _ _ h => h) (Or.inl ⟨by kernel_rfl, ?_⟩) (by assumption) ?_
                          rotate_left
                          · intro w hSw
                            (try dsimp only at hSw)
                            go_simp
                            try with_reducible rfl
                          try simp only [Act.put, List.getElem_toArray, List.getElem_cons_zero, List.getElem_cons_succ, List.setIfInBounds_toArray, List.set_cons_zero, List.set_cons_succ]
                          refine wpAnyH_take (i := 25) (v := ?_) rfl (by kernel_rfl) (by kernel_rfl) (by kernel_rfl) (fun _ _ _ h => h) (Or.inl ⟨by kernel_rfl, ?_⟩) (by assumption) ?_
                          rotate_left
                          · intro w hSw
                            (try dsimp only at hSw)
                            go_simp
                            try with_reducible rfl
                          try simp only [Act.put, List.getElem_toArray, List.getElem_cons_zero, List.getElem_cons_succ, List.setIfInBounds_toArray, List.set_cons_zero, List.set_cons_succ]
                          refine wpAnyH_take (i := 26) (v := ?_) rfl (by kernel_rfl) (by kernel_rfl) (by kernel_rfl) (fun _ _ _ h => h) (Or.inl ⟨by kernel_rfl, ?_⟩) (by assumption) ?_
                          rotate_left
                          · intro w hSw
                            (try dsimp only at hSw)
                            go_simp
                            try with_reducible rfl
                          try simp only [Act.put, List.getElem_toArray, List.getElem_cons_zero, List.getElem_cons_succ, List.setIfInBounds_toArray, List.set_cons_zero, List.set_cons_succ]
                          refine wpAnyH_take (i := 27) (v := ?_) rfl (by kernel_rfl) (by kernel_rfl) (by kernel_rfl) (fun _ _ _ h => h) (Or.inl ⟨by kernel_rfl, ?_⟩) (by assumption) ?_
                          rotate_left
                          · intro w hSw
                            (try dsimp only at hSw)
                            go_simp
                            try with_reducible rfl
                          try simp only [Act.put, List.getElem_toArray, List.getElem_cons_zero, List.getElem_cons_succ, List.setIfInBounds_toArray, List.set_cons_zero, List.set_cons_succ]
                          refine wpAnyH_take (i := 28) (v := undef) rfl (by kernel_rfl) (by kernel_rfl) (by kernel_rfl) (fun _ _ _ h => h) (Or.inr ⟨by kernel_rfl, rfl⟩) (by assumption) ?_
                          try simp only [Act.put, List.getElem_toArray, List.getElem_cons_zero, List.getElem_cons_succ, List.setIfInBounds_toArray, List.set_cons_zero, List.set_cons_succ]
                          refine wpAnyH_take (i := 29) (v := undef) rfl (by kernel_rfl) (by kernel_rfl) (by kernel_rfl) (fun _ _ _ h => h) (Or.inr ⟨by kernel_rfl, rfl⟩) (by assumption) ?_
                          try simp only [Act.put, List.getElem_toArray, List.getElem_cons_zero, List.getElem_cons_succ, List.setIfInBounds_toArray, List.set_cons_zero, List.set_cons_succ]
                          refine wpAnyH_take (i := 30) (v := undef) rfl (by kernel_rfl) (by kernel_rfl) (by kernel_rfl) (fun _ _ _ h => h) (Or.inr ⟨by kernel_rfl, rfl⟩) (by assumption) ?_
                          try simp only [Act.put, List.getElem_toArray, List.getElem_cons_zero, List.getElem_cons_succ, List.setIfInBounds_toArray, List.set_cons_zero, List.set_cons_succ]
                          refine wpAnyH_take (i := 31) (v := undef) rfl (by kernel_rfl) (by kernel_rfl) (by kernel_rfl) (fun _ _ _ h => h) (Or.inr ⟨by kernel_rfl, rfl⟩) (by assumption) ?_
                          try simp only [Act.put, List.getElem_toArray, List.getElem_cons_zero, List.getElem_cons_succ, List.setIfInBounds_toArray, List.set_cons_zero, List.set_cons_succ]
                          refine wpAnyH_take (i := 32) (v := ?_) rfl (by kernel_rfl) (by kernel_rfl) (by kernel_rfl) (fun _ _ _ h => h) (Or.inl ⟨by kernel_rfl, ?_⟩) (by assumption) ?_
                          rotate_left
                          · intro w hSw
                            (try dsimp only at hSw)
                            go_simp
                            try with_reducible rfl
                          try simp only [Act.put, List.getElem_toArray, List.getElem_cons_zero, List.getElem_cons_succ, List.setIfInBounds_toArray, List.set_cons_zero, List.set_cons_succ]
                          refine wpAnyH_take (i := 33) (v := ?_) rfl (by kernel_rfl) (by kernel_rfl) (by kernel_rfl) (fun _ _ _ h => h) (Or.inl ⟨by kernel_rfl, ?_⟩) (by assumption) ?_
                          rotate_left
                          · intro w hSw
                            (try dsimp only at hSw)
                            go_simp
                            try with_reducible rfl
                          try simp only [Act.put, List.getElem_toArray, List.getElem_cons_zero, List.getElem_cons_succ, List.setIfInBounds_toArray, List.set_cons_zero, List.set_cons_succ]
                          refine wpAnyH_done (by kernel_rfl) ?_ _
                          go_simp
                          refine NoPanic.normal ?_
                          refine a9 _ _ ?_
                          go_wp2_with fail
                          go_roundw
                          case rel => exact ⟨q + 1, by omega, by go_num, (U7.out.trans (Touch.of_below (S := fun _ => False) ((below_drewN (Below.refl _ _) 1).trans B8.out)) (fun i e => e.elim)), R7.out.keep (B8.out.block Lb (lt_of_heap R7.out))⟩
                          case measure => simp [intOf]; omega
                        · have l1 : ((lv : Int) == 0) = false := by simp; omega
                          clear hq0
                          go_quiet (fail)
                          go_wp2_with fail
                          go_roundw
                          case rel => exact ⟨q + 1, by omega, by go_num, U7.out.drewN _, R7.out⟩
                          case measure => simp [intOf]; omega
                  · obtain rfl : q = 16 := by omega
                    have FT := hide (TL.out _ hL.out.1)
                    go_wp2_with fail
                    go_roundw
                    case rel => exact ⟨k + 1, s2, U4, D4, by omega, by go_num, FT.out, by rw [show ((k + 1 : Nat) : Int) + 1 = (k : Int) + 1 + 1 from by omega]; exact G2.out, O2.out⟩
                    case measure => simp [intOf]; omega
        · go_upto_region 13 with (go_at_call 10; refine DN.out.mono ?_; rintro e w4 ⟨rfl, U4, D4, t4, -⟩; have T4 := hide t4; clear t4)
          clear z0 z1 z2 z3 z4 v2 DN T3
          have L0 := hide (links_zero w4 38)
          have NL := hide (show ¬ U4 w4.heap.size ∧ ¬ D4 w4.heap.size ∧ w.heap.size ≤ w4.heap.size from ⟨fun e => by have := KP.out.lt T4.out.ps _ e; omega, fun e => by have := (keepsRin R G).lt T4.out.ds _ e; omega, T4.out.bel.size⟩)
          have T5 := hide (show Twin PI w (w4.alloc (.cells #[.int .i64 0, .int .i64 0, .int .i64 0, .int .i64 0, .int .i64 0, .int .i64 0, .int .i64 0, .int .i64 0, .int .i64 0, .int .i64 0, .int .i64 0, .int .i64 0, .int .i64 0, .int .i64 0, .int .i64 0, .int .i64 0] 38)) U4 D4 [] H S R G T T2 s2 from (TwoO.below KP.out (keepsRin R G) T4.out ((Below.refl _ _).alloc (Nat.le_refl _) _)).1)
          have LS5 := hide (show w4.heap.size < (w4.alloc (.cells #[.int .i64 0, .int .i64 0, .int .i64 0, .int .i64 0, .int .i64 0, .int .i64 0, .int .i64 0, .int .i64 0, .int .i64 0, .int .i64 0, .int .i64 0, .int .i64 0, .int .i64 0, .int .i64 0, .int .i64 0, .int .i64 0] 38)).heap.size from by simp)
          go_upto_region 14 with fail
          generalize w4.alloc (.cells #[.int .i64 0, .int .i64 0, .int .i64 0, .int .i64 0, .int .i64 0, .int .i64 0, .int .i64 0, .int .i64 0, .int .i64 0, .int .i64 0, .int .i64 0, .int .i64 0, .int .i64 0, .int .i64 0, .int .i64 0, .int .i64 0] 38) = w5 at *
          generalize w4.heap.size = Lb at *
          clear T4
          have TL := hide (show ∀ W, Touch (fun i => i = Lb) w5 W → Twin PI w W U4 D4 [] H S R G T T2 s2 from fun W u => TwoO.touch KP.out (keepsRin R G) T5.out u (fun i e => by have e : i = Lb := e; subst e; exact NL.out))
          have PL := hide (fun (W : World) (u : Touch (fun i => i = Lb) w5 W) (q : Nat) (hq : q < 16) => I.ls (TL.out W u).ps G2.out (q : Int) (wf_16 hq))
          have PG := hide (fun (W : World) (u : Touch (fun i => i = Lb) w5 W) (q : Nat) (hq : q < 16) => I.gt (TL.out W u).ps G2.out (q : Int) (wf_16 hq))
          have PO := hide (fun (W : World) (u : Touch (fun i => i = Lb) w5 W) (q : Nat) (hq : q < 16) => I.os (TL.out W u).ps G2.out (q : Int) (wf_16 hq))
          have L00 := hide (show RowI w5 Lb 16 38 (lnkF (sumD s2 0)) from L0.out)
          clear L0
          go_wp2_with fail
          go_loopw [10] (fun dv wr => ∃ q : Nat, q ≤ 16 ∧ dv = .int .i64 (q : Int) ∧ Hid (Touch (fun i => i = Lb) w5 wr ∧ RowI wr Lb 16 38 (lnkF (sumD s2 q)))) (fun dv _ => 16 - (intOf dv).toNat)
          case atStart => exact ⟨0, Nat.zero_le _, rfl, Touch.refl _ _, L00.out⟩
          case round =>
            clear L00
            obtain ⟨q, hq, rfl, hL⟩ := hrel
            have q0 : (0 : Int) ≤ (q : Int) := by omega
            by_cases hql : q < 16
            · have q1 : (q : Int) < 16 := by omega
              have LS := hide (PL.out _ hL.out.1 q hql)
              have NX := hide (show ∀ j, sumD s2 (q + 1) j = sumD s2 q j + cntL (s2.n q).l j from fun j => rfl)
              have EE := hide (G2.out.ent q)
              have E8 := hide (G2.out.few q)
              have BD := hide (show ∀ j, sumD s2 q j ≤ 8 * q from fun j => sumN_le (fun i _ => Nat.le_trans List.countP_le_length (G2.out.few i)))
              cases hdir : dirI s2 (q : Int) with
              | false =>
                have hl : (s2.n q).l = [] := by
                  cases hi : (s2.n q).is with
                  | false => rw [G2.out.no q hi]; rfl
                  | true =>
                    refine G2.out.file q ?_
                    cases hd2 : (s2.n q).dir with
                    | false => rfl
                    | true => rw [dirI_of hql hi hd2] at hdir; cases hdir
                rw [show lsI s2 (q : Int) = [] from by unfold lsI; rw [hdir]; rfl, show lsIE s2 (q : Int) = 11 from by unfold lsIE; rw [hdir]; rfl, show ([] : List Ent).length = 0 from rfl] at LS
                have SE := hide (show ∀ j, lnkF (sumD s2 q) j = lnkF (sumD s2 (q + 1)) j from fun j => by unfold lnkF; rw [NX.out j, hl]; rfl)
                clear hl hdir
                go_wp2_with (go_at_call 13; refine LS.out.mono ?_; rintro e w6 ⟨v6, rfl, o6, b6⟩; obtain ⟨a6, c6, rfl, -⟩ := own_sliceR o6; have B6 := hide b6; clear o6 b6)
                go_loopw [13] (fun kv wr => kv = .int .i64 0 ∧ w6 = wr) (fun _ _ => 0)
                case atStart => exact ⟨rfl, rfl⟩
                case round =>
                  obtain ⟨rfl, rfl⟩ := hrel
                  go_wp2_with fail
                  go_roundw
                  case rel => exact ⟨q + 1, by omega, by go_num, hL.out.1.trans (Touch.of_below (S := fun _ => False) B6.out) (fun i e => e.elim), (hL.out.2.keep (B6.out.block Lb (lt_of_heap hL.out.2))).ext SE.out⟩
                  case measure => simp [intOf]; omega
              | true =>
                rw [show lsI s2 (q : Int) = (s2.n q).l from by unfold lsI; rw [hdir, Int.toNat_natCast]; rfl, show lsIE s2 (q : Int) = 0 from by unfold lsIE; rw [hdir]; rfl] at LS
                obtain ⟨l, hl⟩ : ∃ l, l = (s2.n q).l := ⟨_, rfl⟩
                rw [← hl] at LS NX EE E8
                obtain ⟨ln, hln⟩ : ∃ z, z = l.length := ⟨_, rfl⟩
                have LN := hide hln
                rw [← hln] at LS E8
                clear hl hdir hln
                go_upto_region 18 with (go_at_call 13; refine LS.out.mono ?_; rintro e w6 ⟨v6, rfl, o6, b6⟩; have O6 := hide o6; have B6 := hide b6; clear o6 b6)
                obtain ⟨a6, c6, rfl, r6, -, -, -⟩ := own_reads enV_len (by omega) O6.out
                have U6 := hide (show Touch (fun i => i = Lb) w5 w6 from hL.out.1.trans (Touch.of_below (S := fun _ => False) B6.out) (fun i e => e.elim))
                have R6 := hide (hL.out.2.keep (B6.out.block Lb (lt_of_heap hL.out.2)))
                have RD6 := hide (And.intro r6 (show ∀ b o, a6 = some ⟨b, o, none⟩ → ¬ b = Lb from fun b o e e2 => by
                  have h := (O6.out.lt b (by rw [e]; rfl)).1
                  have h2 := lt_of_heap hL.out.2
                  omega))
                have l8 : (ln : Int) ≤ 8 := by have := E8.out; omega
                clear r6 LS
                go_wp2_with fail
                go_loopw [13] (fun kv wr => ∃ kk : Nat, kk ≤ ln ∧ kv = .int .i64 (kk : Int) ∧ Hid (Touch (fun i => i = Lb) w6 wr ∧ RowI wr Lb 16 38 (lnkF fun j => sumD s2 q j + cntL (l.take kk) j))) (fun kv _ => ln - (intOf kv).toNat)
                case atStart => exact ⟨0, Nat.zero_le _, rfl, Touch.refl _ _, R6.out⟩
                case round =>
                  clear R6
                  obtain ⟨kk, hkk, rfl, hM⟩ := hrel
                  have kk0 : (0 : Int) ≤ (kk : Int) := by omega
                  by_cases hkl : kk < ln
                  · have kk1 : (kk : Int) < (ln : Int) := by omega
                    obtain ⟨x, b6, o6, hx, rfl, -, e1⟩ := (RD6.out.1.touch hM.out.1 RD6.out.2).ent hkl
                    have j16 := (EE.out x (List.mem_of_getElem? hx)).1
                    have TK := hide (show ∀ j, cntL (l.take (kk + 1)) j = cntL (l.take kk) j + if x.id = j then 1 else 0 from fun j => by rw [List.take_add_one, hx, cntL_app]; show _ + cntL [x] j = _; rw [cntL_cons, cntL_nil]; omega)
                    have cl := hM.out.2.cell j16
                    have fz := hM.out.2.frz x.id
                    have an := and15 x.id j16
                    obtain ⟨j, hj⟩ : ∃ z, z = x.id := ⟨_, rfl⟩
                    rw [← hj] at e1 j16 cl fz an TK
                    obtain ⟨lv, hlv⟩ : ∃ z, z = sumD s2 q j + cntL (l.take kk) j := ⟨_, rfl⟩
                    rw [show lnkF (fun j => sumD s2 q j + cntL (l.take kk) j) j = Value.int .i64 ((lv : Nat) : Int) from by unfold lnkF; rw [hlv]] at cl
                    have lvb : (lv : Int) ≤ 1000 := by
                      have h1 := BD.out j
                      have h2 : cntL (l.take kk) j ≤ (l.take kk).length := List.countP_le_length
                      rw [List.length_take] at h2
                      omega
                    have NXT := hide (show ∀ (m : Nat), RowI ((wr.setCell ⟨Lb, j, none⟩ (.int .i64 ((lv + 1 : Nat) : Int))).drewN m) Lb 16 38 (lnkF fun j => sumD s2 q j + cntL (l.take (kk + 1)) j) ∧ Touch (fun i => i = Lb) w6 ((wr.setCell ⟨Lb, j, none⟩ (.int .i64 ((lv + 1 : Nat) : Int))).drewN m) from fun m => by
                      have r := hM.out.2.set j (.int .i64 ((lv + 1 : Nat) : Int))
                      rw [lnkF_upd _ j (lv + 1) (by rw [hlv])] at r
                      refine ⟨(show RowI _ Lb 16 _ _ from r).ext fun j2 => ?_, ((hM.out.1.setCell (p := ⟨Lb, j, none⟩) rfl _).drewN m)⟩
                      show Value.int .i64 ((upd _ j _ j2 : Nat) : Int) = Value.int .i64 ((sumD s2 q j2 + cntL (l.take (kk + 1)) j2 : Nat) : Int)
                      rw [TK.out j2]
                      by_cases e : j2 = j
                      · subst e; rw [upd_same, if_pos rfl, Nat.add_assoc]
                      · rw [upd_other _ _ e, if_neg (fun h => e h.symm), Nat.add_zero])
                    have e9 : (lv : Int) + 1 = ((lv + 1 : Nat) : Int) := by omega
                    obtain ⟨lv1, hlv1⟩ : ∃ z, z = lv + 1 := ⟨_, rfl⟩
                    rw [← hlv1] at NXT e9
                    have j0 : (0 : Int) ≤ (j : Int) := by omega
                    have j1 : (j : Int) < 16 := by omega
                    clear hx hj hlv hlv1
                    go_wp2_with fail
                    go_roundw
                    case rel => exact ⟨kk + 1, by omega, by go_num, (NXT.out 0).2, (NXT.out 0).1⟩
                    case measure => simp [intOf]; omega
                  · obtain rfl : kk = ln := by omega
                    have SE := hide (show ∀ j, lnkF (fun j => sumD s2 q j + cntL (l.take kk) j) j = lnkF (sumD s2 (q + 1)) j from fun j => by unfold lnkF; rw [NX.out j, List.take_of_length_le (by rw [LN.out]; exact Nat.le_refl _)])
                    go_wp2_with fail
                    go_roundw
                    case rel => exact ⟨q + 1, by omega, by go_num, U6.out.trans hM.out.1 (fun i e => .inl e), hM.out.2.ext SE.out⟩
                    case measure => simp [intOf]; omega
            · have q16 : q = 16 := by omega
              rw [show ((q : Nat) : Int) = 16 from by omega]
              subst q16
              have LF := hide hL.out
              clear hL hql hq
              go_wp2_with fail
              go_loopw [14] (fun dv wr => ∃ q : Nat, q ≤ 16 ∧ dv = .int .i64 (q : Int) ∧ Hid (Touch (fun i => i = Lb) w5 wr ∧ RowI wr Lb 16 38 (lnkF (sumD s2 16)))) (fun dv _ => 16 - (intOf dv).toNat)
              case atStart => exact ⟨0, Nat.zero_le _, rfl, LF.out⟩
              case round =>
                clear LF
                obtain ⟨q, hq, rfl, hL⟩ := hrel
                have q0 : (0 : Int) ≤ (q : Int) := by omega
                by_cases hql : q < 16
                · have q1 : (q : Int) < 16 := by omega
                  have GT := hide (PG.out _ hL.out.1 q hql)
                  have LK := hide (show (s2.n q).links = ((cntE s2 q : Nat) : Int) from by rw [G2.out.lnk q, cntL_nil, Nat.add_zero])
                  obtain ⟨lv, hlv⟩ : ∃ z, z = cntE s2 q := ⟨_, rfl⟩
                  rw [← hlv] at LK
                  have ne0 : ((lv : Int) != (lv : Int)) = false := by simp
                  cases hi : (s2.n q).is with
                  | false =>
                    have hiI : isI s2 (q : Int) = false := by rw [isI_nat, hi]; simp
                    have l0 : lv = 0 := by have := LK.out; rw [G2.out.no q hi] at this; have h : (Nd.zero).links = 0 := rfl; omega
                    rw [show gotI s2 (q : Int) = .tuple #[.agg #[.int .i64 0, .int .i64 0, .bool false, .int .i64 0], .bool false] from by unfold gotI; rw [hiI]; rfl] at GT
                    have cl := fun (W : World) (u : Touch (fun i => i = Lb) w5 W) (r : RowI W Lb 16 38 (lnkF (sumD s2 16))) => (show W.cell? ⟨Lb, q, none⟩ = some (.int .i64 0) from by rw [r.cell hql]; show some (Value.int .i64 ((cntE s2 q : Nat) : Int)) = _; rw [← hlv, l0]; rfl)
                    have CLL := hide cl
                    clear hi hiI l0 hlv cl
                    go_upto_region 26 with (go_at_call 12; refine GT.out.mono ?_; rintro e w6 ⟨rfl, b6⟩; have B6 := hide b6; clear b6)
                    have B7 := hide (B6.out.alloc B6.out.size (.cells #[.int .i64 0, .int .i64 0, .bool false, .int .i64 0] 35))
                    generalize w6.alloc (.cells #[.int .i64 0, .int .i64 0, .bool false, .int .i64 0] 35) = w7 at *
                    have U7 := hide (show Touch (fun i => i = Lb) w5 w7 from hL.out.1.trans (Touch.of_below (S := fun _ => False) B7.out) (fun i e => e.elim))
                    have R7 := hide (hL.out.2.keep (B7.out.block Lb (lt_of_heap hL.out.2)))
                    have c7 := CLL.out _ U7.out R7.out
                    go_quiet (fail)
                    go_wp2_with fail
                    go_roundw
                    case rel => exact ⟨q + 1, by omega, by go_num, U7.out.drewN _, R7.out⟩
                    case measure => simp [intOf]; omega
                  | true =>
                    have hiI : isI s2 (q : Int) = true := isI_of hql hi
                    have OPN := hide (show q ≠ 0 → lv = 0 → ¬ (s2.n q).opens = 0 from fun h0 hl e => by
                      rcases O2.out q h0 h0 hi with h | h
                      · have := LK.out; omega
                      · omega)
                    rw [show gotI s2 (q : Int) = .tuple #[.agg #[.int .i64 (q : Int), .int .i64 (lv : Int), .bool (s2.n q).dir, .int .i64 (gtSz s2 q : Nat)], .bool true] from by unfold gotI; rw [hiI, if_pos rfl, Int.toNat_natCast, LK.out]] at GT
                    obtain ⟨sz, hsz⟩ : ∃ z, z = gtSz s2 q := ⟨_, rfl⟩
                    obtain ⟨dr, hdr⟩ : ∃ z, z = (s2.n q).dir := ⟨_, rfl⟩
                    rw [← hsz, ← hdr] at GT
                    have OS := hide (fun (W : World) (u : Touch (fun i => i = Lb) w5 W) => (show opsI s2 (q : Int) = (s2.n q).opens from by unfold opsI; rw [hiI, if_pos rfl, Int.toNat_natCast]) ▸ PO.out W u q hql)
                    obtain ⟨op, hop⟩ : ∃ z, z = (s2.n q).opens := ⟨_, rfl⟩
                    rw [← hop] at OS OPN
                    have CLL := hide (fun (W : World) (r : RowI W Lb 16 38 (lnkF (sumD s2 16))) => (show W.cell? ⟨Lb, q, none⟩ = some (.int .i64 (lv : Int)) from by rw [r.cell hql]; show some (Value.int .i64 ((cntE s2 q : Nat) : Int)) = _; rw [← hlv]))
                    clear hi hiI hlv hsz hdr hop
                    go_upto_region 26 with (go_at_call 12; refine GT.out.mono ?_; rintro e w6 ⟨rfl, b6⟩; have B6 := hide b6; clear b6)
                    have B7 := hide (B6.out.alloc B6.out.size (.cells #[.int .i64 (q : Int), .int .i64 (lv : Int), .bool dr, .int .i64 (sz : Int)] 35))
                    have HY := hide (heap_alloc_new w6 (.cells #[.int .i64 (q : Int), .int .i64 (lv : Int), .bool dr, .int .i64 (sz : Int)] 35))
                    generalize w6.alloc (.cells #[.int .i64 (q : Int), .int .i64 (lv : Int), .bool dr, .int .i64 (sz : Int)] 35) = w7 at *
                    generalize w6.heap.size = Y7 at *
                    rename_i Q9 K9 a9
                    have U7 := hide (show Touch (fun i => i = Lb) w5 w7 from hL.out.1.trans (Touch.of_below (S := fun _ => False) B7.out) (fun i e => e.elim))
                    have R7 := hide (hL.out.2.keep (B7.out.block Lb (lt_of_heap hL.out.2)))
                    have c7 := CLL.out _ R7.out
                    have y7 : w7.cell? ⟨Y7, 1, none⟩ = some (.int .i64 (lv : Int)) := by rw [cell_of_row _ _ _ _ _ _ HY.out]; rfl
                    clear GT
                    by_cases hq0 : q = 0
                    · have qz : ¬ (0 : Int) < (q : Int) := by omega
                      have qz2 : ¬ 0 < q := by omega
                      have qz3 : decide (0 < q) = false := by simp [hq0]
                      have qz4 : decide ((0 : Int) < (q : Int)) = false := by simp [hq0]
                      clear hq0
                      go_quiet (fail)
                      go_wp2_with fail
                      go_roundw
                      case rel => exact ⟨q + 1, by omega, by go_num, U7.out.drewN _, R7.out⟩
                      case measure => simp [intOf]; omega
                    · have qp : (0 : Int) < (q : Int) := by omega
                      have qp2 : 0 < q := by omega
                      by_cases hl0 : lv = 0
                      · have opn := OPN.out hq0 hl0
                        have opb : (op == 0) = false := by simpa using opn
                        rw [show ((lv : Nat) : Int) = 0 from by omega] at c7 y7 ne0
                        clear hq0 hl0 LK CLL
                        refine wp_region_noPanic ?_
                        refine wp_region_held_drew (S := (fun w' => w'.cell? ⟨Y7, 1, none⟩ = some (.int .i64 0) ∧ w'.cell? ⟨Lb, q, none⟩ = some (.int .i64 0))) (by kernel_rfl) ⟨y7, c7⟩ (fun hHeld => ?_)
                        refine wpAnyH_take (i := 0) (v := ?_) rfl (by kernel_rfl) (by kernel_rfl) (by kernel_rfl) (fun _ _ _ h => h) (Or.inl ⟨by kernel_rfl, ?_⟩) (by assumption) ?_
                        rotate_left
                        · intro w hSw
                          (try dsimp only at hSw)
                          go_simp
                          try with_reducible rfl
                        try simp only [Act.put, List.getElem_toArray, List.getElem_cons_zero, List.getElem_cons_succ, List.setIfInBounds_toArray, List.set_cons_zero, List.set_cons_succ]
                        refine wpAnyH_take (i := 1) (v := ?_) rfl (by kernel_rfl) (by kernel_rfl) (by kernel_rfl) (fun _ _ _ h => h) (Or.inl ⟨by kernel_rfl, ?_⟩) (by assumption) ?_
                        rotate_left
                        · intro w hSw
                          (try dsimp only at hSw)
                          go_simp
                          try with_reducible rfl
                        try simp only [Act.put, List.getElem_toArray, List.getElem_cons_zero, List.getElem_cons_succ, List.setIfInBounds_toArray, List.set_cons_zero, List.set_cons_succ]
                        refine wpAnyH_take (i := 2) (v := ?_) rfl (by kernel_rfl) (by kernel_rfl) (by kernel_rfl) (fun _ _ _ h => h) (Or.inl ⟨by kernel_rfl, ?_⟩) (by assumption) ?_
                        rotate_left
                        · intro w hSw
                          (try dsimp only at hSw)
                          go_simp
                          try with_reducible rfl
                        try simp only [Act.put, List.getElem_toArray, List.getElem_cons_zero, List.getElem_cons_succ, List.setIfInBounds_toArray, List.set_cons_zero, List.set_cons_succ]
                        refine wpAnyH_take (i := 3) (v := ?_) rfl (by kernel_rfl) (by kernel_rfl) (by kernel_rfl) (fun _ _ _ h => h) (Or.inl ⟨by kernel_rfl, ?_⟩) (by assumption) ?_
                        rotate_left
                        · intro w hSw
                          (try dsimp only at hSw)
                          go_simp
                          try with_reducible rfl
                        try simp only [Act.put, List.getElem_toArray, List.getElem_cons_zero, List.getElem_cons_succ, List.setIfInBounds_toArray, List.set_cons_zero, List.set_cons_succ]
                        refine wpAnyH_take (i := 4) (v := ?_) rfl (by kernel_rfl) (by kernel_rfl) (by kernel_rfl) (fun _ _ _ h => h) (Or.inl ⟨by kernel_rfl, ?_⟩) (by assumption) ?_
                        rotate_left
                        · intro w hSw
                          (try dsimp only at hSw)
                          go_simp
                          try with_reducible rfl
                        try simp only [Act.put, List.getElem_toArray, List.getElem_cons_zero, List.getElem_cons_succ, List.setIfInBounds_toArray, List.set_cons_zero, List.set_cons_succ]
                        refine wpAnyH_take (i := 5) (v := ?_) rfl (by kernel_rfl) (by kernel_rfl) (by kernel_rfl) (fun _ _ _ h => h) (Or.inl ⟨by kernel_rfl, ?_⟩) (by assumption) ?_
                        rotate_left
                        · intro w hSw
                          (try dsimp only at hSw)
                          go_simp
                          try with_reducible rfl
                        try simp only [Act.put, List.getElem_toArray, List.getElem_cons_zero, List.getElem_cons_succ, List.setIfInBounds_toArray, List.set_cons_zero, List.set_cons_succ]
                        refine wpAnyH_take (i := 6) (v := ?_) rfl (by kernel_rfl) (by kernel_rfl) (by kernel_rfl) (fun _ _ _ h => h) (Or.inl ⟨by kernel_rfl, ?_⟩) (by assumption) ?_
                        rotate_left
                        · intro w hSw
                          (try dsimp only at hSw)
                          go_simp
                          try with_reducible rfl
                        try simp only [Act.put, List.getElem_toArray, List.getElem_cons_zero, List.getElem_cons_succ, List.setIfInBounds_toArray, List.set_cons_zero, List.set_cons_succ]
                        refine wpAnyH_take (i := 7) (v := ?_) rfl (by kernel_rfl) (by kernel_rfl) (by kernel_rfl) (fun _ _ _ h => h) (Or.inl ⟨by kernel_rfl, ?_⟩) (by assumption) ?_
                        rotate_left
                        · intro w hSw
                          (try dsimp only at hSw)
                          go_simp
                          try with_reducible rfl
                        try simp only [Act.put, List.getElem_toArray, List.getElem_cons_zero, List.getElem_cons_succ, List.setIfInBounds_toArray, List.set_cons_zero, List.set_cons_succ]
                        refine wpAnyH_take (i := 8) (v := ?_) rfl (by kernel_rfl) (by kernel_rfl) (by kernel_rfl) (fun _ _ _ h => h) (Or.inl ⟨by kernel_rfl, ?_⟩) (by assumption) ?_
                        rotate_left
                        · intro w hSw
                          (try dsimp only at hSw)
                          go_simp
                          try with_reducible rfl
                        try simp only [Act.put, List.getElem_toArray, List.getElem_cons_zero, List.getElem_cons_succ, List.setIfInBounds_toArray, List.set_cons_zero, List.set_cons_succ]
                        refine wpAnyH_take (i := 9) (v := ?_) rfl (by kernel_rfl) (by kernel_rfl) (by kernel_rfl) (fun _ _ _ h => h) (Or.inl ⟨by kernel_rfl, ?_⟩) (by assumption) ?_
                        rotate_left
                        · intro w hSw
                          (try dsimp only at hSw)
                          go_simp
                          try with_reducible rfl
                        try simp only [Act.put, List.getElem_toArray, List.getElem_cons_zero, List.getElem_cons_succ, List.setIfInBounds_toArray, List.set_cons_zero, List.set_cons_succ]
                        refine wpAnyH_take (i := 10) (v := ?_) rfl (by kernel_rfl) (by kernel_rfl) (by kernel_rfl) (fun _ _ _ h => h) (Or.inl ⟨by kernel_rfl, ?_⟩) (by assumption) ?_
                        rotate_left
                        · intro w hSw
                          (try dsimp only at hSw)
                          go_simp
                          try with_reducible rfl
                        try simp only [Act.put, List.getElem_toArray, List.getElem_cons_zero, List.getElem_cons_succ, List.setIfInBounds_toArray, List.set_cons_zero, List.set_cons_succ]
                        refine wpAnyH_take (i := 11) (v := ?_) rfl (by kernel_rfl) (by kernel_rfl) (by kernel_rfl) (fun _ _ _ h => h) (Or.inl ⟨by kernel_rfl, ?_⟩) (by assumption) ?_
                        rotate_left
                        · intro w hSw
                          (try dsimp only at hSw)
                          go_simp
                          try with_reducible rfl
                        try simp only [Act.put, List.getElem_toArray, List.getElem_cons_zero, List.getElem_cons_succ, List.setIfInBounds_toArray, List.set_cons_zero, List.set_cons_succ]
                        refine wpAnyH_take (i := 12) (v := ?_) rfl (by kernel_rfl) (by kernel_rfl) (by kernel_rfl) (fun _ _ _ h => h) (Or.inl ⟨by kernel_rfl, ?_⟩) (by assumption) ?_
                        rotate_left
                        · intro w hSw
                          (try dsimp only at hSw)
                          go_simp
                          try with_reducible rfl
                        try simp only [Act.put, List.getElem_toArray, List.getElem_cons_zero, List.getElem_cons_succ, List.setIfInBounds_toArray, List.set_cons_zero, List.set_cons_succ]
                        refine wpAnyH_take (i := 13) (v := ?_) rfl (by kernel_rfl) (by kernel_rfl) (by kernel_rfl) (fun _ _ _ h => h) (Or.inl ⟨by kernel_rfl, ?_⟩) (by assumption) ?_
                        rotate_left
                        · intro w hSw
                          (try dsimp only at hSw)
                          go_simp
                          try with_reducible rfl
                        try simp only [Act.put, List.getElem_toArray, List.getElem_cons_zero, List.getElem_cons_succ, List.setIfInBounds_toArray, List.set_cons_zero, List.set_cons_succ]
                        refine wpAnyH_take (i := 14) (v := ?_) rfl (by kernel_rfl) (by kernel_rfl) (by kernel_rfl) (fun _ _ _ h => h) (Or.inl ⟨by kernel_rfl, ?_⟩) (by assumption) ?_
                        rotate_left
                        · intro w hSw
                          (try dsimp only at hSw)
                          go_simp
                          try with_reducible rfl
                        try simp only [Act.put, List.getElem_toArray, List.getElem_cons_zero, List.getElem_cons_succ, List.setIfInBounds_toArray, List.set_cons_zero, List.set_cons_succ]
                        refine wpAnyH_take (i := 15) (v := ?_) rfl (by kernel_rfl) (by kernel_rfl) (by kernel_rfl) (fun _ _ _ h => h) (Or.inl ⟨by kernel_rfl, ?_⟩) (by assumption) ?_
                        rotate_left
                        · intro w hSw
                          (try dsimp only at hSw)
                          go_simp
                          try with_reducible rfl
                        try simp only [Act.put, List.getElem_toArray, List.getElem_cons_zero, List.getElem_cons_succ, List.setIfInBounds_toArray, List.set_cons_zero, List.set_cons_succ]
                        refine wpAnyH_take (i := 16) (v := ?_) rfl (by kernel_rfl) (by kernel_rfl) (by kernel_rfl) (fun _ _ _ h => h) (Or.inl ⟨by kernel_rfl, ?_⟩) (by assumption) ?_
                        rotate_left
                        · intro w hSw
                          (try dsimp only at hSw)
                          go_simp
                          try with_reducible rfl
                        try simp only [Act.put, List.getElem_toArray, List.getElem_cons_zero, List.getElem_cons_succ, List.setIfInBounds_toArray, List.set_cons_zero, List.set_cons_succ]
                        refine wpAnyH_take (i := 17) (v := ?_) rfl (by kernel_rfl) (by kernel_rfl) (by kernel_rfl) (fun _ _ _ h => h) (Or.inl ⟨by kernel_rfl, ?_⟩) (by assumption) ?_
                        rotate_left
                        · intro w hSw
                          (try dsimp only at hSw)
                          go_simp
                          try with_reducible rfl
                        try simp only [Act.put, List.getElem_toArray, List.getElem_cons_zero, List.getElem_cons_succ, List.setIfInBounds_toArray, List.set_cons_zero, List.set_cons_succ]
                        refine wpAnyH_take (i := 18) (v := ?_) rfl (by kernel_rfl) (by kernel_rfl) (by kernel_rfl) (fun _ _ _ h => h) (Or.inl ⟨by kernel_rfl, ?_⟩) (by assumption) ?_
                        rotate_left
                        · intro w hSw
                          (try dsimp only at hSw)
                          go_simp
                          try with_reducible rfl
                        try simp only [Act.put, List.getElem_toArray, List.getElem_cons_zero, List.getElem_cons_succ, List.setIfInBounds_toArray, List.set_cons_zero, List.set_cons_succ]
                        refine wpAnyH_ready (rs := [19]) (by kernel_rfl) (by simp) ?_
                        refine AllReadyH.cons rfl (fun K hK => ?_) AllReadyH.nil
                        go_simp
                        go_at_call 14
                        refine (OS.out _ (U7.out.drewN 1)).mono ?_
                        rintro e w8 ⟨rfl, b8⟩
                        have B8 := hide b8
                        have yy : w8.cell? ⟨Y7, 1, none⟩ = some (.int .i64 0) ∧ w8.cell? ⟨Lb, q, none⟩ = some (.int .i64 0) := ⟨(b8.cell (lt_of_cell? y7)).trans y7, (b8.cell (lt_of_cell? c7)).trans c7⟩
                        clear b8
                        go_wp2_with fail
                        refine hK.out _ _ yy (fun hHeld => ?_)
                        clear hK K
                        try simp only [Act.put, List.getElem_toArray, List.getElem_cons_zero, List.getElem_cons_succ, List.setIfInBounds_toArray, List.set_cons_zero, List.set_cons_succ]
                        refine wpAnyH_take (i := 20) (v := ?_) rfl (by kernel_rfl) (by kernel_rfl) (by kernel_rfl) (fun _ _ _ h => h) (Or.inl ⟨by kernel_rfl, ?_⟩) (by assumption) ?_
                        rotate_left
                        · intro w hSw
                          (try dsimp only at hSw)
                          go_simp
                          try with_reducible rfl
                        try simp only [Act.put, List.getElem_toArray, List.getElem_cons_zero, List.getElem_cons_succ, List.setIfInBounds_toArray, List.set_cons_zero, List.set_cons_succ]
                        refine wpAnyH_take (i := 21) (v := ?_) rfl (by kernel_rfl) (by kernel_rfl) (by kernel_rfl) (fun _ _ _ h => h) (Or.inl ⟨by kernel_rfl, ?_⟩) (by assumption) ?_
                        rotate_left
                        · intro w hSw
                          (try dsimp only at hSw)
                          go_simp
                          try with_reducible rfl
                        try simp only [Act.put, List.getElem_toArray, List.getElem_cons_zero, List.getElem_cons_succ, List.setIfInBounds_toArray, List.set_cons_zero, List.set_cons_succ]
                        refine wpAnyH_take (i := 22) (v := ?_) rfl (by kernel_rfl) (by kernel_rfl) (by kernel_rfl) (fun _ _ _ h => h) (Or.inl ⟨by kernel_rfl, ?_⟩) (by assumption) ?_
                        rotate_left
                        · intro w hSw
                          (try dsimp only at hSw)
                          go_simp
                          try with_reducible rfl
                        try simp only [Act.put, List.getElem_toArray, List.getElem_cons_zero, List.getElem_cons_succ, List.setIfInBounds_toArray, List.set_cons_zero, List.set_cons_succ]
                        refine wpAnyH_take (i := 23) (v := ?_) rfl (by kernel_rfl) (by kernel_rfl) (by kernel_rfl) (fun _ _ _ h => h) (Or.inl ⟨by kernel_rfl, ?_⟩) (by assumption) ?_
                        rotate_left
                        · intro w hSw
                          (try dsimp only at hSw)
                          go_simp
                          try with_reducible rfl
                        try simp only [Act.put, List.getElem_toArray, List.getElem_cons_zero, List.getElem_cons_succ, List.setIfInBounds_toArray, List.set_cons_zero, List.set_cons_succ]
                        refine wpAnyH_take (i := 24) (v := ?_) rfl (by kernel_rfl) (by kernel_rfl) (by kernel_rfl) (fun _ _ _ h => h) (Or.inl ⟨by kernel_rfl, ?_⟩) (by assumption) ?_
                        rotate_left
                        · intro w hSw
                          (try dsimp only at hSw)
                          go_simp
                          try with_reducible rfl
                        try simp only [Act.put, List.getElem_toArray, List.getElem_cons_zero, List.getElem_cons_succ, List.setIfInBounds_toArray, List.set_cons_zero, List.set_cons_succ]
                        refine wpAnyH_take (i := 25) (v := ?_) rfl (by kernel_rfl) (by kernel_rfl) (by kernel_rfl) (fun _ _ _ h => h) (Or.inl ⟨by kernel_rfl, ?_⟩) (by assumption) ?_
                        rotate_left
                        · intro w hSw
                          (try dsimp only at hSw)
                          go_simp
                          try with_reducible rfl
                        try simp only [Act.put, List.getElem_toArray, List.getElem_cons_zero, List.getElem_cons_succ, List.setIfInBounds_toArray, List.set_cons_zero, List.set_cons_succ]
                        refine wpAnyH_take (i := 26) (v := ?_) rfl (by kernel_rfl) (by kernel_rfl) (by kernel_rfl) (fun _ _ _ h => h) (Or.inl ⟨by kernel_rfl, ?_⟩) (by assumption) ?_
                        rotate_left
                        · intro w hSw
                          (try dsimp only at hSw)
                          go_simp
                          try with_reducible rfl
                        try simp only [Act.put, List.getElem_toArray, List.getElem_cons_zero, List.getElem_cons_succ, List.setIfInBounds_toArray, List.set_cons_zero, List.set_cons_succ]
                        refine wpAnyH_take (i := 27) (v := ?_) rfl (by kernel_rfl) (by kernel_rfl) (by kernel_rfl) (fun _ _ _ h => h) (Or.inl ⟨by kernel_rfl, ?_⟩) (by assumption) ?_
                        rotate_left
                        · intro w hSw
                          (try dsimp only at hSw)
                          go_simp
                          try with_reducible rfl
                        try simp only [Act.put, List.getElem_toArray, List.getElem_cons_zero, List.getElem_cons_succ, List.setIfInBounds_toArray, List.set_cons_zero, List.set_cons_succ]
                        refine wpAnyH_take (i := 28) (v := undef) rfl (by kernel_rfl) (by kernel_rfl) (by kernel_rfl) (fun _ _ _ h => h) (Or.inr ⟨by kernel_rfl, rfl⟩) (by assumption) ?_
                        try simp only [Act.put, List.getElem_toArray, List.getElem_cons_zero, List.getElem_cons_succ, List.setIfInBounds_toArray, List.set_cons_zero, List.set_cons_succ]
                        refine wpAnyH_take (i := 29) (v := undef) rfl (by kernel_rfl) (by kernel_rfl) (by kernel_rfl) (fun _ _ _ h => h) (Or.inr ⟨by kernel_rfl, rfl⟩) (by assumption) ?_
                        try simp only [Act.put, List.getElem_toArray, List.getElem_cons_zero, List.getElem_cons_succ, List.setIfInBounds_toArray, List.set_cons_zero, List.set_cons_succ]
                        refine wpAnyH_take (i := 30) (v := undef) rfl (by kernel_rfl) (by kernel_rfl) (by kernel_rfl) (fun _ _ _ h => h) (Or.inr ⟨by kernel_rfl, rfl⟩) (by assumption) ?_
                        try simp only [Act.put, List.getElem_toArray, List.getElem_cons_zero, List.getElem_cons_succ, List.setIfInBounds_toArray, List.set_cons_zero, List.set_cons_succ]
                        refine wpAnyH_take (i := 31) (v := undef) rfl (by kernel_rfl) (by kernel_rfl) (by kernel_rfl) (fun _ _ _ h => h) (Or.inr ⟨by kernel_rfl, rfl⟩) (by assumption) ?_
                        try simp only [Act.put, List.getElem_toArray, List.getElem_cons_zero, List.getElem_cons_succ, List.setIfInBounds_toArray, List.set_cons_zero, List.set_cons_succ]
                        refine wpAnyH_take (i := 32) (v := ?_) rfl (by kernel_rfl) (by kernel_rfl) (by kernel_rfl) (fun _ _ _ h => h) (Or.inl ⟨by kernel_rfl, ?_⟩) (by assumption) ?_
                        rotate_left
                        · intro w hSw
                          (try dsimp only at hSw)
                          go_simp
                          try with_reducible rfl
                        try simp only [Act.put, List.getElem_toArray, List.getElem_cons_zero, List.getElem_cons_succ, List.setIfInBounds_toArray, List.set_cons_zero, List.set_cons_succ]
                        refine wpAnyH_take (i := 33) (v := ?_) rfl (by kernel_rfl) (by kernel_rfl) (by kernel_rfl) (fun _ _ _ h => h) (Or.inl ⟨by kernel_rfl, ?_⟩) (by assumption) ?_
                        rotate_left
                        · intro w hSw
                          (try dsimp only at hSw)
                          go_simp
                          try with_reducible rfl
                        try simp only [Act.put, List.getElem_toArray, List.getElem_cons_zero, List.getElem_cons_succ, List.setIfInBounds_toArray, List.set_cons_zero, List.set_cons_succ]
                        refine wpAnyH_done (by kernel_rfl) ?_ _
                        go_simp
                        refine NoPanic.normal ?_
                        refine a9 _ _ ?_
                        go_wp2_with fail
                        go_roundw
                        case rel => exact ⟨q + 1, by omega, by go_num, (U7.out.trans (Touch.of_below (S := fun _ => False) ((below_drewN (Below.refl _ _) 1).trans B8.out)) (fun i e => e.elim)), R7.out.keep (B8.out.block Lb (lt_of_heap R7.out))⟩
                        case measure => simp [intOf]; omega
                      · have l1 : ((lv : Int) == 0) = false := by simp; omega
                        clear hq0
                        go_quiet (fail)
                        go_wp2_with fail
                        go_roundw
                        case rel => exact ⟨q + 1, by omega, by go_num, U7.out.drewN _, R7.out⟩
                        case measure => simp [intOf]; omega
                · obtain rfl : q = 16 := by omega
                  have FT := hide (TL.out _ hL.out.1)
                  go_wp2_with fail
                  go_roundw
                  case rel => exact ⟨k + 1, s2, U4, D4, by omega, by go_num, FT.out, by rw [show ((k + 1 : Nat) : Int) + 1 = (k : Int) + 1 + 1 from by omega]; exact G2.out, O2.out⟩
                  case measure => simp [intOf]; omega
      · obtain rfl : k = n := by omega
        have BEL := hide hT.out.1.bel
        go_wp2_with (go_at_call 8; refine (awake21_any C I _).mono ?_; rintro e w' ⟨rfl, hb⟩; have HB := hide hb; clear hb)
        go_ret
        exact ⟨rfl, BEL.out.trans (HB.out.mono BEL.out.size)⟩
end
end Go.Proofs.Ytpghnhcjgjgglaa
