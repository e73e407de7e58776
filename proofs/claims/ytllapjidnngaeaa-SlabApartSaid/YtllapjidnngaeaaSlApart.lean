/-
  The walk of SlabApart.
-/
import Derived.Test.YtllapjidnngaeaaSlOne
namespace Go.Proofs.Ytllapjidnngaeaa
open Go.ChangeShapes Go.WideShapes Go.ChangeAt Go.RowKit
set_option linter.unusedVariables false
set_option maxRecDepth 100000 in
set_option maxHeartbeats 8000000 in
theorem walk_slabApart (w : World) (a : Option Addr) (n c : Nat) (zs : List (List GV)) (hin : CameGen SK w a n c zs) : Calls Try.prog 4 #[.slice a n c] w fun e w' => e = .returned (.bool true) ∧ Below w.heap.size w w' := by
  have hn : n ≤ maxLen := Nat.le_trans hin.2.1 hin.2.2.1
  have HA := hide (sacts_open hin)
  have h63 : (n : Int) ≤ 9223372036854775807 := by unfold maxLen at hn; omega
  clear hin
  by_cases h100 : 100 < n
  · have h100' : (100 : Int) < (n : Int) := by omega
    go_enter Try.func4, Try.ntmps4
    go_wp2_with (go_at_call 6; with_reducible refine (sawake_any pslab _).mono ?_; rintro e w' ⟨rfl, hb⟩)
    go_ret
    exact ⟨rfl, hb⟩
  have h100' : ¬ (100 : Int) < (n : Int) := by omega
  go_enter Try.func4, Try.ntmps4
  go_wp2_with fail
  go_at_call 7
  refine (new_ok _ 4 (by omega) (by omega)).mono ?_
  rintro e w1 ⟨H, A, Q, rfl, f1, b1, hb1⟩
  have F1 := hide f1
  have B1 := hide b1
  have HB1 := hide hb1
  clear f1 b1 hb1
  go_wp2_with fail
  go_at_call 9
  refine (pslab.new F1.out).mono ?_
  rintro e w3 ⟨S, U, rfl, p3, b3, hU⟩
  have T0 := hide (one_first rfl B1.out HB1.out p3 b3 hU)
  clear p3 b3 hU F1 B1 HB1
  go_wp2_with fail
  go_loopw [7, 6] (fun i v wr => ∃ (k m : Nat) (l : List Cu) (s : St) (xs : List Pc) (U : Nat → Prop), k ≤ n ∧ i = .int .i64 (k : Int) ∧ Hid (m ≤ k ∧ One w wr U S H l s v m xs ∧ Lk l xs)) (fun i _ _ => n - (intOf i).toNat)
  case atStart => exact ⟨0, 0, _, _, _, _, Nat.zero_le _, rfl, Nat.le_refl _, T0.out, lk_first⟩
  case round =>
    clear T0 U
    obtain ⟨k, m, l, s, xs, U, hk, rfl, hT⟩ := hrel
    by_cases hlt : k < n
    · obtain ⟨ab, off, rfl, hall⟩ := HA.out (by omega)
      obtain ⟨g, r, x, y, fr, sl, sz, hact0⟩ := hall k hlt
      have hact := hact0.below hT.out.2.1.bel
      have k0 : (0 : Int) ≤ (k : Int) := by omega
      have k1 : (k : Int) < (n : Int) := by omega
      have c0 := hact.c0
      have c1 := hact.c1
      have c2 := hact.c2
      have c3 := hact.c3
      have c4 := hact.c4
      have c5 := hact.c5
      have c6 := hact.c6
      have HWN := hide hact.wn
      have M0 := hide hT.out.1
      have LK := hide hT.out.2.2
      have C1 : Hid (CopS (wr.alloc (.cells #[.bool g, .bool r, .int .i64 x, .int .i64 y, .int .i64 fr, .int .i64 sl, .int .i64 sz] 41)) wr.heap.size g r x y fr sl sz) := (show CopS _ _ _ _ _ _ _ _ _ from heap_alloc_new _ _)
      have T1 := hide (hT.out.2.1.below ((Below.refl wr.heap.size wr).alloc (Nat.le_refl _) (.cells #[.bool g, .bool r, .int .i64 x, .int .i64 y, .int .i64 fr, .int .i64 sl, .int .i64 sz] 41)))
      have XU := hide (show ¬ U wr.heap.size from fun e => by have := hT.out.2.1.ps.lt _ e; omega)
      have XL := hide hT.out.2.1.bel.size
      clear hall hact0 hact hT
      go_upto_if 37 with fail
      obtain ⟨W1, hW1⟩ : ∃ W1, W1 = wr.alloc (.cells #[.bool g, .bool r, .int .i64 x, .int .i64 y, .int .i64 fr, .int .i64 sl, .int .i64 sz] 41) := ⟨_, rfl⟩
      rw [← hW1] at C1 T1 ⊢
      clear hW1 c0 c1 c2 c3 c4 c5 c6
      generalize wr.heap.size = X at *
      cases g with
      | true =>
        obtain ⟨A9, c9, rfl, _⟩ := own_sliceR T1.out.row
        by_cases hm : 0 < m
        · have hm' : (0 : Int) < (m : Int) := by omega
          have M100 := hide (show m ≤ 100 by have := M0.out; omega)
          have x3 : W1.cell? ⟨X, 3, none⟩ = some (.int .i64 y) := by rw [cell_of_row _ _ _ _ _ _ C1.out]; rfl
          obtain ⟨g9, rfl, _⟩ := T1.out.had hm
          go_upto_region 15 with (go_at_call 13; refine (low_any _ m _ hm (by have := M100.out; omega)).mono ?_; rintro e w' ⟨⟨p, hp, rfl⟩, rfl⟩)
          clear x3
          obtain ⟨g', eg, hx, d0, d1, d2⟩ := T1.out.had hp
          cases eg
          obtain ⟨l', s', hg, lk', wf1, wf2, wf3⟩ := LK.out.hand T1.out.ps.cuts hx T1.out.wh T1.out.ps.good
          have HG := hide hg
          have LK' := hide lk'
          have W' := hide (hg.whole T1.out.wh T1.out.ps.cuts T1.out.ps.good)
          generalize xs[p].f = pf at *
          generalize xs[p].k = pk at *
          generalize xs[p].c = pc at *
          have WF := hide wf1
          have WS := hide wf2
          have WZ := hide wf3
          clear hg lk' wf1 wf2 wf3
          have p0 : (0 : Int) ≤ (p : Int) := by omega
          have p1 : (p : Int) < (m : Int) := by omega
          go_wp2_with fail
          go_at_call 16
          refine (pslab.give T1.out.ps T1.out.wh WF.out WS.out WZ.out HG.out).mono ?_
          intro en w5 hs
          obtain ⟨rfl, U5, t5, h5, o5⟩ := T1.out.side W'.out HG.out.sn hs
          have T5 := hide t5
          clear hs t5 h5 o5 d0 d1 d2
          go_upto_region 17 with fail
          obtain ⟨i0, hi0, hz0, hz1, hz2⟩ := info_parts ref_info
          obtain ⟨hlc, hcm, n1, _⟩ := T5.out.rows hp
          obtain ⟨ad, hif, n2⟩ := T5.out.rest hp
          have N1 := hide n1
          have N2 := hide n2
          have HZ := hide hz2
          have XLn := hide T5.out.len
          have l1 := hide (show (cellsPcs (xs.take p)).length = p * 3 by rw [cellsPcs_length, List.length_take, XLn.out]; congr 1; omega)
          have lr := hide (show (cellsPcs (xs.drop (p + 1))).length = (m - (p + 1)) * 3 by rw [cellsPcs_length, List.length_drop, XLn.out])
          have p2 : (p : Int) ≤ (c9 : Int) := by omega
          have p3 : (p : Int) + 1 ≤ (m : Int) := by omega
          have p4 : (m : Int) ≤ (c9 : Int) := by omega
          have p5 : (0 : Int) ≤ (p : Int) + 1 := by omega
          have m100 : m ≤ 100 := M100.out
          have pw : IntKind.i64.wrap ((p : Int) + 1) = (p : Int) + 1 := by rw [IntKind.wrap_i64]; omega
          have FIN := hide (show ∀ (w6 : World) (A : Option Addr) (c : Nat) (ys : List Value) (N : Nat), Below w5.heap.size w5 w6 → w6.ownsRow w5.heap.size 39 3 (.slice A N c) N ys → ys = cellsPcs (xs.take p) ++ cellsPcs (xs.drop (p + 1)) → N = m - 1 → One w w6 U5 S H l' s' (.slice A N c) N (xs.take p ++ xs.drop (p + 1)) from fun w6 A c ys N hb ho hy hN => by
            refine T5.out.next (Touch.of_below hb) (by rw [cellsPcs_append, ← hy]; exact own_base ho T5.out.bel.size) ?_ (fun g hg => .inr (ho.lt g hg).1)
            rw [List.length_append, List.length_take, List.length_drop, XLn.out, hN]
            omega)
          clear n1 n2 hz2
          go_region_law ((first | (refine step_append_rows (by rfl) _ _ _ (by rfl) w5.heap.size 39 i0 _ 3 24 Try.underlying37 hi0 hz0 hz1 HZ.out rfl (by omega) _ p ([] ++ cellsPcs (xs.take p)) (by rfl) O1.out ad (m - (p + 1)) (c9 - (p + 1)) (cellsPcs (xs.drop (p + 1))) (by rfl) lr.out (N2.out w6 b1) (cellsPcs_all _) (by unfold maxLen; omega) (by omega) b1.size (m - 1) (by omega) ?_; intro A2 c2 w7 o2 g2 hl2; have b2 : Below w5.heap.size w5 w7 := b1.grown g2 b1.size (fun k hk => (O1.out.lt k hk).1)) | (refine step_append_rows (by rfl) _ _ _ (by rfl) w5.heap.size 39 i0 _ 3 24 Try.underlying37 hi0 hz0 hz1 HZ.out rfl (by omega) (.slice none 0 0) 0 [] (by rfl) (World.ownsRow_nil _ _ _ _) ⟨g9, 0, none⟩ p c9 (cellsPcs (xs.take p)) (by rfl) l1.out (N1.out w5.drew rfl) (cellsPcs_all _) (by unfold maxLen; omega) (by omega) (Nat.le_refl _) p (by omega) ?_; intro A1 c1 w6 o1 g1 hl1; have b1 : Below w5.heap.size w5 w6 := drop_one g1; have O1 := hide o1; clear o1 g1 hl1)))
          go_wp2_with fail
          go_roundw
          case rel => exact ⟨k + 1, m - 1, l', s', _, U5, by omega, by go_num, by have := M0.out; omega, FIN.out _ _ _ _ _ b2 o2 (by simp) rfl, LK'.out⟩
          case measure => simp [intOf]; omega
        · have hm' : ¬ (0 : Int) < (m : Int) := by omega
          go_wp2_with fail
          go_roundw
          case rel => exact ⟨k + 1, m, l, s, xs, U, by omega, by go_num, Nat.le_succ_of_le M0.out, T1.out, LK.out⟩
          case measure => simp [intOf]; omega
      | false =>
        obtain ⟨f, q, cc, e, l', s', ht⟩ := took_total x T1.out.wh T1.out.ps.cuts T1.out.ps.good
        have W' := hide (ht.whole T1.out.wh T1.out.ps.cuts T1.out.ps.good)
        have TL := hide (ht.tells T1.out.wh T1.out.ps.cuts T1.out.ps.good)
        have HT := hide ht
        clear ht
        have x2 : W1.cell? ⟨X, 2, none⟩ = some (.int .i64 x) := by rw [cell_of_row _ _ _ _ _ _ C1.out]; rfl
        go_wp2_with fail
        go_at_call 10
        refine (pslab.take T1.out.ps T1.out.wh HWN.out HT.out).mono ?_
        intro en w5 hs
        obtain ⟨rfl, U5, t5, h5, o5⟩ := T1.out.side W'.out HT.out.sn hs
        have C5 : Hid (CopS w5 X false r x y fr sl sz) := (show CopS _ _ _ _ _ _ _ _ _ from (h5 X (lt_of_heap C1.out) XU.out).trans C1.out)
        have bA := (Below.refl w5.heap.size w5).alloc (Nat.le_refl _) (.cells #[.int .i64 (f : Int), .int .i64 (q : Int), .int .i64 (cc : Int)] 39)
        have T6 := hide (t5.below bA)
        have C6 : Hid (CopS (w5.alloc (.cells #[.int .i64 (f : Int), .int .i64 (q : Int), .int .i64 (cc : Int)] 39)) X false r x y fr sl sz) := (show CopS _ _ _ _ _ _ _ _ _ from (bA.block X (lt_of_heap C5.out)).trans C5.out)
        have Y6 := hide (heap_alloc_new w5 (.cells #[.int .i64 (f : Int), .int .i64 (q : Int), .int .i64 (cc : Int)] 39))
        clear hs t5 h5 o5 bA x2
        unfold refV
        go_upto_region 19 with fail
        generalize w5.heap.size = Y at *
        obtain ⟨w6, hw6⟩ : ∃ w6, w6 = w5.alloc (.cells #[.int .i64 (f : Int), .int .i64 (q : Int), .int .i64 (cc : Int)] 39) := ⟨_, rfl⟩
        rw [← hw6] at T6 C6 Y6 ⊢
        clear hw6
        have M100 := hide (show m ≤ 100 by have := M0.out; omega)
        rcases TL.out with ⟨rfl, hF⟩ | ⟨rfl, rfl, rfl, he, rfl, rfl⟩
        · have FF := hide hF
          clear hF
          have LK' := hide (LK.out.take FF.out)
          have x2 : w6.cell? ⟨X, 2, none⟩ = some (.int .i64 x) := by rw [cell_of_row _ _ _ _ _ _ C6.out]; rfl
          obtain ⟨y0, y1, y2⟩ := tri_cells Y6.out
          have n1 : (x : Int) ≤ (cc : Int) := FF.out.fit
          have n2 : (0 : Int) ≤ (q : Int) := by omega
          have n3 : (q : Int) * (cc : Int) + (cc : Int) ≤ 64 := by have := FF.out.within; exact_mod_cast this
          have n4 : (0 : Int) ≤ (q : Int) * (cc : Int) := by have : (0 : Int) ≤ (cc : Int) := (by omega); exact Int.mul_nonneg n2 this
          have n5 : IntKind.i64.wrap ((q : Int) * (cc : Int)) = (q : Int) * (cc : Int) := by rw [IntKind.wrap_i64]; omega
          have n6 : IntKind.i64.wrap ((q : Int) * (cc : Int) + (cc : Int)) = (q : Int) * (cc : Int) + (cc : Int) := by rw [IntKind.wrap_i64]; omega
          have n7 : (code s' (f : Int) 0 0 == 0) = true := by rw [code_ok FF.out.frame.1 fit00 FF.out.frame.2]; rfl
          go_upto_region 22 with (go_at_call 24; refine (pslab.fhas T6.out.ps _).mono ?_; rintro e w' ⟨rfl, rfl⟩; rw [n7])
          obtain ⟨A9, c9, rfl, _⟩ := own_sliceR T6.out.row
          clear x2 n1 n2 n3 n4 n5 n6 n7 y0 y1 y2
          have m100 : m ≤ 100 := M100.out
          go_wp2_with fail
          go_loopw [12] (fun i wz => ∃ (j : Nat), j ≤ m ∧ i = .int .i64 (j : Int) ∧ Hid (∃ d, wz = w6.drewN d)) (fun i _ => m - (intOf i).toNat)
          case atStart => exact ⟨0, Nat.zero_le _, rfl, 0, rfl⟩
          case round =>
            obtain ⟨j, hj, rfl, hZ⟩ := hrel
            obtain ⟨d, hd⟩ := hZ.out
            subst hd
            clear hZ
            have T7 := hide (T6.out.below (below_drewN (Below.refl _ w6) d))
            have Y7 := hide (show (w6.drewN d).heap[Y]? = _ from Y6.out)
            generalize hwd : w6.drewN d = w7 at *
            have WD := hide hwd
            clear hwd
            obtain ⟨y0, y1, y2⟩ := tri_cells Y7.out
            by_cases hjm : j < m
            · obtain ⟨g9, rfl, hx, d0, d1, d2⟩ := T7.out.had hjm
              have AP := hide (FF.out.apart _ _ _ ((LK.out.mem _ _ _).mpr (List.getElem_mem hx)))
              generalize xs[j].f = pf at *
              generalize xs[j].k = pk at *
              generalize xs[j].c = pc at *
              have j0 : (0 : Int) ≤ (j : Int) := by omega
              have j1 : (j : Int) < (m : Int) := by omega
              by_cases hpf : pf = (f : Int)
              · obtain ⟨a1, a2⟩ := AP.out hpf
                have e1 : (pf == (f : Int)) = true := by simp [hpf]
                have e2 : (pc != (cc : Int)) = false := by simp [a1]
                have e3 : (pk == (q : Int)) = false := by simp [a2]
                clear hpf a1 a2
                go_wp2_with fail
                go_quiet (fail)
                go_wp2_with fail
                go_roundw
                case rel => exact ⟨j + 1, by omega, by go_num, _, by rw [← WD.out, World.drewN_drewN]⟩
                case measure => simp [intOf]; omega
              · have e1 : (pf == (f : Int)) = false := by simp [hpf]
                clear hpf
                go_wp2_with fail
                go_quiet (fail)
                go_wp2_with fail
                go_roundw
                case rel => exact ⟨j + 1, by omega, by go_num, _, by rw [← WD.out, World.drewN_drewN]⟩
                case measure => simp [intOf]; omega
            · obtain rfl : j = m := by omega
              have j1 : ¬ (j : Int) < (j : Int) := by omega
              obtain ⟨i0, hi0, hz0, hz1, hz2⟩ := info_parts ref_info
              have HZ := hide hz2
              clear hz2
              go_wp2_with (at_builtin; refine wpList_append_own_at _ rfl (.tmp 133) (.tmp 135) _ rfl w.heap.size 39 i0 _ 3 24 Try.underlying37 hi0 hz0 hz1 HZ.out rfl (by omega) _ _ _ rfl (T7.out.below ((Below.refl w7.heap.size w7).alloc (Nat.le_refl _) _)).row ⟨w7.heap.size, 0, none⟩ 1 1 (cellsPc ⟨(f : Int), (q : Int), (cc : Int)⟩) rfl rfl (cells_three w7 _ _ _ _ _ rfl) (cellsPc_one _) (by have := M100.out; unfold maxLen; omega) (by have := M100.out; omega) (by have := T7.out.bel.size; simp; omega) ?_; intro v9 w9 o9 g9 _ t9)
              have bA := T7.out.below ((Below.refl w7.heap.size w7).alloc (Nat.le_refl _) (.cells #[.int .i64 (f : Int), .int .i64 (q : Int), .int .i64 (cc : Int)] 39))
              -- HERE
              go_roundw
              case rel =>
                refine ⟨k + 1, j + 1, _, _, _, U5, by omega, by go_num, by have := M0.out; omega, bA.next (Touch.of_grown g9 (fun g hg => hg)) (by rw [cellsPcs_append, cellsPcs_one]; exact o9) (by rw [List.length_append, bA.len]; rfl) (fun g hg => ?_), LK'.out⟩
                rcases t9 with e | e
                · exact .inl (e ▸ hg)
                · rw [e] at hg; injection hg with hg; exact .inr (by omega)
              case measure => simp [intOf]; omega
        · have he' : ((e : Int) != 0) = true := by rcases he with rfl | rfl <;> rfl
          go_wp2_with fail
          go_roundw
          case rel => exact ⟨k + 1, m, _, _, xs, U5, by omega, by go_num, Nat.le_succ_of_le M0.out, T6.out, LK.out⟩
          case measure => simp [intOf]; omega
    · obtain rfl : k = n := by omega
      have PL := hide (show pieces l = m from hT.out.2.2.len.trans hT.out.2.1.len)
      have g0 : ((m : Int) != (m : Int)) = false := by simp
      obtain ⟨A9, c9, rfl, _⟩ := own_sliceR hT.out.2.1.row
      have M0 := hide hT.out.1
      have m100 : m ≤ 100 := by have := M0.out; omega
      have S9 := hide (show xs.drop 0 = xs from rfl)
      go_wp2_with (go_at_call 18; refine (pslab.len hT.out.2.1.ps).mono ?_; rintro en w4 ⟨rfl, b4⟩; rw [PL.out]; have T4 := hide (hT.out.2.1.below b4); clear b4)
      have LK := hide hT.out.2.2
      clear hT
      go_loopw [13] (fun i wz => ∃ (j : Nat) (l : List Cu) (s : St) (U : Nat → Prop), j ≤ m ∧ i = .int .i64 (j : Int) ∧ Hid (One w wz U S H l s (.slice A9 m c9) m xs ∧ Lk l (xs.drop j))) (fun i _ => m - (intOf i).toNat)
      case atStart => exact ⟨0, l, s, U, Nat.zero_le _, rfl, T4.out, LK.out⟩
      case round =>
        clear T4 LK PL S9 U l s g0
        obtain ⟨j, l, s, U, hj, rfl, hZ⟩ := hrel
        have T5 := hide hZ.out.1
        have LK := hide hZ.out.2
        clear hZ
        by_cases hjm : j < m
        · obtain ⟨g9, rfl, hx, d0, d1, d2⟩ := T5.out.had hjm
          have hx0 : 0 < (xs.drop j).length := by rw [List.length_drop]; omega
          obtain ⟨l', s', hg, lk', wf1, wf2, wf3⟩ := LK.out.hand T5.out.ps.cuts hx0 T5.out.wh T5.out.ps.good
          have ex : (xs.drop j)[0] = xs[j] := by rw [List.getElem_drop]; rfl
          rw [ex] at hg wf1 wf2 wf3
          have LK' := hide (show Lk l' (xs.drop (j + 1)) by rw [List.take_zero, List.nil_append, List.drop_drop] at lk'; exact lk')
          have HG := hide hg
          have W' := hide (hg.whole T5.out.wh T5.out.ps.cuts T5.out.ps.good)
          clear ex lk' hg
          generalize xs[j].f = pf at *
          generalize xs[j].k = pk at *
          generalize xs[j].c = pc at *
          have WF := hide wf1
          have WS := hide wf2
          have WZ := hide wf3
          have j0 : (0 : Int) ≤ (j : Int) := by omega
          have j1 : (j : Int) < (m : Int) := by omega
          clear wf1 wf2 wf3
          go_wp2_with fail
          go_at_call 16
          refine (pslab.give T5.out.ps T5.out.wh WF.out WS.out WZ.out HG.out).mono ?_
          intro en w6 hs
          obtain ⟨rfl, U6, t6, h6, o6⟩ := T5.out.side W'.out HG.out.sn hs
          have T6 := hide t6
          clear hs t6 h6 o6 d0 d1 d2
          go_wp2_with fail
          go_roundw
          case rel => exact ⟨j + 1, l', s', U6, by omega, by go_num, T6.out, LK'.out⟩
          case measure => simp [intOf]; omega
        · obtain rfl : j = m := by omega
          have j1 : ¬ (j : Int) < (j : Int) := by omega
          have p0 : pieces l = 0 := by have := LK.out.len; rw [List.length_drop, T5.out.len] at this; omega
          have P0 := hide p0
          have FR := hide (show (s.fr.length : Int) = 4 by have h1 := (T5.out.wh.empty T5.out.ps.cuts T5.out.ps.good p0).2; have h2 := T5.out.n4; omega)
          clear p0
          go_wp2_with (first
            | (go_at_call 20; refine (pslab.free T5.out.ps).mono ?_; rintro en w' ⟨rfl, rfl⟩; rw [FR.out])
            | (go_at_call 18; refine (pslab.len T5.out.ps).mono ?_; rintro en w6 ⟨rfl, b6⟩; rw [P0.out])
            | (go_at_call 6; with_reducible refine (sawake_any pslab _).mono ?_; rintro e w7 ⟨rfl, b7⟩))
          go_ret
          exact ⟨rfl, T5.out.bel.trans ((b6.mono T5.out.bel.size).trans (b7.mono (Nat.le_trans T5.out.bel.size b6.size)))⟩
end Go.Proofs.Ytllapjidnngaeaa
