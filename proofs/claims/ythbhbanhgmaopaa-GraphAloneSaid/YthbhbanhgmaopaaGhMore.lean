/-
  The law GraphMore, over the contracts of the program's graph and prio.
-/
import Derived.Test.YthbhbanhgmaopaaGhMath
import Derived.Test.YthbhbanhgmaopaaFrLow
namespace Go.Proofs.Ythbhbanhgmaopaa
open Go.ChangeShapes Go.WideShapes Go.ChangeAt Go.RowKit
set_option linter.unusedVariables false
/-- What the program's prio must answer here. -/
structure PCmp : Prop where
  cmp : ∀ (w : World) (c l d x y z : Int), (Lit.int .i64 c).wf = true ∧ (Lit.int .i64 l).wf = true ∧ (Lit.int .i64 d).wf = true → (Lit.int .i64 x).wf = true ∧ (Lit.int .i64 y).wf = true ∧ (Lit.int .i64 z).wf = true →
    Calls Try.prog 26 #[.agg #[.int .i64 c, .int .i64 l, .int .i64 d], .agg #[.int .i64 x, .int .i64 y, .int .i64 z]] w fun e w' => e = .returned (.int .i64 (cmpP ⟨c, l, d⟩ ⟨x, y, z⟩)) ∧ Below w.heap.size w w'
theorem nat_wf {n : Nat} (h : n ≤ 1000) : (Lit.int .i64 (n : Int)).wf = true := by simp [Lit.wf, IntKind.min, IntKind.max, IntKind.bits, IntKind.signed]; omega
theorem effG_getD {ws os : List Int} {ps : List Pr} {i : Nat} (h : i < ps.length) : (effG ws os ps).getD i prD = bestG ws os ps i ps.length := by
  rw [List.getD_eq_getElem?_getD, effG_at h]; rfl
set_option maxRecDepth 10000 in
set_option maxHeartbeats 8000000 in
theorem walk_graphMoreC (C : PGraph) (D : PCmp) (w : World) (pa : Option Addr) (n cn : Nat) (ps : List Pr) (hin : Came 3 prVals PrFit w pa n cn ps) (a : Option Addr) (p ca : Nat) (ws : List Int) (hin1 : CameIn .i64 w a p ca ws) (b : Option Addr) (q cb : Nat) (os : List Int) (hin2 : CameIn .i64 w b q cb os) (who : Int) (hw : (Lit.int .i64 who).wf = true) (m : Int) (hm : (Lit.int .i64 m).wf = true) :
    Calls Try.prog 6 #[.slice pa n cn, .slice a p ca, .slice b q cb, .int .i64 who, .int .i64 m] w fun e w' => e = .returned (.bool true) ∧ Below w.heap.size w w' := by
  by_cases hg : 25 < p ∨ 25 < q ∨ 25 < (n : Int)
  · have G := hide (great_yes w a p ca b q cb (n : Int) (Nat.le_trans hin1.2.1 hin1.2.2.1) (Nat.le_trans hin2.2.1 hin2.2.2.1) hg)
    clear hin hin1 hin2 hg hw hm
    go_enter Try.func6, Try.ntmps6
    go_wp2_with (first
      | (go_at_call 8; refine G.out.mono ?_; rintro e w' ⟨rfl, rfl⟩)
      | (go_at_call 9; refine (ghawake_any C _).mono ?_; rintro e w2 ⟨rfl, b2⟩; have B2 := hide b2; clear b2))
    go_ret
    exact ⟨rfl, B2.out⟩
  have G := hide (great_no w a p ca b q cb (n : Int) hg)
  by_cases hn0 : n = 0
  · subst hn0
    have G2 := G
    clear hin hin1 hin2 hg hw hm G
    have G := hide (show Calls Try.prog 8 #[.slice a p ca, .slice b q cb, .int .i64 0] w fun e w' => e = .returned (.bool false) ∧ w = w' from G2.out)
    clear G2
    go_enter Try.func6, Try.ntmps6
    go_wp2_with (first
      | (go_at_call 8; refine G.out.mono ?_; rintro e w' ⟨rfl, rfl⟩)
      | (go_at_call 9; refine (ghawake_any C _).mono ?_; rintro e w2 ⟨rfl, b2⟩; have B2 := hide b2; clear b2))
    go_ret
    exact ⟨rfl, B2.out⟩
  by_cases hpn : p = n
  rotate_left
  · have hpn2 : ¬ (p : Int) = (n : Int) := by omega
    have hpn3 : ((p : Int) != (n : Int)) = true := by rw [bne_iff_ne]; exact hpn2
    clear hin hin1 hin2 hg hw hm hpn
    go_enter Try.func6, Try.ntmps6
    go_wp2_with (first
      | (go_at_call 8; refine G.out.mono ?_; rintro e w' ⟨rfl, rfl⟩)
      | (go_at_call 9; refine (ghawake_any C _).mono ?_; rintro e w2 ⟨rfl, b2⟩; have B2 := hide b2; clear b2))
    go_ret
    exact ⟨rfl, B2.out⟩
  subst hpn
  have hp0 : ¬ (p : Int) = 0 := by omega
  clear hn0
  by_cases hq0 : (q : Int) = 0
  · clear hin hin1 hin2 hg hw hm
    go_enter Try.func6, Try.ntmps6
    go_wp2_with (first
      | (go_at_call 8; refine G.out.mono ?_; rintro e w' ⟨rfl, rfl⟩)
      | (go_at_call 9; refine (ghawake_any C _).mono ?_; rintro e w2 ⟨rfl, b2⟩; have B2 := hide b2; clear b2))
    go_ret
    exact ⟨rfl, B2.out⟩
  have z1 : ((p : Int) == 0) = false := by rw [beq_eq_false_iff_ne]; exact hp0
  have z2 : ((p : Int) != (p : Int)) = false := by simp
  have z3 : ((q : Int) == 0) = false := by rw [beq_eq_false_iff_ne]; exact hq0
  have LP := hide (PriosIn.of hin)
  have LA := hide (show ListIn w a p ca ws from ⟨hin1, by omega⟩)
  have LB := hide (show ListIn w b q cb os from ⟨hin2, by omega⟩)
  have N25 := hide (show p ≤ 25 ∧ 0 < p ∧ q ≤ 25 ∧ 0 < q from by omega)
  have n63 : (p : Int) ≤ 9223372036854775807 := by omega
  have LW := hide (fun (w : World) => low_any who p w (by omega) (by omega))
  have LM := hide (fun (w : World) => low_any m q w (by omega) (by omega))
  clear hin hin1 hin2 hg hw hm hp0 hq0
  go_enter Try.func6, Try.ntmps6
  go_upto_region 4 with (first
    | (go_at_call 8; refine G.out.mono ?_; rintro e w' ⟨rfl, rfl⟩)
    | (go_at_call 27; refine (LW.out _).mono ?_; rintro e w' ⟨⟨r, hr, rfl⟩, rfl⟩; have HRR := hide hr; clear hr))
  have KO := hide (show Calls Try.prog 14 #[.slice a p ca, .slice b q cb, .int .i64 (p : Int), .int .i64 (r : Int)] w fun e w' => e = .returned (.int .i64 (onG ws os p r)) ∧ Below w.heap.size w w' from
    C.on w _ _ _ ws _ _ _ os p r LA.out LB.out (nat_wf (by have := N25.out; omega)) (by have := N25.out; omega) (nat_wf (by have := N25.out; have := HRR.out; omega)))
  obtain ⟨x, hx⟩ : ∃ x, x = onG ws os p r := ⟨_, rfl⟩
  rw [← hx] at KO
  have HX := hide hx
  clear hx LW
  by_cases hx0 : 0 ≤ x
  · go_wp2_with (first
      | (go_at_call 14; refine KO.out.mono ?_; rintro e w2 ⟨rfl, b2⟩; have B2 := hide b2; clear b2)
      | (go_at_call 9; refine (ghawake_any C _).mono ?_; rintro e w3 ⟨rfl, b3⟩; have B3 := hide (B2.out.trans (b3.mono B2.out.size)); clear b3))
    go_ret
    exact ⟨rfl, B3.out⟩
  have HW := hide (show onG ws os ps.length ((r : Nat) : Int) < 0 from by rw [LP.out.rd.1, ← HX.out]; omega)
  obtain ⟨i0, hi0, hz0, hz1, hz2⟩ := info_parts int_info
  have HZ := hide hz2
  clear hz2
  have A0 := hide (fun (W : World) (bw : Below w.heap.size w W) => LA.out.below bw)
  go_upto_region 7 with (first
    | (go_at_call 14; refine KO.out.mono ?_; rintro e w2 ⟨rfl, b2⟩; have B2 := hide b2; clear b2)
    | (at_builtin; refine wpList_append_src rfl (.const (.slice none 0 0)) (.tmp 50) _ rfl w.heap.size 3 i0 _ 8 Try.underlying22 hi0 hz0 hz1 HZ.out rfl _ 0 [] rfl (World.ownsRow_nil _ _ _ _) .i64 _ _ _ ws rfl (A0.out _ B2.out).ints (A0.out _ B2.out).1.2.2.2.1 (by have := N25.out; unfold maxLen; omega) (by have := N25.out; omega) B2.out.size ?_; intro v' w3 o' g' t'; have B3 := hide (B2.out.grown g' B2.out.size (by intro k hk; cases hk)); have O3 := hide o'; clear o' g' t'))
  have hwl : ws.length = p := LA.out.ints.1
  have o3 := O3.out
  rw [Nat.zero_add, List.nil_append] at o3
  obtain ⟨g, c3, rfl⟩ : ∃ g c3, v' = .slice (some ⟨g, 0, none⟩) p c3 := by
    rcases o3.2 with ⟨_, h0⟩ | ⟨g, cap, cur, e, _⟩
    · have := N25.out; omega
    · exact ⟨g, cap, e⟩
  have r0 : (0 : Int) ≤ (r : Int) := by omega
  have r1 : (r : Int) < (p : Int) := by have := HRR.out; omega
  have rl : r < ws.length := by have := HRR.out; omega
  have cc : w3.cell? ⟨g, r, none⟩ = some (.int .i64 (ws[r]'rl)) := by rw [o3.cellAt r (by have := HRR.out; omega), List.getElem?_map, List.getElem?_eq_getElem rl]; rfl
  have fz := o3.frozenAt r
  have ST := hide (fun (s : Nat) (hs : s < q) => show ListIn (w3.setCell ⟨g, r, none⟩ (.int .i64 (s : Int))) (some ⟨g, 0, none⟩) p c3 (ws.set r (s : Int)) ∧ Below w.heap.size w (w3.setCell ⟨g, r, none⟩ (.int .i64 (s : Int))) from by
    have hsl : (ws.set r (s : Int)).length = p := by rw [List.length_set]; exact hwl
    obtain ⟨o4, _⟩ := o3.stored r (.int .i64 (s : Int))
    have e : (ws.map (Value.int .i64)).set r (.int .i64 (s : Int)) = (ws.set r (s : Int)).map (Value.int .i64) := by rw [List.map_set]
    rw [e] at o4
    obtain ⟨A, c, ev, l4⟩ := own_listIn (xs := ws.set r (s : Int)) (by rw [hsl]; exact o4) (by rw [hsl]; exact N25.out.1) (fun x hx => by
      rcases List.mem_or_eq_of_mem_set hx with h | h
      · exact LA.out.1.2.2.2.2 x h
      · rw [h]; exact nat_wf (by have := N25.out; omega))
    rw [hsl] at ev l4
    injection ev with e1 _ e2
    subst e1 e2
    have t : Touch (fun i => i = g) w3 (w3.setCell ⟨g, r, none⟩ (.int .i64 (s : Int))) := Touch.setCell (S := fun i => i = g) (Touch.refl _ w3) (p := ⟨g, r, none⟩) rfl _
    exact ⟨l4, B3.out.trans ((t.below (B := w.heap.size) B3.out.size (fun i hi => by rw [hi]; exact own_lo o3 g rfl)))⟩)
  clear o3 hwl
  go_upto_region 8 with (go_at_call 27; refine (LM.out _).mono ?_; rintro e w' ⟨⟨s, hs, rfl⟩, rfl⟩; have HSS := hide hs; clear hs)
  obtain ⟨l4, b4⟩ := ST.out s HSS.out
  have L4 := hide l4
  have B4 := hide b4
  clear l4 b4 cc fz r0 r1 ST LM rl
  generalize w3.setCell ⟨g, r, none⟩ (.int .i64 (s : Int)) = w4 at *
  have FP := hide (fun (W : World) (bw : Below w4.heap.size w4 W) => LP.out.below (B4.out.trans (bw.mono B4.out.size)))
  have FA := hide (fun (W : World) (bw : Below w4.heap.size w4 W) => LA.out.below (B4.out.trans (bw.mono B4.out.size)))
  have FB := hide (fun (W : World) (bw : Below w4.heap.size w4 W) => LB.out.below (B4.out.trans (bw.mono B4.out.size)))
  have K1 := hide (fun (W : World) (bw : Below w4.heap.size w4 W) => C.eff2 (FP.out W bw) N25.out.1 (FA.out W bw) (FB.out W bw))
  have K2 := hide (fun (W : World) (bw : Below w4.heap.size w4 W) => C.eff2 (FP.out W bw) N25.out.1 (L4.out.below bw) (FB.out W bw))
  obtain ⟨es, hes⟩ : ∃ es, es = effG ws os ps := ⟨_, rfl⟩
  obtain ⟨es2, hes2⟩ : ∃ es2, es2 = effG (ws.set r (s : Int)) os ps := ⟨_, rfl⟩
  rw [← hes] at K1
  rw [← hes2] at K2
  have GE := hide (fun (i : Nat) (hi : i < p) => show 0 ≤ cmpP (es2.getD i prD) (es.getD i prD) ∧ PrFit w (es2.getD i prD) ∧ PrFit w (es.getD i prD) from by
    have hl : ps.length = p := LP.out.rd.1
    rw [hes, hes2, effG_getD (by omega), effG_getD (by omega)]
    exact ⟨best_more HW.out i, best_fit (P := PrFit w) LP.out.fit (by omega), best_fit (P := PrFit w) LP.out.fit (by omega)⟩)
  clear hes hes2 z1 z3
  go_upto_region 9 with (first
    | (go_at_call 21; have b5 := B5.out; refine (K2.out _ b5).mono ?_; rintro e w6 ⟨a6, c6, rfl, o6, r6, b6⟩; have R6 := hide r6; have B6 := hide (b5.trans (b6.mono b5.size)); have R56 := hide (R5.out.below b6); clear o6 r6 b6 b5)
    | (go_at_call 21; refine (K1.out _ (Below.refl _ _)).mono ?_; rintro e w5 ⟨a5, c5, rfl, o5, r5, b5⟩; have R5 := hide r5; have B5 := hide b5; clear o5 r5 b5))
  clear K1 K2
  have BR := hide (Below.refl w6.heap.size w6)
  go_wp2_with fail
  go_loopw [14] (fun iv wr => ∃ i : Nat, i ≤ p ∧ iv = .int .i64 (i : Int) ∧ Hid (Below w6.heap.size w6 wr)) (fun iv _ => p - (intOf iv).toNat)
  case atStart => exact ⟨0, Nat.zero_le _, rfl, BR.out⟩
  case round =>
    obtain ⟨i, hi, rfl, hB⟩ := hrel
    by_cases hlt : i < p
    · have j0 : (0 : Int) ≤ (i : Int) := by omega
      have j1 : (i : Int) < (p : Int) := by omega
      obtain ⟨ga, oa, rfl, c0, c1, c2⟩ := reads_pr (R56.out.below hB.out) hlt
      obtain ⟨gb, ob, rfl, d0, d1, d2⟩ := reads_pr (R6.out.below hB.out) hlt
      obtain ⟨ge, f2, f1⟩ := GE.out i hlt
      generalize es.getD i prD = y1 at *
      generalize es2.getD i prD = y2 at *
      obtain ⟨z, hz⟩ : ∃ z, z = cmpP y2 y1 := ⟨_, rfl⟩
      rw [← hz] at ge
      have KC := hide (fun (W : World) => show Calls Try.prog 26 #[.agg #[.int .i64 y2.c, .int .i64 y2.l, .int .i64 y2.d], .agg #[.int .i64 y1.c, .int .i64 y1.l, .int .i64 y1.d]] W fun e w' => e = .returned (.int .i64 z) ∧ Below W.heap.size W w' from by rw [hz]; exact D.cmp W _ _ _ _ _ _ f2 f1)
      have z9 : ¬ z < 0 := by omega
      have CC := hide (fun (W : World) (bw : Below wr.heap.size wr W) => show (W.cell? ⟨gb, ob + i * 3, none⟩ = some (.int .i64 y2.c) ∧ W.cell? ⟨gb, ob + i * 3 + 1, none⟩ = some (.int .i64 y2.l) ∧ W.cell? ⟨gb, ob + i * 3 + 2, none⟩ = some (.int .i64 y2.d)) ∧ (W.cell? ⟨ga, oa + i * 3, none⟩ = some (.int .i64 y1.c) ∧ W.cell? ⟨ga, oa + i * 3 + 1, none⟩ = some (.int .i64 y1.l) ∧ W.cell? ⟨ga, oa + i * 3 + 2, none⟩ = some (.int .i64 y1.d)) from by
        have hh := fun (a : Addr) (q : Value) (h : wr.cell? a = some q) => (bw.cell (p := a) (lt_of_cell? h)).trans h
        exact ⟨⟨hh _ _ d0, hh _ _ d1, hh _ _ d2⟩, hh _ _ c0, hh _ _ c1, hh _ _ c2⟩)
      have c9 := CC.out _ (Below.refl _ _)
      have KM := hide (show i + 1 ≤ p from by omega)
      clear ge f2 f1 hz c0 c1 c2 d0 d1 d2
      go_upto_region 14 with fail
      go_region_held3 (fun w' => (w'.cell? ⟨gb, ob + i * 3, none⟩ = some (.int .i64 y2.c) ∧ w'.cell? ⟨gb, ob + i * 3 + 1, none⟩ = some (.int .i64 y2.l) ∧ w'.cell? ⟨gb, ob + i * 3 + 2, none⟩ = some (.int .i64 y2.d)) ∧ (w'.cell? ⟨ga, oa + i * 3, none⟩ = some (.int .i64 y1.c) ∧ w'.cell? ⟨ga, oa + i * 3 + 1, none⟩ = some (.int .i64 y1.l) ∧ w'.cell? ⟨ga, oa + i * 3 + 2, none⟩ = some (.int .i64 y1.d))) (first | exact c9 | exact c8) (first | (go_at_call 26; refine (KC.out _).mono ?_; rintro e w8 ⟨rfl, b8⟩; have bb := (below_drewN (Below.refl wr.heap.size wr) 1).trans b8; have c8 := CC.out _ bb; have B8 := hide (hB.out.trans (bb.mono hB.out.size)); clear bb b8))
      clear c9 c8
      go_wp2_with fail
      go_roundw
      case rel => exact ⟨i + 1, KM.out, by go_num, B8.out⟩
      case measure => have h9 := KM.out; simp [intOf]; omega
    · obtain rfl : i = p := by omega
      have j1 : ¬ (i : Int) < (i : Int) := by omega
      go_wp2_with (go_at_call 9; refine (ghawake_any C _).mono ?_; rintro e w9 ⟨rfl, b9⟩; have B9 := hide (hB.out.trans (b9.mono hB.out.size)); clear b9)
      go_ret
      have b6 := B4.out.trans (B6.out.mono B4.out.size)
      exact ⟨rfl, b6.trans (B9.out.mono b6.size)⟩
end Go.Proofs.Ythbhbanhgmaopaa
