/-
  The program's prio: slices.MaxFunc by Compare; Max.
-/
import Derived.Test.YthbhbanhgmaopaaPpCmp2
namespace Go.Proofs.Ythbhbanhgmaopaa
open Go.ChangeShapes Go.WideShapes Go.ChangeAt Go.RowKit
set_option linter.unusedVariables false
theorem cmpP_pos {a b : Pr} : (0 < cmpP a b) = (gtP a b = true) := by
  unfold cmpP
  cases h1 : gtP a b with
  | true => simp
  | false => cases h2 : gtP b a <;> simp
theorem gtP_iff {a b : Pr} : gtP a b = true ↔ b.c < a.c ∨ a.c = b.c ∧ (a.c = 1 ∧ a.d < b.d ∨ a.c ≠ 1 ∧ b.l < a.l) := by rw [← cmpP_pos]; exact cmpP_gt
theorem gtP_trans {a b c : Pr} (h1 : gtP a b = true) (h2 : gtP b c = true) : gtP a c = true := by rw [gtP_iff] at *; omega
theorem gtP_none {a b c : Pr} (h1 : ¬ gtP a b = true) (h2 : ¬ gtP b c = true) : ¬ gtP a c = true := by rw [gtP_iff] at *; omega
/-- The greatest of the others first, then held against the first. -/
theorem maxP_cons (x y : Pr) (ys : List Pr) : maxP x (y :: ys) = if gtP (maxP y ys) x = true then maxP y ys else x := by
  obtain ⟨n, hn⟩ : ∃ n, n = ys.length := ⟨_, rfl⟩
  induction n generalizing ys with
  | zero =>
    obtain rfl : ys = [] := List.eq_nil_of_length_eq_zero hn.symm
    rfl
  | succ n ih =>
    obtain ⟨zs, z, rfl⟩ : ∃ zs z, ys = zs ++ [z] := ⟨ys.dropLast, ys.getLast (by intro e; rw [e] at hn; simp at hn), (List.dropLast_concat_getLast _).symm⟩
    rw [← List.cons_append, maxP_snoc, maxP_snoc, ih zs (by simp at hn; omega)]
    by_cases g1 : gtP (maxP y zs) x = true
    · rw [if_pos g1]
      by_cases g2 : gtP z (maxP y zs) = true
      · rw [if_pos g2, if_pos (gtP_trans g2 g1)]
      · rw [if_neg g2, if_pos g1]
    · rw [if_neg g1]
      by_cases g2 : gtP z (maxP y zs) = true
      · rw [if_pos g2]
      · rw [if_neg g2, if_neg g1, if_neg (gtP_none g2 g1)]
set_option maxHeartbeats 4000000 in
theorem pmaxf_any (w : World) (a : Option Addr) (n c : Nat) (x : Pr) (ys : List Pr) (h : PrRow w a (n + 1) (x :: ys)) (hn : n ≤ 1000000) :
    Calls Try.prog 43 #[.slice a (n + 1) c, .func (.func 26) #[] #[]] w fun e w' => e = .returned (.agg #[.int .i64 (maxP x ys).c, .int .i64 (maxP x ys).l, .int .i64 (maxP x ys).d]) ∧ Below w.heap.size w w' := by
  obtain ⟨hlen, hrow⟩ := h
  obtain ⟨b, off, rfl, hc⟩ := hrow (by omega)
  have hyl : ys.length = n := by simpa using hlen
  have HC := hide hc
  have hb : b < w.heap.size := lt_of_cell? (hc 0 (by omega)).1
  obtain ⟨r0, r1, r2⟩ := hc 0 (by omega)
  simp only [Nat.zero_mul, Nat.add_zero] at r0 r1 r2
  rw [show (x :: ys).getD 0 prD = x from rfl] at r0 r1 r2
  obtain ⟨w1, hw1⟩ : ∃ w1, w1 = (w.alloc (.cells #[.int .i64 0, .int .i64 0, .int .i64 0] 39)).alloc (.cells #[.int .i64 x.c, .int .i64 x.l, .int .i64 x.d] 39) := ⟨_, rfl⟩
  have B1 := hide (show Below w.heap.size w w1 from by rw [hw1]; exact (((Below.refl w.heap.size w).alloc (Nat.le_refl _) _).alloc (by simp) _))
  have P0 := hide (show PrAt w1 w.heap.size 0 0 0 from by rw [hw1]; exact (prAt_new w 0 0 0).below ((Below.refl _ _).alloc (Nat.le_refl _) _))
  have P1 := hide (show PrAt w1 (w.heap.size + 1) x.c x.l x.d from by rw [hw1]; have := prAt_new (w.alloc (.cells #[.int .i64 0, .int .i64 0, .int .i64 0] 39)) x.c x.l x.d; simpa using this)
  have HW := hide hw1
  clear hw1 hlen hrow hc
  have n1 : ((n + 1 : Nat) : Int) ≤ 1000001 := by omega
  have n0 : (0 : Int) < ((n + 1 : Nat) : Int) := by omega
  have HN := hide hyl
  clear hyl
  obtain ⟨N, hN⟩ : ∃ N, N = n + 1 := ⟨_, rfl⟩
  rw [← hN] at n0 n1 ⊢ HC
  have HNN := hide hN
  clear hN hn
  go_enter Try.func43, Try.ntmps43
  go_upto_region 4 with fail
  rw [← HW.out]
  clear r0 r1 r2
  obtain ⟨R, hR⟩ : ∃ R, R = w.heap.size := ⟨_, rfl⟩
  obtain ⟨X, hX⟩ : ∃ X, X = w.heap.size + 1 := ⟨_, rfl⟩
  rw [← hX, ← hR]
  rw [← hR] at P0
  rw [← hX] at P1
  have LR := hide (show w.heap.size ≤ R from by omega)
  have LX := hide (show w.heap.size ≤ X from by omega)
  have NE := hide (show R ≠ X from by omega)
  have RC := hide (fun (wr : World) (hB : Below w.heap.size w wr) (q : Nat) (hq : q < N) => show wr.cell? ⟨b, off + q * 3, none⟩ = some (.int .i64 ((x :: ys).getD q prD).c) ∧ wr.cell? ⟨b, off + q * 3 + 1, none⟩ = some (.int .i64 ((x :: ys).getD q prD).l) ∧ wr.cell? ⟨b, off + q * 3 + 2, none⟩ = some (.int .i64 ((x :: ys).getD q prD).d) from by
    obtain ⟨h0, h1, h2⟩ := HC.out q hq
    exact ⟨(hB.cell (p := ⟨b, _, none⟩) hb).trans h0, (hB.cell (p := ⟨b, _, none⟩) hb).trans h1, (hB.cell (p := ⟨b, _, none⟩) hb).trans h2⟩)
  clear hX hR
  go_wp2_with fail
  go_loopw [6] (fun i wr => ∃ (q : Nat), 1 ≤ q ∧ q ≤ N ∧ i = .int .i64 (q : Int) ∧ Hid (Below w.heap.size w wr ∧ PrAt wr R 0 0 0 ∧ PrAt wr X (maxP x (ys.take (q - 1))).c (maxP x (ys.take (q - 1))).l (maxP x (ys.take (q - 1))).d)) (fun i _ => N - (intOf i).toNat)
  case atStart => exact ⟨1, by omega, by omega, rfl, B1.out, P0.out, P1.out⟩
  case round =>
    clear P0 P1 B1 HW
    obtain ⟨q, hq1, hqN, rfl, hZ⟩ := hrel
    by_cases hlt : q < N
    · have q0 : (0 : Int) ≤ (q : Int) := by omega
      have q1 : (q : Int) < (N : Int) := by omega
      have q2 := RC.out wr hZ.out.1 q hlt
      have p1 := hZ.out.2.2.cells
      have NX := hide (show ys.take (q + 1 - 1) = ys.take (q - 1) ++ [(x :: ys).getD q prD] from by
        have hn := HNN.out
        have hy := HN.out
        have e1 : q - 1 < ys.length := by omega
        have e2 : (x :: ys).getD q prD = ys[q - 1] := by
          obtain ⟨t, rfl⟩ : ∃ t, q = t + 1 := ⟨q - 1, by omega⟩
          simp [List.getD, List.getElem?_eq_getElem (show t < ys.length by omega)]
        rw [e2, show q + 1 - 1 = (q - 1) + 1 by omega, List.take_succ_eq_append_getElem e1])
      obtain ⟨y, hy⟩ : ∃ y, y = (x :: ys).getD q prD := ⟨_, rfl⟩
      obtain ⟨m, hm⟩ : ∃ m, m = maxP x (ys.take (q - 1)) := ⟨_, rfl⟩
      rw [← hy] at q2 NX
      rw [← hm] at p1
      have MX := hide (show maxP x (ys.take (q + 1 - 1)) = if gtP y m = true then y else m from by rw [NX.out, maxP_snoc, ← hm])
      have Z := hide (show Below w.heap.size w wr ∧ PrAt wr R 0 0 0 ∧ PrAt wr X m.c m.l m.d from by rw [hm]; exact hZ.out)
      have HYY := hide hy
      clear hy hm hZ NX
      have G := hide (fun W => pcmp_any W y.c y.l y.d m.c m.l m.d)
      obtain ⟨u, hu⟩ : ∃ u, u = cmpP y m := ⟨_, rfl⟩
      have G2 : Hid (∀ W, Calls Try.prog 26 #[.agg #[.int .i64 y.c, .int .i64 y.l, .int .i64 y.d], .agg #[.int .i64 m.c, .int .i64 m.l, .int .i64 m.d]] W fun e w' => e = .returned (.int .i64 u) ∧ Below W.heap.size W w') := (show ∀ W, _ from fun W => by rw [hu]; exact G.out W)
      have MX := hide (show maxP x (ys.take (q + 1 - 1)) = if 0 < u then y else m from by rw [MX.out, hu]; by_cases g : gtP y m = true <;> simp [g, cmpP_pos])
      clear G hu
      go_upto_region 7 with fail
      go_region_held3 (fun w' => (w'.cell? ⟨b, off + q * 3, none⟩ = some (.int .i64 y.c) ∧ w'.cell? ⟨b, off + q * 3 + 1, none⟩ = some (.int .i64 y.l) ∧ w'.cell? ⟨b, off + q * 3 + 2, none⟩ = some (.int .i64 y.d)) ∧ (w'.cell? ⟨X, 0, none⟩ = some (.int .i64 m.c) ∧ w'.cell? ⟨X, 1, none⟩ = some (.int .i64 m.l) ∧ w'.cell? ⟨X, 2, none⟩ = some (.int .i64 m.d))) (first | exact ⟨q2, p1⟩ | exact ⟨q3, p3⟩) ((go_at_call 26; refine (G2.out _).mono ?_; rintro e w2 ⟨rfl, b2⟩; have B2 := hide (Z.out.1.trans (((below_drewN (Below.refl wr.heap.size wr) 1).trans b2).mono Z.out.1.size)); have A2 := hide ((Z.out.2.1.below ((below_drewN (Below.refl wr.heap.size wr) 1).trans b2))); have X2 := hide ((Z.out.2.2.below ((below_drewN (Below.refl wr.heap.size wr) 1).trans b2))); have q3 := RC.out w2 B2.out q hlt; rw [← HYY.out] at q3; have p3 := X2.out.cells; clear b2))
      by_cases ht : 0 < u
      · rw [if_pos ht] at MX
        have fx := X2.out.frozen
        obtain ⟨f0, f1, f2⟩ : w2.frozen? ⟨X, 0, none⟩ = false ∧ w2.frozen? ⟨X, 1, none⟩ = false ∧ w2.frozen? ⟨X, 2, none⟩ = false := ⟨fx 0, fx 1, fx 2⟩
        obtain ⟨x0, x1, x2⟩ := p3
        obtain ⟨y0, y1, y2⟩ := q3
        have T := hide ((((Touch.refl (fun i => i = X) w2).setCell (p := ⟨X, 0, none⟩) rfl (.int .i64 y.c)).setCell (p := ⟨X, 1, none⟩) rfl (.int .i64 y.l)).setCell (p := ⟨X, 2, none⟩) rfl (.int .i64 y.d))
        have X3 := hide (X2.out.set y.c y.l y.d)
        clear fx q2 p1
        go_wp2_with fail
        go_roundw
        case rel =>
          refine ⟨q + 1, by omega, by omega, by go_num, ?_⟩
          rw [MX.out]
          exact ⟨B2.out.trans (T.out.below B2.out.size (fun i e => by rw [e]; exact LX.out)), (T.out.block R (lt_of_heap A2.out) (fun e => NE.out e)).trans A2.out, X3.out⟩
        case measure => simp [intOf]; omega
      · rw [if_neg ht] at MX
        clear q2 p1
        go_wp2_with fail
        go_roundw
        case rel =>
          refine ⟨q + 1, by omega, by omega, by go_num, ?_⟩
          rw [MX.out]
          exact ⟨B2.out, A2.out, X2.out⟩
        case measure => simp [intOf]; omega
    · obtain rfl : q = N := by omega
      have e1 : ys.take (q - 1) = ys := by
        have hn := HNN.out
        have hy := HN.out
        exact List.take_of_length_le (by omega)
      have hZ2 := hZ.out
      rw [e1] at hZ2
      obtain ⟨m, hm⟩ : ∃ m, m = maxP x ys := ⟨_, rfl⟩
      rw [← hm] at hZ2
      have HM := hide hm
      have B2 := hide hZ2.1
      have A2 := hide hZ2.2.1
      obtain ⟨x0, x1, x2⟩ := hZ2.2.2.cells
      obtain ⟨a0, a1, a2⟩ := hZ2.2.1.cells
      have fa := hZ2.2.1.frozen
      obtain ⟨f0, f1, f2⟩ : wr.frozen? ⟨R, 0, none⟩ = false ∧ wr.frozen? ⟨R, 1, none⟩ = false ∧ wr.frozen? ⟨R, 2, none⟩ = false := ⟨fa 0, fa 1, fa 2⟩
      have A3 := hide (hZ2.2.1.set m.c m.l m.d)
      have T := hide ((((Touch.refl (fun i => i = R) wr).setCell (p := ⟨R, 0, none⟩) rfl (.int .i64 m.c)).setCell (p := ⟨R, 1, none⟩) rfl (.int .i64 m.l)).setCell (p := ⟨R, 2, none⟩) rfl (.int .i64 m.d))
      clear hZ hZ2 hm e1 fa
      go_wp2_with fail
      exact bodyPost_ret (v := .agg #[.int .i64 m.c, .int .i64 m.l, .int .i64 m.d]) (by
        obtain ⟨k0, k1, k2⟩ := A3.out.cells
        simp [results, Try.results43, go_sem, k0, k1, k2]) rfl ⟨by rw [← HM.out], B2.out.trans (T.out.below B2.out.size (fun i e => by rw [e]; exact LR.out))⟩
set_option maxHeartbeats 4000000 in
theorem pmax_any (w : World) (a : Option Addr) (n c : Nat) (x y z : Int) (ys : List Pr) (h : PrRow w a n ys) (hn : n ≤ 1000000) :
    Calls Try.prog 36 #[.agg #[.int .i64 x, .int .i64 y, .int .i64 z], .slice a n c] w fun e w' => e = .returned (.agg #[.int .i64 (maxP ⟨x, y, z⟩ ys).c, .int .i64 (maxP ⟨x, y, z⟩ ys).l, .int .i64 (maxP ⟨x, y, z⟩ ys).d]) ∧ Below w.heap.size w w' := by
  obtain ⟨w1, hw1⟩ : ∃ w1, w1 = (w.alloc (.cells #[.int .i64 x, .int .i64 y, .int .i64 z] 39)).alloc (.cells #[.int .i64 0, .int .i64 0, .int .i64 0] 39) := ⟨_, rfl⟩
  have b1 : Below w.heap.size w w1 := by rw [hw1]; exact (((Below.refl w.heap.size w).alloc (Nat.le_refl _) _).alloc (by simp) _)
  have H1 := hide (h.below b1)
  have B1 := hide b1
  have P1 := hide (show PrAt w1 w.heap.size x y z from by rw [hw1]; exact (prAt_new w x y z).below ((Below.refl _ _).alloc (Nat.le_refl _) _))
  have R1 := hide (show PrAt w1 (w.heap.size + 1) 0 0 0 from by rw [hw1]; have := prAt_new (w.alloc (.cells #[.int .i64 x, .int .i64 y, .int .i64 z] 39)) 0 0 0; simpa using this)
  have HW := hide hw1
  have hlen := h.1
  have MT := hide (maxP_cons ⟨x, y, z⟩)
  clear hw1 b1 h
  obtain ⟨V, hV⟩ : ∃ V, V = maxP ⟨x, y, z⟩ ys := ⟨_, rfl⟩
  rw [← hV]
  have HV := hide hV
  clear hV
  obtain ⟨X, hX⟩ : ∃ X, X = w.heap.size := ⟨_, rfl⟩
  obtain ⟨R, hR⟩ : ∃ R, R = w.heap.size + 1 := ⟨_, rfl⟩
  rw [← hX] at P1
  rw [← hR] at R1
  have HX := hide hX
  have HR := hide hR
  have LR := hide (show w.heap.size ≤ R from by omega)
  have NE := hide (show R ≠ X from by omega)
  clear hX hR
  match ys, n, hlen, hn, H1, HV with
  | [], 0, hlen, hn, H1, HV =>
    clear MT H1 hlen
    have n0 : (((0 : Nat) : Int) == 0) = true := rfl
    have fr := R1.out.frozen
    obtain ⟨a0, a1, a2⟩ := R1.out.cells
    obtain ⟨f0, f1, f2⟩ : w1.frozen? ⟨R, 0, none⟩ = false ∧ w1.frozen? ⟨R, 1, none⟩ = false ∧ w1.frozen? ⟨R, 2, none⟩ = false := ⟨fr 0, fr 1, fr 2⟩
    obtain ⟨p0, p1, p2⟩ := P1.out.cells
    have R2 := hide (R1.out.set x y z)
    have T := hide ((((Touch.refl (fun i => i = R) w1).setCell (p := ⟨R, 0, none⟩) rfl (.int .i64 x)).setCell (p := ⟨R, 1, none⟩) rfl (.int .i64 y)).setCell (p := ⟨R, 2, none⟩) rfl (.int .i64 z))
    clear fr
    go_enter Try.func36, Try.ntmps36
    go_upto_region 1 with fail
    rw [← HW.out, ← HR.out, ← HX.out]
    go_wp2_with fail
    exact bodyPost_ret (v := .agg #[.int .i64 x, .int .i64 y, .int .i64 z]) (by
      obtain ⟨k0, k1, k2⟩ := R2.out.cells
      simp [results, Try.results36, go_sem, k0, k1, k2]) rfl ⟨by rw [HV.out]; rfl, B1.out.trans (T.out.below B1.out.size (fun i e => by rw [e]; exact LR.out))⟩
  | v :: vs, n + 1, hlen, hn, H1, HV =>
    have HV2 := hide (HV.out.trans (MT.out v vs))
    have KF := hide (pmaxf_any w1 a n c v vs H1.out (by omega))
    obtain ⟨m, hm⟩ : ∃ m, m = maxP v vs := ⟨_, rfl⟩
    have KF2 : Hid (Calls Try.prog 43 #[.slice a (n + 1) c, .func (.func 26) #[] #[]] w1 fun e w' => e = .returned (.agg #[.int .i64 m.c, .int .i64 m.l, .int .i64 m.d]) ∧ Below w1.heap.size w1 w') := (show Calls _ _ _ _ _ from by rw [hm]; exact KF.out)
    rw [← hm] at HV2
    clear KF HV MT H1 hm
    obtain ⟨N, hN⟩ : ∃ N, N = n + 1 := ⟨_, rfl⟩
    rw [← hN] at KF2 hn ⊢
    have n0 : ((N : Int) == 0) = false := by rw [hN]; simp; omega
    clear hN hlen
    obtain ⟨u, hu⟩ : ∃ u, u = cmpP m ⟨x, y, z⟩ := ⟨_, rfl⟩
    have G2 : Hid (∀ W, Calls Try.prog 26 #[.agg #[.int .i64 m.c, .int .i64 m.l, .int .i64 m.d], .agg #[.int .i64 x, .int .i64 y, .int .i64 z]] W fun e w' => e = .returned (.int .i64 u) ∧ Below W.heap.size W w') := (show ∀ W, _ from fun W => by rw [hu]; exact pcmp_any W m.c m.l m.d x y z)
    have HV3 := hide (show V = if 0 < u then m else ⟨x, y, z⟩ from by rw [HV2.out, hu]; by_cases g : gtP m ⟨x, y, z⟩ = true <;> simp [g, cmpP_pos])
    clear hu HV2
    go_enter Try.func36, Try.ntmps36
    go_upto_region 1 with fail
    rw [← HW.out, ← HR.out, ← HX.out]
    go_upto_region 4 with (go_at_call 43; refine KF2.out.mono ?_; rintro e w2 ⟨rfl, b2⟩; have B2 := hide (B1.out.trans (b2.mono B1.out.size)); have P2 := hide (P1.out.below b2); have R2 := hide (R1.out.below b2); clear b2)
    obtain ⟨w3, hw3⟩ : ∃ w3, w3 = w2.alloc (.cells #[.int .i64 m.c, .int .i64 m.l, .int .i64 m.d] 39) := ⟨_, rfl⟩
    have b3 : Below w2.heap.size w2 w3 := by rw [hw3]; exact (Below.refl w2.heap.size w2).alloc (Nat.le_refl _) _
    have B3 := hide (B2.out.trans (b3.mono B2.out.size))
    have P3 := hide (P2.out.below b3)
    have R3 := hide (R2.out.below b3)
    have M3 := hide (show PrAt w3 w2.heap.size m.c m.l m.d from by rw [hw3]; exact prAt_new w2 _ _ _)
    rw [← hw3]
    have NM := hide (show R ≠ w2.heap.size from fun e => by have := lt_of_heap R2.out; omega)
    obtain ⟨M, hM⟩ : ∃ M, M = w2.heap.size := ⟨_, rfl⟩
    rw [← hM] at M3 NM ⊢
    clear b3 hw3 hM
    obtain ⟨p0, p1, p2⟩ := P3.out.cells
    obtain ⟨m0, m1, m2⟩ := M3.out.cells
    by_cases ht : 0 < u
    · have hv : V = m := by rw [HV3.out, if_pos ht]
      have HV4 := hide hv
      clear hv HV3
      go_wp2_with (go_at_call 26; refine (G2.out _).mono ?_; rintro e w4 ⟨rfl, b4⟩; have B4 := hide (B3.out.trans (b4.mono B3.out.size)); have R4 := hide (R3.out.below b4); have M4 := hide (M3.out.below b4); obtain ⟨a0, a1, a2⟩ := R4.out.cells; obtain ⟨n0, n1, n2⟩ := M4.out.cells; have fr := R4.out.frozen; obtain ⟨f0, f1, f2⟩ : w4.frozen? ⟨R, 0, none⟩ = false ∧ w4.frozen? ⟨R, 1, none⟩ = false ∧ w4.frozen? ⟨R, 2, none⟩ = false := ⟨fr 0, fr 1, fr 2⟩; clear b4 fr)
      have R5 := hide (R4.out.set m.c m.l m.d)
      have T := hide ((((Touch.refl (fun i => i = R) w4).setCell (p := ⟨R, 0, none⟩) rfl (.int .i64 m.c)).setCell (p := ⟨R, 1, none⟩) rfl (.int .i64 m.l)).setCell (p := ⟨R, 2, none⟩) rfl (.int .i64 m.d))
      exact bodyPost_ret (v := .agg #[.int .i64 m.c, .int .i64 m.l, .int .i64 m.d]) (by
        obtain ⟨k0, k1, k2⟩ := R5.out.cells
        simp [results, Try.results36, go_sem, k0, k1, k2]) rfl ⟨by rw [HV4.out], B4.out.trans (T.out.below B4.out.size (fun i e => by rw [e]; exact LR.out))⟩
    · have hv : V = ⟨x, y, z⟩ := by rw [HV3.out, if_neg ht]
      have HV4 := hide hv
      clear hv HV3
      go_wp2_with (go_at_call 26; refine (G2.out _).mono ?_; rintro e w4 ⟨rfl, b4⟩; have B4 := hide (B3.out.trans (b4.mono B3.out.size)); have R4 := hide (R3.out.below b4); have P4 := hide (P3.out.below b4); obtain ⟨a0, a1, a2⟩ := R4.out.cells; obtain ⟨n0, n1, n2⟩ := P4.out.cells; have fr := R4.out.frozen; obtain ⟨f0, f1, f2⟩ : w4.frozen? ⟨R, 0, none⟩ = false ∧ w4.frozen? ⟨R, 1, none⟩ = false ∧ w4.frozen? ⟨R, 2, none⟩ = false := ⟨fr 0, fr 1, fr 2⟩; clear b4 fr)
      have R5 := hide (R4.out.set x y z)
      have T := hide ((((Touch.refl (fun i => i = R) w4).setCell (p := ⟨R, 0, none⟩) rfl (.int .i64 x)).setCell (p := ⟨R, 1, none⟩) rfl (.int .i64 y)).setCell (p := ⟨R, 2, none⟩) rfl (.int .i64 z))
      exact bodyPost_ret (v := .agg #[.int .i64 x, .int .i64 y, .int .i64 z]) (by
        obtain ⟨k0, k1, k2⟩ := R5.out.cells
        simp [results, Try.results36, go_sem, k0, k1, k2]) rfl ⟨by rw [HV4.out], B4.out.trans (T.out.below B4.out.size (fun i e => by rw [e]; exact LR.out))⟩
end Go.Proofs.Ythbhbanhgmaopaa
