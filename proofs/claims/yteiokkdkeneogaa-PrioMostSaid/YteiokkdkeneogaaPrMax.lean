/-
  The document's own Max (coxswainref7).
-/
import Derived.Test.YteiokkdkeneogaaPrRefsB
namespace Go.Proofs.Yteiokkdkeneogaa
open Go.ChangeShapes Go.WideShapes Go.ChangeAt Go.RowKit
set_option linter.unusedVariables false
def prD : Pr := ⟨0, 0, 0⟩
/-- A slice of n priorities that reads as zs. -/
def PrRow (w : World) (a : Option Addr) (n : Nat) (zs : List Pr) : Prop :=
  zs.length = n ∧ (0 < n → ∃ b off, a = some ⟨b, off, none⟩ ∧ ∀ i, i < n → w.cell? ⟨b, off + i * 3, none⟩ = some (.int .i64 (zs.getD i prD).c) ∧ w.cell? ⟨b, off + i * 3 + 1, none⟩ = some (.int .i64 (zs.getD i prD).l) ∧ w.cell? ⟨b, off + i * 3 + 2, none⟩ = some (.int .i64 (zs.getD i prD).d))
theorem PrRow.below {w w' : World} {a : Option Addr} {n : Nat} {zs : List Pr} (h : PrRow w a n zs) (b : Below w.heap.size w w') : PrRow w' a n zs := by
  refine ⟨h.1, fun hn => ?_⟩
  obtain ⟨g, off, e, hc⟩ := h.2 hn
  refine ⟨g, off, e, fun i hi => ?_⟩
  obtain ⟨h0, h1, h2⟩ := hc i hi
  have hg : g < w.heap.size := lt_of_cell? h0
  exact ⟨(b.cell (p := ⟨g, _, none⟩) hg).trans h0, (b.cell (p := ⟨g, _, none⟩) hg).trans h1, (b.cell (p := ⟨g, _, none⟩) hg).trans h2⟩
theorem PrRow.of_came {w : World} {a : Option Addr} {n c : Nat} {zs : List (List Int)} (h : CameRows 3 w a n c zs) : ∃ ps, PrRow w a n ps ∧ n ≤ c ∧ c ≤ maxLen ∧ ∀ i, i < n → (Lit.int .i64 (ps.getD i prD).c).wf = true ∧ (Lit.int .i64 (ps.getD i prD).l).wf = true ∧ (Lit.int .i64 (ps.getD i prD).d).wf = true := by
  obtain ⟨h1, h2, h3, h4, h5⟩ := h
  have hget : ∀ i, i < n → (zs.map (fun z => (⟨z.getD 0 0, z.getD 1 0, z.getD 2 0⟩ : Pr))).getD i prD = ⟨(zs.getD i []).getD 0 0, (zs.getD i []).getD 1 0, (zs.getD i []).getD 2 0⟩ := fun i hi => by
    simp [List.getD, List.getElem?_map, List.getElem?_eq_getElem (show i < zs.length by omega)]
  refine ⟨zs.map (fun z => ⟨z.getD 0 0, z.getD 1 0, z.getD 2 0⟩), ⟨by simpa using h1, fun hn => ?_⟩, h2, h3, fun i hi => ?_⟩
  · obtain ⟨b, off, e, hb, hc⟩ := h5 hn
    refine ⟨b, off, e, fun i hi => ?_⟩
    rw [hget i hi]
    exact ⟨by have := hc i 0 hi (by omega); simpa using this, by have := hc i 1 hi (by omega); rw [← Nat.add_assoc] at this; exact this, by have := hc i 2 hi (by omega); rw [← Nat.add_assoc] at this; exact this⟩
  · rw [hget i hi]
    obtain ⟨_, hw⟩ := h4 i hi
    exact ⟨hw 0 (by omega), hw 1 (by omega), hw 2 (by omega)⟩
theorem PrAt.set {w : World} {X : Nat} {c l d : Int} (h : PrAt w X c l d) (x y z : Int) : PrAt (((w.setCell ⟨X, 0, none⟩ (.int .i64 x)).setCell ⟨X, 1, none⟩ (.int .i64 y)).setCell ⟨X, 2, none⟩ (.int .i64 z)) X x y z := by
  have h1 : (w.setCell ⟨X, 0, none⟩ (.int .i64 x)).heap[X]? = some (.cells #[.int .i64 x, .int .i64 l, .int .i64 d] 23 (0, 0)) := by rw [heap_setCell_same _ _ _ _ _ _ h]; rfl
  have h2 : ((w.setCell ⟨X, 0, none⟩ (.int .i64 x)).setCell ⟨X, 1, none⟩ (.int .i64 y)).heap[X]? = some (.cells #[.int .i64 x, .int .i64 y, .int .i64 d] 23 (0, 0)) := by rw [heap_setCell_same _ _ _ _ _ _ h1]; rfl
  unfold PrAt
  rw [heap_setCell_same _ _ _ _ _ _ h2]; rfl
theorem maxP_snoc (x : Pr) (ys : List Pr) (y : Pr) : maxP x (ys ++ [y]) = if gtP y (maxP x ys) = true then y else maxP x ys := by unfold maxP; rw [List.foldl_append]; rfl
set_option maxHeartbeats 4000000 in
theorem rmax_any (w : World) (a : Option Addr) (n c : Nat) (x : Pr) (ys : List Pr) (h : PrRow w a (n + 1) (x :: ys)) (hn : n ≤ 1000000) :
    Calls Try.prog 13 #[.slice a (n + 1) c] w fun e w' => e = .returned (.agg #[.int .i64 (maxP x ys).c, .int .i64 (maxP x ys).l, .int .i64 (maxP x ys).d]) ∧ Below w.heap.size w w' := by
  obtain ⟨hlen, hrow⟩ := h
  obtain ⟨b, off, rfl, hc⟩ := hrow (by omega)
  have hyl : ys.length = n := by simpa using hlen
  have HC := hide hc
  have hb : b < w.heap.size := lt_of_cell? (hc 0 (by omega)).1
  obtain ⟨r0, r1, r2⟩ := hc 0 (by omega)
  simp only [Nat.zero_mul, Nat.add_zero] at r0 r1 r2
  rw [show (x :: ys).getD 0 prD = x from rfl] at r0 r1 r2
  obtain ⟨w1, hw1⟩ : ∃ w1, w1 = (w.alloc (.cells #[.int .i64 0, .int .i64 0, .int .i64 0] 23)).alloc (.cells #[.int .i64 x.c, .int .i64 x.l, .int .i64 x.d] 23) := ⟨_, rfl⟩
  have B1 := hide (show Below w.heap.size w w1 from by rw [hw1]; exact (((Below.refl w.heap.size w).alloc (Nat.le_refl _) _).alloc (by simp) _))
  have P0 := hide (show PrAt w1 w.heap.size 0 0 0 from by rw [hw1]; exact (prAt_new w 0 0 0).below ((Below.refl _ _).alloc (Nat.le_refl _) _))
  have P1 := hide (show PrAt w1 (w.heap.size + 1) x.c x.l x.d from by rw [hw1]; have := prAt_new (w.alloc (.cells #[.int .i64 0, .int .i64 0, .int .i64 0] 23)) x.c x.l x.d; simpa using this)
  have HW := hide hw1
  clear hw1 hlen hrow hc
  have n1 : ((n + 1 : Nat) : Int) ≤ 1000001 := by omega
  have n0 : (0 : Int) < ((n + 1 : Nat) : Int) := by omega
  have HN := hide hyl
  clear hyl
  obtain ⟨N, hN⟩ : ∃ N, N = n + 1 := ⟨_, rfl⟩
  rw [← hN] at n0 n1 ⊢ HC
  have HNN := hide hN
  clear hN hn
  go_enter Try.func13, Try.ntmps13
  go_upto_region 2 with fail
  rw [← HW.out]
  clear r0 r1 r2
  obtain ⟨R, hR⟩ : ∃ R, R = w.heap.size := ⟨_, rfl⟩
  obtain ⟨X, hX⟩ : ∃ X, X = w.heap.size + 1 := ⟨_, rfl⟩
  rw [← hX, ← hR]
  rw [← hR] at P0
  rw [← hX] at P1
  have LR := hide (show w.heap.size ≤ R from by omega)
  have LX := hide (show w.heap.size ≤ X from by omega)
  have NE := hide (show R ≠ X from by omega)
  have RC := hide (fun (wr : World) (hB : Below w.heap.size w wr) (q : Nat) (hq : q < N) => show wr.cell? ⟨b, off + q * 3, none⟩ = some (.int .i64 ((x :: ys).getD q prD).c) ∧ wr.cell? ⟨b, off + q * 3 + 1, none⟩ = some (.int .i64 ((x :: ys).getD q prD).l) ∧ wr.cell? ⟨b, off + q * 3 + 2, none⟩ = some (.int .i64 ((x :: ys).getD q prD).d) from by
    obtain ⟨h0, h1, h2⟩ := HC.out q hq
    exact ⟨(hB.cell (p := ⟨b, _, none⟩) hb).trans h0, (hB.cell (p := ⟨b, _, none⟩) hb).trans h1, (hB.cell (p := ⟨b, _, none⟩) hb).trans h2⟩)
  clear hX hR
  go_wp2_with fail
  go_loopw [4] (fun i wr => ∃ (q : Nat), 1 ≤ q ∧ q ≤ N ∧ i = .int .i64 (q : Int) ∧ Hid (Below w.heap.size w wr ∧ PrAt wr R 0 0 0 ∧ PrAt wr X (maxP x (ys.take (q - 1))).c (maxP x (ys.take (q - 1))).l (maxP x (ys.take (q - 1))).d)) (fun i _ => N - (intOf i).toNat)
  case atStart => exact ⟨1, by omega, by omega, rfl, B1.out, P0.out, P1.out⟩
  case round =>
    clear P0 P1 B1 HW
    obtain ⟨q, hq1, hqN, rfl, hZ⟩ := hrel
    by_cases hlt : q < N
    · have q0 : (0 : Int) ≤ (q : Int) := by omega
      have q1 : (q : Int) < (N : Int) := by omega
      have q2 := RC.out wr hZ.out.1 q hlt
      have p1 := hZ.out.2.2.cells
      have NX := hide (show ys.take (q + 1 - 1) = ys.take (q - 1) ++ [(x :: ys).getD q prD] from by
        have hn := HNN.out
        have hy := HN.out
        have e1 : q - 1 < ys.length := by omega
        have e2 : (x :: ys).getD q prD = ys[q - 1] := by
          obtain ⟨t, rfl⟩ : ∃ t, q = t + 1 := ⟨q - 1, by omega⟩
          simp [List.getD, List.getElem?_eq_getElem (show t < ys.length by omega)]
        rw [e2, show q + 1 - 1 = (q - 1) + 1 by omega, List.take_succ_eq_append_getElem e1])
      obtain ⟨y, hy⟩ : ∃ y, y = (x :: ys).getD q prD := ⟨_, rfl⟩
      obtain ⟨m, hm⟩ : ∃ m, m = maxP x (ys.take (q - 1)) := ⟨_, rfl⟩
      rw [← hy] at q2 NX
      rw [← hm] at p1
      have MX := hide (show maxP x (ys.take (q + 1 - 1)) = if gtP y m = true then y else m from by rw [NX.out, maxP_snoc, ← hm])
      have Z := hide (show Below w.heap.size w wr ∧ PrAt wr R 0 0 0 ∧ PrAt wr X m.c m.l m.d from by rw [hm]; exact hZ.out)
      have HYY := hide hy
      clear hy hm hZ NX
      have G := hide (fun W => rgreater_any W y.c y.l y.d m.c m.l m.d)
      obtain ⟨u, hu⟩ : ∃ u, u = gtP y m := ⟨_, rfl⟩
      have G2 : Hid (∀ W, Calls Try.prog 16 #[.agg #[.int .i64 y.c, .int .i64 y.l, .int .i64 y.d], .agg #[.int .i64 m.c, .int .i64 m.l, .int .i64 m.d]] W fun e w' => e = .returned (.bool u) ∧ Below W.heap.size W w') := (show ∀ W, _ from fun W => by rw [hu]; exact G.out W)
      rw [← hu] at MX
      clear G hu
      go_upto_region 5 with fail
      go_region_held3 (fun w' => (w'.cell? ⟨b, off + q * 3, none⟩ = some (.int .i64 y.c) ∧ w'.cell? ⟨b, off + q * 3 + 1, none⟩ = some (.int .i64 y.l) ∧ w'.cell? ⟨b, off + q * 3 + 2, none⟩ = some (.int .i64 y.d)) ∧ (w'.cell? ⟨X, 0, none⟩ = some (.int .i64 m.c) ∧ w'.cell? ⟨X, 1, none⟩ = some (.int .i64 m.l) ∧ w'.cell? ⟨X, 2, none⟩ = some (.int .i64 m.d))) (first | exact ⟨q2, p1⟩ | exact ⟨q3, p3⟩) ((go_at_call 16; refine (G2.out _).mono ?_; rintro e w2 ⟨rfl, b2⟩; have B2 := hide (Z.out.1.trans (((below_drewN (Below.refl wr.heap.size wr) 1).trans b2).mono Z.out.1.size)); have A2 := hide ((Z.out.2.1.below ((below_drewN (Below.refl wr.heap.size wr) 1).trans b2))); have X2 := hide ((Z.out.2.2.below ((below_drewN (Below.refl wr.heap.size wr) 1).trans b2))); have q3 := RC.out w2 B2.out q hlt; rw [← HYY.out] at q3; have p3 := X2.out.cells; clear b2))
      by_cases ht : u = true
      · rw [if_pos ht] at MX
        rw [ht]
        clear ht
        have fx := X2.out.frozen
        obtain ⟨f0, f1, f2⟩ : w2.frozen? ⟨X, 0, none⟩ = false ∧ w2.frozen? ⟨X, 1, none⟩ = false ∧ w2.frozen? ⟨X, 2, none⟩ = false := ⟨fx 0, fx 1, fx 2⟩
        obtain ⟨x0, x1, x2⟩ := p3
        obtain ⟨y0, y1, y2⟩ := q3
        have T := hide ((((Touch.refl (fun i => i = X) w2).setCell (p := ⟨X, 0, none⟩) rfl (.int .i64 y.c)).setCell (p := ⟨X, 1, none⟩) rfl (.int .i64 y.l)).setCell (p := ⟨X, 2, none⟩) rfl (.int .i64 y.d))
        have X3 := hide (X2.out.set y.c y.l y.d)
        clear fx q2 p1
        go_wp2_with fail
        go_roundw
        case rel =>
          refine ⟨q + 1, by omega, by omega, by go_num, ?_⟩
          rw [MX.out]
          exact ⟨B2.out.trans (T.out.below B2.out.size (fun i e => by rw [e]; exact LX.out)), (T.out.block R (lt_of_heap A2.out) (fun e => NE.out e)).trans A2.out, X3.out⟩
        case measure => simp [intOf]; omega
      · have hf : u = false := by simpa using ht
        rw [if_neg ht] at MX
        rw [hf]
        clear ht hf q2 p1
        go_wp2_with fail
        go_roundw
        case rel =>
          refine ⟨q + 1, by omega, by omega, by go_num, ?_⟩
          rw [MX.out]
          exact ⟨B2.out, A2.out, X2.out⟩
        case measure => simp [intOf]; omega
    · obtain rfl : q = N := by omega
      have e1 : ys.take (q - 1) = ys := by
        have hn := HNN.out
        have hy := HN.out
        exact List.take_of_length_le (by omega)
      have hZ2 := hZ.out
      rw [e1] at hZ2
      obtain ⟨m, hm⟩ : ∃ m, m = maxP x ys := ⟨_, rfl⟩
      rw [← hm] at hZ2
      have HM := hide hm
      have B2 := hide hZ2.1
      have A2 := hide hZ2.2.1
      obtain ⟨x0, x1, x2⟩ := hZ2.2.2.cells
      obtain ⟨a0, a1, a2⟩ := hZ2.2.1.cells
      have fa := hZ2.2.1.frozen
      obtain ⟨f0, f1, f2⟩ : wr.frozen? ⟨R, 0, none⟩ = false ∧ wr.frozen? ⟨R, 1, none⟩ = false ∧ wr.frozen? ⟨R, 2, none⟩ = false := ⟨fa 0, fa 1, fa 2⟩
      have A3 := hide (hZ2.2.1.set m.c m.l m.d)
      have T := hide ((((Touch.refl (fun i => i = R) wr).setCell (p := ⟨R, 0, none⟩) rfl (.int .i64 m.c)).setCell (p := ⟨R, 1, none⟩) rfl (.int .i64 m.l)).setCell (p := ⟨R, 2, none⟩) rfl (.int .i64 m.d))
      clear hZ hZ2 hm e1 fa
      go_wp2_with fail
      exact bodyPost_ret (v := .agg #[.int .i64 m.c, .int .i64 m.l, .int .i64 m.d]) (by
        obtain ⟨k0, k1, k2⟩ := A3.out.cells
        simp [results, Try.results13, go_sem, k0, k1, k2]) rfl ⟨by rw [← HM.out], B2.out.trans (T.out.below B2.out.size (fun i e => by rw [e]; exact LR.out))⟩
end Go.Proofs.Yteiokkdkeneogaa
