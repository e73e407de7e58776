/-
  The program's Effective: its closure.
-/
import Derived.Test.YthbhbanhgmaopaaGnEffP
import Derived.Test.YthbhbanhgmaopaaGnB
import Derived.Test.YthbhbanhgmaopaaGnA
namespace Go.Proofs.Ythbhbanhgmaopaa
open Go.ChangeShapes Go.WideShapes Go.ChangeAt Go.RowKit
set_option linter.unusedVariables false
def BoolsAt (w : World) (g : Nat) (l : List Bool) : Prop := w.heap[g]? = some (.cells (l.map Value.bool).toArray 4 (0, 0))
def PrsAt (w : World) (g : Nat) (l : List Pr) : Prop := w.heap[g]? = some (.cells (l.flatMap prVals).toArray 39 (0, 0))
theorem BoolsAt.cell {w : World} {g : Nat} {l : List Bool} (h : BoolsAt w g l) {k : Nat} (hk : k < l.length) : w.cell? ⟨g, k, none⟩ = some (.bool (l.getD k false)) := by
  rw [cell_of_row _ _ _ _ _ _ h, List.getElem?_toArray, List.getElem?_map, List.getElem?_eq_getElem hk]
  simp [List.getD, hk]
theorem BoolsAt.frozen {w : World} {g : Nat} {l : List Bool} (h : BoolsAt w g l) (k : Nat) : w.frozen? ⟨g, k, none⟩ = false := frozen_of_row _ _ _ _ _ h
theorem BoolsAt.keep {w w' : World} {g : Nat} {l : List Bool} (h : BoolsAt w g l) (e : w'.heap[g]? = w.heap[g]?) : BoolsAt w' g l := e.trans h
theorem BoolsAt.set {w : World} {g : Nat} {l : List Bool} (h : BoolsAt w g l) (k : Nat) (b : Bool) : BoolsAt (w.setCell ⟨g, k, none⟩ (.bool b)) g (l.set k b) := by
  unfold BoolsAt
  rw [heap_setCell_same _ _ _ _ _ _ h]
  simp
theorem flat_len (l : List Pr) : (l.flatMap prVals).length = l.length * 3 := flat_length (z := 3) (vals := prVals) (fun _ => rfl) l
theorem PrsAt.cell {w : World} {g : Nat} {l : List Pr} (h : PrsAt w g l) {k : Nat} (hk : k < l.length) {j : Nat} (hj : j < 3) : ∃ u, w.cell? ⟨g, k * 3 + j, none⟩ = some u := by
  rw [cell_of_row _ _ _ _ _ _ h, List.getElem?_toArray, List.getElem?_eq_getElem (by rw [flat_len]; omega)]
  exact ⟨_, rfl⟩
theorem PrsAt.frozen {w : World} {g : Nat} {l : List Pr} (h : PrsAt w g l) (k : Nat) : w.frozen? ⟨g, k, none⟩ = false := frozen_of_row _ _ _ _ _ h
theorem PrsAt.keep {w w' : World} {g : Nat} {l : List Pr} (h : PrsAt w g l) (e : w'.heap[g]? = w.heap[g]?) : PrsAt w' g l := e.trans h
theorem flat_set (a b c : Int) : ∀ (l : List Pr) (k : Nat), (((l.flatMap prVals).set (k * 3) (.int .i64 a)).set (k * 3 + 1) (.int .i64 b)).set (k * 3 + 2) (.int .i64 c) = (l.set k ⟨a, b, c⟩).flatMap prVals := by
  intro l
  induction l with
  | nil => intro k; simp
  | cons x l ih =>
    intro k
    cases k with
    | zero => simp [prVals]
    | succ k =>
      have := ih k
      rw [show (k + 1) * 3 = k * 3 + 1 + 1 + 1 by omega]
      simp only [List.flatMap_cons, prVals, List.cons_append, List.nil_append, List.set_cons_succ] at this ⊢
      rw [this]
theorem PrsAt.set {w : World} {g : Nat} {l : List Pr} (h : PrsAt w g l) (k : Nat) (v : Pr) : PrsAt (((w.setCell ⟨g, k * 3, none⟩ (.int .i64 v.c)).setCell ⟨g, k * 3 + 1, none⟩ (.int .i64 v.l)).setCell ⟨g, k * 3 + 2, none⟩ (.int .i64 v.d)) g (l.set k v) := by
  unfold PrsAt
  have h1 : (w.setCell ⟨g, k * 3, none⟩ (.int .i64 v.c)).heap[g]? = some (.cells ((l.flatMap prVals).set (k * 3) (.int .i64 v.c)).toArray 39 (0, 0)) := by rw [heap_setCell_same _ _ _ _ _ _ h]; simp
  have h2 : ((w.setCell ⟨g, k * 3, none⟩ (.int .i64 v.c)).setCell ⟨g, k * 3 + 1, none⟩ (.int .i64 v.l)).heap[g]? = some (.cells (((l.flatMap prVals).set (k * 3) (.int .i64 v.c)).set (k * 3 + 1) (.int .i64 v.l)).toArray 39 (0, 0)) := by rw [heap_setCell_same _ _ _ _ _ _ h1]; simp
  rw [heap_setCell_same _ _ _ _ _ _ h2, ← flat_set]
  simp
structure EffI (n gl ge Bl Bb Bi Be : Nat) (pa : Option Addr) (cn : Nat) (ps : List Pr) (i : Int) (a : Option Addr) (p : Nat) (ws : List Int) (b : Option Addr) (q : Nat) (os : List Int) (s : EffS) (W : World) : Prop where
  lrow : BoolsAt W gl s.1
  erow : PrsAt W ge s.2
  l1 : s.1.length = n
  l2 : s.2.length = n
  lbox : BoxAt W Bl 54 (.slice (some ⟨gl, 0, none⟩) n n)
  bbox : BoxAt W Bb 31 (.slice pa n cn)
  ibox : BoxAt W Bi 3 (.int .i64 i)
  ebox : BoxAt W Be 31 (.slice (some ⟨ge, 0, none⟩) n n)
  base : Reads 3 prVals W pa n ps
  la : Ints .i64 W a p ws
  lb : Ints .i64 W b q os
def EffV (gl ge : Nat) (i : Nat) : Prop := i = gl ∨ i = ge
theorem EffI.below {n gl ge Bl Bb Bi Be : Nat} {pa : Option Addr} {cn : Nat} {ps : List Pr} {i : Int} {a : Option Addr} {p : Nat} {ws : List Int} {b : Option Addr} {q : Nat} {os : List Int} {s : EffS} {W W' : World} (h : EffI n gl ge Bl Bb Bi Be pa cn ps i a p ws b q os s W) (k : Below W.heap.size W W') : EffI n gl ge Bl Bb Bi Be pa cn ps i a p ws b q os s W' :=
  ⟨h.lrow.keep (k.block _ (lt_of_heap h.lrow)), h.erow.keep (k.block _ (lt_of_heap h.erow)), h.l1, h.l2, h.lbox.below k, h.bbox.below k, h.ibox.below k, h.ebox.below k, h.base.below k, h.la.below k, h.lb.below k⟩
theorem reads_touch {S : Nat → Prop} {w w' : World} {a : Option Addr} {n : Nat} {xs : List Pr} (h : Reads 3 prVals w a n xs) (t : Touch S w w') (d : 0 < n → ∀ b o, a = some ⟨b, o, none⟩ → ¬ S b) : Reads 3 prVals w' a n xs := by
  by_cases h0 : 0 < n
  · exact h.touch t (d h0)
  · exact ⟨h.1, fun h' => absurd h' (by omega)⟩
theorem prRow_one (w : World) (x : Pr) (n : Nat) (hn : n = w.heap.size) : PrRow (w.alloc (.cells #[.int .i64 x.c, .int .i64 x.l, .int .i64 x.d] 39)) (some ⟨n, 0, none⟩) 1 [x] := by
  rw [hn]
  have h := prAt_new w x.c x.l x.d
  obtain ⟨c0, c1, c2⟩ := h.cells
  refine ⟨rfl, fun _ => ⟨w.heap.size, 0, rfl, fun i hi => ?_⟩⟩
  obtain rfl : i = 0 := by omega
  exact ⟨c0, c1, c2⟩
set_option maxHeartbeats 8000000 in
theorem eff1_any (n gl ge Bl Bb Bi Be : Nat) (pa : Option Addr) (cn : Nat) (ps : List Pr) (i : Nat) (a : Option Addr) (p : Nat) (ws : List Int) (b : Option Addr) (q : Nat) (os : List Int) (hn : n ≤ 25) (hi : i < n)
    (hne : gl ≠ ge ∧ Bl ≠ gl ∧ Bl ≠ ge ∧ Bb ≠ gl ∧ Bb ≠ ge ∧ Bi ≠ gl ∧ Bi ≠ ge ∧ Be ≠ gl ∧ Be ≠ ge) (hpl : ∀ c o, pa = some ⟨c, o, none⟩ → c ≠ gl ∧ c ≠ ge) (hal : 0 < p → ∀ c o, a = some ⟨c, o, none⟩ → c ≠ gl ∧ c ≠ ge) (hbl : 0 < q → ∀ c o, b = some ⟨c, o, none⟩ → c ≠ gl ∧ c ≠ ge)
    (s : EffS) (k : Int) (W : World) (h : EffI n gl ge Bl Bb Bi Be pa cn ps i a p ws b q os s W) (k0 : 0 ≤ k) (kn : k < (n : Int)) :
    Calls Try.prog 35 #[.int .i64 k, .pointer (some ⟨Bl, 0, none⟩), .pointer (some ⟨Bb, 0, none⟩), .pointer (some ⟨Bi, 0, none⟩), .pointer (some ⟨Be, 0, none⟩)] W fun e w' => e = .returned (.bool (effStep ps i s k).1) ∧ EffI n gl ge Bl Bb Bi Be pa cn ps i a p ws b q os (effStep ps i s k).2 w' ∧ Touch (EffV gl ge) W w' := by
  obtain ⟨j, rfl⟩ : ∃ j : Nat, k = (j : Int) := ⟨k.toNat, by omega⟩
  have hj : j < n := by omega
  have H := hide h
  have cl := h.lbox.cell
  have cj := h.lrow.cell (show j < s.1.length by rw [h.l1]; exact hj)
  have fj := h.lrow.frozen j
  obtain ⟨u, hu⟩ : ∃ u, u = s.1.getD j false := ⟨_, rfl⟩
  rw [← hu] at cj
  cases u with
  | true =>
    have e : effStep ps i s j = (false, s) := by unfold effStep; rw [Int.toNat_natCast, if_pos hu.symm]
    rw [e]
    dsimp only
    clear h hu e
    go_enter Try.func35, Try.ntmps35
    go_wp2_with fail
    go_ret
    exact ⟨rfl, H.out, Touch.refl _ _⟩
  | false =>
    have e : effStep ps i s j = (true, (s.1.set j true, s.2.set j (newE ps i j))) := by unfold effStep newE; rw [Int.toNat_natCast, Int.toNat_natCast, if_neg (by rw [← hu]; simp)]
    rw [e]
    dsimp only
    obtain ⟨w1, hw1⟩ : ∃ w1, w1 = W.setCell ⟨gl, j, none⟩ (.bool true) := ⟨_, rfl⟩
    have T1 : Touch (fun i => i = gl) W w1 := by rw [hw1]; exact (Touch.refl (fun i => i = gl) W).setCell (p := ⟨gl, j, none⟩) rfl _
    have L1 : BoolsAt w1 gl (s.1.set j true) := by rw [hw1]; exact h.lrow.set j true
    obtain ⟨pb, po, rfl, y0, y1, y2⟩ := reads_pr h.base hj
    obtain ⟨pb', po', e2, z0, z1, z2⟩ := reads_pr h.base hi
    injection e2 with e2
    injection e2 with e2 e3
    subst e2 e3
    have pne := hpl pb po rfl
    obtain ⟨y, hy⟩ : ∃ y, y = ps.getD j prD := ⟨_, rfl⟩
    obtain ⟨z, hz⟩ : ∃ z, z = ps.getD i prD := ⟨_, rfl⟩
    rw [← hy] at y0 y1 y2
    rw [← hz] at z0 z1 z2
    have ne : newE ps i j = maxP y [z] := by unfold newE; rw [← hy, ← hz]
    rw [ne]
    obtain ⟨v, hv⟩ : ∃ v, v = maxP y [z] := ⟨_, rfl⟩
    rw [← hv]
    have MX := hide (show ∀ W A, PrRow W A 1 [z] → Calls Try.prog 36 #[.agg #[.int .i64 y.c, .int .i64 y.l, .int .i64 y.d], .slice A 1 1] W fun e w' => e = .returned (.agg #[.int .i64 v.c, .int .i64 v.l, .int .i64 v.d]) ∧ Below W.heap.size W w' from fun W A hA => by rw [hv]; exact pmax_any W A 1 1 y.c y.l y.d [z] hA (by omega))
    have V1 : ∀ B, B ≠ gl → B < W.heap.size → w1.heap[B]? = W.heap[B]? := fun B h1 h2 => T1.block B h2 h1
    have Q1 := hide (show BoxAt w1 Be 31 (.slice (some ⟨ge, 0, none⟩) n n) ∧ BoxAt w1 Bb 31 (.slice (some ⟨pb, po, none⟩) n cn) ∧ BoxAt w1 Bi 3 (.int .i64 (i : Int)) from ⟨h.ebox.touch T1 (by omega), h.bbox.touch T1 (by omega), h.ibox.touch T1 (by omega)⟩)
    have E1 := hide (show PrsAt w1 ge s.2 from h.erow.keep (V1 ge (by omega) (lt_of_heap h.erow)))
    have LB := hide L1
    have TT := hide T1
    have PBL := hide (show pb < W.heap.size from lt_of_cell? y0)
    have W1 := hide (show W.heap.size ≤ w1.heap.size from T1.size)
    have FA := hide (show ∀ W', Below w1.heap.size w1 W' → (W'.cell? ⟨Be, 0, none⟩ = some (.slice (some ⟨ge, 0, none⟩) n n) ∧ W'.cell? ⟨Bb, 0, none⟩ = some (.slice (some ⟨pb, po, none⟩) n cn) ∧ W'.cell? ⟨Bi, 0, none⟩ = some (.int .i64 (i : Int))) ∧ (W'.cell? ⟨pb, po + j * 3, none⟩ = some (.int .i64 y.c) ∧ W'.cell? ⟨pb, po + j * 3 + 1, none⟩ = some (.int .i64 y.l) ∧ W'.cell? ⟨pb, po + j * 3 + 2, none⟩ = some (.int .i64 y.d)) ∧ (W'.cell? ⟨pb, po + i * 3, none⟩ = some (.int .i64 z.c) ∧ W'.cell? ⟨pb, po + i * 3 + 1, none⟩ = some (.int .i64 z.l) ∧ W'.cell? ⟨pb, po + i * 3 + 2, none⟩ = some (.int .i64 z.d)) from fun W' b => by
      have pl : pb < w1.heap.size := Nat.lt_of_lt_of_le PBL.out W1.out
      have cc : ∀ o u, W.cell? ⟨pb, o, none⟩ = some u → W'.cell? ⟨pb, o, none⟩ = some u := fun o u hc => (b.cell (p := ⟨pb, o, none⟩) pl).trans (T1.cell hc pne.1)
      exact ⟨⟨(Q1.out.1.below b).cell, (Q1.out.2.1.below b).cell, (Q1.out.2.2.below b).cell⟩, ⟨cc _ _ y0, cc _ _ y1, cc _ _ y2⟩, cc _ _ z0, cc _ _ z1, cc _ _ z2⟩)
    have a0 : (0 : Int) ≤ (j : Int) := by omega
    have a1 : (j : Int) < (n : Int) := by omega
    have b0 : (0 : Int) ≤ (i : Int) := by omega
    have b1 : (i : Int) < (n : Int) := by omega
    have HW1 := hide hw1
    have JL := hide (show j < s.2.length from by rw [h.l2]; exact hj)
    have NEW := hide (show ∀ W', Below w1.heap.size w1 W' → PrRow (W'.alloc (.cells #[.int .i64 z.c, .int .i64 z.l, .int .i64 z.d] 39)) (some ⟨W'.heap.size, 0, none⟩) 1 [z] from fun W' _ => prRow_one W' z _ rfl)
    have PNE := hide pne
    have NE := hide (show Be ≠ ge ∧ Bb ≠ ge ∧ Bi ≠ ge from by omega)
    clear h hw1 T1 L1 y0 y1 y2 z0 z1 z2 V1 hu e ne hv hy hz
    go_enter Try.func35, Try.ntmps35
    go_upto_region 4 with fail
    rw [← HW1.out]
    clear cl cj fj HW1
    obtain ⟨w2, hw2⟩ : ∃ w2, w2 = w1.drew.alloc (.cells #[.int .i64 z.c, .int .i64 z.l, .int .i64 z.d] 39) := ⟨_, rfl⟩
    have F1 := FA.out w1.drew (below_drewN (Below.refl _ w1) 1)
    have F2 := FA.out w2 (by rw [hw2]; exact (below_drewN (Below.refl _ w1) 1).alloc (Nat.le_refl _) _)
    rw [hw2] at F2
    go_region_held3 (fun W' => (W'.cell? ⟨Be, 0, none⟩ = some (.slice (some ⟨ge, 0, none⟩) n n) ∧ W'.cell? ⟨Bb, 0, none⟩ = some (.slice (some ⟨pb, po, none⟩) n cn) ∧ W'.cell? ⟨Bi, 0, none⟩ = some (.int .i64 (i : Int))) ∧ (W'.cell? ⟨pb, po + j * 3, none⟩ = some (.int .i64 y.c) ∧ W'.cell? ⟨pb, po + j * 3 + 1, none⟩ = some (.int .i64 y.l) ∧ W'.cell? ⟨pb, po + j * 3 + 2, none⟩ = some (.int .i64 y.d)) ∧ (W'.cell? ⟨pb, po + i * 3, none⟩ = some (.int .i64 z.c) ∧ W'.cell? ⟨pb, po + i * 3 + 1, none⟩ = some (.int .i64 z.l) ∧ W'.cell? ⟨pb, po + i * 3 + 2, none⟩ = some (.int .i64 z.d))) (first | exact F1 | exact F2 | exact F3 | exact F4.out) ((go_at_call 36; refine (MX.out _ _ (NEW.out _ (below_drewN (Below.refl _ w1) 1))).mono ?_; rintro e w3 ⟨rfl, b3⟩; have F3 := FA.out w3 (((below_drewN (Below.refl _ w1) 1).alloc (Nat.le_refl _) _).trans (b3.mono (by simp))); have B3 := hide (show Below w1.heap.size w1 w3 from (((below_drewN (Below.refl _ w1) 1).alloc (Nat.le_refl _) _).trans (b3.mono (by simp)))); have E3 := hide (show PrsAt w3 ge s.2 from E1.out.keep (B3.out.block ge (lt_of_heap E1.out))); obtain ⟨u0, g0⟩ := E3.out.cell JL.out (show 0 < 3 by omega); obtain ⟨u1, g1⟩ := E3.out.cell JL.out (show 1 < 3 by omega); obtain ⟨u2, g2⟩ := E3.out.cell JL.out (show 2 < 3 by omega); rw [Nat.add_zero] at g0; have f0 := E3.out.frozen (j * 3); have f1 := E3.out.frozen (j * 3 + 1); have f2 := E3.out.frozen (j * 3 + 2); have TS := (((Touch.refl (fun i => i = ge) w3).setCell (p := ⟨ge, j * 3, none⟩) rfl (.int .i64 v.c)).setCell (p := ⟨ge, j * 3 + 1, none⟩) rfl (.int .i64 v.l)).setCell (p := ⟨ge, j * 3 + 2, none⟩) rfl (.int .i64 v.d); have F4 := hide (And.intro (And.intro (TS.cell F3.1.1 NE.out.1) (And.intro (TS.cell F3.1.2.1 NE.out.2.1) (TS.cell F3.1.2.2 NE.out.2.2))) (And.intro (And.intro (TS.cell F3.2.1.1 PNE.out.2) (And.intro (TS.cell F3.2.1.2.1 PNE.out.2) (TS.cell F3.2.1.2.2 PNE.out.2))) (And.intro (TS.cell F3.2.2.1 PNE.out.2) (And.intro (TS.cell F3.2.2.2.1 PNE.out.2) (TS.cell F3.2.2.2.2 PNE.out.2))))); have T4 := hide TS; clear TS b3))
    clear F1 F2 F3 f0 f1 f2 g0 g1 g2
    have TF := hide (show Touch (EffV gl ge) W (((w3.setCell ⟨ge, j * 3, none⟩ (.int .i64 v.c)).setCell ⟨ge, j * 3 + 1, none⟩ (.int .i64 v.l)).setCell ⟨ge, j * 3 + 2, none⟩ (.int .i64 v.d)) from
      ((TT.out.mono (S' := EffV gl ge) (fun _ e => .inl e)).trans (Touch.of_below (S := EffV gl ge) B3.out) (fun _ e => .inl e)).trans (T4.out.mono (S' := EffV gl ge) (fun _ e => .inr e)) (fun _ e => .inl e))
    have LF := hide (show BoolsAt (((w3.setCell ⟨ge, j * 3, none⟩ (.int .i64 v.c)).setCell ⟨ge, j * 3 + 1, none⟩ (.int .i64 v.l)).setCell ⟨ge, j * 3 + 2, none⟩ (.int .i64 v.d)) gl (s.1.set j true) from
      (LB.out.keep (B3.out.block gl (lt_of_heap LB.out))).keep (T4.out.block gl (Nat.lt_of_lt_of_le (lt_of_heap LB.out) B3.out.size) hne.1))
    have EF := hide (E3.out.set j v)
    clear F4
    go_wp2_with fail
    go_ret
    have nv : ∀ B, B ≠ gl → B ≠ ge → ¬ EffV gl ge B := fun B h1 h2 h => by rcases h with h | h; exact h1 h; exact h2 h
    refine ⟨rfl, ⟨LF.out, EF.out, by rw [List.length_set]; exact H.out.l1, by rw [List.length_set]; exact H.out.l2, H.out.lbox.touch TF.out (nv _ (by omega) (by omega)), H.out.bbox.touch TF.out (nv _ (by omega) (by omega)), H.out.ibox.touch TF.out (nv _ (by omega) (by omega)), H.out.ebox.touch TF.out (nv _ (by omega) (by omega)), reads_touch H.out.base TF.out (fun _ c o e => nv _ (hpl c o e).1 (hpl c o e).2), ints_touch' H.out.la TF.out (fun h c o e => nv _ (hal h c o e).1 (hal h c o e).2), ints_touch' H.out.lb TF.out (fun h c o e => nv _ (hbl h c o e).1 (hbl h c o e).2)⟩, TF.out⟩
end Go.Proofs.Ythbhbanhgmaopaa
