/-
  Contract of the queue's Swap.
-/
import Derived.Test.YtccokhalcdljiaaHpQueueA
import Derived.BigRegion
import Derived.RegionTactic
import Derived.ChangeAlike
namespace Go.Proofs.Ytccokhalcdljiaa.Hp
open Go.ChangeShapes Go.WideShapes Go.ChangeAt Go.RowKit Go.Sort
set_option linter.unusedVariables false
theorem Parts.drew {w : World} {H : Nat} {v : Value} {M : Nat} {l : List (Int × Int)} {f : Int → Option Nat} (h : Parts w H v M l f) : Parts w.drew H v M l f := h
theorem Parts.stored {w : World} {H g c : Nat} {M : Nat} {l : List (Int × Int)} {f : Int → Option Nat} (h : Parts w H (.slice (some ⟨g, 0, none⟩) l.length c) M l f) (hg : g ≠ H) (hM : g ≠ M) {i : Nat} (hi : i < l.length) (x : Int × Int) :
    Parts ((w.setCell ⟨g, i * 2, none⟩ (.int .i64 x.1)).setCell ⟨g, i * 2 + 1, none⟩ (.int .i64 x.2)) H (.slice (some ⟨g, 0, none⟩) l.length c) M (l.set i x) f := by
  obtain ⟨h1, h2, h3⟩ := h
  refine ⟨?_, ?_, ?_⟩
  · rw [heap_setCell_other _ _ _ _ (Ne.symm hg), heap_setCell_other _ _ _ _ (Ne.symm hg)]; exact h1
  · have s1 := (h2.stored (i * 2) (.int .i64 x.1)).1
    have s2 := (s1.stored (i * 2 + 1) (.int .i64 x.2)).1
    rw [cellsIt_set l i x hi] at s2
    rw [List.length_set]; exact s2
  · rw [List.length_set]
    refine h3.keep ?_
    rw [heap_setCell_other _ _ _ _ (Ne.symm hM), heap_setCell_other _ _ _ _ (Ne.symm hM)]
theorem Parts.at_ {w : World} {H g n c : Nat} {M : Nat} {l : List (Int × Int)} {f : Int → Option Nat} (h : Parts w H (.slice (some ⟨g, 0, none⟩) n c) M l f) {k : Nat} (hk : k < l.length) :
    w.cell? ⟨g, k * 2, none⟩ = some (.int .i64 (it l k).1) ∧ w.cell? ⟨g, k * 2 + 1, none⟩ = some (.int .i64 (it l k).2) := by
  obtain ⟨g', c', e, _, _, hc, _⟩ := h.row (by omega)
  have hgg : g = g' := by injection e with e _ _; injection e with e; injection e
  subst hgg
  exact hc k hk
theorem Parts.swapped {w : World} {H g c : Nat} {M : Nat} {l : List (Int × Int)} {f : Int → Option Nat} (h : Parts w H (.slice (some ⟨g, 0, none⟩) l.length c) M l f) (hg : g ≠ H) (hM : g ≠ M) {i j : Nat} (hi : i < l.length) (hj : j < l.length) {x y : Int × Int} (hx : it l i = x) (hy : it l j = y) :
    Parts ((((w.setCell ⟨g, i * 2, none⟩ (.int .i64 y.1)).setCell ⟨g, i * 2 + 1, none⟩ (.int .i64 y.2)).setCell ⟨g, j * 2, none⟩ (.int .i64 x.1)).setCell ⟨g, j * 2 + 1, none⟩ (.int .i64 x.2)) H (.slice (some ⟨g, 0, none⟩) l.length c) M (swp l i j) f := by
  have h1 := h.stored hg hM hi y
  have e : (Value.slice (some ⟨g, 0, none⟩) l.length c) = .slice (some ⟨g, 0, none⟩) (l.set i y).length c := by rw [List.length_set]
  rw [e] at h1 ⊢
  have h2 := h1.stored hg hM (i := j) (by simpa using hj) x
  unfold swp
  rw [hx, hy]; exact h2
theorem Parts.mapTurned {w w' : World} {H : Nat} {v : Value} {M : Nat} {l : List (Int × Int)} {f f' : Int → Option Nat} (h : Parts w H v M l f) (hg : w.grownBy w' (some M)) (hv : v.ownBlock ≠ some M) (hp : Places w' M l.length f') : Parts w' H v M l f' := by
  have hH := h.ltH
  have hM := h.neHM
  obtain ⟨h1, h2, h3⟩ := h
  exact ⟨(hg.block H hH (fun e => hM (by injection e))).trans h1, h2.kept hg (.inr hv), hp⟩
theorem _root_.Go.Proofs.Ytccokhalcdljiaa.Touch.setCells {S : Nat → Prop} {w w' : World} (h : Touch S w w') {g : Nat} (hg : S g) (a b c d : Nat) (p q r s : Value) :
    Touch S w ((((w'.setCell ⟨g, a, none⟩ p).setCell ⟨g, b, none⟩ q).setCell ⟨g, c, none⟩ r).setCell ⟨g, d, none⟩ s) :=
  (((h.setCell (p := ⟨g, a, none⟩) hg p).setCell (p := ⟨g, b, none⟩) hg q).setCell (p := ⟨g, c, none⟩) hg r).setCell (p := ⟨g, d, none⟩) hg s
set_option maxHeartbeats 1000000 in
theorem qswap_any (w : World) (F : Nat → Prop) (H i j : Nat) (l : List (Int × Int)) (h : Q w F H l) (hi : i < l.length) (hj : j < l.length) (hn : l.length ≤ 900000) :
    Calls Try.prog 116 #[.pointer (some ⟨H, 0, none⟩), .int .i64 (i : Int), .int .i64 (j : Int)] w fun e w' => e = .returned (.tuple #[]) ∧ Q w' F H (swp l i j) ∧ Touch F w w' := by
  obtain ⟨v, M, f, hp, hs, hw, fH, fM, fg, fl⟩ := h
  have c0 := hp.cell0
  have c1 := hp.cell1
  have hH := hp.ltH
  obtain ⟨g, c, rfl, _, hg, hc, hfr, ngH, ngM, nHM⟩ := hp.row (by omega)
  obtain ⟨ci0, ci1⟩ := hc i hi
  obtain ⟨cj0, cj1⟩ := hc j hj
  have fi0 := hfr (i * 2)
  have fi1 := hfr (i * 2 + 1)
  have fj0 := hfr (j * 2)
  have fj1 := hfr (j * 2 + 1)
  clear hc hfr
  have i0 : (0 : Int) ≤ (i : Int) := by omega
  have i1 : (i : Int) < (l.length : Int) := by omega
  have j0 : (0 : Int) ≤ (j : Int) := by omega
  have j1 : (j : Int) < (l.length : Int) := by omega
  generalize hx : it l i = x at *
  generalize hy : it l j = y at *
  have HX := hide hx
  have HY := hide hy
  clear hx hy
  obtain ⟨u0, hu0⟩ := cell?_setCell_some (w := w) (p := ⟨g, i * 2, none⟩) (x := .int .i64 y.1) (q := ⟨g, j * 2, none⟩) (v := .int .i64 y.1) cj0
  obtain ⟨u1, hu1⟩ := cell?_setCell_some (w := w.setCell ⟨g, i * 2, none⟩ (.int .i64 y.1)) (p := ⟨g, i * 2 + 1, none⟩) (x := .int .i64 y.2) (q := ⟨g, j * 2 + 1, none⟩) (v := .int .i64 y.2) (by rw [World.cell?_setCell_other _ _ _ _ (fun e => by injection e; omega)]; exact cj1)
  go_enter Try.func116, Try.ntmps116
  go_wp2_with fail
  go_region
  clear hu0 hu1 fi0 fi1 fj0 fj1 ci0 ci1 cj0 cj1 c0 c1
  have hp1 := (hp.swapped ngH ngM hi hj HX.out HY.out).drew
  have ht1 : Touch F w (((((w.setCell ⟨g, i * 2, none⟩ (.int .i64 y.1)).setCell ⟨g, i * 2 + 1, none⟩ (.int .i64 y.2)).setCell ⟨g, j * 2, none⟩ (.int .i64 x.1)).setCell ⟨g, j * 2 + 1, none⟩ (.int .i64 x.2)).drew) :=
    ((Touch.refl F w).setCells (fg g rfl) _ _ _ _ _ _ _ _).drewN 1
  generalize (((((w.setCell ⟨g, i * 2, none⟩ (.int .i64 y.1)).setCell ⟨g, i * 2 + 1, none⟩ (.int .i64 y.2)).setCell ⟨g, j * 2, none⟩ (.int .i64 x.1)).setCell ⟨g, j * 2 + 1, none⟩ (.int .i64 x.2)).drew) = w1 at hp1 ht1 ⊢
  have eI : it (swp l i j) i = y := by
    rw [it_swp l i j i hi hj]
    by_cases e : i = j
    · rw [if_pos e, e]; exact HY.out
    · rw [if_neg e, if_pos rfl]; exact HY.out
  have eJ : it (swp l i j) j = x := by rw [it_swp l i j j hi hj, if_pos rfl]; exact HX.out
  have hl := length_swp l i j
  have hs2 := synced_swap hs hi hj
  have hw2 : Wf (swp l i j) := fun z hz => hw z ((swp_perm l i j hi hj).mem_iff.1 hz)
  have wx : (Lit.int .i64 x.1).wf = true := by have := hw.at_ hi; rw [HX.out] at this; exact this
  have wy : (Lit.int .i64 y.1).wf = true := by have := hw.at_ hj; rw [HY.out] at this; exact this
  have fy : (f y.1).isSome = true := by have := hs.1 j hj; rw [HY.out] at this; rw [this]; rfl
  have fx : (upd f y.1 i x.1).isSome = true := by
    unfold upd
    split
    · rfl
    · have := hs.1 i hi; rw [HX.out] at this; rw [this]; rfl
  rw [HX.out, HY.out] at hs2
  have evb : (Value.slice (some ⟨g, 0, none⟩) l.length c).ownBlock ≠ some M := fun e => ngM (by injection e)
  obtain ⟨w2, r2, p2, g2⟩ := Places.store (w := w1.drew) hp1.2.2 (by rw [hl]; omega) y.1 wy i (by omega)
  rw [if_pos fy] at p2
  have hp2 := hp1.drew.mapTurned g2 evb p2
  have ht2 : Touch F w w2 := (ht1.drewN 1).trans (S' := F) (Touch.of_grown g2 (fun k e => by injection e with e; rw [← e]; exact fM)) (fun _ h => .inl h)
  obtain ⟨w3, r3, p3, g3⟩ := Places.store (w := w2.drew) hp2.2.2 (by rw [hl]; omega) x.1 wx j (by omega)
  rw [if_pos fx] at p3
  have hp3 := hp2.drew.mapTurned g3 evb p3
  have ht3 : Touch F w w3 := (ht2.drewN 1).trans (S' := F) (Touch.of_grown g3 (fun k e => by injection e with e; rw [← e]; exact fM)) (fun _ h => .inl h)
  have a0 := hp1.cell0
  have a1 := hp1.cell1
  have b0 := hp2.cell0
  have b1 := hp2.cell1
  have ai := (hp1.at_ (k := i) (by omega)).1
  rw [eI] at ai
  have bj := (hp2.at_ (k := j) (by omega)).1
  rw [eJ] at bj
  have ai2 := (hp2.at_ (k := i) (by omega)).1
  rw [eI] at ai2
  have z0 := hp3.cell0
  have z1 := hp3.cell1
  have zj := (hp3.at_ (k := j) (by omega)).1
  rw [eJ] at zj
  have hfin : Q w3 F H (swp l i j) := ⟨_, M, _, hp3, hs2, hw2, fH, fM, fg, fun k hk => Nat.lt_of_lt_of_le (fl k hk) ht3.size⟩
  have HF := hide hfin
  have HT := hide ht3
  clear hfin ht3 hp3 g3 p3 ht2 hp2 g2 p2 ht1 hp1 evb fx fy wx wy hw2 hs2 hl eI eJ hp hs hw fl
  go_wp2_with fail
  go_region_held3 (fun w' => w'.cell? ⟨H, 0, none⟩ = some (.slice (some ⟨g, 0, none⟩) l.length c) ∧ w'.cell? ⟨H, 1, none⟩ = some (.map (some M)) ∧ w'.cell? ⟨g, i * 2, none⟩ = some (.int .i64 y.1)) (first | exact ⟨a0, a1, ai⟩ | exact ⟨b0, b1, ai2⟩) (fail)
  go_wp2_with fail
  clear r2
  go_region_held3 (fun w' => w'.cell? ⟨H, 0, none⟩ = some (.slice (some ⟨g, 0, none⟩) l.length c) ∧ w'.cell? ⟨H, 1, none⟩ = some (.map (some M)) ∧ w'.cell? ⟨g, j * 2, none⟩ = some (.int .i64 x.1)) (first | exact ⟨b0, b1, bj⟩ | exact ⟨z0, z1, zj⟩) (fail)
  go_wp2_with fail
  go_end0
  exact ⟨rfl, HF.out, HT.out⟩
end Go.Proofs.Ytccokhalcdljiaa.Hp
