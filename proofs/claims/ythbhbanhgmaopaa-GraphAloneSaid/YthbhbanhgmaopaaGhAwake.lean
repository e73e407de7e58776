/-
  awake of stage 11.
-/
import Derived.Test.YthbhbanhgmaopaaGhBoth
namespace Go.Proofs.Ythbhbanhgmaopaa
open Go.ChangeShapes Go.WideShapes Go.ChangeAt Go.RowKit
set_option linter.unusedVariables false
theorem gh_size (w : World) (o : Obj) : (w.alloc o).heap.size = w.heap.size + 1 := by simp
theorem gh_at2 (w : World) (o1 o2 : Obj) : ((w.alloc o1).alloc o2).drew.heap[w.heap.size + 1]? = some o2 := by
  have := heap_alloc_new (w.alloc o1) o2
  rw [gh_size] at this
  exact this
theorem gh_at1 (w : World) (o1 o2 : Obj) : ((w.alloc o1).alloc o2).drew.heap[w.heap.size]? = some o1 := by
  have h := RowKit.Below.heap_alloc (w.alloc o1) o2 w.heap.size (by rw [gh_size]; omega)
  exact h.trans (heap_alloc_new w o1)
theorem gh_bel2 (w : World) (o1 o2 : Obj) : Below w.heap.size w ((w.alloc o1).alloc o2).drew := by
  have b1 : Below w.heap.size w (w.alloc o1) := (Below.refl _ _).alloc (Nat.le_refl _) _
  exact below_drewN (b1.alloc b1.size o2) 1
theorem gh_bel1 (w : World) (o1 : Obj) : Below w.heap.size w (w.alloc o1).drew := below_drewN ((Below.refl _ _).alloc (Nat.le_refl _) o1) 1
theorem gh_bel3 (w : World) (o1 o2 o3 : Obj) : Below w.heap.size w (((w.alloc o1).alloc o2).alloc o3).drew := by
  have b1 : Below w.heap.size w (w.alloc o1) := (Below.refl _ _).alloc (Nat.le_refl _) _
  have b2 := b1.alloc b1.size o2
  exact below_drewN (b2.alloc b2.size o3) 1
theorem gh_at31 (w : World) (o1 o2 o3 : Obj) : (((w.alloc o1).alloc o2).alloc o3).drew.heap[w.heap.size]? = some o1 := by
  have h := RowKit.Below.heap_alloc ((w.alloc o1).alloc o2) o3 w.heap.size (by rw [gh_size, gh_size]; omega)
  exact h.trans (gh_at1 w o1 o2)
theorem gh_at32 (w : World) (o1 o2 o3 : Obj) : (((w.alloc o1).alloc o2).alloc o3).drew.heap[w.heap.size + 1]? = some o2 := by
  have h := RowKit.Below.heap_alloc ((w.alloc o1).alloc o2) o3 (w.heap.size + 1) (by rw [gh_size, gh_size]; omega)
  exact h.trans (gh_at2 w o1 o2)
theorem gh_at33 (w : World) (o1 o2 o3 : Obj) : (((w.alloc o1).alloc o2).alloc o3).drew.heap[w.heap.size + 2]? = some o3 := by
  have := heap_alloc_new ((w.alloc o1).alloc o2) o3
  rw [gh_size, gh_size] at this
  exact this
def pf3 : Pr := ⟨2, 3, 0⟩
def awPs : List Pr := [⟨2, 3, 0⟩, ⟨0, 2, 0⟩, ⟨0, 9, 0⟩]
theorem awEff : effG [0, 1, -1] [1, 2] awPs = [pf3, pf3, pf3] := by rfl
theorem awChain : chainG [0, 1, -1] [1, 2] 3 0 = [1, 2] := by decide
theorem lit3In {w : World} {Z : Nat} (h : w.heap[Z]? = some (.cells #[.int .i64 0, .int .i64 1, .int .i64 (-1)] 3 (0, 0))) : ListIn w (some ⟨Z, 0, none⟩) 3 3 [0, 1, -1] := litIn [0, 1, -1] h (by simp) (by decide)
theorem lit2In {w : World} {Z : Nat} (h : w.heap[Z]? = some (.cells #[.int .i64 1, .int .i64 2] 3 (0, 0))) : ListIn w (some ⟨Z, 0, none⟩) 2 2 [1, 2] := litIn [1, 2] h (by simp) (by decide)
theorem awBase {w : World} {Z : Nat} (h : w.heap[Z]? = some (.cells #[.int .i64 2, .int .i64 3, .int .i64 0, .int .i64 0, .int .i64 2, .int .i64 0, .int .i64 0, .int .i64 9, .int .i64 0] 39 (0, 0))) : Reads 3 prVals w (some ⟨Z, 0, none⟩) 3 awPs := by
  refine ⟨rfl, fun _ => ⟨Z, 0, rfl, fun i x hx j u hu => ?_⟩⟩
  rw [Nat.zero_add, cell_of_row _ _ _ _ _ _ h, List.getElem?_toArray]
  match i, hx with
  | 0, hx =>
    injection hx with hx; subst hx
    match j, hu with
    | 0, hu => exact hu
    | 1, hu => exact hu
    | 2, hu => exact hu
  | 1, hx =>
    injection hx with hx; subst hx
    match j, hu with
    | 0, hu => exact hu
    | 1, hu => exact hu
    | 2, hu => exact hu
  | 2, hx =>
    injection hx with hx; subst hx
    match j, hu with
    | 0, hu => exact hu
    | 1, hu => exact hu
    | 2, hu => exact hu
set_option maxRecDepth 10000 in
set_option maxHeartbeats 8000000 in
theorem ghawake_any (C : PGraph) (w : World) : Calls Try.prog 9 #[] w fun e w' => e = .returned (.bool true) ∧ Below w.heap.size w w' := by
  obtain ⟨w1, hw1⟩ : ∃ w1, w1 = w.alloc (.cells #[.int .i64 2, .int .i64 3, .int .i64 0, .int .i64 0, .int .i64 2, .int .i64 0, .int .i64 0, .int .i64 9, .int .i64 0] 39) := ⟨_, rfl⟩
  have b1 : Below w.heap.size w w1 := by rw [hw1]; exact (Below.refl _ _).alloc (Nat.le_refl _) _
  have b2 : Below w1.heap.size w1 (w1.alloc (.cells #[.int .i64 0, .int .i64 1, .int .i64 (-1)] 3)) := (Below.refl _ _).alloc (Nat.le_refl _) _
  have z2 : (w1.alloc (.cells #[.int .i64 0, .int .i64 1, .int .i64 (-1)] 3)).heap.size = w1.heap.size + 1 := by simp
  have b3 : Below (w1.alloc (.cells #[.int .i64 0, .int .i64 1, .int .i64 (-1)] 3)).heap.size (w1.alloc (.cells #[.int .i64 0, .int .i64 1, .int .i64 (-1)] 3)) ((w1.alloc (.cells #[.int .i64 0, .int .i64 1, .int .i64 (-1)] 3)).alloc (.cells #[.int .i64 1, .int .i64 2] 3)) := (Below.refl _ _).alloc (Nat.le_refl _) _
  have r1 : Reads 3 prVals w1 (some ⟨w.heap.size, 0, none⟩) 3 awPs := by rw [hw1]; exact awBase (heap_alloc_new _ _)
  have r3 : ListIn ((w1.alloc (.cells #[.int .i64 0, .int .i64 1, .int .i64 (-1)] 3)).alloc (.cells #[.int .i64 1, .int .i64 2] 3)) (some ⟨w1.heap.size + 1, 0, none⟩) 2 2 [1, 2] := by rw [← z2]; exact lit2In (heap_alloc_new _ _)
  have EF := hide (C.eff _ (some ⟨w.heap.size, 0, none⟩) 3 3 awPs (some ⟨w1.heap.size, 0, none⟩) 3 3 [0, 1, -1] (some ⟨w1.heap.size + 1, 0, none⟩) 2 2 [1, 2] ((r1.below b2).below b3) (by
    intro x hx
    unfold awPs at hx
    simp at hx
    rcases hx with rfl | rfl | rfl <;> (unfold PrFit; decide)) (by omega) (by unfold maxLen; omega) (fun e => by cases e) (by omega) ((lit3In (heap_alloc_new _ _)).below b3) r3)
  rw [awEff] at EF
  have HW1 := hide hw1
  have B13 := hide (b1.trans ((b2.trans (b3.mono b2.size)).mono b1.size))
  have R1 := hide ((r1.below b2).below b3)
  have C1 := hide (fun (W : World) (h : Reads 3 prVals W (some ⟨w.heap.size, 0, none⟩) 3 awPs) => show W.cell? ⟨w.heap.size, 0, none⟩ = some (.int .i64 2) ∧ W.cell? ⟨w.heap.size, 1, none⟩ = some (.int .i64 3) ∧ W.cell? ⟨w.heap.size, 2, none⟩ = some (.int .i64 0) from by
    obtain ⟨b, off, e, h0, h1, h2⟩ := reads_pr h (show 0 < 3 by omega)
    injection e with e
    injection e with e1 e2
    subst e1 e2
    exact ⟨h0, h1, h2⟩)
  have ee : ∀ W, (binOp .eql 39 (.agg #[.int .i64 2, .int .i64 3, .int .i64 0]) (.agg #[.int .i64 2, .int .i64 3, .int .i64 0])).run Try.prog W = .ok (.bool true) W := fun W => by rw [prio_eql]; rfl
  clear r1 r3 hw1 b1 b2 b3 z2
  go_enter Try.func9, Try.ntmps9
  go_upto_region 2 with fail
  rw [← HW1.out]
  go_upto_region 3 with (go_at_call 21; refine EF.out.mono ?_; rintro e w4 ⟨v, rfl, o4, b4⟩; obtain ⟨a4, c4, rfl, rd4, q41, q42, q43⟩ := own_reads prVals_len (by omega) o4; have B4 := hide b4; have RD4 := hide rd4; clear o4 b4 rd4 q41 q42 q43)
  have B14 := hide (B13.out.trans (B4.out.mono B13.out.size))
  have R14 := hide (R1.out.below B4.out)
  obtain ⟨g4, o4, rfl, e30, e31, e32⟩ := reads_pr RD4.out (show 1 < 3 by omega)
  obtain ⟨g4', o4', e5, e60, e61, e62⟩ := reads_pr RD4.out (show 2 < 3 by omega)
  injection e5 with e5
  injection e5 with e5 e6
  subst e5 e6
  obtain ⟨x0, x1, x2⟩ := C1.out w4 R14.out
  have SC : (w4.cell? ⟨g4, o4 + 3, none⟩ = some (.int .i64 2) ∧ w4.cell? ⟨g4, o4 + 4, none⟩ = some (.int .i64 3) ∧ w4.cell? ⟨g4, o4 + 5, none⟩ = some (.int .i64 0)) ∧ (w4.cell? ⟨g4, o4 + 6, none⟩ = some (.int .i64 2) ∧ w4.cell? ⟨g4, o4 + 7, none⟩ = some (.int .i64 3) ∧ w4.cell? ⟨g4, o4 + 8, none⟩ = some (.int .i64 0)) ∧ (w4.cell? ⟨w.heap.size, 0, none⟩ = some (.int .i64 2) ∧ w4.cell? ⟨w.heap.size, 1, none⟩ = some (.int .i64 3) ∧ w4.cell? ⟨w.heap.size, 2, none⟩ = some (.int .i64 0)) := ⟨⟨e30, e31, e32⟩, ⟨e60, e61, e62⟩, x0, x1, x2⟩
  have CC := hide (fun (W : World) (bw : Below w4.heap.size w4 W) => show (W.cell? ⟨g4, o4 + 3, none⟩ = some (.int .i64 2) ∧ W.cell? ⟨g4, o4 + 4, none⟩ = some (.int .i64 3) ∧ W.cell? ⟨g4, o4 + 5, none⟩ = some (.int .i64 0)) ∧ (W.cell? ⟨g4, o4 + 6, none⟩ = some (.int .i64 2) ∧ W.cell? ⟨g4, o4 + 7, none⟩ = some (.int .i64 3) ∧ W.cell? ⟨g4, o4 + 8, none⟩ = some (.int .i64 0)) ∧ (W.cell? ⟨w.heap.size, 0, none⟩ = some (.int .i64 2) ∧ W.cell? ⟨w.heap.size, 1, none⟩ = some (.int .i64 3) ∧ W.cell? ⟨w.heap.size, 2, none⟩ = some (.int .i64 0)) from by
    have hh := fun (a : Addr) (q : Value) (h : w4.cell? a = some q) => (bw.cell (p := a) (lt_of_cell? h)).trans h
    exact ⟨⟨hh _ _ e30, hh _ _ e31, hh _ _ e32⟩, ⟨hh _ _ e60, hh _ _ e61, hh _ _ e62⟩, hh _ _ x0, hh _ _ x1, hh _ _ x2⟩)
  have CH := hide (fun (W : World) (Z1 Z2 : Nat) (h1 : W.heap[Z1]? = some (.cells #[.int .i64 0, .int .i64 1, .int .i64 (-1)] 3 (0, 0))) (h2 : W.heap[Z2]? = some (.cells #[.int .i64 1, .int .i64 2] 3 (0, 0))) (bw : Below w4.heap.size w4 W) => show Calls Try.prog 11 #[.slice (some ⟨Z1, 0, none⟩) 3 3, .slice (some ⟨Z2, 0, none⟩) 2 2, .int .i64 3, .int .i64 0] W fun e w' => ∃ a8 c8, e = .returned (.slice a8 2 c8) ∧ Ints .i64 w' a8 2 [1, 2] ∧ Below w4.heap.size w4 w' ∧ ∀ Z3, W.heap[Z3]? = some (.cells #[.int .i64 1, .int .i64 2] 3 (0, 0)) → ListIn w' (some ⟨Z3, 0, none⟩) 2 2 [1, 2] from by
    refine (C.chain W _ 3 3 [0, 1, -1] _ 2 2 [1, 2] 3 0 (lit3In h1) (lit2In h2) (by decide) (by decide) (by decide)).mono ?_
    rintro e w' ⟨v, rfl, o, b⟩
    rw [awChain] at o
    obtain ⟨A, c, rfl, i, _⟩ := own_ints o
    exact ⟨A, c, rfl, i, bw.trans (b.mono bw.size), fun Z3 h3 => (lit2In h3).below b⟩)
  have BR := hide (Below.refl w4.heap.size w4)
  have BD := hide (show Below w4.heap.size w4 w4.drew from below_drewN BR.out 1)
  clear e30 e31 e32 e60 e61 e62 x0 x1 x2 C1 EF
  -- HERE
  go_region_held3 (fun w' => (w'.cell? ⟨g4, o4 + 3, none⟩ = some (.int .i64 2) ∧ w'.cell? ⟨g4, o4 + 4, none⟩ = some (.int .i64 3) ∧ w'.cell? ⟨g4, o4 + 5, none⟩ = some (.int .i64 0)) ∧ (w'.cell? ⟨g4, o4 + 6, none⟩ = some (.int .i64 2) ∧ w'.cell? ⟨g4, o4 + 7, none⟩ = some (.int .i64 3) ∧ w'.cell? ⟨g4, o4 + 8, none⟩ = some (.int .i64 0)) ∧ (w'.cell? ⟨w.heap.size, 0, none⟩ = some (.int .i64 2) ∧ w'.cell? ⟨w.heap.size, 1, none⟩ = some (.int .i64 3) ∧ w'.cell? ⟨w.heap.size, 2, none⟩ = some (.int .i64 0)))
    (first | exact SC | exact CC.out _ BD.out | exact CC.out _ (gh_bel1 _ _) | exact CC.out _ (gh_bel2 _ _ _) | exact CC.out _ (gh_bel3 _ _ _ _) | exact CC.out _ B8.out | exact CC.out _ (B8.out.alloc B8.out.size _) | exact CC.out _ B9.out)
    (first
      | (go_at_call 11; refine Calls.mono (CH.out _ _ _ ?h1 ?h2 ?h3) ?_; (case h1 => first | with_reducible exact gh_at1 w4 _ _ | with_reducible exact gh_at2 w4 _ _ | with_reducible exact gh_at31 w4 _ _ _ | with_reducible exact gh_at32 w4 _ _ _ | with_reducible exact gh_at33 w4 _ _ _); (case h2 => first | with_reducible exact gh_at1 w4 _ _ | with_reducible exact gh_at2 w4 _ _ | with_reducible exact gh_at31 w4 _ _ _ | with_reducible exact gh_at32 w4 _ _ _ | with_reducible exact gh_at33 w4 _ _ _); (case h3 => first | with_reducible exact gh_bel2 w4 _ _ | with_reducible exact gh_bel3 w4 _ _ _); rintro e w8 ⟨a8, c8, rfl, i8, b8, k8⟩; have B8 := hide b8; have I8 := hide i8; have K8 := hide k8; clear b8 i8 k8)
      | (go_at_call 12; refine Calls.mono (same_any _ _ 2 _ _ [1, 2] w8 ?i1 ?i2 ?i3) ?_; (case i1 => with_reducible exact I8.out); (case i2 => with_reducible exact (K8.out _ (by first | with_reducible exact gh_at1 w4 _ _ | with_reducible exact gh_at2 w4 _ _ | with_reducible exact gh_at31 w4 _ _ _ | with_reducible exact gh_at32 w4 _ _ _ | with_reducible exact gh_at33 w4 _ _ _)).ints); (case i3 => omega); rintro e w9 ⟨rfl, b9⟩; have B9 := hide (B8.out.trans (b9.mono B8.out.size)); clear b9)
      | (go_at_call 12; have ba := (Below.refl w8.heap.size w8).alloc (Nat.le_refl _) (.cells #[.int .i64 1, .int .i64 2] 3); refine (same_any _ _ 2 _ _ [1, 2] _ (I8.out.below ba) (lit2In (heap_alloc_new _ _)).ints (by omega)).mono ?_; rintro e w9 ⟨rfl, b9⟩; have bs := B8.out.alloc B8.out.size (.cells #[.int .i64 1, .int .i64 2] 3); have B9 := hide (bs.trans (b9.mono bs.size)); clear ba bs b9))
  all_goals
    go_wp2_with fail
    go_ret
    exact ⟨rfl, B14.out.trans (B9.out.mono B14.out.size)⟩
end Go.Proofs.Ythbhbanhgmaopaa
